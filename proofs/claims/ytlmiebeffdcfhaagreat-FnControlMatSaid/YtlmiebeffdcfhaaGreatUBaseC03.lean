/- UBaseC03: several of our texts in one: UInvL UCtD UCtX UGsL UCtY UGtKb UGtKc UGtKd UGtK. -/
import Derived.Test.YtlmiebeffdcfhaaGreatUBaseB11
import Derived.Test.YtlmiebeffdcfhaaGreatUBaseC08
import Derived.Test.YtlmiebeffdcfhaaGreatUBaseC02
import Derived.Test.YtlmiebeffdcfhaaGreatUBaseC06
import Derived.Test.YtlmiebeffdcfhaaGreatUBaseB15
import Derived.Test.YtlmiebeffdcfhaaGreatUBaseB08
import Derived.Test.YtlmiebeffdcfhaaGreatUBaseB18
namespace Go.Proofs.YtlmiebeffdcfhaaGreat
open Go.RowKit
end Go.Proofs.YtlmiebeffdcfhaaGreat
namespace Go.Proofs.YtlmiebeffdcfhaaGreat
/-- ControlledMatrix's matrix. -/
def ctV (q : Nat) (M : List (List Dw)) : List (List Dw) := (List.range M.length).map fun k => (List.range M.length).map fun i => if bitN i q then (M.getD k []).getD i .zero else if i = k then oneD else .zero
/-- ControlledMatrix. -/
def ctMB (q : Int) (M : List (List Dw)) : Bool := mtB M && (decide (0 ≤ q ∧ q ≤ qc M.length - 1) && (List.range M.length).all fun i => (List.range M.length).all fun k => bitN i q.toNat == bitN k q.toNat || decide ((M.getD i []).getD k .zero = .zero))
def ctM (q : Int) (M : List (List Dw)) : List (List Dw) := if ctMB q M then ctV q.toNat M else []
end Go.Proofs.YtlmiebeffdcfhaaGreat
namespace Go.Proofs.YtlmiebeffdcfhaaGreat
/-- Whether an entry keeps the control. -/
def kpC (q : Nat) (M : List (List Dw)) (i k : Nat) : Bool := bitN i q == bitN k q || decide ((M.getD i []).getD k .zero = .zero)
def kpR (q : Nat) (M : List (List Dw)) (i : Nat) : Bool := (List.range M.length).all fun k => kpC q M i k
def kpB (q : Nat) (M : List (List Dw)) : Bool := (List.range M.length).all fun i => kpR q M i
theorem ctMB_eq (q : Int) (M : List (List Dw)) : ctMB q M = (mtB M && (decide (0 ≤ q ∧ q ≤ qc M.length - 1) && kpB q.toNat M)) := rfl
theorem kpC_at {q : Nat} {M : List (List Dw)} {i k : Nat} {r : List Dw} {x : Dw} (hr : M[i]? = some r) (hx : r[k]? = some x) : kpC q M i k = (bitN i q == bitN k q || decide (x = .zero)) := by
  unfold kpC
  rw [List.getD_eq_getElem?_getD, List.getD_eq_getElem?_getD, hr, Option.getD_some, hx, Option.getD_some]
theorem kpR_no {q : Nat} {M : List (List Dw)} {i k : Nat} (hk : k < M.length) (h : kpC q M i k = false) : kpR q M i = false := by
  unfold kpR
  rw [List.all_eq_false]
  exact ⟨k, List.mem_range.2 hk, by rw [h]; decide⟩
theorem kpB_no {q : Nat} {M : List (List Dw)} {i k : Nat} (hi : i < M.length) (hk : k < M.length) (h : kpC q M i k = false) : kpB q M = false := by
  unfold kpB
  rw [List.all_eq_false]
  exact ⟨i, List.mem_range.2 hi, by rw [kpR_no hk h]; decide⟩
theorem kpR_yes {q : Nat} {M : List (List Dw)} {i : Nat} (h : ∀ k, k < M.length → kpC q M i k = true) : kpR q M i = true := by
  unfold kpR
  rw [List.all_eq_true]
  exact fun k hk => h k (List.mem_range.1 hk)
theorem kpB_yes {q : Nat} {M : List (List Dw)} (h : ∀ i, i < M.length → kpR q M i = true) : kpB q M = true := by
  unfold kpB
  rw [List.all_eq_true]
  exact fun i hi => h i (List.mem_range.1 hi)
/-- Row i of the controlled matrix. -/
def ctRow (q : Nat) (M : List (List Dw)) (i : Nat) : List Dw := (List.range M.length).map fun k => if bitN k q then (M.getD i []).getD k .zero else if k = i then oneD else .zero
theorem ctV_eq (q : Nat) (M : List (List Dw)) : ctV q M = (List.range M.length).map (ctRow q M) := rfl
theorem ctV_len (q : Nat) (M : List (List Dw)) : (ctV q M).length = M.length := by rw [ctV_eq, List.length_map, List.length_range]
theorem ctRow_len (q : Nat) (M : List (List Dw)) (i : Nat) : (ctRow q M i).length = M.length := by rw [ctRow, List.length_map, List.length_range]
theorem ctV_row {q : Nat} {M : List (List Dw)} {i : Nat} (h : i < M.length) : (ctV q M)[i]? = some (ctRow q M i) := by rw [ctV_eq, List.getElem?_map, List.getElem?_range h]; rfl
theorem ctRow_yes {q : Nat} {M : List (List Dw)} {i k : Nat} {r : List Dw} {x : Dw} (hk : k < M.length) (hr : M[i]? = some r) (hx : r[k]? = some x) (hb : bitN k q = true) : (ctRow q M i)[k]? = some x := by
  rw [ctRow, List.getElem?_map, List.getElem?_range hk, Option.map_some, hb, if_pos rfl, List.getD_eq_getElem?_getD, List.getD_eq_getElem?_getD, hr, Option.getD_some, hx, Option.getD_some]
theorem ctRow_no {q : Nat} {M : List (List Dw)} {i k : Nat} (hk : k < M.length) (hb : bitN k q = false) : (ctRow q M i)[k]? = some (if k = i then oneD else .zero) := by
  rw [ctRow, List.getElem?_map, List.getElem?_range hk, Option.map_some, hb, if_neg (by decide)]
/-- The identity's row. -/
def idRow (N i : Nat) : List Dw := (List.replicate N .zero).set i oneD
theorem idRow_len (N i : Nat) : (idRow N i).length = N := by rw [idRow, List.length_set, List.length_replicate]
theorem idRow_at {N i k : Nat} (hk : k < N) (_ : i < N) : (idRow N i)[k]? = some (if k = i then oneD else .zero) := by
  unfold idRow
  by_cases e : k = i
  · subst e
    rw [if_pos rfl, List.getElem?_set_self (by rw [List.length_replicate]; exact hk)]
  · rw [if_neg e, List.getElem?_set_ne (fun h => e h.symm), List.getElem?_replicate, if_pos hk]
theorem idM_row {N i : Nat} (hq : 0 < qc N) (h : i < N) : (idM (qc N))[i]? = some (idRow N i) := by
  rcases (show N = 2 ∨ N = 4 ∨ N = 8 ∨ N = 16 by unfold qc at hq; (repeat' split at hq) <;> omega) with rfl | rfl | rfl | rfl
  · have e : (2 : Int) ^ (1 : Int).toNat = 2 := rfl
    rw [show qc 2 = 1 from rfl, idM_yes (by decide), List.getElem?_map, List.getElem?_range (show i < 2 ^ (1 : Int).toNat from h)]
    show some (basisL 1 _) = _
    unfold basisL
    rw [if_pos ⟨by decide, by decide, by omega, by rw [e]; omega⟩]
    rfl
  · have e : (2 : Int) ^ (2 : Int).toNat = 4 := rfl
    rw [show qc 4 = 2 from rfl, idM_yes (by decide), List.getElem?_map, List.getElem?_range (show i < 2 ^ (2 : Int).toNat from h)]
    show some (basisL 2 _) = _
    unfold basisL
    rw [if_pos ⟨by decide, by decide, by omega, by rw [e]; omega⟩]
    rfl
  · have e : (2 : Int) ^ (3 : Int).toNat = 8 := rfl
    rw [show qc 8 = 3 from rfl, idM_yes (by decide), List.getElem?_map, List.getElem?_range (show i < 2 ^ (3 : Int).toNat from h)]
    show some (basisL 3 _) = _
    unfold basisL
    rw [if_pos ⟨by decide, by decide, by omega, by rw [e]; omega⟩]
    rfl
  · have e : (2 : Int) ^ (4 : Int).toNat = 16 := rfl
    rw [show qc 16 = 4 from rfl, idM_yes (by decide), List.getElem?_map, List.getElem?_range (show i < 2 ^ (4 : Int).toNat from h)]
    show some (basisL 4 _) = _
    unfold basisL
    rw [if_pos ⟨by decide, by decide, by omega, by rw [e]; omega⟩]
    rfl
theorem idM_lenq {N : Nat} (hq : 0 < qc N) : (idM (qc N)).length = N := by
  rcases (show N = 2 ∨ N = 4 ∨ N = 8 ∨ N = 16 by unfold qc at hq; (repeat' split at hq) <;> omega) with rfl | rfl | rfl | rfl <;> rfl
/-- A list that is half written. -/
theorem mixL_at {α : Type} {A B : List α} {k : Nat} (hl : A.length = B.length) {y : α} (hy : B[k]? = some y) : (A.take k ++ B.drop k)[k]? = some y := by
  have hk : k < B.length := by
    rcases Nat.lt_or_ge k B.length with h | h
    · exact h
    · rw [List.getElem?_eq_none h] at hy; cases hy
  rw [List.getElem?_append_right (by rw [List.length_take]; omega), List.length_take, List.getElem?_drop, show k + (k - min k A.length) = k by omega, hy]
theorem mixL_set {α : Type} {A B : List α} {k : Nat} (hl : A.length = B.length) {x : α} (hx : A[k]? = some x) : (A.take k ++ B.drop k).set k x = A.take (k + 1) ++ B.drop (k + 1) := by
  have hk : k < A.length := by
    rcases Nat.lt_or_ge k A.length with h | h
    · exact h
    · rw [List.getElem?_eq_none h] at hx; cases hx
  have e : (A.take k).length = k := by rw [List.length_take]; omega
  rw [List.set_append_right _ _ (by omega), e, Nat.sub_self, List.drop_eq_getElem_cons (show k < B.length by omega), List.set_cons_zero, List.take_add_one, hx]
  simp
theorem mixL_same {α : Type} {A B : List α} {k : Nat} (hl : A.length = B.length) {x : α} (hx : A[k]? = some x) (hy : B[k]? = some x) : A.take (k + 1) ++ B.drop (k + 1) = A.take k ++ B.drop k := by
  rw [← mixL_set hl hx]
  have h := mixL_at hl hy
  refine List.ext_getElem? fun i => ?_
  by_cases e : i = k
  · subst e
    rw [List.getElem?_set_self (by
      rcases Nat.lt_or_ge i (A.take i ++ B.drop i).length with h' | h'
      · exact h'
      · rw [List.getElem?_eq_none h'] at h; cases h), h]
  · rw [List.getElem?_set_ne (fun h => e h.symm)]
theorem mixL_len {α : Type} {A B : List α} {k : Nat} (hl : A.length = B.length) (hk : k ≤ B.length) : (A.take k ++ B.drop k).length = B.length := by
  rw [List.length_append, List.length_take, List.length_drop]; omega
/-- A bit, as a number. -/
def bitZ (i q : Nat) : Int := if bitN i q then 1 else 0
theorem bitZ_all : ∀ i : Fin 16, ∀ q : Fin 4, bits .and .i64 (((i.val : Nat) : Int) / 2 ^ q.val) 1 = bitZ i.val q.val := by decide +kernel
theorem bitZ_bits {i q : Nat} (hi : i < 16) (hq : q < 4) : bits .and .i64 ((i : Int) / 2 ^ q) 1 = bitZ i q := bitZ_all ⟨i, hi⟩ ⟨q, hq⟩
theorem bitZ_eq {i k q : Nat} : (bitZ i q != bitZ k q) = !(bitN i q == bitN k q) := by
  unfold bitZ
  cases bitN i q <;> cases bitN k q <;> rfl
theorem bitZ_one {i q : Nat} : (bitZ i q == 1) = bitN i q := by
  unfold bitZ
  cases bitN i q <;> rfl
theorem xorZ_all : ∀ i : Fin 16, ∀ k : Fin 16, ∀ q : Fin 4, bits .and .i64 (bits .xor .i64 ((i.val : Nat) : Int) ((k.val : Nat) : Int) / 2 ^ q.val) 1 = if bitN i.val q.val == bitN k.val q.val then 0 else 1 := by decide +kernel
theorem xorZ_bits {i k q : Nat} (hi : i < 16) (hk : k < 16) (hq : q < 4) : bits .and .i64 (bits .xor .i64 (i : Int) (k : Int) / 2 ^ q) 1 = if bitN i q == bitN k q then 0 else 1 := xorZ_all ⟨i, hi⟩ ⟨k, hk⟩ ⟨q, hq⟩
end Go.Proofs.YtlmiebeffdcfhaaGreat
namespace Go.Proofs.YtlmiebeffdcfhaaGreat
open Go.RowKit
/-- A slice of the laws' gates that came in. -/
def GsIn (w : World) (B : Nat) (a0 : Option Addr) (l : List Gt) : Prop :=
  l.length ≤ maxLen ∧
  (0 < l.length → ∃ b off, a0 = some ⟨b, off, none⟩ ∧ b < B ∧ ∀ j x, l[j]? = some x → w.cell? ⟨b, off + j * 4, none⟩ = some (.int .i64 x.k) ∧ w.cell? ⟨b, off + j * 4 + 1, none⟩ = some (.int .i64 x.a) ∧ w.cell? ⟨b, off + j * 4 + 2, none⟩ = some (.int .i64 x.b) ∧ w.cell? ⟨b, off + j * 4 + 3, none⟩ = some (.int .i64 x.c))
theorem GsIn.below {w w' : World} {B : Nat} {a0 : Option Addr} {l : List Gt} (h : GsIn w B a0 l) (hb : Below B w w') : GsIn w' B a0 l :=
  ⟨h.1, fun h0 => by
    obtain ⟨b, off, e, hlt, hc⟩ := h.2 h0
    refine ⟨b, off, e, hlt, fun j x hx => ?_⟩
    obtain ⟨c0, c1, c2, c3⟩ := hc j x hx
    exact ⟨(hb.cell (by exact hlt)).trans c0, (hb.cell (by exact hlt)).trans c1, (hb.cell (by exact hlt)).trans c2, (hb.cell (by exact hlt)).trans c3⟩⟩
theorem GsIn.mono {w : World} {B C : Nat} {a0 : Option Addr} {l : List Gt} (h : GsIn w B a0 l) (hC : B ≤ C) : GsIn w C a0 l :=
  ⟨h.1, fun h0 => by obtain ⟨b, off, e, hlt, hc⟩ := h.2 h0; exact ⟨b, off, e, by omega, hc⟩⟩
/-- A part of such a slice. -/
theorem GsIn.drop {w : World} {B g off : Nat} {l : List Gt} (h : GsIn w B (some ⟨g, off, none⟩) l) (k : Nat) : GsIn w B (some ⟨g, off + k * 4, none⟩) (l.drop k) := by
  refine ⟨Nat.le_trans (by rw [List.length_drop]; omega) h.1, fun h0 => ?_⟩
  rw [List.length_drop] at h0
  obtain ⟨b, o, e, hb, hc⟩ := h.2 (by omega)
  injection e with e
  injection e with e1 e2
  subst e1 e2
  refine ⟨_, _, rfl, hb, fun j x hx => ?_⟩
  rw [List.getElem?_drop] at hx
  have := hc (k + j) x hx
  rwa [show off + (k + j) * 4 = off + k * 4 + j * 4 by rw [Nat.add_mul]; omega] at this
/-- A gate written into a row, cell by cell. -/
theorem GRow.put {w : World} {g : Nat} {l : List Gt} (h : gtE.Row w g l) {j : Nat} (hj : j < l.length) (x : Gt) :
    gtE.Row ((((w.setCell ⟨g, j * 4, none⟩ (.int .i64 x.k)).setCell ⟨g, j * 4 + 1, none⟩ (.int .i64 x.a)).setCell ⟨g, j * 4 + 2, none⟩ (.int .i64 x.b)).setCell ⟨g, j * 4 + 3, none⟩ (.int .i64 x.c)) g (l.set j x) := by
  obtain ⟨y, hy⟩ : ∃ y, l[j]? = some y := ⟨l[j], List.getElem?_eq_getElem hj⟩
  have h1 := h.put1 (o := 0) (v := .int .i64 x.k) (y := ⟨x.k, y.a, y.b, y.c⟩) hy (by decide) rfl
  have h2 := h1.put1 (j := j) (o := 1) (v := .int .i64 x.a) (x := ⟨x.k, y.a, y.b, y.c⟩) (y := ⟨x.k, x.a, y.b, y.c⟩) (by rw [List.getElem?_set_self hj]) (by decide) rfl
  rw [List.set_set] at h2
  have h3 := h2.put1 (j := j) (o := 2) (v := .int .i64 x.b) (x := ⟨x.k, x.a, y.b, y.c⟩) (y := ⟨x.k, x.a, x.b, y.c⟩) (by rw [List.getElem?_set_self hj]) (by decide) rfl
  rw [List.set_set] at h3
  have h4 := h3.put1 (j := j) (o := 3) (v := .int .i64 x.c) (x := ⟨x.k, x.a, x.b, y.c⟩) (y := x) (by rw [List.getElem?_set_self hj]) (by decide) rfl
  rw [List.set_set] at h4
  exact h4
/-- Two gates of rows beside each other. -/
def E2G (w : World) (g g' o : Nat) (x y : Gt) (w' : World) : Prop :=
  w'.cell? ⟨g, o, none⟩ = some (.int .i64 x.k) ∧ w'.cell? ⟨g, o + 1, none⟩ = some (.int .i64 x.a) ∧ w'.cell? ⟨g, o + 2, none⟩ = some (.int .i64 x.b) ∧ w'.cell? ⟨g, o + 3, none⟩ = some (.int .i64 x.c) ∧
  w'.cell? ⟨g', o, none⟩ = some (.int .i64 y.k) ∧ w'.cell? ⟨g', o + 1, none⟩ = some (.int .i64 y.a) ∧ w'.cell? ⟨g', o + 2, none⟩ = some (.int .i64 y.b) ∧ w'.cell? ⟨g', o + 3, none⟩ = some (.int .i64 y.c) ∧ g < w'.heap.size ∧ g' < w'.heap.size ∧ Below w.heap.size w w'
theorem E2G.drew {w w' : World} {g g' o : Nat} {x y : Gt} (h : E2G w g g' o x y w') : E2G w g g' o x y w'.drew :=
  let ⟨a0, a1, a2, a3, b0, b1, b2, b3, z, z', l⟩ := h; ⟨a0, a1, a2, a3, b0, b1, b2, b3, z, z', l.drew⟩
theorem E2G.below {w w1 w2 : World} {g g' o : Nat} {x y : Gt} (h : E2G w g g' o x y w1) (hb : Below w1.heap.size w1 w2) : E2G w g g' o x y w2 :=
  let ⟨a0, a1, a2, a3, b0, b1, b2, b3, z, z', l⟩ := h
  ⟨cell_below a0 hb z, cell_below a1 hb z, cell_below a2 hb z, cell_below a3 hb z, cell_below b0 hb z', cell_below b1 hb z', cell_below b2 hb z', cell_below b3 hb z', Nat.lt_of_lt_of_le z hb.size, Nat.lt_of_lt_of_le z' hb.size, below_up l hb l.size⟩
theorem E2G.low {w w' : World} {g g' o : Nat} {x y : Gt} (h : E2G w g g' o x y w') : Below w.heap.size w w' := let ⟨_, _, _, _, _, _, _, _, _, _, l⟩ := h; l
attribute [local irreducible] World.cell?
end Go.Proofs.YtlmiebeffdcfhaaGreat
namespace Go.Proofs.YtlmiebeffdcfhaaGreat
open Go.RowKit
theorem zero_okC : Dw.zero.ok := by decide
theorem amps_leC : ∀ {M : List (List Dw)}, (∀ r ∈ M, r.length ≤ 16) → amps M ≤ M.length * 16
  | [], _ => by simp [amps]
  | r :: M, h => by
    have h1 := amps_leC (M := M) fun s hs => h s (List.mem_cons_of_mem _ hs)
    have h2 := h r List.mem_cons_self
    have e : amps (r :: M) = r.length + amps M := by simp [amps]
    rw [e, List.length_cons, Nat.succ_mul]
    omega
theorem getD_okC {r : List Dw} (h : ∀ x ∈ r, x.ok) (k : Nat) : (r.getD k .zero).ok := by
  rw [List.getD_eq_getElem?_getD]
  cases e : r[k]? with
  | none => exact zero_okC
  | some x => exact h x (List.mem_of_getElem? e)
theorem ctM_amps (q : Int) (M : List (List Dw)) : (ctM q M).length ≤ 16 ∧ amps (ctM q M) ≤ 256 ∧ EbM (ctM q M) := by
  cases h : ctMB q M with
  | false => rw [show ctM q M = [] by unfold ctM; rw [h]; rfl]; exact ⟨Nat.zero_le _, Nat.zero_le _, fun r hr => absurd hr List.not_mem_nil⟩
  | true =>
    have hM : mtB M = true := by rw [ctMB_eq] at h; exact (Bool.and_eq_true_iff.1 h).1
    rw [show ctM q M = ctV q.toNat M by unfold ctM; rw [h]; rfl]
    have h1 := mtB_len hM
    have hok : ∀ r ∈ M, ∀ x ∈ r, x.ok := fun r hr => (stB_iff.1 ((mtB_iff.1 hM).2 r hr).2).1
    have hat : ∀ i k, ((M.getD i []).getD k .zero).ok := fun i k => by
      refine getD_okC (fun x hx => ?_) k
      rw [List.getD_eq_getElem?_getD] at hx
      cases e : M[i]? with
      | none => rw [e] at hx; exact absurd hx List.not_mem_nil
      | some r => rw [e] at hx; exact hok r (List.mem_of_getElem? e) x hx
    have hrow : ∀ r ∈ ctV q.toNat M, r.length ≤ 16 ∧ ∀ x ∈ r, x.ok := fun r hr => by
      rw [ctV_eq] at hr
      obtain ⟨i, -, rfl⟩ := List.mem_map.1 hr
      refine ⟨by rw [ctRow_len]; exact h1, fun x hx => ?_⟩
      obtain ⟨k, -, rfl⟩ := List.mem_map.1 hx
      split
      · exact hat i k
      · split
        · exact oneD_ok
        · exact zero_okC
    refine ⟨by rw [ctV_len]; exact h1, ?_, fun r hr x hx => ?_⟩
    · have h2 := amps_leC fun r hr => (hrow r hr).1
      rw [ctV_len] at h2
      omega
    · have h3 := ((hrow r hr).2 x hx).2
      omega
end Go.Proofs.YtlmiebeffdcfhaaGreat
namespace Go.Proofs.YtlmiebeffdcfhaaGreat
open Go.RowKit
attribute [local irreducible] World.cell?
theorem AR.take {w : World} {g : Nat} {l : List Int} (h : AR w g l) (j : Nat) : AR w g (l.take j) := by
  obtain ⟨cs, ty, h1, h2⟩ := h
  refine ⟨cs, ty, h1, ?_⟩
  rw [List.map_take, ← h2, List.take_take, List.length_take]
end Go.Proofs.YtlmiebeffdcfhaaGreat
namespace Go.Proofs.YtlmiebeffdcfhaaGreat
open Go.RowKit
/-- The box of a gate lies at B. -/
def GB (w : World) (B : Nat) (g : Gt) (w' : World) : Prop := w'.cell? ⟨B, 0, none⟩ = some (.int .i64 g.k) ∧ w'.cell? ⟨B, 1, none⟩ = some (.int .i64 g.a) ∧ w'.cell? ⟨B, 2, none⟩ = some (.int .i64 g.b) ∧ w'.cell? ⟨B, 3, none⟩ = some (.int .i64 g.c) ∧ B < w'.heap.size ∧ Below w.heap.size w w'
theorem GB.drew {w w1 : World} {B : Nat} {g : Gt} (h : GB w B g w1) : GB w B g w1.drew :=
  let ⟨c0, c1, c2, c3, z0, l⟩ := h; ⟨c0, c1, c2, c3, z0, l.drew⟩
theorem GB.alloc {w w1 : World} {B : Nat} {g : Gt} {o : Obj} (h : GB w B g w1) : GB w B g (w1.alloc o) :=
  let ⟨c0, c1, c2, c3, z0, l⟩ := h
  have e : ∀ k, (w1.alloc o).cell? ⟨B, k, none⟩ = w1.cell? ⟨B, k, none⟩ := fun k => (Below.refl w1.heap.size w1).alloc (Nat.le_refl _) o |>.cell (by exact z0)
  ⟨(e 0).trans c0, (e 1).trans c1, (e 2).trans c2, (e 3).trans c3, by simp; omega, l.alloc l.size o⟩
attribute [local irreducible] World.cell?
end Go.Proofs.YtlmiebeffdcfhaaGreat
namespace Go.Proofs.YtlmiebeffdcfhaaGreat
open Go.RowKit
attribute [local irreducible] World.cell?
end Go.Proofs.YtlmiebeffdcfhaaGreat
namespace Go.Proofs.YtlmiebeffdcfhaaGreat
end Go.Proofs.YtlmiebeffdcfhaaGreat
