/- UBaseC06: several of our texts in one: UDsC UBaseB14 UDwR UApKc UDwDraw2. -/
import Derived.Test.YtlmiebeffdcfhaaGreatUBaseB18
import Derived.Test.YtlmiebeffdcfhaaGreatUBaseB06
import Derived.Test.YtlmiebeffdcfhaaGreatUBaseB22
import Derived.Test.YtlmiebeffdcfhaaGreatUPhS
import Derived.Test.YtlmiebeffdcfhaaGreatUBaseB05
import Derived.Test.YtlmiebeffdcfhaaGreatUBaseB07
import Derived.Test.YtlmiebeffdcfhaaGreatUDwA
import Derived.Test.YtlmiebeffdcfhaaGreatUDwB
import Derived.Test.YtlmiebeffdcfhaaGreatUDwN
namespace Go.Proofs.YtlmiebeffdcfhaaGreat
open Go.RowKit
theorem fl_new (w : World) (y : Dw) (t : TypeId) : ∀ j u, (fl y)[j]? = some u → (w.alloc (.cells #[.int .i64 y.n.a, .int .i64 y.n.b, .int .i64 y.n.c, .int .i64 y.n.d, .int .i64 y.e] t)).cell? ((⟨w.heap.size, 0, none⟩ : Addr).add j) = some u := by
  intro j u hj
  match j, hj with
  | 0, hj => simp [fl] at hj; subst hj; simp [Addr.add]
  | 1, hj => simp [fl] at hj; subst hj; simp [Addr.add]
  | 2, hj => simp [fl] at hj; subst hj; simp [Addr.add]
  | 3, hj => simp [fl] at hj; subst hj; simp [Addr.add]
  | 4, hj => simp [fl] at hj; subst hj; simp [Addr.add]
  | j + 5, hj => simp [fl] at hj
theorem own_new {w : World} {n : Nat} {t : TypeId} (h : n = w.heap.size) : (w.alloc (.cells #[] t)).ownsRow n t 5 (.slice (some ⟨n, 0, none⟩) 0 0) 0 (flat []) := by
  subst h; exact World.ownsRow_lit w #[] 0 (Nat.le_refl _) (Nat.zero_le _) rfl
theorem fl_plain (y : Dw) : ∀ u ∈ fl y, u.oneCell' = true := by
  intro u hu
  simp [fl] at hu
  rcases hu with rfl | rfl | rfl | rfl | rfl <;> rfl
attribute [local irreducible] World.cell?
end Go.Proofs.YtlmiebeffdcfhaaGreat
namespace Go.Proofs.YtlmiebeffdcfhaaGreat
open Go.RowKit
/-- A place and a factor, six cells. -/
def sentE : Enc (Nat × Dw) := ⟨fun p => .int .i64 (p.1 : Int) :: fl p.2, 6, 97, fun _ => rfl, fun x u h => by
  rw [List.mem_cons] at h
  rcases h with rfl | h
  · rfl
  · simp [fl] at h; rcases h with rfl | rfl | rfl | rfl | rfl <;> rfl⟩
/-- A bit turned over. -/
def flipN (i q : Nat) : Nat := i ^^^ (1 <<< q)
theorem flip_all : ∀ i : Fin 16, ∀ q : Fin 4, bits .xor .i64 ((i.val : Nat) : Int) (wrap64 (2 ^ q.val)) = ((flipN i.val q.val : Nat) : Int) := by decide +kernel
theorem flip_bits {i q : Nat} (hi : i < 16) (hq : q < 4) : bits .xor .i64 (i : Int) (wrap64 (2 ^ q)) = ((flipN i q : Nat) : Int) := flip_all ⟨i, hi⟩ ⟨q, hq⟩
theorem new_sent (w : World) (i : Nat) (x : Dw) : sentE.Sl (w.alloc (.cells #[.int .i64 (i : Int), .int .i64 x.n.a, .int .i64 x.n.b, .int .i64 x.n.c, .int .i64 x.n.d, .int .i64 x.e] 97)) w.heap.size (.slice (some ⟨w.heap.size, 0, none⟩) 1 1) [(i, x)] :=
  Enc.Sl.mk rfl (Nat.le_refl _) (Nat.le_refl _) ⟨_, heap_alloc_new w _, rfl⟩
attribute [local irreducible] World.cell?
set_option maxRecDepth 100000 in
set_option maxHeartbeats 1600000 in
theorem sflip (i q : Nat) (t : Bool) (w : World) (hi : i < 16) (hq : q < 4) :
    Calls Tryz.prog 102 #[.int .i64 i, .int .i64 q, .bool t] w fun e w' => ∃ v, e = .returned v ∧ sentE.Sl w' w.heap.size v [(if t then flipN i q else i, dPh 0)] ∧ Below w.heap.size w w' := by
  have H := Lib.hid (fun W => sphase 0 W)
  generalize dPh 0 = P at *
  cases t with
  | true =>
    have hf := flip_bits hi hq
    generalize flipN i q = f at *
    go_enter Tryz.func102, Tryz.ntmps102
    go_wp2_with fail
    refine (H.out _).mono ?_
    rintro e w1 ⟨rfl, hb1⟩
    have Hs := Lib.hid ((new_sent w1 f P).mono hb1.size)
    have Hb1 := Lib.hid hb1
    have hs1 := hb1.size
    clear hb1
    go_wp2_with fail
    go_ret
    exact ⟨_, rfl, Hs.out, by have := Hb1.out; go_grown⟩
  | false =>
    go_enter Tryz.func102, Tryz.ntmps102
    go_wp2_with fail
    refine (H.out _).mono ?_
    rintro e w1 ⟨rfl, hb1⟩
    have Hs := Lib.hid ((new_sent w1 i P).mono hb1.size)
    have Hb1 := Lib.hid hb1
    have hs1 := hb1.size
    clear hb1
    go_wp2_with fail
    go_ret
    exact ⟨_, rfl, Hs.out, by have := Hb1.out; go_grown⟩
set_option maxRecDepth 100000 in
set_option maxHeartbeats 1600000 in
theorem sphas (i : Nat) (t : Bool) (k : Int) (w : World) (_ : i < 16) :
    Calls Tryz.prog 104 #[.int .i64 i, .bool t, .int .i64 k] w fun e w' => ∃ v, e = .returned v ∧ sentE.Sl w' w.heap.size v [(i, if t then dPh k else dPh 0)] ∧ Below w.heap.size w w' := by
  have H := Lib.hid (fun W => sphase k W)
  have H0 := Lib.hid (fun W => sphase 0 W)
  generalize dPh k = P at *
  generalize dPh 0 = O at *
  cases t with
  | true =>
    go_enter Tryz.func104, Tryz.ntmps104
    go_wp2_with fail
    refine (H.out _).mono ?_
    rintro e w1 ⟨rfl, hb1⟩
    have Hs := Lib.hid ((new_sent w1 i P).mono hb1.size)
    have Hb1 := Lib.hid hb1
    have hs1 := hb1.size
    clear hb1
    go_wp2_with fail
    go_ret
    exact ⟨_, rfl, Hs.out, by have := Hb1.out; go_grown⟩
  | false =>
    go_enter Tryz.func104, Tryz.ntmps104
    go_wp2_with fail
    refine (H0.out _).mono ?_
    rintro e w1 ⟨rfl, hb1⟩
    have Hs := Lib.hid ((new_sent w1 i O).mono hb1.size)
    have Hb1 := Lib.hid hb1
    have hs1 := hb1.size
    clear hb1
    go_wp2_with fail
    go_ret
    exact ⟨_, rfl, Hs.out, by have := Hb1.out; go_grown⟩
end Go.Proofs.YtlmiebeffdcfhaaGreat
namespace Go.Proofs.YtlmiebeffdcfhaaGreat
open Go.RowKit
/-- IsValidMatrix. -/
def mtB (M : List (List Dw)) : Bool := decide (0 < M.length) && M.all fun r => decide (r.length = M.length) && stB r
theorem mtB_iff {M : List (List Dw)} : mtB M = true ↔ 0 < M.length ∧ ∀ r ∈ M, r.length = M.length ∧ stB r = true := by
  unfold mtB
  rw [Bool.and_eq_true, decide_eq_true_eq, List.all_eq_true]
  simp only [Bool.and_eq_true, decide_eq_true_eq]
theorem mtB_qc {M : List (List Dw)} (h : mtB M = true) : 0 < qc M.length := by
  obtain ⟨h0, h1⟩ := mtB_iff.1 h
  obtain ⟨e, s⟩ := h1 M[0] (List.getElem_mem h0)
  rw [← e]
  exact (stB_iff.1 s).2
theorem mtB_len {M : List (List Dw)} (h : mtB M = true) : M.length ≤ 16 := by have := qc_len (mtB_qc h); omega
theorem mtB_row {M : List (List Dw)} (h : mtB M = true) {j : Nat} {r : List Dw} (hr : M[j]? = some r) : r.length = M.length ∧ stB r = true := (mtB_iff.1 h).2 r (List.mem_of_getElem? hr)
/-- IdentityMatrix. -/
def idM (n : Int) : List (List Dw) := if 1 ≤ n ∧ n ≤ 4 then (List.range (2 ^ n.toNat)).map fun (i : Nat) => basisL n (i : Int) else []
/-- The sum of a row and a state, from a sum on. -/
def mrow : Dw → List (Dw × Dw) → Option Dw
  | s, [] => some s
  | s, p :: r => if p.1 = .zero ∨ p.2 = .zero then mrow s r else if dMulB p.1 p.2 && dAddB s (dMulV p.1 p.2) then mrow (dAddV s (dMulV p.1 p.2)) r else none
def rowO (r v : List Dw) : Option Dw := mrow .zero (r.zip v)
def rowV (r v : List Dw) : Dw := (rowO r v).getD .zero
def rowB (r v : List Dw) : Bool := (rowO r v).isSome
/-- ApplyMatrix. -/
def appB (M : List (List Dw)) (v : List Dw) : Bool := mtB M && stB v && decide (M.length = v.length) && M.all fun r => rowB r v
def appL (M : List (List Dw)) (v : List Dw) : List Dw := if appB M v then M.map fun r => rowV r v else []
theorem appL_len {M : List (List Dw)} {v : List Dw} (h : appB M v = true) : (appL M v).length = M.length := by rw [appL, if_pos h, List.length_map]
/-- Columns. -/
def col (M : List (List Dw)) (k : Nat) : List Dw := M.map fun r => r.getD k .zero
def colsM (L : List (List Dw)) : List (List Dw) := (List.range L.length).map fun i => col L i
theorem col_len (M : List (List Dw)) (k : Nat) : (col M k).length = M.length := by rw [col, List.length_map]
theorem colsM_len (L : List (List Dw)) : (colsM L).length = L.length := by rw [colsM, List.length_map, List.length_range]
/-- MulMatrix. -/
def mulMB (A B : List (List Dw)) : Bool := mtB A && mtB B && decide (A.length = B.length) && (List.range B.length).all fun k => appB A (col B k)
def mulML (A B : List (List Dw)) : List (List Dw) := (List.range B.length).map fun k => appL A (col B k)
def mulM (A B : List (List Dw)) : List (List Dw) := if mulMB A B then colsM (mulML A B) else []
/-- AdjointMatrix. -/
def adjM (M : List (List Dw)) : List (List Dw) := if mtB M then (List.range M.length).map fun i => (col M i).map dConjV else []
/-- IsUnitary. -/
def uniB (M : List (List Dw)) : Bool := mtB M && mulMB (adjM M) M && decide (mulM (adjM M) M = idM (qc M.length))
end Go.Proofs.YtlmiebeffdcfhaaGreat
namespace Go.Proofs.YtlmiebeffdcfhaaGreat
theorem conjV_ok {x : Dw} (h : x.ok) : (dConjV x).ok := by rw [show dConjV x = x.conj from if_pos h]; exact dconj_ok.2 h
end Go.Proofs.YtlmiebeffdcfhaaGreat
namespace Go.Proofs.YtlmiebeffdcfhaaGreat
theorem list_range {α : Type} (l : List α) (d : α) : (List.range l.length).map (fun i => l.getD i d) = l := by
  refine List.ext_getElem? fun i => ?_
  rw [List.getElem?_map]
  by_cases h : i < l.length
  · rw [List.getElem?_range h, List.getElem?_eq_getElem h]
    show some (l.getD i d) = _
    rw [List.getD_eq_getElem?_getD, List.getElem?_eq_getElem h]; rfl
  · rw [List.getElem?_eq_none (by simpa using h), List.getElem?_eq_none (by omega)]; rfl
theorem mul_parts {A B : List (List Dw)} (h : mulMB A B = true) : mtB A = true ∧ mtB B = true ∧ A.length = B.length ∧ ∀ k, k < B.length → appB A (col B k) = true := by
  unfold mulMB at h
  simp only [Bool.and_eq_true, decide_eq_true_eq, List.all_eq_true] at h
  exact ⟨h.1.1.1, h.1.1.2, h.1.2, fun k hk => h.2 k (List.mem_range.2 hk)⟩
/-- The entries of a product. -/
theorem mulM_eq {A B : List (List Dw)} (h : mulMB A B = true) : mulM A B = (List.range A.length).map fun i => (List.range A.length).map fun k => rowV (A.getD i []) (col B k) := by
  obtain ⟨_, _, hl, hall⟩ := mul_parts h
  unfold mulM
  rw [if_pos h]
  unfold colsM mulML
  rw [List.length_map, List.length_range, ← hl]
  refine List.map_congr_left fun i hi => ?_
  have hi := List.mem_range.1 hi
  rw [col, List.map_map]
  refine List.map_congr_left fun k hk => ?_
  have hk := List.mem_range.1 hk
  show (appL A (col B k)).getD i .zero = rowV (A.getD i []) (col B k)
  unfold appL
  rw [if_pos (hall k (by omega)), List.getD_eq_getElem?_getD, List.getElem?_map, List.getElem?_eq_getElem hi, List.getD_eq_getElem?_getD, List.getElem?_eq_getElem hi]
  rfl
end Go.Proofs.YtlmiebeffdcfhaaGreat
namespace Go.Proofs.YtlmiebeffdcfhaaGreat
end Go.Proofs.YtlmiebeffdcfhaaGreat
namespace Go.Proofs.YtlmiebeffdcfhaaGreat
def EB (x : Dw) : Prop := -9223372036854775808 ≤ x.e ∧ x.e ≤ 9223372036854775807
theorem eb_ok {x : Dw} (h : x.ok) : EB x := by have := h.2; unfold EB; omega
theorem eb_zero : EB .zero := ⟨(by decide : (-9223372036854775808 : Int) ≤ 0), (by decide : (0 : Int) ≤ 9223372036854775807)⟩
theorem eb_conj (x : Dw) : EB (dConjV x) := by
  by_cases h : x.ok
  · rw [show dConjV x = x.conj from if_pos h]; exact eb_ok (dconj_ok.2 h)
  · rw [dConj_no h]; exact eb_zero
end Go.Proofs.YtlmiebeffdcfhaaGreat
namespace Go.Proofs.YtlmiebeffdcfhaaGreat
open Go.RowKit
attribute [local irreducible] World.cell?
end Go.Proofs.YtlmiebeffdcfhaaGreat
namespace Go.Proofs.YtlmiebeffdcfhaaGreat
open Go.RowKit
attribute [local irreducible] World.cell?
end Go.Proofs.YtlmiebeffdcfhaaGreat
