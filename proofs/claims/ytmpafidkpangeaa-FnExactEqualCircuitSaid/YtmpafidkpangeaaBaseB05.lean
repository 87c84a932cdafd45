/- BaseB05: several of our texts in one: DsF DsP SnA DsO MtP DwR VcM RwS. -/
import Derived.Test.YtmpafidkpangeaaDsM
import Derived.Test.YtmpafidkpangeaaDwS
import Derived.Test.YtmpafidkpangeaaBaseB08
import Derived.Test.YtmpafidkpangeaaBaseB03
import Derived.Test.YtmpafidkpangeaaDwB
import Derived.Test.YtmpafidkpangeaaPhS
import Derived.Test.YtmpafidkpangeaaBaseB04
import Derived.Deep.Slices
import Derived.Test.YtmpafidkpangeaaDwA
import Derived.Test.YtmpafidkpangeaaDwN
namespace Go.Proofs.Ytmpafidkpangeaa
open Go.RowKit
theorem row_below {w w' : World} {base : Nat} {e : TypeId} {size : Nat} {v : Value} {n : Nat} {xs : List Value} (h : w.ownsRow base e size v n xs) (hb : Below w.heap.size w w') : w'.ownsRow base e size v n xs := by
  obtain ⟨h1, h2⟩ := h
  refine ⟨h1, ?_⟩
  rcases h2 with h2 | ⟨g, cap, cur, a, b, c, d⟩
  · exact .inl h2
  · exact .inr ⟨g, cap, cur, a, b, by rw [hb.block g (lt_of_block c)]; exact c, d⟩
/-- An element of a row and a box. -/
def FB (w : World) (g o : Nat) (x : Dw) (b : Nat) (y : Dw) (w' : World) : Prop := w'.cell? ⟨g, o, none⟩ = some (.int .i64 x.n.a) ∧ w'.cell? ⟨g, o + 1, none⟩ = some (.int .i64 x.n.b) ∧ w'.cell? ⟨g, o + 2, none⟩ = some (.int .i64 x.n.c) ∧ w'.cell? ⟨g, o + 3, none⟩ = some (.int .i64 x.n.d) ∧ w'.cell? ⟨g, o + 4, none⟩ = some (.int .i64 x.e) ∧ w'.cell? ⟨b, 0, none⟩ = some (.int .i64 y.n.a) ∧ w'.cell? ⟨b, 1, none⟩ = some (.int .i64 y.n.b) ∧ w'.cell? ⟨b, 2, none⟩ = some (.int .i64 y.n.c) ∧ w'.cell? ⟨b, 3, none⟩ = some (.int .i64 y.n.d) ∧ w'.cell? ⟨b, 4, none⟩ = some (.int .i64 y.e) ∧ g < w'.heap.size ∧ b < w'.heap.size ∧ Below w.heap.size w w'
theorem FB.drew {w w' : World} {g o b : Nat} {x y : Dw} (h : FB w g o x b y w') : FB w g o x b y w'.drew :=
  let ⟨a0, a1, a2, a3, a4, b0, b1, b2, b3, b4, z, z', l⟩ := h; ⟨a0, a1, a2, a3, a4, b0, b1, b2, b3, b4, z, z', l.drew⟩
theorem FB.below {w w1 w2 : World} {g o b : Nat} {x y : Dw} (h : FB w g o x b y w1) (hb : Below w1.heap.size w1 w2) : FB w g o x b y w2 :=
  let ⟨a0, a1, a2, a3, a4, b0, b1, b2, b3, b4, z, z', l⟩ := h
  ⟨cell_below a0 hb z, cell_below a1 hb z, cell_below a2 hb z, cell_below a3 hb z, cell_below a4 hb z, cell_below b0 hb z', cell_below b1 hb z', cell_below b2 hb z', cell_below b3 hb z', cell_below b4 hb z', Nat.lt_of_lt_of_le z hb.size, Nat.lt_of_lt_of_le z' hb.size, below_up l hb l.size⟩
theorem FB.alloc {w w1 : World} {g o b : Nat} {x y : Dw} (h : FB w g o x b y w1) (p : Obj) : FB w g o x b y (w1.alloc p) := h.below ((Below.refl _ _).alloc (Nat.le_refl _) p)
theorem FB.realloc {w W : World} {g o b : Nat} {x y : Dw} {lim : Nat} {p q : Obj} (h : FB w g o x b y (W.alloc p)) (hq : lim ≤ W.heap.size) (hn : g < lim ∧ b < lim) (hw : w.heap.size ≤ lim) : FB w g o x b y (W.alloc q) :=
  let ⟨a0, a1, a2, a3, a4, b0, b1, b2, b3, b4, _, _, l⟩ := h
  ⟨cell_realloc a0 (by omega), cell_realloc a1 (by omega), cell_realloc a2 (by omega), cell_realloc a3 (by omega), cell_realloc a4 (by omega), cell_realloc b0 (by omega), cell_realloc b1 (by omega), cell_realloc b2 (by omega), cell_realloc b3 (by omega), cell_realloc b4 (by omega), (by simp; omega), (by simp; omega), below_realloc l (by omega) (by omega)⟩
theorem FB.set5 {w W : World} {g o b : Nat} {x y : Dw} {lim k : Nat} {u0 u1 u2 u3 u4 : Value} (h : FB w g o x b y W) (hq : lim ≤ k) (hn : g < lim ∧ b < lim) (hw : w.heap.size ≤ lim) :
    FB w g o x b y (((((W.setCell ⟨k, 0, none⟩ u0).setCell ⟨k, 1, none⟩ u1).setCell ⟨k, 2, none⟩ u2).setCell ⟨k, 3, none⟩ u3).setCell ⟨k, 4, none⟩ u4) :=
  let ⟨a0, a1, a2, a3, a4, b0, b1, b2, b3, b4, z, z', l⟩ := h
  ⟨cell_far5 a0 (by omega), cell_far5 a1 (by omega), cell_far5 a2 (by omega), cell_far5 a3 (by omega), cell_far5 a4 (by omega), cell_far5 b0 (by omega), cell_far5 b1 (by omega), cell_far5 b2 (by omega), cell_far5 b3 (by omega), cell_far5 b4 (by omega), (by simpa [World.setCell] using z), (by simpa [World.setCell] using z'), ((((l.setCell (p := ⟨k, 0, none⟩) (Nat.le_trans hw hq) _).setCell (p := ⟨k, 1, none⟩) (Nat.le_trans hw hq) _).setCell (p := ⟨k, 2, none⟩) (Nat.le_trans hw hq) _).setCell (p := ⟨k, 3, none⟩) (Nat.le_trans hw hq) _).setCell (p := ⟨k, 4, none⟩) (Nat.le_trans hw hq) _⟩
theorem FB.low {w w' : World} {g o b : Nat} {x y : Dw} (h : FB w g o x b y w') : Below w.heap.size w w' := let ⟨_, _, _, _, _, _, _, _, _, _, _, _, l⟩ := h; l
theorem E2.alloc {w w1 : World} {g g' o : Nat} {x y : Dw} (h : E2 w g g' o x y w1) (p : Obj) : E2 w g g' o x y (w1.alloc p) := h.below ((Below.refl _ _).alloc (Nat.le_refl _) p)
theorem E2.realloc {w W : World} {g g' o : Nat} {x y : Dw} {lim : Nat} {p q : Obj} (h : E2 w g g' o x y (W.alloc p)) (hq : lim ≤ W.heap.size) (hn : g < lim ∧ g' < lim) (hw : w.heap.size ≤ lim) : E2 w g g' o x y (W.alloc q) :=
  let ⟨a0, a1, a2, a3, a4, b0, b1, b2, b3, b4, _, _, l⟩ := h
  ⟨cell_realloc a0 (by omega), cell_realloc a1 (by omega), cell_realloc a2 (by omega), cell_realloc a3 (by omega), cell_realloc a4 (by omega), cell_realloc b0 (by omega), cell_realloc b1 (by omega), cell_realloc b2 (by omega), cell_realloc b3 (by omega), cell_realloc b4 (by omega), (by simp; omega), (by simp; omega), below_realloc l (by omega) (by omega)⟩
theorem E2.set5 {w W : World} {g g' o : Nat} {x y : Dw} {lim k : Nat} {u0 u1 u2 u3 u4 : Value} (h : E2 w g g' o x y W) (hq : lim ≤ k) (hn : g < lim ∧ g' < lim) (hw : w.heap.size ≤ lim) :
    E2 w g g' o x y (((((W.setCell ⟨k, 0, none⟩ u0).setCell ⟨k, 1, none⟩ u1).setCell ⟨k, 2, none⟩ u2).setCell ⟨k, 3, none⟩ u3).setCell ⟨k, 4, none⟩ u4) :=
  let ⟨a0, a1, a2, a3, a4, b0, b1, b2, b3, b4, z, z', l⟩ := h
  ⟨cell_far5 a0 (by omega), cell_far5 a1 (by omega), cell_far5 a2 (by omega), cell_far5 a3 (by omega), cell_far5 a4 (by omega), cell_far5 b0 (by omega), cell_far5 b1 (by omega), cell_far5 b2 (by omega), cell_far5 b3 (by omega), cell_far5 b4 (by omega), (by simpa [World.setCell] using z), (by simpa [World.setCell] using z'), ((((l.setCell (p := ⟨k, 0, none⟩) (Nat.le_trans hw hq) _).setCell (p := ⟨k, 1, none⟩) (Nat.le_trans hw hq) _).setCell (p := ⟨k, 2, none⟩) (Nat.le_trans hw hq) _).setCell (p := ⟨k, 3, none⟩) (Nat.le_trans hw hq) _).setCell (p := ⟨k, 4, none⟩) (Nat.le_trans hw hq) _⟩
end Go.Proofs.Ytmpafidkpangeaa
namespace Go.Proofs.Ytmpafidkpangeaa
open Go.RowKit
instance : DecidableEq Dw := fun x y => decidable_of_iff (eqDB x y = true) eqDB_iff
/-- The number of qubits of a state with n amplitudes, or 0. -/
def qc (n : Nat) : Int := if n = 2 then 1 else if n = 4 then 2 else if n = 8 then 3 else if n = 16 then 4 else 0
theorem qc_range (n : Nat) : 0 ≤ qc n ∧ qc n ≤ 4 := by unfold qc; repeat' split; all_goals omega
theorem qc_len {n : Nat} (h : 0 < qc n) : n = 2 ∨ n = 4 ∨ n = 8 ∨ n = 16 := by
  unfold qc at h
  repeat' split at h
  all_goals first | omega | simp_all
/-- IsValidState. -/
def stB (l : List Dw) : Bool := l.all okD && decide (0 < qc l.length)
theorem stB_iff {l : List Dw} : stB l = true ↔ (∀ x ∈ l, x.ok) ∧ 0 < qc l.length := by
  unfold stB
  rw [Bool.and_eq_true, List.all_eq_true, decide_eq_true_eq]
  exact ⟨fun h => ⟨fun x hx => okD_true.1 (h.1 x hx), h.2⟩, fun h => ⟨fun x hx => okD_true.2 (h.1 x hx), h.2⟩⟩
theorem stB_len {l : List Dw} (h : stB l = true) : l.length ≤ 16 := by have := qc_len (stB_iff.1 h).2; omega
/-- BasisState. -/
def basisL (n i : Int) : List Dw := if 1 ≤ n ∧ n ≤ 4 ∧ 0 ≤ i ∧ i ≤ 2 ^ n.toNat - 1 then (List.replicate (2 ^ n.toNat) .zero).set i.toNat oneD else []
end Go.Proofs.Ytmpafidkpangeaa
namespace Go.Proofs.Ytmpafidkpangeaa
open Go.RowKit
/-- A place and a factor, six cells. -/
def sentE : Enc (Nat × Dw) := ⟨fun p => .int .i64 (p.1 : Int) :: fl p.2, 6, 133, fun _ => rfl, fun x u h => by
  rw [List.mem_cons] at h
  rcases h with rfl | h
  · rfl
  · simp [fl] at h; rcases h with rfl | rfl | rfl | rfl | rfl <;> rfl⟩
/-- A bit turned over. -/
def flipN (i q : Nat) : Nat := i ^^^ (1 <<< q)
theorem flip_all : ∀ i : Fin 16, ∀ q : Fin 4, bits .xor .i64 ((i.val : Nat) : Int) (wrap64 (2 ^ q.val)) = ((flipN i.val q.val : Nat) : Int) := by decide +kernel
theorem flip_bits {i q : Nat} (hi : i < 16) (hq : q < 4) : bits .xor .i64 (i : Int) (wrap64 (2 ^ q)) = ((flipN i q : Nat) : Int) := flip_all ⟨i, hi⟩ ⟨q, hq⟩
theorem new_sent (w : World) (i : Nat) (x : Dw) : sentE.Sl (w.alloc (.cells #[.int .i64 (i : Int), .int .i64 x.n.a, .int .i64 x.n.b, .int .i64 x.n.c, .int .i64 x.n.d, .int .i64 x.e] 133)) w.heap.size (.slice (some ⟨w.heap.size, 0, none⟩) 1 1) [(i, x)] :=
  Enc.Sl.mk rfl (Nat.le_refl _) (Nat.le_refl _) ⟨_, heap_alloc_new w _, rfl⟩
attribute [local irreducible] World.cell?
set_option maxRecDepth 100000 in
set_option maxHeartbeats 1600000 in
theorem sflip (i q : Nat) (t : Bool) (w : World) (hi : i < 16) (hq : q < 4) :
    Calls Try.prog 124 #[.int .i64 i, .int .i64 q, .bool t] w fun e w' => ∃ v, e = .returned v ∧ sentE.Sl w' w.heap.size v [(if t then flipN i q else i, dPh 0)] ∧ Below w.heap.size w w' := by
  have H := Lib.hid (fun W => sphase 0 W)
  generalize dPh 0 = P at *
  cases t with
  | true =>
    have hf := flip_bits hi hq
    generalize flipN i q = f at *
    go_enter Try.func124, Try.ntmps124
    go_wp2_with fail
    refine (H.out _).mono ?_
    rintro e w1 ⟨rfl, hb1⟩
    have Hs := Lib.hid ((new_sent w1 f P).mono hb1.size)
    have Hb1 := Lib.hid hb1
    have hs1 := hb1.size
    clear hb1
    go_wp2_with fail
    go_ret
    exact ⟨_, rfl, Hs.out, by have := Hb1.out; go_grown⟩
  | false =>
    go_enter Try.func124, Try.ntmps124
    go_wp2_with fail
    refine (H.out _).mono ?_
    rintro e w1 ⟨rfl, hb1⟩
    have Hs := Lib.hid ((new_sent w1 i P).mono hb1.size)
    have Hb1 := Lib.hid hb1
    have hs1 := hb1.size
    clear hb1
    go_wp2_with fail
    go_ret
    exact ⟨_, rfl, Hs.out, by have := Hb1.out; go_grown⟩
set_option maxRecDepth 100000 in
set_option maxHeartbeats 1600000 in
theorem sphas (i : Nat) (t : Bool) (k : Int) (w : World) (_ : i < 16) :
    Calls Try.prog 126 #[.int .i64 i, .bool t, .int .i64 k] w fun e w' => ∃ v, e = .returned v ∧ sentE.Sl w' w.heap.size v [(i, if t then dPh k else dPh 0)] ∧ Below w.heap.size w w' := by
  have H := Lib.hid (fun W => sphase k W)
  have H0 := Lib.hid (fun W => sphase 0 W)
  generalize dPh k = P at *
  generalize dPh 0 = O at *
  cases t with
  | true =>
    go_enter Try.func126, Try.ntmps126
    go_wp2_with fail
    refine (H.out _).mono ?_
    rintro e w1 ⟨rfl, hb1⟩
    have Hs := Lib.hid ((new_sent w1 i P).mono hb1.size)
    have Hb1 := Lib.hid hb1
    have hs1 := hb1.size
    clear hb1
    go_wp2_with fail
    go_ret
    exact ⟨_, rfl, Hs.out, by have := Hb1.out; go_grown⟩
  | false =>
    go_enter Try.func126, Try.ntmps126
    go_wp2_with fail
    refine (H0.out _).mono ?_
    rintro e w1 ⟨rfl, hb1⟩
    have Hs := Lib.hid ((new_sent w1 i O).mono hb1.size)
    have Hb1 := Lib.hid hb1
    have hs1 := hb1.size
    clear hb1
    go_wp2_with fail
    go_ret
    exact ⟨_, rfl, Hs.out, by have := Hb1.out; go_grown⟩
end Go.Proofs.Ytmpafidkpangeaa
namespace Go.Proofs.Ytmpafidkpangeaa
open Go.ChangeShapes Go.WideShapes Go.ChangeAt Go.RowKit Go.Lib Go.Joins
end Go.Proofs.Ytmpafidkpangeaa
namespace Go.Proofs.Ytmpafidkpangeaa
open Go.RowKit
/-- IsValidMatrix. -/
def mtB (M : List (List Dw)) : Bool := decide (0 < M.length) && M.all fun r => decide (r.length = M.length) && stB r
theorem mtB_iff {M : List (List Dw)} : mtB M = true ↔ 0 < M.length ∧ ∀ r ∈ M, r.length = M.length ∧ stB r = true := by
  unfold mtB
  rw [Bool.and_eq_true, decide_eq_true_eq, List.all_eq_true]
  simp only [Bool.and_eq_true, decide_eq_true_eq]
theorem mtB_qc {M : List (List Dw)} (h : mtB M = true) : 0 < qc M.length := by
  obtain ⟨h0, h1⟩ := mtB_iff.1 h
  obtain ⟨e, s⟩ := h1 M[0] (List.getElem_mem h0)
  rw [← e]
  exact (stB_iff.1 s).2
theorem mtB_len {M : List (List Dw)} (h : mtB M = true) : M.length ≤ 16 := by have := qc_len (mtB_qc h); omega
/-- IdentityMatrix. -/
def idM (n : Int) : List (List Dw) := if 1 ≤ n ∧ n ≤ 4 then (List.range (2 ^ n.toNat)).map fun (i : Nat) => basisL n (i : Int) else []
/-- The sum of a row and a state, from a sum on. -/
def mrow : Dw → List (Dw × Dw) → Option Dw
  | s, [] => some s
  | s, p :: r => if p.1 = .zero ∨ p.2 = .zero then mrow s r else if dMulB p.1 p.2 && dAddB s (dMulV p.1 p.2) then mrow (dAddV s (dMulV p.1 p.2)) r else none
def rowO (r v : List Dw) : Option Dw := mrow .zero (r.zip v)
def rowV (r v : List Dw) : Dw := (rowO r v).getD .zero
def rowB (r v : List Dw) : Bool := (rowO r v).isSome
/-- ApplyMatrix. -/
def appB (M : List (List Dw)) (v : List Dw) : Bool := mtB M && stB v && decide (M.length = v.length) && M.all fun r => rowB r v
def appL (M : List (List Dw)) (v : List Dw) : List Dw := if appB M v then M.map fun r => rowV r v else []
theorem appL_len {M : List (List Dw)} {v : List Dw} (h : appB M v = true) : (appL M v).length = M.length := by rw [appL, if_pos h, List.length_map]
/-- Columns. -/
def col (M : List (List Dw)) (k : Nat) : List Dw := M.map fun r => r.getD k .zero
def colsM (L : List (List Dw)) : List (List Dw) := (List.range L.length).map fun i => col L i
theorem col_len (M : List (List Dw)) (k : Nat) : (col M k).length = M.length := by rw [col, List.length_map]
theorem colsM_len (L : List (List Dw)) : (colsM L).length = L.length := by rw [colsM, List.length_map, List.length_range]
/-- MulMatrix. -/
def mulMB (A B : List (List Dw)) : Bool := mtB A && mtB B && decide (A.length = B.length) && (List.range B.length).all fun k => appB A (col B k)
def mulML (A B : List (List Dw)) : List (List Dw) := (List.range B.length).map fun k => appL A (col B k)
def mulM (A B : List (List Dw)) : List (List Dw) := if mulMB A B then colsM (mulML A B) else []
end Go.Proofs.Ytmpafidkpangeaa
namespace Go.Proofs.Ytmpafidkpangeaa
def EB (x : Dw) : Prop := -9223372036854775808 ≤ x.e ∧ x.e ≤ 9223372036854775807
theorem eb_ok {x : Dw} (h : x.ok) : EB x := by have := h.2; unfold EB; omega
theorem eb_zero : EB .zero := ⟨(by decide : (-9223372036854775808 : Int) ≤ 0), (by decide : (0 : Int) ≤ 9223372036854775807)⟩
theorem eb_mul (x y : Dw) : EB (dMulV x y) := by
  cases h : dMulB x y
  · rw [dMulV_no h]; exact eb_zero
  · exact eb_ok (dMulV_ok h)
end Go.Proofs.Ytmpafidkpangeaa
namespace Go.Proofs.Ytmpafidkpangeaa
end Go.Proofs.Ytmpafidkpangeaa
namespace Go.Proofs.Ytmpafidkpangeaa
open Go.RowKit
namespace Enc
variable {α : Type} (E : Enc α)
/-- A slice whose row lies in the blocks from B up to C. -/
def Sc (w : World) (B C : Nat) (v : Value) (l : List α) : Prop :=
  ∃ a cap, v = .slice a l.length cap ∧ l.length ≤ cap ∧ (0 < l.length → ∃ g, a = some ⟨g, 0, none⟩ ∧ B ≤ g ∧ g < C ∧ E.Row w g l)
variable {E}
theorem Sl.upto {w : World} {B : Nat} {v : Value} {l : List α} (h : E.Sl w B v l) : E.Sc w B w.heap.size v l := by
  obtain ⟨a, cap, h1, h2, h3⟩ := h
  exact ⟨a, cap, h1, h2, fun hl => by obtain ⟨g, e, hB, hr⟩ := h3 hl; exact ⟨g, e, hB, hr.lt, hr⟩⟩
theorem Sc.sl {w : World} {B C : Nat} {v : Value} {l : List α} (h : E.Sc w B C v l) : E.Sl w B v l := by
  obtain ⟨a, cap, h1, h2, h3⟩ := h
  exact ⟨a, cap, h1, h2, fun hl => by obtain ⟨g, e, hB, _, hr⟩ := h3 hl; exact ⟨g, e, hB, hr⟩⟩
theorem Sc.below {w w' : World} {B C : Nat} {v : Value} {l : List α} (h : E.Sc w B C v l) (hb : Below w.heap.size w w') : E.Sc w' B C v l := by
  obtain ⟨a, cap, h1, h2, h3⟩ := h
  exact ⟨a, cap, h1, h2, fun hl => by obtain ⟨g, e, hB, hC, hr⟩ := h3 hl; exact ⟨g, e, hB, hC, hr.below hb hr.lt⟩⟩
theorem Sc.lo {B C D F : Nat} {w w' : World} {v : Value} {l : List α} (k : E.Sc w D F v l) (h : Mid B C w w') (hE : F ≤ B) : E.Sc w' D F v l := by
  obtain ⟨a, cap, h1, h2, h3⟩ := k
  exact ⟨a, cap, h1, h2, fun hl => by obtain ⟨g, e, hB, hC, hr⟩ := h3 hl; exact ⟨g, e, hB, hC, hr.below h.1 (by omega)⟩⟩
theorem Sc.hi {B C D F : Nat} {w w' : World} {v : Value} {l : List α} (k : E.Sc w D F v l) (h : Mid B C w w') (hD : C ≤ D) : E.Sc w' D F v l := by
  obtain ⟨a, cap, h1, h2, h3⟩ := k
  exact ⟨a, cap, h1, h2, fun hl => by obtain ⟨g, e, hB, hC, hr⟩ := h3 hl; exact ⟨g, e, hB, hC, hr.block (h.2 g (by omega) hr.lt)⟩⟩
/-- The head of a slice. -/
theorem Sl.take {w : World} {B n cap : Nat} {a : Option Addr} {l : List α} (h : E.Sl w B (.slice a n cap) l) (k : Nat) (hk : k ≤ l.length) : E.Sl w B (.slice a k cap) (l.take k) := by
  obtain ⟨a', cap', h1, h2, h3⟩ := h
  injection h1 with e1 e2 e3
  subst e1 e2 e3
  have hl : (l.take k).length = k := by rw [List.length_take]; omega
  exact ⟨_, _, by rw [hl], by rw [hl]; omega, fun h0 => by
    rw [hl] at h0
    obtain ⟨g, e, hB, hr⟩ := h3 (by omega)
    exact ⟨g, e, hB, hr.take k⟩⟩
end Enc
end Go.Proofs.Ytmpafidkpangeaa
