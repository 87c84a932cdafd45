/- BaseB18: several of our texts in one: DsM DsF RwS DsO DsB. -/
import Derived.Test.YtlmiebeffdcfhaaBaseB06
import Derived.Test.YtlmiebeffdcfhaaDwS
import Derived.Test.YtlmiebeffdcfhaaBaseB22
import Derived.Test.YtlmiebeffdcfhaaBaseB05
import Derived.Deep.Slices
namespace Go.Proofs.Ytlmiebeffdcfhaa
open Go.RowKit
/-- The mark that begins at k. -/
def mk5 (k : Nat) : Dw := ⟨⟨(k : Int), ((k + 1 : Nat) : Int), ((k + 2 : Nat) : Int), ((k + 3 : Nat) : Int)⟩, ((k + 4 : Nat) : Int)⟩
/-- The marks of a row of n that begins at k. -/
def marks (k n : Nat) : List Dw := (List.range n).map fun j => mk5 (k + j * 5)
theorem marks_len (k n : Nat) : (marks k n).length = n := by simp [marks]
theorem marks_at {k n j : Nat} (h : j < n) : (marks k n)[j]? = some (mk5 (k + j * 5)) := by
  rw [marks, List.getElem?_map, List.getElem?_range h]; rfl
theorem mark_at (l : List Dw) {k j : Nat} (_ : j < l.length) : (marks k j ++ l.drop j)[j]? = l[j]? := by
  rw [List.getElem?_append_right (by rw [marks_len]; exact Nat.le_refl _), marks_len, List.getElem?_drop]
  simp
theorem mark_set (l : List Dw) {k j : Nat} (h : j < l.length) : (marks k j ++ l.drop j).set j (mk5 (k + j * 5)) = marks k (j + 1) ++ l.drop (j + 1) := by
  rw [List.set_append_right _ _ (by rw [marks_len]; exact Nat.le_refl _), marks_len, Nat.sub_self]
  rw [show marks k (j + 1) = marks k j ++ [mk5 (k + j * 5)] by simp [marks, List.range_succ], List.append_assoc]
  congr 1
  rw [show l.drop j = l[j] :: l.drop (j + 1) from (List.getElem_cons_drop ..).symm]
  rfl
/-- A slice whose row lies in the blocks from B up to C. -/
def DSc (w : World) (B C : Nat) (v : Value) (l : List Dw) : Prop :=
  ∃ a cap, v = .slice a l.length cap ∧ l.length ≤ cap ∧ (0 < l.length → ∃ g, a = some ⟨g, 0, none⟩ ∧ B ≤ g ∧ g < C ∧ DRow w g l)
theorem DSl.upto {w : World} {B : Nat} {v : Value} {l : List Dw} (h : DSl w B v l) : DSc w B w.heap.size v l := by
  obtain ⟨a, cap, h1, h2, h3⟩ := h
  exact ⟨a, cap, h1, h2, fun hl => by obtain ⟨g, e, hB, hr⟩ := h3 hl; exact ⟨g, e, hB, hr.lt, hr⟩⟩
theorem DSc.dsl {w : World} {B C : Nat} {v : Value} {l : List Dw} (h : DSc w B C v l) : DSl w B v l := by
  obtain ⟨a, cap, h1, h2, h3⟩ := h
  exact ⟨a, cap, h1, h2, fun hl => by obtain ⟨g, e, hB, _, hr⟩ := h3 hl; exact ⟨g, e, hB, hr⟩⟩
theorem DSc.below {w w' : World} {B C : Nat} {v : Value} {l : List Dw} (h : DSc w B C v l) (hb : Below w.heap.size w w') : DSc w' B C v l := by
  obtain ⟨a, cap, h1, h2, h3⟩ := h
  exact ⟨a, cap, h1, h2, fun hl => by obtain ⟨g, e, hB, hC, hr⟩ := h3 hl; exact ⟨g, e, hB, hC, hr.below hb hr.lt⟩⟩
/-- Nothing has turned but in the blocks from B up to C. -/
def Mid (B C : Nat) (w w' : World) : Prop := Below B w w' ∧ ∀ b, C ≤ b → b < w.heap.size → w'.heap[b]? = w.heap[b]?
theorem Mid.dsl {B C D : Nat} {w w' : World} {v : Value} {l : List Dw} (h : Mid B C w w') (k : DSl w D v l) (hD : C ≤ D) : DSl w' D v l :=
  k.block fun g hg hl => h.2 g (Nat.le_trans hD hg) hl
theorem Mid.dsc_lo {B C D E : Nat} {w w' : World} {v : Value} {l : List Dw} (h : Mid B C w w') (k : DSc w D E v l) (hE : E ≤ B) : DSc w' D E v l := by
  obtain ⟨a, cap, h1, h2, h3⟩ := k
  exact ⟨a, cap, h1, h2, fun hl => by obtain ⟨g, e, hB, hC, hr⟩ := h3 hl; exact ⟨g, e, hB, hC, hr.below h.1 (by omega)⟩⟩
theorem Mid.dsc_hi {B C D E : Nat} {w w' : World} {v : Value} {l : List Dw} (h : Mid B C w w') (k : DSc w D E v l) (hD : C ≤ D) : DSc w' D E v l := by
  obtain ⟨a, cap, h1, h2, h3⟩ := k
  exact ⟨a, cap, h1, h2, fun hl => by obtain ⟨g, e, hB, hC, hr⟩ := h3 hl; exact ⟨g, e, hB, hC, hr.block (h.2 g (by omega) hr.lt)⟩⟩
theorem Mid.set {B C g o : Nat} {w w' : World} (h : Mid B C w w') (hB : B ≤ g) (hC : g < C) (u : Value) : Mid B C w (w'.setCell ⟨g, o, none⟩ u) :=
  ⟨h.1.setCell (p := ⟨g, o, none⟩) hB u, fun b hb hl => by rw [Below.heap_setCell _ _ _ _ (by show b ≠ g; omega)]; exact h.2 b hb hl⟩
theorem Mid.refl (B C : Nat) (w : World) : Mid B C w w := ⟨Below.refl _ _, fun _ _ _ => rfl⟩
attribute [local irreducible] World.cell?
set_option maxRecDepth 100000 in
set_option maxHeartbeats 3200000 in
theorem markDs (B C k : Nat) (v : Value) (l : List Dw) (w : World) (hv : DSc w B C v l) (hm : l.length ≤ 1048576) (hk : k ≤ 1073741824) :
    Calls Try.prog 45 #[v, .int .i64 k] w fun e w' => e = .returned (.int .i64 ((k + l.length * 5 : Nat) : Int)) ∧ DSc w' B C v (marks k l.length) ∧ Mid B C w w' := by
  obtain ⟨a, cap, rfl, hcap, hr⟩ := hv
  have Hr := Lib.hid hr
  clear hr
  go_enter Try.func45, Try.ntmps45
  go_wp2_with fail
  go_loopw [1, 5] (fun m i wr => ∃ j : Nat, j ≤ l.length ∧ m = .int .i64 ((k + j * 5 : Nat) : Int) ∧ i = .int .i64 j ∧ Hid (∀ g, a = some ⟨g, 0, none⟩ → B ≤ g → g < C → DRow w g l → DRow wr g (marks k j ++ l.drop j)) ∧ Hid (Mid B C w wr)) (fun _ i _ => l.length - (intOf i).toNat)
  case atStart => exact ⟨0, Nat.zero_le _, by simp, rfl, fun g _ _ _ h => by simpa [marks] using h, Mid.refl _ _ _⟩
  case round =>
    obtain ⟨j, hj, rfl, rfl, Hrow, Hm⟩ := hrel
    by_cases hlt : j < l.length
    · obtain ⟨g, rfl, hB, hC, hrow0⟩ := Hr.out (by omega)
      have hrow := Hrow.out g rfl hB hC hrow0
      obtain ⟨x, hx⟩ : ∃ x, l[j]? = some x := ⟨l[j], List.getElem?_eq_getElem hlt⟩
      obtain ⟨c0, c1, c2, c3, c4⟩ := hrow.cells ((mark_at l hlt).trans hx)
      have f1 := fun o => hrow.free o
      have hr2 := hrow.put j (by simp [marks_len]; omega) (mk5 (k + j * 5))
      rw [mark_set l hlt] at hr2
      have Hr2 := Lib.hid hr2
      have Hm2 := Lib.hid (((((Hm.out.set hB hC (o := j * 5) (.int .i64 (mk5 (k + j * 5)).n.a)).set hB hC (o := j * 5 + 1) (.int .i64 (mk5 (k + j * 5)).n.b)).set hB hC (o := j * 5 + 2) (.int .i64 (mk5 (k + j * 5)).n.c)).set hB hC (o := j * 5 + 3) (.int .i64 (mk5 (k + j * 5)).n.d)).set hB hC (o := j * 5 + 4) (.int .i64 (mk5 (k + j * 5)).e))
      clear hr2 hrow Hrow Hm hrow0 hx
      have m0 : (mk5 (k + j * 5)).n.a = (k : Int) + j * 5 := by simp [mk5]
      have m1 : (mk5 (k + j * 5)).n.b = (k : Int) + j * 5 + 1 := by simp [mk5]
      have m2 : (mk5 (k + j * 5)).n.c = (k : Int) + j * 5 + 1 + 1 := by simp [mk5]; omega
      have m3 : (mk5 (k + j * 5)).n.d = (k : Int) + j * 5 + 1 + 1 + 1 := by simp [mk5]; omega
      have m4 : (mk5 (k + j * 5)).e = (k : Int) + j * 5 + 1 + 1 + 1 + 1 := by simp [mk5]; omega
      rw [m0, m1, m2, m3, m4] at Hr2 Hm2
      clear m0 m1 m2 m3 m4
      go_wp2_with fail
      go_roundw
      case rel => exact ⟨j + 1, by omega, by go_num, by go_num, fun g' hg _ _ _ => by cases hg; exact Hr2.out, Hm2⟩
      case measure => simp [intOf]; omega
    · obtain rfl : j = l.length := by omega
      go_wp2_with fail
      go_ret
      refine ⟨rfl, ⟨_, _, by rw [marks_len], by rw [marks_len]; exact hcap, fun hl => ?_⟩, Hm.out⟩
      rw [marks_len] at hl
      obtain ⟨g, e, hB, hC, hrow0⟩ := Hr.out hl
      exact ⟨g, e, hB, hC, by simpa using Hrow.out g e hB hC hrow0⟩
set_option maxRecDepth 100000 in
set_option maxHeartbeats 3200000 in
theorem heldDs (B k n : Nat) (v : Value) (w : World) (hv : DSl w B v (marks k n)) (hm : n ≤ 1048576) (hk : k ≤ 1073741824) :
    Calls Try.prog 46 #[v, .int .i64 k] w fun e w' => e = .returned (.int .i64 ((k + n * 5 : Nat) : Int)) ∧ w = w' := by
  obtain ⟨a, cap, rfl, hcap, hr⟩ := hv
  rw [marks_len] at hcap hr ⊢
  have Hr := Lib.hid hr
  clear hr
  go_enter Try.func46, Try.ntmps46
  go_wp2_with fail
  go_loopw [1, 5] (fun m i wr => ∃ j : Nat, j ≤ n ∧ m = .int .i64 ((k + j * 5 : Nat) : Int) ∧ i = .int .i64 j ∧ w = wr) (fun _ i _ => n - (intOf i).toNat)
  case atStart => exact ⟨0, Nat.zero_le _, by simp, rfl, rfl⟩
  case round =>
    obtain ⟨j, hj, rfl, rfl, rfl⟩ := hrel
    by_cases hlt : j < n
    · obtain ⟨g, rfl, hB, hrow⟩ := Hr.out (by omega)
      obtain ⟨c0, c1, c2, c3, c4⟩ := hrow.cells (marks_at hlt)
      have m0 : (mk5 (k + j * 5)).n.a = (k : Int) + j * 5 := by simp [mk5]
      have m1 : (mk5 (k + j * 5)).n.b = (k : Int) + j * 5 + 1 := by simp [mk5]
      have m2 : (mk5 (k + j * 5)).n.c = (k : Int) + j * 5 + 1 + 1 := by simp [mk5]; omega
      have m3 : (mk5 (k + j * 5)).n.d = (k : Int) + j * 5 + 1 + 1 + 1 := by simp [mk5]; omega
      have m4 : (mk5 (k + j * 5)).e = (k : Int) + j * 5 + 1 + 1 + 1 + 1 := by simp [mk5]; omega
      rw [m0] at c0; rw [m1] at c1; rw [m2] at c2; rw [m3] at c3; rw [m4] at c4
      clear m0 m1 m2 m3 m4 hrow
      go_wp2_with fail
      go_roundw
      case rel => exact ⟨j + 1, by omega, by go_num, by go_num, trivial⟩
      case measure => simp [intOf]; omega
    · obtain rfl : j = n := by omega
      go_wp2_with fail
      go_ret
      exact ⟨rfl, rfl⟩
end Go.Proofs.Ytlmiebeffdcfhaa
namespace Go.Proofs.Ytlmiebeffdcfhaa
open Go.RowKit
theorem row_below {w w' : World} {base : Nat} {e : TypeId} {size : Nat} {v : Value} {n : Nat} {xs : List Value} (h : w.ownsRow base e size v n xs) (hb : Below w.heap.size w w') : w'.ownsRow base e size v n xs := by
  obtain ⟨h1, h2⟩ := h
  refine ⟨h1, ?_⟩
  rcases h2 with h2 | ⟨g, cap, cur, a, b, c, d⟩
  · exact .inl h2
  · exact .inr ⟨g, cap, cur, a, b, by rw [hb.block g (lt_of_block c)]; exact c, d⟩
/-- An element of a row and a box. -/
def FB (w : World) (g o : Nat) (x : Dw) (b : Nat) (y : Dw) (w' : World) : Prop := w'.cell? ⟨g, o, none⟩ = some (.int .i64 x.n.a) ∧ w'.cell? ⟨g, o + 1, none⟩ = some (.int .i64 x.n.b) ∧ w'.cell? ⟨g, o + 2, none⟩ = some (.int .i64 x.n.c) ∧ w'.cell? ⟨g, o + 3, none⟩ = some (.int .i64 x.n.d) ∧ w'.cell? ⟨g, o + 4, none⟩ = some (.int .i64 x.e) ∧ w'.cell? ⟨b, 0, none⟩ = some (.int .i64 y.n.a) ∧ w'.cell? ⟨b, 1, none⟩ = some (.int .i64 y.n.b) ∧ w'.cell? ⟨b, 2, none⟩ = some (.int .i64 y.n.c) ∧ w'.cell? ⟨b, 3, none⟩ = some (.int .i64 y.n.d) ∧ w'.cell? ⟨b, 4, none⟩ = some (.int .i64 y.e) ∧ g < w'.heap.size ∧ b < w'.heap.size ∧ Below w.heap.size w w'
theorem FB.drew {w w' : World} {g o b : Nat} {x y : Dw} (h : FB w g o x b y w') : FB w g o x b y w'.drew :=
  let ⟨a0, a1, a2, a3, a4, b0, b1, b2, b3, b4, z, z', l⟩ := h; ⟨a0, a1, a2, a3, a4, b0, b1, b2, b3, b4, z, z', l.drew⟩
theorem FB.below {w w1 w2 : World} {g o b : Nat} {x y : Dw} (h : FB w g o x b y w1) (hb : Below w1.heap.size w1 w2) : FB w g o x b y w2 :=
  let ⟨a0, a1, a2, a3, a4, b0, b1, b2, b3, b4, z, z', l⟩ := h
  ⟨cell_below a0 hb z, cell_below a1 hb z, cell_below a2 hb z, cell_below a3 hb z, cell_below a4 hb z, cell_below b0 hb z', cell_below b1 hb z', cell_below b2 hb z', cell_below b3 hb z', cell_below b4 hb z', Nat.lt_of_lt_of_le z hb.size, Nat.lt_of_lt_of_le z' hb.size, below_up l hb l.size⟩
theorem FB.alloc {w w1 : World} {g o b : Nat} {x y : Dw} (h : FB w g o x b y w1) (p : Obj) : FB w g o x b y (w1.alloc p) := h.below ((Below.refl _ _).alloc (Nat.le_refl _) p)
theorem FB.realloc {w W : World} {g o b : Nat} {x y : Dw} {lim : Nat} {p q : Obj} (h : FB w g o x b y (W.alloc p)) (hq : lim ≤ W.heap.size) (hn : g < lim ∧ b < lim) (hw : w.heap.size ≤ lim) : FB w g o x b y (W.alloc q) :=
  let ⟨a0, a1, a2, a3, a4, b0, b1, b2, b3, b4, _, _, l⟩ := h
  ⟨cell_realloc a0 (by omega), cell_realloc a1 (by omega), cell_realloc a2 (by omega), cell_realloc a3 (by omega), cell_realloc a4 (by omega), cell_realloc b0 (by omega), cell_realloc b1 (by omega), cell_realloc b2 (by omega), cell_realloc b3 (by omega), cell_realloc b4 (by omega), (by simp; omega), (by simp; omega), below_realloc l (by omega) (by omega)⟩
theorem FB.set5 {w W : World} {g o b : Nat} {x y : Dw} {lim k : Nat} {u0 u1 u2 u3 u4 : Value} (h : FB w g o x b y W) (hq : lim ≤ k) (hn : g < lim ∧ b < lim) (hw : w.heap.size ≤ lim) :
    FB w g o x b y (((((W.setCell ⟨k, 0, none⟩ u0).setCell ⟨k, 1, none⟩ u1).setCell ⟨k, 2, none⟩ u2).setCell ⟨k, 3, none⟩ u3).setCell ⟨k, 4, none⟩ u4) :=
  let ⟨a0, a1, a2, a3, a4, b0, b1, b2, b3, b4, z, z', l⟩ := h
  ⟨cell_far5 a0 (by omega), cell_far5 a1 (by omega), cell_far5 a2 (by omega), cell_far5 a3 (by omega), cell_far5 a4 (by omega), cell_far5 b0 (by omega), cell_far5 b1 (by omega), cell_far5 b2 (by omega), cell_far5 b3 (by omega), cell_far5 b4 (by omega), (by simpa [World.setCell] using z), (by simpa [World.setCell] using z'), ((((l.setCell (p := ⟨k, 0, none⟩) (Nat.le_trans hw hq) _).setCell (p := ⟨k, 1, none⟩) (Nat.le_trans hw hq) _).setCell (p := ⟨k, 2, none⟩) (Nat.le_trans hw hq) _).setCell (p := ⟨k, 3, none⟩) (Nat.le_trans hw hq) _).setCell (p := ⟨k, 4, none⟩) (Nat.le_trans hw hq) _⟩
theorem FB.low {w w' : World} {g o b : Nat} {x y : Dw} (h : FB w g o x b y w') : Below w.heap.size w w' := let ⟨_, _, _, _, _, _, _, _, _, _, _, _, l⟩ := h; l
theorem E2.alloc {w w1 : World} {g g' o : Nat} {x y : Dw} (h : E2 w g g' o x y w1) (p : Obj) : E2 w g g' o x y (w1.alloc p) := h.below ((Below.refl _ _).alloc (Nat.le_refl _) p)
theorem E2.realloc {w W : World} {g g' o : Nat} {x y : Dw} {lim : Nat} {p q : Obj} (h : E2 w g g' o x y (W.alloc p)) (hq : lim ≤ W.heap.size) (hn : g < lim ∧ g' < lim) (hw : w.heap.size ≤ lim) : E2 w g g' o x y (W.alloc q) :=
  let ⟨a0, a1, a2, a3, a4, b0, b1, b2, b3, b4, _, _, l⟩ := h
  ⟨cell_realloc a0 (by omega), cell_realloc a1 (by omega), cell_realloc a2 (by omega), cell_realloc a3 (by omega), cell_realloc a4 (by omega), cell_realloc b0 (by omega), cell_realloc b1 (by omega), cell_realloc b2 (by omega), cell_realloc b3 (by omega), cell_realloc b4 (by omega), (by simp; omega), (by simp; omega), below_realloc l (by omega) (by omega)⟩
theorem E2.set5 {w W : World} {g g' o : Nat} {x y : Dw} {lim k : Nat} {u0 u1 u2 u3 u4 : Value} (h : E2 w g g' o x y W) (hq : lim ≤ k) (hn : g < lim ∧ g' < lim) (hw : w.heap.size ≤ lim) :
    E2 w g g' o x y (((((W.setCell ⟨k, 0, none⟩ u0).setCell ⟨k, 1, none⟩ u1).setCell ⟨k, 2, none⟩ u2).setCell ⟨k, 3, none⟩ u3).setCell ⟨k, 4, none⟩ u4) :=
  let ⟨a0, a1, a2, a3, a4, b0, b1, b2, b3, b4, z, z', l⟩ := h
  ⟨cell_far5 a0 (by omega), cell_far5 a1 (by omega), cell_far5 a2 (by omega), cell_far5 a3 (by omega), cell_far5 a4 (by omega), cell_far5 b0 (by omega), cell_far5 b1 (by omega), cell_far5 b2 (by omega), cell_far5 b3 (by omega), cell_far5 b4 (by omega), (by simpa [World.setCell] using z), (by simpa [World.setCell] using z'), ((((l.setCell (p := ⟨k, 0, none⟩) (Nat.le_trans hw hq) _).setCell (p := ⟨k, 1, none⟩) (Nat.le_trans hw hq) _).setCell (p := ⟨k, 2, none⟩) (Nat.le_trans hw hq) _).setCell (p := ⟨k, 3, none⟩) (Nat.le_trans hw hq) _).setCell (p := ⟨k, 4, none⟩) (Nat.le_trans hw hq) _⟩
end Go.Proofs.Ytlmiebeffdcfhaa
namespace Go.Proofs.Ytlmiebeffdcfhaa
open Go.RowKit
namespace Enc
variable {α : Type} (E : Enc α)
/-- A slice whose row lies in the blocks from B up to C. -/
def Sc (w : World) (B C : Nat) (v : Value) (l : List α) : Prop :=
  ∃ a cap, v = .slice a l.length cap ∧ l.length ≤ cap ∧ (0 < l.length → ∃ g, a = some ⟨g, 0, none⟩ ∧ B ≤ g ∧ g < C ∧ E.Row w g l)
variable {E}
theorem Sl.upto {w : World} {B : Nat} {v : Value} {l : List α} (h : E.Sl w B v l) : E.Sc w B w.heap.size v l := by
  obtain ⟨a, cap, h1, h2, h3⟩ := h
  exact ⟨a, cap, h1, h2, fun hl => by obtain ⟨g, e, hB, hr⟩ := h3 hl; exact ⟨g, e, hB, hr.lt, hr⟩⟩
theorem Sc.sl {w : World} {B C : Nat} {v : Value} {l : List α} (h : E.Sc w B C v l) : E.Sl w B v l := by
  obtain ⟨a, cap, h1, h2, h3⟩ := h
  exact ⟨a, cap, h1, h2, fun hl => by obtain ⟨g, e, hB, _, hr⟩ := h3 hl; exact ⟨g, e, hB, hr⟩⟩
theorem Sc.below {w w' : World} {B C : Nat} {v : Value} {l : List α} (h : E.Sc w B C v l) (hb : Below w.heap.size w w') : E.Sc w' B C v l := by
  obtain ⟨a, cap, h1, h2, h3⟩ := h
  exact ⟨a, cap, h1, h2, fun hl => by obtain ⟨g, e, hB, hC, hr⟩ := h3 hl; exact ⟨g, e, hB, hC, hr.below hb hr.lt⟩⟩
theorem Sc.lo {B C D F : Nat} {w w' : World} {v : Value} {l : List α} (k : E.Sc w D F v l) (h : Mid B C w w') (hE : F ≤ B) : E.Sc w' D F v l := by
  obtain ⟨a, cap, h1, h2, h3⟩ := k
  exact ⟨a, cap, h1, h2, fun hl => by obtain ⟨g, e, hB, hC, hr⟩ := h3 hl; exact ⟨g, e, hB, hC, hr.below h.1 (by omega)⟩⟩
theorem Sc.hi {B C D F : Nat} {w w' : World} {v : Value} {l : List α} (k : E.Sc w D F v l) (h : Mid B C w w') (hD : C ≤ D) : E.Sc w' D F v l := by
  obtain ⟨a, cap, h1, h2, h3⟩ := k
  exact ⟨a, cap, h1, h2, fun hl => by obtain ⟨g, e, hB, hC, hr⟩ := h3 hl; exact ⟨g, e, hB, hC, hr.block (h.2 g (by omega) hr.lt)⟩⟩
/-- The head of a slice. -/
theorem Sl.take {w : World} {B n cap : Nat} {a : Option Addr} {l : List α} (h : E.Sl w B (.slice a n cap) l) (k : Nat) (hk : k ≤ l.length) : E.Sl w B (.slice a k cap) (l.take k) := by
  obtain ⟨a', cap', h1, h2, h3⟩ := h
  injection h1 with e1 e2 e3
  subst e1 e2 e3
  have hl : (l.take k).length = k := by rw [List.length_take]; omega
  exact ⟨_, _, by rw [hl], by rw [hl]; omega, fun h0 => by
    rw [hl] at h0
    obtain ⟨g, e, hB, hr⟩ := h3 (by omega)
    exact ⟨g, e, hB, hr.take k⟩⟩
end Enc
end Go.Proofs.Ytlmiebeffdcfhaa
namespace Go.Proofs.Ytlmiebeffdcfhaa
open Go.ChangeShapes Go.WideShapes Go.ChangeAt Go.RowKit Go.Lib Go.Joins
set_option maxRecDepth 100000 in
set_option maxHeartbeats 400000 in
theorem dw_cells {H : Type} {enc : TypeId × Value → H} {w : World} {base : Nat} {spare : Nat → Bool} {held : Bool} {fuel : Nat} {cs : List Value} {y : DataW H × List MemPlace}
    (h : DataW.trod enc Try.prog w base spare held fuel 85 cs = some y) : ∃ x : Dw, cs = fl x ∧ -9223372036854775808 ≤ x.e ∧ x.e ≤ 9223372036854775807 := by
  obtain ⟨y0, y1, n, _, hl, h0, h1⟩ := trod_struct2 Try.underlying85 h
  match cs, hl.trans cells_dw with
  | [c0, c1, c2, c3, c4], _ =>
    simp [cells_zw, cells_in] at h0 h1
    obtain ⟨z0, z1, z2, z3, m, _, _, g0, g1, g2, g3⟩ := trod_struct4 Try.underlying83 h0
    simp [cells_in] at g0 g1 g2 g3
    obtain ⟨a, ea, -, -⟩ := DataW.trod_int Try.underlying3 g0
    obtain ⟨b, eb, -, -⟩ := DataW.trod_int Try.underlying3 g1
    obtain ⟨c, ec, -, -⟩ := DataW.trod_int Try.underlying3 g2
    obtain ⟨e, ed, -, -⟩ := DataW.trod_int Try.underlying3 g3
    obtain ⟨k, ek, -, wk⟩ := DataW.trod_int Try.underlying3 h1
    obtain rfl := List.head_eq_of_cons_eq ea
    obtain rfl := List.head_eq_of_cons_eq eb
    obtain rfl := List.head_eq_of_cons_eq ec
    obtain rfl := List.head_eq_of_cons_eq ed
    obtain rfl := List.head_eq_of_cons_eq ek
    exact ⟨⟨⟨a, b, c, e⟩, k⟩, rfl, (bounds_i64 wk).1, (bounds_i64 wk).2⟩
set_option maxRecDepth 100000 in
set_option maxHeartbeats 400000 in
theorem open_ds {H : Type} {enc : TypeId × Value → H} {w : World} {spare : Nat → Bool} {held : Bool} {r : Reach} {b0 : Nat} {v : Value} {d : DataW H} {p : List MemPlace}
    (hv : Value.okWide Try.prog w r b0 59 v) (h : DataW.Trod enc Try.prog w 0 spare held 59 v d p) :
    ∃ a0 cap l, v = .slice a0 (List.length l) cap ∧ DsIn w w.heap.size a0 l := by
  obtain ⟨a0, len, cap, rfl⟩ := okWide_slice Try.underlying59 hv
  obtain ⟨fuel, hf⟩ := h
  rcases Deep.open_slice Try.underlying59 hf with ⟨hcs, _⟩ | ⟨x, l, c, m, n, D, Pl, hcs, _, hl, hm, hmm, _, hx⟩
  · simp [Value.cells] at hcs
    obtain ⟨rfl, rfl, rfl⟩ := hcs
    refine ⟨none, 0, [], rfl, ?_⟩
    exact ⟨Nat.zero_le _, fun y hy => absurd hy List.not_mem_nil, fun h => absurd h (by simp)⟩
  · simp [Value.cells] at hcs
    obtain ⟨rfl, rfl, rfl⟩ := hcs
    have hlm : len ≤ m := by rw [hmm]; split <;> omega
    haveI : Inhabited Dw := ⟨.zero⟩
    obtain ⟨X, hX⟩ := Deep.choose_lt (α := Dw) (p := fun i y => (∀ k, k < 5 → w.cell? ((x.add (i * 5)).add k) = (fl y)[k]?) ∧ -9223372036854775808 ≤ y.e ∧ y.e ≤ 9223372036854775807) (n := len) (fun i hi => by
      obtain ⟨cs', h1, h2⟩ := hx i (by omega)
      rw [cellsLw] at h1
      obtain ⟨_, _, h3⟩ := World.cells?_some h1
      obtain ⟨y, rfl, b0, b1⟩ := dw_cells h2
      exact ⟨y, h3, b0, b1⟩)
    have hlen : ((List.range len).map X).length = len := by simp
    refine ⟨some x, cap, (List.range len).map X, by rw [hlen], by rw [hlen]; omega, fun y hy => ?_, fun h0 => ?_⟩
    · obtain ⟨i, hi, rfl⟩ := List.mem_map.1 hy
      exact (hX i (List.mem_range.1 hi)).2
    · rw [hlen] at h0
      obtain ⟨b, off, spot⟩ := x
      have hc0 := (hX 0 h0).1 0 (by omega)
      have e0 : ((⟨b, off, spot⟩ : Addr).add (0 * 5)).add 0 = ⟨b, off, spot⟩ := by simp [Addr.add]
      rw [e0] at hc0
      have hspot : spot = none := World.cell?_spot (v := .int .i64 (X 0).n.a) hc0
      subst hspot
      refine ⟨b, off, rfl, ?_, fun j y hy => ?_⟩
      · exact World.block_lt_of_cell? _ _ (show w.cell? ⟨b, off, none⟩ = some (.int .i64 (X 0).n.a) from hc0)
      · rw [List.getElem?_map] at hy
        have hj : j < len := by
          rcases Nat.lt_or_ge j len with h' | h'
          · exact h'
          · rw [List.getElem?_eq_none (by simpa using h')] at hy; cases hy
        rw [List.getElem?_range hj] at hy
        injection hy with hy
        have hY := (hX j hj).1
        rw [hy] at hY
        have ha : ∀ k, (((⟨b, off, none⟩ : Addr).add (j * 5)).add k) = ⟨b, off + j * 5 + k, none⟩ := by
          intro k
          unfold Addr.add
          by_cases h1 : j * 5 = 0
          · by_cases h2 : k = 0
            · simp [h1, h2]
            · simp [h1, h2]
          · by_cases h2 : k = 0
            · simp [h1, h2]
            · simp [h1, h2]
        have h5 := fun k hk => (congrArg w.cell? (ha k)).symm.trans (hY k hk)
        exact ⟨h5 0 (by omega), h5 1 (by omega), h5 2 (by omega), h5 3 (by omega), h5 4 (by omega)⟩
end Go.Proofs.Ytlmiebeffdcfhaa
namespace Go.Proofs.Ytlmiebeffdcfhaa
open Go.RowKit
theorem rep_at {N k : Nat} (h : k < N) : (List.replicate N Dw.zero)[k]? = some .zero := by rw [List.getElem?_replicate, if_pos h]
attribute [local irreducible] World.cell?
set_option maxRecDepth 100000 in
set_option maxHeartbeats 1600000 in
theorem sbasis1 (k : Nat) (w : World) (hk : k < 2) :
    Calls Try.prog 56 #[.int .i64 1, .int .i64 k] w fun e w' => ∃ v, e = .returned v ∧ DSl w' w.heap.size v ((List.replicate 2 Dw.zero).set k oneD) ∧ Below w.heap.size w w' := by
  obtain ⟨i0, hi, hz0, hz1, hz2⟩ := info_parts infoDw
  have H1 := Lib.hid (fun w => lin_any 1 1 4 true w (by decide))
  have H2 := Lib.hid (fun w => lin_any k 0 1 true w (by simp; omega))
  have Ho := Lib.hid (fun w => sone_any w)
  go_enter Try.func56, Try.ntmps56
  go_wp2_with fail
  refine (H1.out _).mono ?_
  rintro e w1 ⟨rfl, rfl⟩
  go_wp2_with fail
  refine (H2.out _).mono ?_
  rintro e w1 ⟨rfl, rfl⟩
  go_wp2_with (first | (at_make; refine wpList_make_full _ rfl _ _ 62 rfl w.heap.size 68 i0 (.agg #[.int .i64 0, .int .i64 0, .int .i64 0, .int .i64 0, .int .i64 0]) 5 Try.underlying62 hi hz0 hz1 .i64 .i64 2 2 2 rfl rfl rfl rfl (by rw [hz2]; omega) (by unfold maxLen; omega) (Nat.le_refl _) ?_))
  intro w1 hown hgrow
  have hb1 : Below w.heap.size w w1 := (Below.refl _ _).grown hgrow (Nat.le_refl _) (fun k hk => by cases hk)
  have hrow1 : DRow w1 w.heap.size (List.replicate 2 .zero) := by
    rcases hown.2 with ⟨h, _⟩ | ⟨g, cap, cur, hv, hb, hg, _, _, hs, ht⟩
    · cases h
    · obtain ⟨rfl, rfl⟩ : g = w.heap.size ∧ cap = 2 := by injection hv with hv _ hv2; injection hv with hv; injection hv with hv; exact ⟨hv.symm, hv2.symm⟩
      exact ⟨cur, hg, by rw [List.length_replicate, ht]; exact made_flat 2⟩
  have Hb1 := Lib.hid hb1
  have Hrow1 := Lib.hid hrow1
  clear hown hgrow hb1 hrow1
  go_wp2_with fail
  refine (Ho.out _).mono ?_
  rintro e w2 ⟨rfl, hb2⟩
  have hr2 := Hrow1.out.below hb2 Hrow1.out.lt
  obtain ⟨e0, e1, e2, e3, e4⟩ := hr2.cells (rep_at hk)
  have f1 := fun o => hr2.free o
  have Hr3 := Lib.hid (hr2.put k (by simpa using hk) oneD)
  have Hb2 := Lib.hid (Hb1.out.trans (hb2.mono Hb1.out.size))
  clear hr2 hb2 Hrow1 H1 H2 Ho
  go_wp2_with fail
  go_ret
  refine ⟨_, rfl, DSl.mk (by simp) (Nat.le_refl _) (Nat.le_refl _) Hr3.out, ?_⟩
  have := Hb2.out
  go_grown
set_option maxRecDepth 100000 in
set_option maxHeartbeats 1600000 in
theorem sbasis2 (k : Nat) (w : World) (hk : k < 4) :
    Calls Try.prog 56 #[.int .i64 2, .int .i64 k] w fun e w' => ∃ v, e = .returned v ∧ DSl w' w.heap.size v ((List.replicate 4 Dw.zero).set k oneD) ∧ Below w.heap.size w w' := by
  obtain ⟨i0, hi, hz0, hz1, hz2⟩ := info_parts infoDw
  have H1 := Lib.hid (fun w => lin_any 2 1 4 true w (by decide))
  have H2 := Lib.hid (fun w => lin_any k 0 3 true w (by simp; omega))
  have Ho := Lib.hid (fun w => sone_any w)
  go_enter Try.func56, Try.ntmps56
  go_wp2_with fail
  refine (H1.out _).mono ?_
  rintro e w1 ⟨rfl, rfl⟩
  go_wp2_with fail
  refine (H2.out _).mono ?_
  rintro e w1 ⟨rfl, rfl⟩
  go_wp2_with (first | (at_make; refine wpList_make_full _ rfl _ _ 62 rfl w.heap.size 68 i0 (.agg #[.int .i64 0, .int .i64 0, .int .i64 0, .int .i64 0, .int .i64 0]) 5 Try.underlying62 hi hz0 hz1 .i64 .i64 4 4 4 rfl rfl rfl rfl (by rw [hz2]; omega) (by unfold maxLen; omega) (Nat.le_refl _) ?_))
  intro w1 hown hgrow
  have hb1 : Below w.heap.size w w1 := (Below.refl _ _).grown hgrow (Nat.le_refl _) (fun k hk => by cases hk)
  have hrow1 : DRow w1 w.heap.size (List.replicate 4 .zero) := by
    rcases hown.2 with ⟨h, _⟩ | ⟨g, cap, cur, hv, hb, hg, _, _, hs, ht⟩
    · cases h
    · obtain ⟨rfl, rfl⟩ : g = w.heap.size ∧ cap = 4 := by injection hv with hv _ hv2; injection hv with hv; injection hv with hv; exact ⟨hv.symm, hv2.symm⟩
      exact ⟨cur, hg, by rw [List.length_replicate, ht]; exact made_flat 4⟩
  have Hb1 := Lib.hid hb1
  have Hrow1 := Lib.hid hrow1
  clear hown hgrow hb1 hrow1
  go_wp2_with fail
  refine (Ho.out _).mono ?_
  rintro e w2 ⟨rfl, hb2⟩
  have hr2 := Hrow1.out.below hb2 Hrow1.out.lt
  obtain ⟨e0, e1, e2, e3, e4⟩ := hr2.cells (rep_at hk)
  have f1 := fun o => hr2.free o
  have Hr3 := Lib.hid (hr2.put k (by simpa using hk) oneD)
  have Hb2 := Lib.hid (Hb1.out.trans (hb2.mono Hb1.out.size))
  clear hr2 hb2 Hrow1 H1 H2 Ho
  go_wp2_with fail
  go_ret
  refine ⟨_, rfl, DSl.mk (by simp) (Nat.le_refl _) (Nat.le_refl _) Hr3.out, ?_⟩
  have := Hb2.out
  go_grown
set_option maxRecDepth 100000 in
set_option maxHeartbeats 1600000 in
theorem sbasis3 (k : Nat) (w : World) (hk : k < 8) :
    Calls Try.prog 56 #[.int .i64 3, .int .i64 k] w fun e w' => ∃ v, e = .returned v ∧ DSl w' w.heap.size v ((List.replicate 8 Dw.zero).set k oneD) ∧ Below w.heap.size w w' := by
  obtain ⟨i0, hi, hz0, hz1, hz2⟩ := info_parts infoDw
  have H1 := Lib.hid (fun w => lin_any 3 1 4 true w (by decide))
  have H2 := Lib.hid (fun w => lin_any k 0 7 true w (by simp; omega))
  have Ho := Lib.hid (fun w => sone_any w)
  go_enter Try.func56, Try.ntmps56
  go_wp2_with fail
  refine (H1.out _).mono ?_
  rintro e w1 ⟨rfl, rfl⟩
  go_wp2_with fail
  refine (H2.out _).mono ?_
  rintro e w1 ⟨rfl, rfl⟩
  go_wp2_with (first | (at_make; refine wpList_make_full _ rfl _ _ 62 rfl w.heap.size 68 i0 (.agg #[.int .i64 0, .int .i64 0, .int .i64 0, .int .i64 0, .int .i64 0]) 5 Try.underlying62 hi hz0 hz1 .i64 .i64 8 8 8 rfl rfl rfl rfl (by rw [hz2]; omega) (by unfold maxLen; omega) (Nat.le_refl _) ?_))
  intro w1 hown hgrow
  have hb1 : Below w.heap.size w w1 := (Below.refl _ _).grown hgrow (Nat.le_refl _) (fun k hk => by cases hk)
  have hrow1 : DRow w1 w.heap.size (List.replicate 8 .zero) := by
    rcases hown.2 with ⟨h, _⟩ | ⟨g, cap, cur, hv, hb, hg, _, _, hs, ht⟩
    · cases h
    · obtain ⟨rfl, rfl⟩ : g = w.heap.size ∧ cap = 8 := by injection hv with hv _ hv2; injection hv with hv; injection hv with hv; exact ⟨hv.symm, hv2.symm⟩
      exact ⟨cur, hg, by rw [List.length_replicate, ht]; exact made_flat 8⟩
  have Hb1 := Lib.hid hb1
  have Hrow1 := Lib.hid hrow1
  clear hown hgrow hb1 hrow1
  go_wp2_with fail
  refine (Ho.out _).mono ?_
  rintro e w2 ⟨rfl, hb2⟩
  have hr2 := Hrow1.out.below hb2 Hrow1.out.lt
  obtain ⟨e0, e1, e2, e3, e4⟩ := hr2.cells (rep_at hk)
  have f1 := fun o => hr2.free o
  have Hr3 := Lib.hid (hr2.put k (by simpa using hk) oneD)
  have Hb2 := Lib.hid (Hb1.out.trans (hb2.mono Hb1.out.size))
  clear hr2 hb2 Hrow1 H1 H2 Ho
  go_wp2_with fail
  go_ret
  refine ⟨_, rfl, DSl.mk (by simp) (Nat.le_refl _) (Nat.le_refl _) Hr3.out, ?_⟩
  have := Hb2.out
  go_grown
set_option maxRecDepth 100000 in
set_option maxHeartbeats 1600000 in
theorem sbasis4 (k : Nat) (w : World) (hk : k < 16) :
    Calls Try.prog 56 #[.int .i64 4, .int .i64 k] w fun e w' => ∃ v, e = .returned v ∧ DSl w' w.heap.size v ((List.replicate 16 Dw.zero).set k oneD) ∧ Below w.heap.size w w' := by
  obtain ⟨i0, hi, hz0, hz1, hz2⟩ := info_parts infoDw
  have H1 := Lib.hid (fun w => lin_any 4 1 4 true w (by decide))
  have H2 := Lib.hid (fun w => lin_any k 0 15 true w (by simp; omega))
  have Ho := Lib.hid (fun w => sone_any w)
  go_enter Try.func56, Try.ntmps56
  go_wp2_with fail
  refine (H1.out _).mono ?_
  rintro e w1 ⟨rfl, rfl⟩
  go_wp2_with fail
  refine (H2.out _).mono ?_
  rintro e w1 ⟨rfl, rfl⟩
  go_wp2_with (first | (at_make; refine wpList_make_full _ rfl _ _ 62 rfl w.heap.size 68 i0 (.agg #[.int .i64 0, .int .i64 0, .int .i64 0, .int .i64 0, .int .i64 0]) 5 Try.underlying62 hi hz0 hz1 .i64 .i64 16 16 16 rfl rfl rfl rfl (by rw [hz2]; omega) (by unfold maxLen; omega) (Nat.le_refl _) ?_))
  intro w1 hown hgrow
  have hb1 : Below w.heap.size w w1 := (Below.refl _ _).grown hgrow (Nat.le_refl _) (fun k hk => by cases hk)
  have hrow1 : DRow w1 w.heap.size (List.replicate 16 .zero) := by
    rcases hown.2 with ⟨h, _⟩ | ⟨g, cap, cur, hv, hb, hg, _, _, hs, ht⟩
    · cases h
    · obtain ⟨rfl, rfl⟩ : g = w.heap.size ∧ cap = 16 := by injection hv with hv _ hv2; injection hv with hv; injection hv with hv; exact ⟨hv.symm, hv2.symm⟩
      exact ⟨cur, hg, by rw [List.length_replicate, ht]; exact made_flat 16⟩
  have Hb1 := Lib.hid hb1
  have Hrow1 := Lib.hid hrow1
  clear hown hgrow hb1 hrow1
  go_wp2_with fail
  refine (Ho.out _).mono ?_
  rintro e w2 ⟨rfl, hb2⟩
  have hr2 := Hrow1.out.below hb2 Hrow1.out.lt
  obtain ⟨e0, e1, e2, e3, e4⟩ := hr2.cells (rep_at hk)
  have f1 := fun o => hr2.free o
  have Hr3 := Lib.hid (hr2.put k (by simpa using hk) oneD)
  have Hb2 := Lib.hid (Hb1.out.trans (hb2.mono Hb1.out.size))
  clear hr2 hb2 Hrow1 H1 H2 Ho
  go_wp2_with fail
  go_ret
  refine ⟨_, rfl, DSl.mk (by simp) (Nat.le_refl _) (Nat.le_refl _) Hr3.out, ?_⟩
  have := Hb2.out
  go_grown
set_option maxRecDepth 100000 in
set_option maxHeartbeats 800000 in
theorem sbasis_no (n i : Int) (w : World) (h : ¬ (1 ≤ n ∧ n ≤ 4 ∧ 0 ≤ i ∧ i ≤ 2 ^ n.toNat - 1)) :
    Calls Try.prog 56 #[.int .i64 n, .int .i64 i] w fun e w' => ∃ v, e = .returned v ∧ DSl w' w.heap.size v [] ∧ Below w.heap.size w w' := by
  by_cases hn : 1 ≤ n ∧ n ≤ 4
  · have H1 := Lib.hid (fun w => lin_any n 1 4 true w (by simp; omega))
    rcases (show (n = 1 ∧ ¬ (0 ≤ i ∧ i ≤ 1)) ∨ (n = 2 ∧ ¬ (0 ≤ i ∧ i ≤ 3)) ∨ (n = 3 ∧ ¬ (0 ≤ i ∧ i ≤ 7)) ∨ (n = 4 ∧ ¬ (0 ≤ i ∧ i ≤ 15)) by
      rcases (show n = 1 ∨ n = 2 ∨ n = 3 ∨ n = 4 by omega) with rfl | rfl | rfl | rfl
      · exact .inl ⟨rfl, fun k => h ⟨by omega, by omega, k.1, k.2⟩⟩
      · exact .inr (.inl ⟨rfl, fun k => h ⟨by omega, by omega, k.1, k.2⟩⟩)
      · exact .inr (.inr (.inl ⟨rfl, fun k => h ⟨by omega, by omega, k.1, k.2⟩⟩))
      · exact .inr (.inr (.inr ⟨rfl, fun k => h ⟨by omega, by omega, k.1, k.2⟩⟩))) with ⟨rfl, hi⟩ | ⟨rfl, hi⟩ | ⟨rfl, hi⟩ | ⟨rfl, hi⟩
    · have H2 := Lib.hid (fun w => lin_any i 0 1 false w (by simpa using hi))
      clear h hi hn
      go_enter Try.func56, Try.ntmps56
      go_wp2_with fail
      refine (H1.out _).mono ?_
      rintro e w1 ⟨rfl, rfl⟩
      go_wp2_with fail
      refine (H2.out _).mono ?_
      rintro e w1 ⟨rfl, rfl⟩
      go_wp2_with fail
      go_ret
      exact ⟨_, rfl, DSl.nil, by go_grown⟩
    · have H2 := Lib.hid (fun w => lin_any i 0 3 false w (by simpa using hi))
      clear h hi hn
      go_enter Try.func56, Try.ntmps56
      go_wp2_with fail
      refine (H1.out _).mono ?_
      rintro e w1 ⟨rfl, rfl⟩
      go_wp2_with fail
      refine (H2.out _).mono ?_
      rintro e w1 ⟨rfl, rfl⟩
      go_wp2_with fail
      go_ret
      exact ⟨_, rfl, DSl.nil, by go_grown⟩
    · have H2 := Lib.hid (fun w => lin_any i 0 7 false w (by simpa using hi))
      clear h hi hn
      go_enter Try.func56, Try.ntmps56
      go_wp2_with fail
      refine (H1.out _).mono ?_
      rintro e w1 ⟨rfl, rfl⟩
      go_wp2_with fail
      refine (H2.out _).mono ?_
      rintro e w1 ⟨rfl, rfl⟩
      go_wp2_with fail
      go_ret
      exact ⟨_, rfl, DSl.nil, by go_grown⟩
    · have H2 := Lib.hid (fun w => lin_any i 0 15 false w (by simpa using hi))
      clear h hi hn
      go_enter Try.func56, Try.ntmps56
      go_wp2_with fail
      refine (H1.out _).mono ?_
      rintro e w1 ⟨rfl, rfl⟩
      go_wp2_with fail
      refine (H2.out _).mono ?_
      rintro e w1 ⟨rfl, rfl⟩
      go_wp2_with fail
      go_ret
      exact ⟨_, rfl, DSl.nil, by go_grown⟩
  · have H1 := Lib.hid (fun w => lin_any n 1 4 false w (by simpa using hn))
    clear h hn
    go_enter Try.func56, Try.ntmps56
    go_wp2_with fail
    refine (H1.out _).mono ?_
    rintro e w1 ⟨rfl, rfl⟩
    go_wp2_with fail
    go_ret
    exact ⟨_, rfl, DSl.nil, by go_grown⟩
theorem sbasis (n i : Int) (w : World) :
    Calls Try.prog 56 #[.int .i64 n, .int .i64 i] w fun e w' => ∃ v, e = .returned v ∧ DSl w' w.heap.size v (basisL n i) ∧ Below w.heap.size w w' := by
  by_cases h : 1 ≤ n ∧ n ≤ 4 ∧ 0 ≤ i ∧ i ≤ 2 ^ n.toNat - 1
  · rw [show basisL n i = (List.replicate (2 ^ n.toNat) .zero).set i.toNat oneD from if_pos h]
    obtain ⟨h0, h1, h2, h3⟩ := h
    obtain ⟨k, rfl⟩ : ∃ k : Nat, i = k := ⟨i.toNat, by omega⟩
    rcases (show n = 1 ∨ n = 2 ∨ n = 3 ∨ n = 4 by omega) with rfl | rfl | rfl | rfl
    · exact sbasis1 k w (by have : (k : Int) ≤ 1 := h3; omega)
    · exact sbasis2 k w (by have : (k : Int) ≤ 3 := h3; omega)
    · exact sbasis3 k w (by have : (k : Int) ≤ 7 := h3; omega)
    · exact sbasis4 k w (by have : (k : Int) ≤ 15 := h3; omega)
  · rw [show basisL n i = [] from if_neg h]
    exact sbasis_no n i w h
end Go.Proofs.Ytlmiebeffdcfhaa
