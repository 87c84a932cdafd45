/- The laws' own helpers over slices of fractions: mark, hold. -/
import Derived.Test.YtmpafidkpangeaaGreatBaseB02
namespace Go.Proofs.YtmpafidkpangeaaGreat
open Go.RowKit
/-- The mark that begins at k. -/
def mk5 (k : Nat) : Dw := ⟨⟨(k : Int), ((k + 1 : Nat) : Int), ((k + 2 : Nat) : Int), ((k + 3 : Nat) : Int)⟩, ((k + 4 : Nat) : Int)⟩
/-- The marks of a row of n that begins at k. -/
def marks (k n : Nat) : List Dw := (List.range n).map fun j => mk5 (k + j * 5)
theorem marks_len (k n : Nat) : (marks k n).length = n := by simp [marks]
theorem marks_at {k n j : Nat} (h : j < n) : (marks k n)[j]? = some (mk5 (k + j * 5)) := by
  rw [marks, List.getElem?_map, List.getElem?_range h]; rfl
theorem mark_at (l : List Dw) {k j : Nat} (_ : j < l.length) : (marks k j ++ l.drop j)[j]? = l[j]? := by
  rw [List.getElem?_append_right (by rw [marks_len]; exact Nat.le_refl _), marks_len, List.getElem?_drop]
  simp
theorem mark_set (l : List Dw) {k j : Nat} (h : j < l.length) : (marks k j ++ l.drop j).set j (mk5 (k + j * 5)) = marks k (j + 1) ++ l.drop (j + 1) := by
  rw [List.set_append_right _ _ (by rw [marks_len]; exact Nat.le_refl _), marks_len, Nat.sub_self]
  rw [show marks k (j + 1) = marks k j ++ [mk5 (k + j * 5)] by simp [marks, List.range_succ], List.append_assoc]
  congr 1
  rw [show l.drop j = l[j] :: l.drop (j + 1) from (List.getElem_cons_drop ..).symm]
  rfl
/-- A slice whose row lies in the blocks from B up to C. -/
def DSc (w : World) (B C : Nat) (v : Value) (l : List Dw) : Prop :=
  ∃ a cap, v = .slice a l.length cap ∧ l.length ≤ cap ∧ (0 < l.length → ∃ g, a = some ⟨g, 0, none⟩ ∧ B ≤ g ∧ g < C ∧ DRow w g l)
theorem DSl.upto {w : World} {B : Nat} {v : Value} {l : List Dw} (h : DSl w B v l) : DSc w B w.heap.size v l := by
  obtain ⟨a, cap, h1, h2, h3⟩ := h
  exact ⟨a, cap, h1, h2, fun hl => by obtain ⟨g, e, hB, hr⟩ := h3 hl; exact ⟨g, e, hB, hr.lt, hr⟩⟩
theorem DSc.dsl {w : World} {B C : Nat} {v : Value} {l : List Dw} (h : DSc w B C v l) : DSl w B v l := by
  obtain ⟨a, cap, h1, h2, h3⟩ := h
  exact ⟨a, cap, h1, h2, fun hl => by obtain ⟨g, e, hB, _, hr⟩ := h3 hl; exact ⟨g, e, hB, hr⟩⟩
theorem DSc.below {w w' : World} {B C : Nat} {v : Value} {l : List Dw} (h : DSc w B C v l) (hb : Below w.heap.size w w') : DSc w' B C v l := by
  obtain ⟨a, cap, h1, h2, h3⟩ := h
  exact ⟨a, cap, h1, h2, fun hl => by obtain ⟨g, e, hB, hC, hr⟩ := h3 hl; exact ⟨g, e, hB, hC, hr.below hb hr.lt⟩⟩
/-- Nothing has turned but in the blocks from B up to C. -/
def Mid (B C : Nat) (w w' : World) : Prop := Below B w w' ∧ ∀ b, C ≤ b → b < w.heap.size → w'.heap[b]? = w.heap[b]?
theorem Mid.dsl {B C D : Nat} {w w' : World} {v : Value} {l : List Dw} (h : Mid B C w w') (k : DSl w D v l) (hD : C ≤ D) : DSl w' D v l :=
  k.block fun g hg hl => h.2 g (Nat.le_trans hD hg) hl
theorem Mid.set {B C g o : Nat} {w w' : World} (h : Mid B C w w') (hB : B ≤ g) (hC : g < C) (u : Value) : Mid B C w (w'.setCell ⟨g, o, none⟩ u) :=
  ⟨h.1.setCell (p := ⟨g, o, none⟩) hB u, fun b hb hl => by rw [Below.heap_setCell _ _ _ _ (by show b ≠ g; omega)]; exact h.2 b hb hl⟩
theorem Mid.refl (B C : Nat) (w : World) : Mid B C w w := ⟨Below.refl _ _, fun _ _ _ => rfl⟩
attribute [local irreducible] World.cell?
set_option maxRecDepth 100000 in
set_option maxHeartbeats 3200000 in
theorem markDs (B C k : Nat) (v : Value) (l : List Dw) (w : World) (hv : DSc w B C v l) (hm : l.length ≤ 1048576) (hk : k ≤ 1073741824) :
    Calls Tryz.prog 88 #[v, .int .i64 k] w fun e w' => e = .returned (.int .i64 ((k + l.length * 5 : Nat) : Int)) ∧ DSc w' B C v (marks k l.length) ∧ Mid B C w w' := by
  obtain ⟨a, cap, rfl, hcap, hr⟩ := hv
  have Hr := Lib.hid hr
  clear hr
  go_enter Tryz.func88, Tryz.ntmps88
  go_wp2_with fail
  go_loopw [1, 5] (fun m i wr => ∃ j : Nat, j ≤ l.length ∧ m = .int .i64 ((k + j * 5 : Nat) : Int) ∧ i = .int .i64 j ∧ Hid (∀ g, a = some ⟨g, 0, none⟩ → B ≤ g → g < C → DRow w g l → DRow wr g (marks k j ++ l.drop j)) ∧ Hid (Mid B C w wr)) (fun _ i _ => l.length - (intOf i).toNat)
  case atStart => exact ⟨0, Nat.zero_le _, by simp, rfl, fun g _ _ _ h => by simpa [marks] using h, Mid.refl _ _ _⟩
  case round =>
    obtain ⟨j, hj, rfl, rfl, Hrow, Hm⟩ := hrel
    by_cases hlt : j < l.length
    · obtain ⟨g, rfl, hB, hC, hrow0⟩ := Hr.out (by omega)
      have hrow := Hrow.out g rfl hB hC hrow0
      obtain ⟨x, hx⟩ : ∃ x, l[j]? = some x := ⟨l[j], List.getElem?_eq_getElem hlt⟩
      obtain ⟨c0, c1, c2, c3, c4⟩ := hrow.cells ((mark_at l hlt).trans hx)
      have f1 := fun o => hrow.free o
      have hr2 := hrow.put j (by simp [marks_len]; omega) (mk5 (k + j * 5))
      rw [mark_set l hlt] at hr2
      have Hr2 := Lib.hid hr2
      have Hm2 := Lib.hid (((((Hm.out.set hB hC (o := j * 5) (.int .i64 (mk5 (k + j * 5)).n.a)).set hB hC (o := j * 5 + 1) (.int .i64 (mk5 (k + j * 5)).n.b)).set hB hC (o := j * 5 + 2) (.int .i64 (mk5 (k + j * 5)).n.c)).set hB hC (o := j * 5 + 3) (.int .i64 (mk5 (k + j * 5)).n.d)).set hB hC (o := j * 5 + 4) (.int .i64 (mk5 (k + j * 5)).e))
      clear hr2 hrow Hrow Hm hrow0 hx
      have m0 : (mk5 (k + j * 5)).n.a = (k : Int) + j * 5 := by simp [mk5]
      have m1 : (mk5 (k + j * 5)).n.b = (k : Int) + j * 5 + 1 := by simp [mk5]
      have m2 : (mk5 (k + j * 5)).n.c = (k : Int) + j * 5 + 1 + 1 := by simp [mk5]; omega
      have m3 : (mk5 (k + j * 5)).n.d = (k : Int) + j * 5 + 1 + 1 + 1 := by simp [mk5]; omega
      have m4 : (mk5 (k + j * 5)).e = (k : Int) + j * 5 + 1 + 1 + 1 + 1 := by simp [mk5]; omega
      rw [m0, m1, m2, m3, m4] at Hr2 Hm2
      clear m0 m1 m2 m3 m4
      go_wp2_with fail
      go_roundw
      case rel => exact ⟨j + 1, by omega, by go_num, by go_num, fun g' hg _ _ _ => by cases hg; exact Hr2.out, Hm2⟩
      case measure => simp [intOf]; omega
    · obtain rfl : j = l.length := by omega
      go_wp2_with fail
      go_ret
      refine ⟨rfl, ⟨_, _, by rw [marks_len], by rw [marks_len]; exact hcap, fun hl => ?_⟩, Hm.out⟩
      rw [marks_len] at hl
      obtain ⟨g, e, hB, hC, hrow0⟩ := Hr.out hl
      exact ⟨g, e, hB, hC, by simpa using Hrow.out g e hB hC hrow0⟩
set_option maxRecDepth 100000 in
set_option maxHeartbeats 3200000 in
theorem heldDs (B k n : Nat) (v : Value) (w : World) (hv : DSl w B v (marks k n)) (hm : n ≤ 1048576) (hk : k ≤ 1073741824) :
    Calls Tryz.prog 89 #[v, .int .i64 k] w fun e w' => e = .returned (.int .i64 ((k + n * 5 : Nat) : Int)) ∧ w = w' := by
  obtain ⟨a, cap, rfl, hcap, hr⟩ := hv
  rw [marks_len] at hcap hr ⊢
  have Hr := Lib.hid hr
  clear hr
  go_enter Tryz.func89, Tryz.ntmps89
  go_wp2_with fail
  go_loopw [1, 5] (fun m i wr => ∃ j : Nat, j ≤ n ∧ m = .int .i64 ((k + j * 5 : Nat) : Int) ∧ i = .int .i64 j ∧ w = wr) (fun _ i _ => n - (intOf i).toNat)
  case atStart => exact ⟨0, Nat.zero_le _, by simp, rfl, rfl⟩
  case round =>
    obtain ⟨j, hj, rfl, rfl, rfl⟩ := hrel
    by_cases hlt : j < n
    · obtain ⟨g, rfl, hB, hrow⟩ := Hr.out (by omega)
      obtain ⟨c0, c1, c2, c3, c4⟩ := hrow.cells (marks_at hlt)
      have m0 : (mk5 (k + j * 5)).n.a = (k : Int) + j * 5 := by simp [mk5]
      have m1 : (mk5 (k + j * 5)).n.b = (k : Int) + j * 5 + 1 := by simp [mk5]
      have m2 : (mk5 (k + j * 5)).n.c = (k : Int) + j * 5 + 1 + 1 := by simp [mk5]; omega
      have m3 : (mk5 (k + j * 5)).n.d = (k : Int) + j * 5 + 1 + 1 + 1 := by simp [mk5]; omega
      have m4 : (mk5 (k + j * 5)).e = (k : Int) + j * 5 + 1 + 1 + 1 + 1 := by simp [mk5]; omega
      rw [m0] at c0; rw [m1] at c1; rw [m2] at c2; rw [m3] at c3; rw [m4] at c4
      clear m0 m1 m2 m3 m4 hrow
      go_wp2_with fail
      go_roundw
      case rel => exact ⟨j + 1, by omega, by go_num, by go_num, trivial⟩
      case measure => simp [intOf]; omega
    · obtain rfl : j = n := by omega
      go_wp2_with fail
      go_ret
      exact ⟨rfl, rfl⟩
end Go.Proofs.YtmpafidkpangeaaGreat
