/- The laws' own helpers over slices of fractions: mark, hold. -/
import Derived.Test.YtgknokaibgckkaaDoorDsL
namespace Go.Proofs.YtgknokaibgckkaaDoor
open Go.RowKit
/-- The mark that begins at k. -/
def mk5 (k : Nat) : Dw := ⟨⟨(k : Int), ((k + 1 : Nat) : Int), ((k + 2 : Nat) : Int), ((k + 3 : Nat) : Int)⟩, ((k + 4 : Nat) : Int)⟩
/-- The marks of a row of n that begins at k. -/
def marks (k n : Nat) : List Dw := (List.range n).map fun j => mk5 (k + j * 5)
theorem marks_len (k n : Nat) : (marks k n).length = n := by simp [marks]
theorem marks_at {k n j : Nat} (h : j < n) : (marks k n)[j]? = some (mk5 (k + j * 5)) := by
  rw [marks, List.getElem?_map, List.getElem?_range h]; rfl
theorem mark_at (l : List Dw) {k j : Nat} (_ : j < l.length) : (marks k j ++ l.drop j)[j]? = l[j]? := by
  rw [List.getElem?_append_right (by rw [marks_len]; exact Nat.le_refl _), marks_len, List.getElem?_drop]
  simp
theorem mark_set (l : List Dw) {k j : Nat} (h : j < l.length) : (marks k j ++ l.drop j).set j (mk5 (k + j * 5)) = marks k (j + 1) ++ l.drop (j + 1) := by
  rw [List.set_append_right _ _ (by rw [marks_len]; exact Nat.le_refl _), marks_len, Nat.sub_self]
  rw [show marks k (j + 1) = marks k j ++ [mk5 (k + j * 5)] by simp [marks, List.range_succ], List.append_assoc]
  congr 1
  rw [show l.drop j = l[j] :: l.drop (j + 1) from (List.getElem_cons_drop ..).symm]
  rfl
/-- Nothing has turned but in the blocks from B up to C. -/
def Mid (B C : Nat) (w w' : World) : Prop := Below B w w' ∧ ∀ b, C ≤ b → b < w.heap.size → w'.heap[b]? = w.heap[b]?
theorem Mid.set {B C g o : Nat} {w w' : World} (h : Mid B C w w') (hB : B ≤ g) (hC : g < C) (u : Value) : Mid B C w (w'.setCell ⟨g, o, none⟩ u) :=
  ⟨h.1.setCell (p := ⟨g, o, none⟩) hB u, fun b hb hl => by rw [Below.heap_setCell _ _ _ _ (by show b ≠ g; omega)]; exact h.2 b hb hl⟩
theorem Mid.refl (B C : Nat) (w : World) : Mid B C w w := ⟨Below.refl _ _, fun _ _ _ => rfl⟩
attribute [local irreducible] World.cell?
end Go.Proofs.YtgknokaibgckkaaDoor
