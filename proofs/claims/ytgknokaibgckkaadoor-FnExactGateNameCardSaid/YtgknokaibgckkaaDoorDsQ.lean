/- QubitCount and IsValidState of the model. -/
import Derived.Test.YtgknokaibgckkaaDoorDsP
import Derived.Test.YtgknokaibgckkaaDoorDsL
namespace Go.Proofs.YtgknokaibgckkaaDoor
open Go.RowKit
theorem qc_cases (n : Nat) : (n = 2 ∧ qc n = 1) ∨ (n = 4 ∧ qc n = 2) ∨ (n = 8 ∧ qc n = 3) ∨ (n = 16 ∧ qc n = 4) ∨ (n ≠ 2 ∧ n ≠ 4 ∧ n ≠ 8 ∧ n ≠ 16 ∧ qc n = 0) := by
  unfold qc
  by_cases h2 : n = 2
  · simp [h2]
  · by_cases h4 : n = 4
    · simp [h4]
    · by_cases h8 : n = 8
      · simp [h8]
      · by_cases h16 : n = 16
        · simp [h16]
        · simp [h2, h4, h8, h16]
theorem all_take {α : Type} {p : α → Bool} {l : List α} {j : Nat} {x : α} (hx : l[j]? = some x) (h : (l.take j).all p = true) : (l.take (j + 1)).all p = p x := by
  rw [List.take_add_one, hx, List.all_append, h]
  simp
theorem all_no {α : Type} {p : α → Bool} {l : List α} {j : Nat} {x : α} (hx : l[j]? = some x) (h : p x = false) : l.all p = false := by
  rw [List.all_eq_false]
  exact ⟨x, List.mem_of_getElem? hx, by simp [h]⟩
attribute [local irreducible] World.cell?
end Go.Proofs.YtgknokaibgckkaaDoor
