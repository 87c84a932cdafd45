/- The model's search in a list of integers; validity of gates. -/
import Derived.Test.YtgicldokglpimaaBaseB08
import Derived.Test.YtgicldokglpimaaBaseB12
import Derived.Deep.QuietTactic
import Derived.BigQuiet
namespace Go.Proofs.Ytgicldokglpimaa
open Go.RowKit
theorem mem_take {l : List Int} {j : Nat} {x y : Int} (hx : l[j]? = some x) (h : y ∉ l.take j) (hne : x ≠ y) : y ∉ l.take (j + 1) := by
  rw [List.take_add_one, hx]
  simp
  exact ⟨h, fun e => hne e.symm⟩
attribute [local irreducible] World.cell?
theorem lin_q (x lo hi : Int) (b : Bool) (w : World) (h : decide (lo ≤ x ∧ x ≤ hi) = b) :
    Calls Try.prog 40 #[.int .i64 x, .int .i64 lo, .int .i64 hi] w fun e w' => e = .returned (.bool b) ∧ w' = w :=
  (lin_any x lo hi b w h).mono fun _ _ ⟨a, b⟩ => ⟨a, b.symm⟩
theorem range3_at (j : Nat) (h : j < 3) : (List.range 3)[j]? = some j := by rw [List.getElem?_range h]
end Go.Proofs.Ytgicldokglpimaa
