/- A new cursor; a choice out of a list; the first chapter's draws. -/
import Derived.Test.YtgknokaibgckkaaDoorCur
namespace Go.Proofs.YtgknokaibgckkaaDoor
open Go.RowKit
/-- A list that the call itself made: its cells, one an element. -/
def ListAt (w : World) (b n : Nat) (f : Nat → Value) : Prop := ∀ j, j < n → w.cell? ⟨b, j, none⟩ = some (f j)
theorem ListAt.own {w w' : World} {B b n : Nat} {f : Nat → Value} (h : ListAt w b n f) (ho : Own B w w') (hne : b ≠ B) : ListAt w' b n f := fun j hj =>
  World.grownBy.cell ho (h j hj) (by intro e; injection e with e; exact hne e)
end Go.Proofs.YtgknokaibgckkaaDoor
