/- EqualState of the model. -/
import Derived.Test.YtgknokaibgckkaaDoorDsQ
import Derived.Test.YtgknokaibgckkaaDoorDsF
namespace Go.Proofs.YtgknokaibgckkaaDoor
open Go.RowKit
theorem below_dn {B : Nat} {a w : World} (h : Below B a w) (n : Nat) : Below B a (w.drewN n) := h.trans ⟨rfl, rfl, rfl, Nat.le_refl _, fun _ _ => rfl⟩
theorem eq_take {a b : List Dw} (_ : a.length = b.length) {j : Nat} {x y : Dw} (hx : a[j]? = some x) (hy : b[j]? = some y) (h : a.take j = b.take j) (hxy : x = y) : a.take (j + 1) = b.take (j + 1) := by
  rw [List.take_add_one, List.take_add_one, h, hx, hy, hxy]
attribute [local irreducible] World.cell?
end Go.Proofs.YtgknokaibgckkaaDoor
