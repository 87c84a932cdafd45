/- DivSqrt2 of the model; the laws' own helpers: one form into the other, equality field by field. -/
import Derived.Test.YtgknokaibgckkaaDoorZwE
namespace Go.Proofs.YtgknokaibgckkaaDoor
open Go.RowKit
attribute [local irreducible] World.cell?
end Go.Proofs.YtgknokaibgckkaaDoor
