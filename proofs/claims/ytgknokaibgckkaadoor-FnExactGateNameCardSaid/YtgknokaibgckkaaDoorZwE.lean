/- DivSqrt2 of the program. -/
import Derived.Test.YtgknokaibgckkaaDoorZwD
namespace Go.Proofs.YtgknokaibgckkaaDoor
open Go.RowKit
attribute [local irreducible] World.cell?
end Go.Proofs.YtgknokaibgckkaaDoor
