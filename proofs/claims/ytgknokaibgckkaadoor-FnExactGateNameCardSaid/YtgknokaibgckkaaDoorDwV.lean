/- cancelSqrt2 of the program; NewDOmega of the program and of its model. -/
import Derived.Test.YtgknokaibgckkaaDoorZwDraw2
import Derived.Test.YtgknokaibgckkaaDoorDwM2
namespace Go.Proofs.YtgknokaibgckkaaDoor
open Go.RowKit
attribute [local irreducible] World.cell?
end Go.Proofs.YtgknokaibgckkaaDoor
