/- cancelSqrt2 of the program; NewDOmega of the program and of its model. -/
import Derived.Test.YtgknokaibgckkaaZwDraw2
import Derived.Test.YtgknokaibgckkaaDwM2
namespace Go.Proofs.Ytgknokaibgckkaa
open Go.RowKit
attribute [local irreducible] World.cell?
end Go.Proofs.Ytgknokaibgckkaa
