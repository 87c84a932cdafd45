/- DivSqrt2 of the program. -/
import Derived.Test.YtgknokaibgckkaaZwD
namespace Go.Proofs.Ytgknokaibgckkaa
open Go.RowKit
attribute [local irreducible] World.cell?
end Go.Proofs.Ytgknokaibgckkaa
