/- NewDOmega of the model. -/
import Derived.Test.YtgknokaibgckkaaDwW
namespace Go.Proofs.Ytgknokaibgckkaa
open Go.RowKit
attribute [local irreducible] World.cell?
end Go.Proofs.Ytgknokaibgckkaa
