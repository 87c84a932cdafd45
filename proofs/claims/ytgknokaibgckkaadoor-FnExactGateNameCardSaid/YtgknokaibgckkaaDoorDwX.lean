/- NewDOmega of the model. -/
import Derived.Test.YtgknokaibgckkaaDoorDwW
namespace Go.Proofs.YtgknokaibgckkaaDoor
open Go.RowKit
attribute [local irreducible] World.cell?
end Go.Proofs.YtgknokaibgckkaaDoor
