/- NewDOmega of the model. -/
import Derived.Test.YtggmcahglcnleaaDwW
namespace Go.Proofs.Ytggmcahglcnleaa
open Go.RowKit
attribute [local irreducible] World.cell?
end Go.Proofs.Ytggmcahglcnleaa
