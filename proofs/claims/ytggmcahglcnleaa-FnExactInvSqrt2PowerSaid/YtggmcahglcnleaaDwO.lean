/- A fraction that comes in as the laws' struct: five integers. -/
import Derived.Test.YtggmcahglcnleaaDwM2
import Derived.Test.YtggmcahglcnleaaRows
import Derived.Lib.SmallJoins
import Derived.OpenShut
namespace Go.Proofs.Ytggmcahglcnleaa
open Go.ChangeShapes Go.WideShapes Go.ChangeAt Go.RowKit Go.Lib Go.Joins
theorem cells_in : Try.prog.cellsOf 3 = 1 := by kernel_rfl
end Go.Proofs.Ytggmcahglcnleaa
