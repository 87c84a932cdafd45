/- A fraction that comes in as the laws' struct: five integers. -/
import Derived.Test.YtgknokaibgckkaaDwM2
import Derived.Test.YtgknokaibgckkaaRows
import Derived.Lib.SmallJoins
import Derived.OpenShut
namespace Go.Proofs.Ytgknokaibgckkaa
open Go.ChangeShapes Go.WideShapes Go.ChangeAt Go.RowKit Go.Lib Go.Joins
theorem cells_in : Try.prog.cellsOf 3 = 1 := by kernel_rfl
end Go.Proofs.Ytgknokaibgckkaa
