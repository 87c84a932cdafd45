/- A slice of the laws' fractions that comes in. -/
import Derived.Test.YtgknokaibgckkaaDwO
import Derived.Test.YtgknokaibgckkaaDsL
import Derived.Deep.Slices
namespace Go.Proofs.Ytgknokaibgckkaa
open Go.ChangeShapes Go.WideShapes Go.ChangeAt Go.RowKit Go.Lib Go.Joins
end Go.Proofs.Ytgknokaibgckkaa
