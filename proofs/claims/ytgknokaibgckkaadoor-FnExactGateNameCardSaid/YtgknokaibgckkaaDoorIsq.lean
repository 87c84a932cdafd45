/- isQubitCount of the program. -/
import Derived.Test.YtgknokaibgckkaaDoorZwDraw2
namespace Go.Proofs.YtgknokaibgckkaaDoor
open Go.RowKit
attribute [local irreducible] World.cell?
end Go.Proofs.YtgknokaibgckkaaDoor
