/- FormatDOmega of the model. -/
import Derived.Test.YtgicldokglpimaaTxS
import Derived.Test.YtgicldokglpimaaBaseB07
import Derived.Test.YtgicldokglpimaaDwS
namespace Go.Proofs.Ytgicldokglpimaa
open Go.RowKit Go.Lib
attribute [local irreducible] World.cell?
end Go.Proofs.Ytgicldokglpimaa
