/- The program's combine, for its three operations; a conjugate times a number. -/
import Derived.Test.YtmpafidkpangeaaGreatBaseB06
import Derived.Test.YtmpafidkpangeaaGreatBaseB11
namespace Go.Proofs.YtmpafidkpangeaaGreat
open Go.RowKit
attribute [local irreducible] World.cell?
end Go.Proofs.YtmpafidkpangeaaGreat
