/- The model's l11Moved, RelabelCircuit. -/
import Derived.Test.YtmpafidkpangeaaGreatBaseB16
import Derived.Test.YtmpafidkpangeaaGreatBaseB17
import Derived.Test.YtmpafidkpangeaaGreatBaseB21
import Derived.Deep.AppendLies
namespace Go.Proofs.YtmpafidkpangeaaGreat
open Go.RowKit
attribute [local irreducible] World.cell?
end Go.Proofs.YtmpafidkpangeaaGreat
