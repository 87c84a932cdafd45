/- BaseB19: several of our texts in one: PmD PmX PmB PmKs PmKi PmU. -/
import Derived.Test.YtmpafidkpangeaaGreatBaseB21
import Derived.Laws.OwnMore
import Derived.Test.YtmpafidkpangeaaGreatBaseB20
import Derived.Test.YtmpafidkpangeaaGreatBaseB25
import Derived.Deep.Onto
import Derived.Test.YtmpafidkpangeaaGreatBaseB05
import Derived.Test.YtmpafidkpangeaaGreatBaseB11
import Derived.Test.YtmpafidkpangeaaGreatBaseB14
namespace Go.Proofs.YtmpafidkpangeaaGreat
open Go.RowKit
attribute [local irreducible] World.cell?
end Go.Proofs.YtmpafidkpangeaaGreat
namespace Go.Proofs.YtmpafidkpangeaaGreat
open Go.RowKit
end Go.Proofs.YtmpafidkpangeaaGreat
namespace Go.Proofs.YtmpafidkpangeaaGreat
open Go.RowKit
attribute [local irreducible] World.cell?
end Go.Proofs.YtmpafidkpangeaaGreat
namespace Go.Proofs.YtmpafidkpangeaaGreat
open Go.RowKit
attribute [local irreducible] World.cell?
end Go.Proofs.YtmpafidkpangeaaGreat
namespace Go.Proofs.YtmpafidkpangeaaGreat
open Go.RowKit
attribute [local irreducible] World.cell?
end Go.Proofs.YtmpafidkpangeaaGreat
namespace Go.Proofs.YtmpafidkpangeaaGreat
open Go.RowKit
attribute [local irreducible] World.cell?
end Go.Proofs.YtmpafidkpangeaaGreat
