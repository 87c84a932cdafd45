/- The eight phases of the program. -/
import Derived.Test.YtlmiebeffdcfhaaGreatUBaseB07
import Derived.Test.YtlmiebeffdcfhaaGreatUBaseC06
import Derived.Laws.BitsLemmas
namespace Go.Proofs.YtlmiebeffdcfhaaGreat
open Go.RowKit
attribute [local irreducible] World.cell?
end Go.Proofs.YtlmiebeffdcfhaaGreat
