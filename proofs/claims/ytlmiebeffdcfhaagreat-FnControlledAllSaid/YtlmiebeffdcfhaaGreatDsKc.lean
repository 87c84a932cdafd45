/- The program's combine, for its three operations; a conjugate times a number. -/
import Derived.Test.YtlmiebeffdcfhaaGreatBaseB12
import Derived.Test.YtlmiebeffdcfhaaGreatBaseC06
namespace Go.Proofs.YtlmiebeffdcfhaaGreat
open Go.RowKit
attribute [local irreducible] World.cell?
end Go.Proofs.YtlmiebeffdcfhaaGreat
