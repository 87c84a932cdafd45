/- The program's spread: the two contributions of GateH. -/
import Derived.Test.YtlmiebeffdcfhaaGreatUBaseC04
namespace Go.Proofs.YtlmiebeffdcfhaaGreat
open Go.RowKit
attribute [local irreducible] World.cell?
end Go.Proofs.YtlmiebeffdcfhaaGreat
