/- NewDOmega of the model. -/
import Derived.Test.YtlmiebeffdcfhaaBaseB05
namespace Go.Proofs.Ytlmiebeffdcfhaa
open Go.RowKit
attribute [local irreducible] World.cell?
end Go.Proofs.Ytlmiebeffdcfhaa
