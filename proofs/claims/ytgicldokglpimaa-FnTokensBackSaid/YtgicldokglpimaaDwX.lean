/- NewDOmega of the model. -/
import Derived.Test.YtgicldokglpimaaBaseB05
namespace Go.Proofs.Ytgicldokglpimaa
open Go.RowKit
attribute [local irreducible] World.cell?
end Go.Proofs.Ytgicldokglpimaa
