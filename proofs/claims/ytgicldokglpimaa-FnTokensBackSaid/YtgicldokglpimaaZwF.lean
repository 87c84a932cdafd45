/- DivSqrt2 of the model; the laws' own helpers: one form into the other, equality field by field. -/
import Derived.Test.YtgicldokglpimaaBaseB03
namespace Go.Proofs.Ytgicldokglpimaa
open Go.RowKit
attribute [local irreducible] World.cell?
end Go.Proofs.Ytgicldokglpimaa
