/- The sum and the product in Z[omega], of the program and of its model. -/
import Derived.Test.YtgicldokglpimaaBaseB03
namespace Go.Proofs.Ytgicldokglpimaa
open Go.RowKit
attribute [local irreducible] World.cell?
def limV (x : Zw) : Zw := if x.ok then x else .zero
end Go.Proofs.Ytgicldokglpimaa
