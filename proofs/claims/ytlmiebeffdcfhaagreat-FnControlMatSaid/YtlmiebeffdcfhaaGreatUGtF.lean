/- Draws of gates of the model that may be invalid. -/
import Derived.Test.YtlmiebeffdcfhaaGreatUBaseB10
import Derived.Test.YtlmiebeffdcfhaaGreatUBaseB11
namespace Go.Proofs.YtlmiebeffdcfhaaGreat
open Go.RowKit
/-- The kind of a gate is a machine integer. -/
def GtI (g : Gt) : Prop := -9223372036854775808 ≤ g.k ∧ g.k ≤ 9223372036854775807
theorem GtBd.i {g : Gt} (h : GtBd g) : GtI g := by have := h.1; unfold GtI; omega
attribute [local irreducible] World.cell?
end Go.Proofs.YtlmiebeffdcfhaaGreat
