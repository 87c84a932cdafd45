/- BaseB20: several of our texts in one: CpN CpR ApG CiS CiT CiL. -/
import Derived.Test.YtlmiebeffdcfhaaGreatUBaseC07
import Derived.Test.YtlmiebeffdcfhaaGreatUBaseB16
import Derived.Test.YtlmiebeffdcfhaaGreatUBaseB19
import Derived.Test.YtlmiebeffdcfhaaGreatUBaseC03
import Derived.Test.YtlmiebeffdcfhaaGreatUBaseB10
import Derived.Test.YtlmiebeffdcfhaaGreatUBaseB12
import Derived.Test.YtlmiebeffdcfhaaGreatUBaseB15
import Derived.Test.YtlmiebeffdcfhaaGreatUBaseB11
import Derived.Laws.StructEq
import Derived.Test.YtlmiebeffdcfhaaGreatUBaseC04
namespace Go.Proofs.YtlmiebeffdcfhaaGreat
/-- The root's power below a gate's numerators. -/
def scK (k : Int) : Nat := if k = 4 then 1 else 0
end Go.Proofs.YtlmiebeffdcfhaaGreat
namespace Go.Proofs.YtlmiebeffdcfhaaGreat
end Go.Proofs.YtlmiebeffdcfhaaGreat
namespace Go.Proofs.YtlmiebeffdcfhaaGreat
open Go.RowKit
attribute [local irreducible] World.cell?
end Go.Proofs.YtlmiebeffdcfhaaGreat
namespace Go.Proofs.YtlmiebeffdcfhaaGreat
open Go.RowKit
def eqGB (x y : Gt) : Bool := x.k == y.k && (x.a == y.a && (x.b == y.b && x.c == y.c))
theorem eqGB_iff {x y : Gt} : eqGB x y = true ↔ x = y := by
  simp only [eqGB, Bool.and_eq_true, beq_iff_eq]
  exact ⟨fun ⟨h0, h1, h2, h3⟩ => by cases x; cases y; simp_all, fun h => by subst h; exact ⟨rfl, rfl, rfl, rfl⟩⟩
instance : DecidableEq Gt := fun x y => if h : eqGB x y = true then .isTrue (eqGB_iff.1 h) else .isFalse fun k => h (eqGB_iff.2 k)
attribute [local irreducible] World.cell?
end Go.Proofs.YtlmiebeffdcfhaaGreat
namespace Go.Proofs.YtlmiebeffdcfhaaGreat
open Go.RowKit
attribute [local irreducible] World.cell?
end Go.Proofs.YtlmiebeffdcfhaaGreat
namespace Go.Proofs.YtlmiebeffdcfhaaGreat
open Go.RowKit
attribute [local irreducible] World.cell?
end Go.Proofs.YtlmiebeffdcfhaaGreat
