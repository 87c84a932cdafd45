/- DivSqrt2 of the model; the laws' own helpers: one form into the other, equality field by field. -/
import Derived.Test.YtggmcahglcnleaaZwE
namespace Go.Proofs.Ytggmcahglcnleaa
open Go.RowKit
attribute [local irreducible] World.cell?
theorem eqZ (x : Zw) (w : World) :
    Calls Try.prog 9 #[(.agg #[.int .i64 x.a, .int .i64 x.b, .int .i64 x.c, .int .i64 x.d]), (.agg #[.int .i64 x.a, .int .i64 x.b, .int .i64 x.c, .int .i64 x.d])] w fun e w' => e = .returned (.bool true) ∧ Below w.heap.size w w' := by
  go_enter Try.func9, Try.ntmps9
  go_wp2_with fail
  go_returns
  exact ⟨rfl, by go_grown⟩
end Go.Proofs.Ytggmcahglcnleaa
