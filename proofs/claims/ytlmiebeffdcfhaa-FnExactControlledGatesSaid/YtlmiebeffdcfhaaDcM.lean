/- The model's DecomposeGate, DecomposeGates, IsBasicGate. -/
import Derived.Test.YtlmiebeffdcfhaaBaseB09
import Derived.Test.YtlmiebeffdcfhaaApS
import Derived.Test.YtlmiebeffdcfhaaWas
import Derived.Test.YtlmiebeffdcfhaaBaseB18
namespace Go.Proofs.Ytlmiebeffdcfhaa
open Go.RowKit
attribute [local irreducible] World.cell?
set_option maxRecDepth 100000 in
set_option maxHeartbeats 800000 in
theorem sone (k q : Int) (w : World) : Calls Try.prog 27 #[.int .i64 k, .int .i64 q] w fun e w' => e = .returned (.agg #[.int .i64 k, .int .i64 q, .int .i64 0, .int .i64 0]) ∧ Below w.heap.size w w' := by
  go_enter Try.func27, Try.ntmps27
  go_wp2_with fail
  refine bodyPost_ret (v := .agg #[.int .i64 k, .int .i64 q, .int .i64 0, .int .i64 0]) (by simp [results, Try.results27, go_sem]) rfl ⟨rfl, ?_⟩
  go_grown
set_option maxRecDepth 100000 in
set_option maxHeartbeats 800000 in
theorem scx (a b : Int) (w : World) : Calls Try.prog 26 #[.int .i64 a, .int .i64 b] w fun e w' => e = .returned (.agg #[.int .i64 9, .int .i64 a, .int .i64 b, .int .i64 0]) ∧ Below w.heap.size w w' := by
  go_enter Try.func26, Try.ntmps26
  go_wp2_with fail
  refine bodyPost_ret (v := .agg #[.int .i64 9, .int .i64 a, .int .i64 b, .int .i64 0]) (by simp [results, Try.results26, go_sem]) rfl ⟨rfl, ?_⟩
  go_grown
end Go.Proofs.Ytlmiebeffdcfhaa
