/- The program's bitOf: a bit of a number. -/
import Derived.Test.YtlmiebeffdcfhaaBaseB03
namespace Go.Proofs.Ytlmiebeffdcfhaa
open Go.RowKit
attribute [local irreducible] World.cell?
set_option maxRecDepth 100000 in
set_option maxHeartbeats 800000 in
theorem ibitOf (i q : Nat) (w : World) (hq : q < 63) :
    Calls Try.prog 43 #[.int .i64 (i : Int), .int .i64 (q : Int)] w fun e w' => e = .returned (.int .i64 (bits .and .i64 ((i : Int) / 2 ^ q) 1)) ∧ w = w' := by
  go_enter Try.func43, Try.ntmps43
  go_wp2_with fail
  go_ret
  exact ⟨rfl, rfl⟩
end Go.Proofs.Ytlmiebeffdcfhaa
