/- The eight phases of the program. -/
import Derived.Test.YtlmiebeffdcfhaaGreatBaseB07
import Derived.Test.YtlmiebeffdcfhaaGreatBaseC06
import Derived.Laws.BitsLemmas
namespace Go.Proofs.YtlmiebeffdcfhaaGreat
open Go.RowKit
attribute [local irreducible] World.cell?
theorem and7 (n : Int) : bits .and .i64 n 7 = n % 8 := by
  have h7 : (BitVec.ofInt 64 7).toNat = 2 ^ 3 - 1 := by decide
  have key : (BitVec.ofInt 64 n &&& BitVec.ofInt 64 7).toNat = (n % ((2 ^ 64 : Nat) : Int)).toNat % 2 ^ 3 := by
    rw [BitVec.toNat_and, BitVec.toNat_ofInt, h7, Nat.and_two_pow_sub_one_eq_mod]
  show IntKind.i64.wrap ((BitVec.ofInt 64 n &&& BitVec.ofInt 64 7).toNat : Nat) = n % 8
  rw [key, IntKind.wrap_i64]
  omega
set_option maxRecDepth 100000 in
set_option maxHeartbeats 3200000 in
theorem iphase_at (i : Int) (n : Nat) (w : World) (ht : i % 8 = n) :
    Calls Tryz.prog 163 #[.int .i64 i] w fun e w' => e = .returned (.agg #[.int .i64 (Dw.mk (phN n) 0).n.a, .int .i64 (Dw.mk (phN n) 0).n.b, .int .i64 (Dw.mk (phN n) 0).n.c, .int .i64 (Dw.mk (phN n) 0).n.d, .int .i64 (Dw.mk (phN n) 0).e]) ∧ Below w.heap.size w w' := by
  have hn : n < 8 := by omega
  have Ht := (and7 i).trans ht
  rcases (show n = 0 ∨ n = 1 ∨ n = 2 ∨ n = 3 ∨ n = 4 ∨ n = 5 ∨ n = 6 ∨ n = 7 by omega) with rfl | rfl | rfl | rfl | rfl | rfl | rfl | rfl
  · clear hn
    go_enter Tryz.func163, Tryz.ntmps163
    go_wp2_with (go_at_call 162; go_in)
    refine bodyPost_ret (v := (.agg #[.int .i64 (Dw.mk (phN 0) 0).n.a, .int .i64 (Dw.mk (phN 0) 0).n.b, .int .i64 (Dw.mk (phN 0) 0).n.c, .int .i64 (Dw.mk (phN 0) 0).n.d, .int .i64 (Dw.mk (phN 0) 0).e])) (by simp [results, Tryz.results163, go_sem, phN, phL]) rfl ⟨rfl, ?_⟩
    go_grown
  · clear hn
    go_enter Tryz.func163, Tryz.ntmps163
    go_wp2_with (go_at_call 162; go_in)
    refine bodyPost_ret (v := (.agg #[.int .i64 (Dw.mk (phN 1) 0).n.a, .int .i64 (Dw.mk (phN 1) 0).n.b, .int .i64 (Dw.mk (phN 1) 0).n.c, .int .i64 (Dw.mk (phN 1) 0).n.d, .int .i64 (Dw.mk (phN 1) 0).e])) (by simp [results, Tryz.results163, go_sem, phN, phL]) rfl ⟨rfl, ?_⟩
    go_grown
  · clear hn
    go_enter Tryz.func163, Tryz.ntmps163
    go_wp2_with (go_at_call 162; go_in)
    refine bodyPost_ret (v := (.agg #[.int .i64 (Dw.mk (phN 2) 0).n.a, .int .i64 (Dw.mk (phN 2) 0).n.b, .int .i64 (Dw.mk (phN 2) 0).n.c, .int .i64 (Dw.mk (phN 2) 0).n.d, .int .i64 (Dw.mk (phN 2) 0).e])) (by simp [results, Tryz.results163, go_sem, phN, phL]) rfl ⟨rfl, ?_⟩
    go_grown
  · clear hn
    go_enter Tryz.func163, Tryz.ntmps163
    go_wp2_with (go_at_call 162; go_in)
    refine bodyPost_ret (v := (.agg #[.int .i64 (Dw.mk (phN 3) 0).n.a, .int .i64 (Dw.mk (phN 3) 0).n.b, .int .i64 (Dw.mk (phN 3) 0).n.c, .int .i64 (Dw.mk (phN 3) 0).n.d, .int .i64 (Dw.mk (phN 3) 0).e])) (by simp [results, Tryz.results163, go_sem, phN, phL]) rfl ⟨rfl, ?_⟩
    go_grown
  · clear hn
    go_enter Tryz.func163, Tryz.ntmps163
    go_wp2_with (go_at_call 162; go_in)
    refine bodyPost_ret (v := (.agg #[.int .i64 (Dw.mk (phN 4) 0).n.a, .int .i64 (Dw.mk (phN 4) 0).n.b, .int .i64 (Dw.mk (phN 4) 0).n.c, .int .i64 (Dw.mk (phN 4) 0).n.d, .int .i64 (Dw.mk (phN 4) 0).e])) (by simp [results, Tryz.results163, go_sem, phN, phL]) rfl ⟨rfl, ?_⟩
    go_grown
  · clear hn
    go_enter Tryz.func163, Tryz.ntmps163
    go_wp2_with (go_at_call 162; go_in)
    refine bodyPost_ret (v := (.agg #[.int .i64 (Dw.mk (phN 5) 0).n.a, .int .i64 (Dw.mk (phN 5) 0).n.b, .int .i64 (Dw.mk (phN 5) 0).n.c, .int .i64 (Dw.mk (phN 5) 0).n.d, .int .i64 (Dw.mk (phN 5) 0).e])) (by simp [results, Tryz.results163, go_sem, phN, phL]) rfl ⟨rfl, ?_⟩
    go_grown
  · clear hn
    go_enter Tryz.func163, Tryz.ntmps163
    go_wp2_with (go_at_call 162; go_in)
    refine bodyPost_ret (v := (.agg #[.int .i64 (Dw.mk (phN 6) 0).n.a, .int .i64 (Dw.mk (phN 6) 0).n.b, .int .i64 (Dw.mk (phN 6) 0).n.c, .int .i64 (Dw.mk (phN 6) 0).n.d, .int .i64 (Dw.mk (phN 6) 0).e])) (by simp [results, Tryz.results163, go_sem, phN, phL]) rfl ⟨rfl, ?_⟩
    go_grown
  · clear hn
    go_enter Tryz.func163, Tryz.ntmps163
    go_wp2_with (go_at_call 162; go_in)
    refine bodyPost_ret (v := (.agg #[.int .i64 (Dw.mk (phN 7) 0).n.a, .int .i64 (Dw.mk (phN 7) 0).n.b, .int .i64 (Dw.mk (phN 7) 0).n.c, .int .i64 (Dw.mk (phN 7) 0).n.d, .int .i64 (Dw.mk (phN 7) 0).e])) (by simp [results, Tryz.results163, go_sem, phN, phL]) rfl ⟨rfl, ?_⟩
    go_grown
end Go.Proofs.YtlmiebeffdcfhaaGreat
