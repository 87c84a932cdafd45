/- Chapter 5 of the model: phases, the squared norm, signs; the powers of the root of one half. -/
import Derived.Test.YtlmiebeffdcfhaaGreatUBaseB07
import Derived.Test.YtlmiebeffdcfhaaGreatUDwB
import Derived.Test.YtlmiebeffdcfhaaGreatUDwN
namespace Go.Proofs.YtlmiebeffdcfhaaGreat
open Go.RowKit
attribute [local irreducible] World.cell?
set_option maxRecDepth 100000 in
set_option maxHeartbeats 6400000 in
theorem sphase_at (i t : Int) (n : Nat) (w : World) (ht : i.tmod 8 = t) (hn : n < 8) (hc : t = n ∨ t = (n : Int) - 8) (hl : -8 < t) :
    Calls Tryz.prog 103 #[.int .i64 i] w fun e w' => e = .returned (.agg #[.int .i64 (Dw.mk (phN n) 0).n.a, .int .i64 (Dw.mk (phN n) 0).n.b, .int .i64 (Dw.mk (phN n) 0).n.c, .int .i64 (Dw.mk (phN n) 0).n.d, .int .i64 (Dw.mk (phN n) 0).e]) ∧ Below w.heap.size w w' := by
  rcases (show t = -7 ∨ t = -6 ∨ t = -5 ∨ t = -4 ∨ t = -3 ∨ t = -2 ∨ t = -1 ∨ t = 0 ∨ t = 1 ∨ t = 2 ∨ t = 3 ∨ t = 4 ∨ t = 5 ∨ t = 6 ∨ t = 7 by omega) with rfl | rfl | rfl | rfl | rfl | rfl | rfl | rfl | rfl | rfl | rfl | rfl | rfl | rfl | rfl
  · obtain rfl : n = 1 := by omega
    clear hn hc hl
    go_enter Tryz.func103, Tryz.ntmps103
    go_wp2_with fail
    refine bodyPost_ret (v := (.agg #[.int .i64 (Dw.mk (phN 1) 0).n.a, .int .i64 (Dw.mk (phN 1) 0).n.b, .int .i64 (Dw.mk (phN 1) 0).n.c, .int .i64 (Dw.mk (phN 1) 0).n.d, .int .i64 (Dw.mk (phN 1) 0).e])) (by simp [results, Tryz.results103, go_sem, phN, phL]) rfl ⟨rfl, ?_⟩
    go_grown
  · obtain rfl : n = 2 := by omega
    clear hn hc hl
    go_enter Tryz.func103, Tryz.ntmps103
    go_wp2_with fail
    refine bodyPost_ret (v := (.agg #[.int .i64 (Dw.mk (phN 2) 0).n.a, .int .i64 (Dw.mk (phN 2) 0).n.b, .int .i64 (Dw.mk (phN 2) 0).n.c, .int .i64 (Dw.mk (phN 2) 0).n.d, .int .i64 (Dw.mk (phN 2) 0).e])) (by simp [results, Tryz.results103, go_sem, phN, phL]) rfl ⟨rfl, ?_⟩
    go_grown
  · obtain rfl : n = 3 := by omega
    clear hn hc hl
    go_enter Tryz.func103, Tryz.ntmps103
    go_wp2_with fail
    refine bodyPost_ret (v := (.agg #[.int .i64 (Dw.mk (phN 3) 0).n.a, .int .i64 (Dw.mk (phN 3) 0).n.b, .int .i64 (Dw.mk (phN 3) 0).n.c, .int .i64 (Dw.mk (phN 3) 0).n.d, .int .i64 (Dw.mk (phN 3) 0).e])) (by simp [results, Tryz.results103, go_sem, phN, phL]) rfl ⟨rfl, ?_⟩
    go_grown
  · obtain rfl : n = 4 := by omega
    clear hn hc hl
    go_enter Tryz.func103, Tryz.ntmps103
    go_wp2_with fail
    refine bodyPost_ret (v := (.agg #[.int .i64 (Dw.mk (phN 4) 0).n.a, .int .i64 (Dw.mk (phN 4) 0).n.b, .int .i64 (Dw.mk (phN 4) 0).n.c, .int .i64 (Dw.mk (phN 4) 0).n.d, .int .i64 (Dw.mk (phN 4) 0).e])) (by simp [results, Tryz.results103, go_sem, phN, phL]) rfl ⟨rfl, ?_⟩
    go_grown
  · obtain rfl : n = 5 := by omega
    clear hn hc hl
    go_enter Tryz.func103, Tryz.ntmps103
    go_wp2_with fail
    refine bodyPost_ret (v := (.agg #[.int .i64 (Dw.mk (phN 5) 0).n.a, .int .i64 (Dw.mk (phN 5) 0).n.b, .int .i64 (Dw.mk (phN 5) 0).n.c, .int .i64 (Dw.mk (phN 5) 0).n.d, .int .i64 (Dw.mk (phN 5) 0).e])) (by simp [results, Tryz.results103, go_sem, phN, phL]) rfl ⟨rfl, ?_⟩
    go_grown
  · obtain rfl : n = 6 := by omega
    clear hn hc hl
    go_enter Tryz.func103, Tryz.ntmps103
    go_wp2_with fail
    refine bodyPost_ret (v := (.agg #[.int .i64 (Dw.mk (phN 6) 0).n.a, .int .i64 (Dw.mk (phN 6) 0).n.b, .int .i64 (Dw.mk (phN 6) 0).n.c, .int .i64 (Dw.mk (phN 6) 0).n.d, .int .i64 (Dw.mk (phN 6) 0).e])) (by simp [results, Tryz.results103, go_sem, phN, phL]) rfl ⟨rfl, ?_⟩
    go_grown
  · obtain rfl : n = 7 := by omega
    clear hn hc hl
    go_enter Tryz.func103, Tryz.ntmps103
    go_wp2_with fail
    refine bodyPost_ret (v := (.agg #[.int .i64 (Dw.mk (phN 7) 0).n.a, .int .i64 (Dw.mk (phN 7) 0).n.b, .int .i64 (Dw.mk (phN 7) 0).n.c, .int .i64 (Dw.mk (phN 7) 0).n.d, .int .i64 (Dw.mk (phN 7) 0).e])) (by simp [results, Tryz.results103, go_sem, phN, phL]) rfl ⟨rfl, ?_⟩
    go_grown
  · obtain rfl : n = 0 := by omega
    clear hn hc hl
    go_enter Tryz.func103, Tryz.ntmps103
    go_wp2_with fail
    refine bodyPost_ret (v := (.agg #[.int .i64 (Dw.mk (phN 0) 0).n.a, .int .i64 (Dw.mk (phN 0) 0).n.b, .int .i64 (Dw.mk (phN 0) 0).n.c, .int .i64 (Dw.mk (phN 0) 0).n.d, .int .i64 (Dw.mk (phN 0) 0).e])) (by simp [results, Tryz.results103, go_sem, phN, phL]) rfl ⟨rfl, ?_⟩
    go_grown
  · obtain rfl : n = 1 := by omega
    clear hn hc hl
    go_enter Tryz.func103, Tryz.ntmps103
    go_wp2_with fail
    refine bodyPost_ret (v := (.agg #[.int .i64 (Dw.mk (phN 1) 0).n.a, .int .i64 (Dw.mk (phN 1) 0).n.b, .int .i64 (Dw.mk (phN 1) 0).n.c, .int .i64 (Dw.mk (phN 1) 0).n.d, .int .i64 (Dw.mk (phN 1) 0).e])) (by simp [results, Tryz.results103, go_sem, phN, phL]) rfl ⟨rfl, ?_⟩
    go_grown
  · obtain rfl : n = 2 := by omega
    clear hn hc hl
    go_enter Tryz.func103, Tryz.ntmps103
    go_wp2_with fail
    refine bodyPost_ret (v := (.agg #[.int .i64 (Dw.mk (phN 2) 0).n.a, .int .i64 (Dw.mk (phN 2) 0).n.b, .int .i64 (Dw.mk (phN 2) 0).n.c, .int .i64 (Dw.mk (phN 2) 0).n.d, .int .i64 (Dw.mk (phN 2) 0).e])) (by simp [results, Tryz.results103, go_sem, phN, phL]) rfl ⟨rfl, ?_⟩
    go_grown
  · obtain rfl : n = 3 := by omega
    clear hn hc hl
    go_enter Tryz.func103, Tryz.ntmps103
    go_wp2_with fail
    refine bodyPost_ret (v := (.agg #[.int .i64 (Dw.mk (phN 3) 0).n.a, .int .i64 (Dw.mk (phN 3) 0).n.b, .int .i64 (Dw.mk (phN 3) 0).n.c, .int .i64 (Dw.mk (phN 3) 0).n.d, .int .i64 (Dw.mk (phN 3) 0).e])) (by simp [results, Tryz.results103, go_sem, phN, phL]) rfl ⟨rfl, ?_⟩
    go_grown
  · obtain rfl : n = 4 := by omega
    clear hn hc hl
    go_enter Tryz.func103, Tryz.ntmps103
    go_wp2_with fail
    refine bodyPost_ret (v := (.agg #[.int .i64 (Dw.mk (phN 4) 0).n.a, .int .i64 (Dw.mk (phN 4) 0).n.b, .int .i64 (Dw.mk (phN 4) 0).n.c, .int .i64 (Dw.mk (phN 4) 0).n.d, .int .i64 (Dw.mk (phN 4) 0).e])) (by simp [results, Tryz.results103, go_sem, phN, phL]) rfl ⟨rfl, ?_⟩
    go_grown
  · obtain rfl : n = 5 := by omega
    clear hn hc hl
    go_enter Tryz.func103, Tryz.ntmps103
    go_wp2_with fail
    refine bodyPost_ret (v := (.agg #[.int .i64 (Dw.mk (phN 5) 0).n.a, .int .i64 (Dw.mk (phN 5) 0).n.b, .int .i64 (Dw.mk (phN 5) 0).n.c, .int .i64 (Dw.mk (phN 5) 0).n.d, .int .i64 (Dw.mk (phN 5) 0).e])) (by simp [results, Tryz.results103, go_sem, phN, phL]) rfl ⟨rfl, ?_⟩
    go_grown
  · obtain rfl : n = 6 := by omega
    clear hn hc hl
    go_enter Tryz.func103, Tryz.ntmps103
    go_wp2_with fail
    refine bodyPost_ret (v := (.agg #[.int .i64 (Dw.mk (phN 6) 0).n.a, .int .i64 (Dw.mk (phN 6) 0).n.b, .int .i64 (Dw.mk (phN 6) 0).n.c, .int .i64 (Dw.mk (phN 6) 0).n.d, .int .i64 (Dw.mk (phN 6) 0).e])) (by simp [results, Tryz.results103, go_sem, phN, phL]) rfl ⟨rfl, ?_⟩
    go_grown
  · obtain rfl : n = 7 := by omega
    clear hn hc hl
    go_enter Tryz.func103, Tryz.ntmps103
    go_wp2_with fail
    refine bodyPost_ret (v := (.agg #[.int .i64 (Dw.mk (phN 7) 0).n.a, .int .i64 (Dw.mk (phN 7) 0).n.b, .int .i64 (Dw.mk (phN 7) 0).n.c, .int .i64 (Dw.mk (phN 7) 0).n.d, .int .i64 (Dw.mk (phN 7) 0).e])) (by simp [results, Tryz.results103, go_sem, phN, phL]) rfl ⟨rfl, ?_⟩
    go_grown
theorem tmod_eq (i : Int) : i.tmod 8 = (i % 8) ∨ i.tmod 8 = (i % 8) - 8 := by
  rcases (show 0 ≤ i ∨ i < 0 by omega) with h | h
  · exact .inl (Int.tmod_eq_emod_of_nonneg h)
  · obtain ⟨j, rfl⟩ : ∃ j, i = -j := ⟨-i, by omega⟩
    rw [Int.neg_tmod, Int.tmod_eq_emod_of_nonneg (by omega)]
    omega
theorem tmod_gt (i : Int) : -8 < i.tmod 8 := by
  rcases (show 0 ≤ i ∨ i < 0 by omega) with h | h
  · rw [Int.tmod_eq_emod_of_nonneg h]; omega
  · obtain ⟨j, rfl⟩ : ∃ j, i = -j := ⟨-i, by omega⟩
    rw [Int.neg_tmod, Int.tmod_eq_emod_of_nonneg (by omega)]
    omega
theorem sphase (i : Int) (w : World) :
    Calls Tryz.prog 103 #[.int .i64 i] w fun e w' => e = .returned (.agg #[.int .i64 (dPh i).n.a, .int .i64 (dPh i).n.b, .int .i64 (dPh i).n.c, .int .i64 (dPh i).n.d, .int .i64 (dPh i).e]) ∧ Below w.heap.size w w' := by
  refine sphase_at i _ (i % 8).toNat w rfl (res8 i) ?_ (tmod_gt i)
  have := tmod_eq i
  omega
end Go.Proofs.YtlmiebeffdcfhaaGreat
