/- The negative and the conjugate in D[omega], of the program and of its model; one; the laws' own helpers. -/
import Derived.Test.YtlmiebeffdcfhaaBaseB07
import Derived.Test.YtlmiebeffdcfhaaZwF
namespace Go.Proofs.Ytlmiebeffdcfhaa
open Go.RowKit
attribute [local irreducible] World.cell?
theorem dNeg_of {x : Dw} (h : x.ok) : dNegV x = ⟨negV x.n, x.e⟩ := by rw [dNegV, if_pos h, negV, if_pos h.1]; rfl
theorem dConj_of {x : Dw} (h : x.ok) : dConjV x = ⟨conjV x.n, x.e⟩ := by rw [dConjV, if_pos h, conjV, if_pos h.1]; rfl
theorem dNeg_no {x : Dw} (h : ¬ x.ok) : dNegV x = .zero := if_neg h
theorem dConj_no {x : Dw} (h : ¬ x.ok) : dConjV x = .zero := if_neg h
set_option maxRecDepth 100000 in
set_option maxHeartbeats 400000 in
theorem ione_any (w : World) :
    Calls Try.prog 70 #[] w fun e w' => e = .returned (.agg #[.int .i64 oneD.n.a, .int .i64 oneD.n.b, .int .i64 oneD.n.c, .int .i64 oneD.n.d, .int .i64 oneD.e]) ∧ Below w.heap.size w w' := by
  go_enter Try.func70, Try.ntmps70
  go_wp2_with fail
  refine bodyPost_ret (v := (.agg #[.int .i64 oneD.n.a, .int .i64 oneD.n.b, .int .i64 oneD.n.c, .int .i64 oneD.n.d, .int .i64 oneD.e])) (by simp [results, Try.results70, go_sem, oneD]) rfl ⟨rfl, ?_⟩
  go_grown
set_option maxRecDepth 100000 in
set_option maxHeartbeats 400000 in
theorem sone_any (w : World) :
    Calls Try.prog 67 #[] w fun e w' => e = .returned (.agg #[.int .i64 oneD.n.a, .int .i64 oneD.n.b, .int .i64 oneD.n.c, .int .i64 oneD.n.d, .int .i64 oneD.e]) ∧ Below w.heap.size w w' := by
  go_enter Try.func67, Try.ntmps67
  go_wp2_with fail
  refine bodyPost_ret (v := (.agg #[.int .i64 oneD.n.a, .int .i64 oneD.n.b, .int .i64 oneD.n.c, .int .i64 oneD.n.d, .int .i64 oneD.e])) (by simp [results, Try.results67, go_sem, oneD]) rfl ⟨rfl, ?_⟩
  go_grown
set_option maxRecDepth 100000 in
set_option maxHeartbeats 800000 in
theorem toD (x : Dw) (w : World) :
    Calls Try.prog 57 #[(.agg #[.int .i64 x.n.a, .int .i64 x.n.b, .int .i64 x.n.c, .int .i64 x.n.d, .int .i64 x.e])] w fun e w' => e = .returned (.agg #[.int .i64 x.n.a, .int .i64 x.n.b, .int .i64 x.n.c, .int .i64 x.n.d, .int .i64 x.e]) ∧ Below w.heap.size w w' := by
  have Hz := Lib.hid (toZ x.n)
  have Hr0_0 := Lib.hid (alloc_blk (.cells #[.int .i64 0, .int .i64 0, .int .i64 0, .int .i64 0, .int .i64 0] 68) (alloc_blk (.cells #[.int .i64 0, .int .i64 0, .int .i64 0, .int .i64 0, .int .i64 0] 68) (heap_alloc_new w (.cells #[.int .i64 x.n.a, .int .i64 x.n.b, .int .i64 x.n.c, .int .i64 x.n.d, .int .i64 x.e] 85))))
  have Hr0_1 := Lib.hid (alloc_blk (.cells #[.int .i64 0, .int .i64 0, .int .i64 0, .int .i64 0, .int .i64 0] 68) (show ((w.alloc (.cells #[.int .i64 x.n.a, .int .i64 x.n.b, .int .i64 x.n.c, .int .i64 x.n.d, .int .i64 x.e] 85)).alloc (.cells #[.int .i64 0, .int .i64 0, .int .i64 0, .int .i64 0, .int .i64 0] 68)).heap[w.heap.size + 1]? = some (.cells #[.int .i64 0, .int .i64 0, .int .i64 0, .int .i64 0, .int .i64 0] 68 (0, 0)) from by simpa using heap_alloc_new (w.alloc (.cells #[.int .i64 x.n.a, .int .i64 x.n.b, .int .i64 x.n.c, .int .i64 x.n.d, .int .i64 x.e] 85)) (.cells #[.int .i64 0, .int .i64 0, .int .i64 0, .int .i64 0, .int .i64 0] 68)))
  have Hr0_2 := Lib.hid (show (((w.alloc (.cells #[.int .i64 x.n.a, .int .i64 x.n.b, .int .i64 x.n.c, .int .i64 x.n.d, .int .i64 x.e] 85)).alloc (.cells #[.int .i64 0, .int .i64 0, .int .i64 0, .int .i64 0, .int .i64 0] 68)).alloc (.cells #[.int .i64 0, .int .i64 0, .int .i64 0, .int .i64 0, .int .i64 0] 68)).heap[w.heap.size + 2]? = some (.cells #[.int .i64 0, .int .i64 0, .int .i64 0, .int .i64 0, .int .i64 0] 68 (0, 0)) from by simpa using heap_alloc_new ((w.alloc (.cells #[.int .i64 x.n.a, .int .i64 x.n.b, .int .i64 x.n.c, .int .i64 x.n.d, .int .i64 x.e] 85)).alloc (.cells #[.int .i64 0, .int .i64 0, .int .i64 0, .int .i64 0, .int .i64 0] 68)) (.cells #[.int .i64 0, .int .i64 0, .int .i64 0, .int .i64 0, .int .i64 0] 68))
  go_enter Try.func57, Try.ntmps57
  go_wp2_with fail
  refine (Hz.out _).mono ?_
  rintro e w1 ⟨rfl, hb1⟩
  have hr0 := below_blk hb1 (lt_of_block Hr0_0.out) Hr0_0.out
  have zg0 := lt_of_block hr0
  obtain ⟨c0_0, c0_1, c0_2, c0_3, c0_4⟩ := blk_cells5 hr0
  have Hr1_0 := Lib.hid hr0
  have hr1 := below_blk hb1 (lt_of_block Hr0_1.out) Hr0_1.out
  have zg1 := lt_of_block hr1
  obtain ⟨c1_0, c1_1, c1_2, c1_3, c1_4⟩ := blk_cells5 hr1
  have f1 := fun o => free_at hr1 o
  have Hq1_1 := Lib.hid hr1
  have Hr1_1 := Lib.hid hr1
  have hr2 := below_blk hb1 (lt_of_block Hr0_2.out) Hr0_2.out
  have zg2 := lt_of_block hr2
  obtain ⟨c2_0, c2_1, c2_2, c2_3, c2_4⟩ := blk_cells5 hr2
  have f2 := fun o => free_at hr2 o
  have Hq1_2 := Lib.hid hr2
  have Hr1_2 := Lib.hid hr2
  have hb1 := below_up (B := w.heap.size) (w := w) (by go_grown) hb1 (by simp <;> omega)
  have Hp1 := Lib.hid hb1
  have Hb1 := Lib.hid hb1
  clear hr0 hr1 hr2
  clear hb1
  go_wp2_with fail
  obtain ⟨k0, k1, k2, k3, k4⟩ := blk_cells5 (set5_at (u0 := .int .i64 x.n.a) (u1 := .int .i64 x.n.b) (u2 := .int .i64 x.n.c) (u3 := .int .i64 x.n.d) (u4 := .int .i64 x.e) (set5_blk (u0 := .int .i64 x.n.a) (u1 := .int .i64 x.n.b) (u2 := .int .i64 x.n.c) (u3 := .int .i64 x.n.d) (u4 := .int .i64 x.e) (g := w.heap.size + 2) (by omega) Hq1_1.out))
  refine bodyPost_ret (v := (.agg #[.int .i64 x.n.a, .int .i64 x.n.b, .int .i64 x.n.c, .int .i64 x.n.d, .int .i64 x.e])) (by simp only [results, Try.results57]; simp [go_sem, k0, k1, k2, k3, k4]) rfl ⟨rfl, ?_⟩
  have := Hp1.out
  go_grown
set_option maxRecDepth 100000 in
set_option maxHeartbeats 800000 in
theorem eqDw (x : Dw) (w : World) :
    Calls Try.prog 60 #[(.agg #[.int .i64 x.n.a, .int .i64 x.n.b, .int .i64 x.n.c, .int .i64 x.n.d, .int .i64 x.e]), (.agg #[.int .i64 x.n.a, .int .i64 x.n.b, .int .i64 x.n.c, .int .i64 x.n.d, .int .i64 x.e])] w fun e w' => e = .returned (.bool true) ∧ Below w.heap.size w w' := by
  have Hz := Lib.hid (eqZ x.n)
  have Hr0_0 := Lib.hid (alloc_blk (.cells #[.int .i64 x.n.a, .int .i64 x.n.b, .int .i64 x.n.c, .int .i64 x.n.d, .int .i64 x.e] 68) (heap_alloc_new w (.cells #[.int .i64 x.n.a, .int .i64 x.n.b, .int .i64 x.n.c, .int .i64 x.n.d, .int .i64 x.e] 68)))
  have Hr0_1 := Lib.hid (show ((w.alloc (.cells #[.int .i64 x.n.a, .int .i64 x.n.b, .int .i64 x.n.c, .int .i64 x.n.d, .int .i64 x.e] 68)).alloc (.cells #[.int .i64 x.n.a, .int .i64 x.n.b, .int .i64 x.n.c, .int .i64 x.n.d, .int .i64 x.e] 68)).heap[w.heap.size + 1]? = some (.cells #[.int .i64 x.n.a, .int .i64 x.n.b, .int .i64 x.n.c, .int .i64 x.n.d, .int .i64 x.e] 68 (0, 0)) from by simpa using heap_alloc_new (w.alloc (.cells #[.int .i64 x.n.a, .int .i64 x.n.b, .int .i64 x.n.c, .int .i64 x.n.d, .int .i64 x.e] 68)) (.cells #[.int .i64 x.n.a, .int .i64 x.n.b, .int .i64 x.n.c, .int .i64 x.n.d, .int .i64 x.e] 68))
  go_enter Try.func60, Try.ntmps60
  go_wp2_with fail
  refine (Hz.out _).mono ?_
  rintro e w1 ⟨rfl, hb1⟩
  have hr0 := below_blk hb1 (lt_of_block Hr0_0.out) Hr0_0.out
  have zg0 := lt_of_block hr0
  obtain ⟨c0_0, c0_1, c0_2, c0_3, c0_4⟩ := blk_cells5 hr0
  have Hr1_0 := Lib.hid hr0
  have hr1 := below_blk hb1 (lt_of_block Hr0_1.out) Hr0_1.out
  have zg1 := lt_of_block hr1
  obtain ⟨c1_0, c1_1, c1_2, c1_3, c1_4⟩ := blk_cells5 hr1
  have Hr1_1 := Lib.hid hr1
  have hb1 := below_up (B := w.heap.size) (w := w) (by go_grown) hb1 (by simp <;> omega)
  have Hp1 := Lib.hid hb1
  have Hb1 := Lib.hid hb1
  clear hr0 hr1
  clear hb1
  go_wp2_with fail
  go_returns
  exact ⟨rfl, by have := Hp1.out; go_grown⟩
end Go.Proofs.Ytlmiebeffdcfhaa
