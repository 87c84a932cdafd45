/- The negative and the conjugate in D[omega], of the program and of its model; one; the laws' own helpers. -/
import Derived.Test.YtlmiebeffdcfhaaGreatUBaseB07
import Derived.Test.YtlmiebeffdcfhaaGreatUZwF
namespace Go.Proofs.YtlmiebeffdcfhaaGreat
open Go.RowKit
attribute [local irreducible] World.cell?
theorem dNeg_of {x : Dw} (h : x.ok) : dNegV x = ⟨negV x.n, x.e⟩ := by rw [dNegV, if_pos h, negV, if_pos h.1]; rfl
theorem dConj_of {x : Dw} (h : x.ok) : dConjV x = ⟨conjV x.n, x.e⟩ := by rw [dConjV, if_pos h, conjV, if_pos h.1]; rfl
theorem dNeg_no {x : Dw} (h : ¬ x.ok) : dNegV x = .zero := if_neg h
theorem dConj_no {x : Dw} (h : ¬ x.ok) : dConjV x = .zero := if_neg h
set_option maxRecDepth 100000 in
set_option maxHeartbeats 1600000 in
theorem snegD_no (x : Dw) (w : World)  (hx : ¬ x.ok) :
    Calls Tryz.prog 106 #[(.agg #[.int .i64 x.n.a, .int .i64 x.n.b, .int .i64 x.n.c, .int .i64 x.n.d, .int .i64 x.e])] w fun e w' => e = .returned (.agg #[.int .i64 Dw.zero.n.a, .int .i64 Dw.zero.n.b, .int .i64 Dw.zero.n.c, .int .i64 Dw.zero.n.d, .int .i64 Dw.zero.e]) ∧ Below w.heap.size w w' := by
  have Hx := Lib.hid (svalidD x)
  rw [okD_false.2 hx] at Hx
  clear hx
  have Hr0_0 := Lib.hid (alloc_blk (.cells #[.int .i64 0, .int .i64 0, .int .i64 0, .int .i64 0, .int .i64 0] 70) (heap_alloc_new w (.cells #[.int .i64 x.n.a, .int .i64 x.n.b, .int .i64 x.n.c, .int .i64 x.n.d, .int .i64 x.e] 70)))
  have Hr0_1 := Lib.hid (show ((w.alloc (.cells #[.int .i64 x.n.a, .int .i64 x.n.b, .int .i64 x.n.c, .int .i64 x.n.d, .int .i64 x.e] 70)).alloc (.cells #[.int .i64 0, .int .i64 0, .int .i64 0, .int .i64 0, .int .i64 0] 70)).heap[w.heap.size + 1]? = some (.cells #[.int .i64 0, .int .i64 0, .int .i64 0, .int .i64 0, .int .i64 0] 70 (0, 0)) from by simpa using heap_alloc_new (w.alloc (.cells #[.int .i64 x.n.a, .int .i64 x.n.b, .int .i64 x.n.c, .int .i64 x.n.d, .int .i64 x.e] 70)) (.cells #[.int .i64 0, .int .i64 0, .int .i64 0, .int .i64 0, .int .i64 0] 70))
  go_enter Tryz.func106, Tryz.ntmps106
  go_wp2_with fail
  refine (Hx.out _).mono ?_
  rintro e w1 ⟨rfl, hb1⟩
  have hr0 := below_blk hb1 (lt_of_block Hr0_0.out) Hr0_0.out
  have zg0 := lt_of_block hr0
  obtain ⟨c0_0, c0_1, c0_2, c0_3, c0_4⟩ := blk_cells5 hr0
  have Hr1_0 := Lib.hid hr0
  have hr1 := below_blk hb1 (lt_of_block Hr0_1.out) Hr0_1.out
  have zg1 := lt_of_block hr1
  obtain ⟨c1_0, c1_1, c1_2, c1_3, c1_4⟩ := blk_cells5 hr1
  have f1 := fun o => free_at hr1 o
  have Hq1_1 := Lib.hid hr1
  have Hr1_1 := Lib.hid hr1
  have hb1 := below_up (B := w.heap.size) (w := w) (by go_grown) hb1 (by simp <;> omega)
  have Hp1 := Lib.hid hb1
  have Hb1 := Lib.hid hb1
  clear hr0 hr1
  clear hb1
  go_wp2_with fail
  obtain ⟨k0, k1, k2, k3, k4⟩ := blk_cells5 (set5_at (u0 := .int .i64 0) (u1 := .int .i64 0) (u2 := .int .i64 0) (u3 := .int .i64 0) (u4 := .int .i64 0) Hq1_1.out)
  refine bodyPost_ret (v := (.agg #[.int .i64 Dw.zero.n.a, .int .i64 Dw.zero.n.b, .int .i64 Dw.zero.n.c, .int .i64 Dw.zero.n.d, .int .i64 Dw.zero.e])) (by simp only [results, Tryz.results106]; simp [go_sem, k0, k1, k2, k3, k4, Dw.zero, Zw.zero]) rfl ⟨rfl, ?_⟩
  have := Hp1.out
  go_grown
set_option maxRecDepth 100000 in
set_option maxHeartbeats 1600000 in
theorem snegD_yes (x : Dw) (w : World)  (hx : x.ok) :
    Calls Tryz.prog 106 #[(.agg #[.int .i64 x.n.a, .int .i64 x.n.b, .int .i64 x.n.c, .int .i64 x.n.d, .int .i64 x.e])] w fun e w' => e = .returned (.agg #[.int .i64 (Dw.mk (negV x.n) x.e).n.a, .int .i64 (Dw.mk (negV x.n) x.e).n.b, .int .i64 (Dw.mk (negV x.n) x.e).n.c, .int .i64 (Dw.mk (negV x.n) x.e).n.d, .int .i64 (Dw.mk (negV x.n) x.e).e]) ∧ Below w.heap.size w w' := by
  have Hx := Lib.hid (svalidD x)
  rw [okD_true.2 hx] at Hx
  clear hx
  have Hm := Lib.hid (sneg_any x.n)
  generalize negV x.n = m at *
  have Hr0_0 := Lib.hid (alloc_blk (.cells #[.int .i64 0, .int .i64 0, .int .i64 0, .int .i64 0, .int .i64 0] 70) (heap_alloc_new w (.cells #[.int .i64 x.n.a, .int .i64 x.n.b, .int .i64 x.n.c, .int .i64 x.n.d, .int .i64 x.e] 70)))
  have Hr0_1 := Lib.hid (show ((w.alloc (.cells #[.int .i64 x.n.a, .int .i64 x.n.b, .int .i64 x.n.c, .int .i64 x.n.d, .int .i64 x.e] 70)).alloc (.cells #[.int .i64 0, .int .i64 0, .int .i64 0, .int .i64 0, .int .i64 0] 70)).heap[w.heap.size + 1]? = some (.cells #[.int .i64 0, .int .i64 0, .int .i64 0, .int .i64 0, .int .i64 0] 70 (0, 0)) from by simpa using heap_alloc_new (w.alloc (.cells #[.int .i64 x.n.a, .int .i64 x.n.b, .int .i64 x.n.c, .int .i64 x.n.d, .int .i64 x.e] 70)) (.cells #[.int .i64 0, .int .i64 0, .int .i64 0, .int .i64 0, .int .i64 0] 70))
  go_enter Tryz.func106, Tryz.ntmps106
  go_wp2_with fail
  refine (Hx.out _).mono ?_
  rintro e w1 ⟨rfl, hb1⟩
  have hr0 := below_blk hb1 (lt_of_block Hr0_0.out) Hr0_0.out
  have zg0 := lt_of_block hr0
  obtain ⟨c0_0, c0_1, c0_2, c0_3, c0_4⟩ := blk_cells5 hr0
  have Hr1_0 := Lib.hid hr0
  have hr1 := below_blk hb1 (lt_of_block Hr0_1.out) Hr0_1.out
  have zg1 := lt_of_block hr1
  obtain ⟨c1_0, c1_1, c1_2, c1_3, c1_4⟩ := blk_cells5 hr1
  have f1 := fun o => free_at hr1 o
  have Hq1_1 := Lib.hid hr1
  have Hr1_1 := Lib.hid hr1
  have hb1 := below_up (B := w.heap.size) (w := w) (by go_grown) hb1 (by simp <;> omega)
  have Hp1 := Lib.hid hb1
  have Hb1 := Lib.hid hb1
  clear hr0 hr1
  clear hb1
  go_upto_region 3 with fail
  go_region_with (first | (go_at_call 131; refine (Hm.out _).mono ?_; rintro e w2 ⟨rfl, hb2⟩; have hr0 := below_blk hb2 (lt_of_block Hr1_0.out) Hr1_0.out; have hr1 := below_blk hb2 (lt_of_block Hr1_1.out) Hr1_1.out; obtain ⟨d0, d1, d2, d3, d4⟩ := blk_cells5 hr0; obtain ⟨e0, e1, e2, e3, e4⟩ := blk_cells5 hr1; have f2 := fun o => free_at hr1 o; have Hr2 := Lib.hid hr1; have Hb2 := Lib.hid (below_nx Hp1.out.drew hb2); clear hb2 hr0 hr1))
  all_goals go_wp2_with fail
  all_goals
    obtain ⟨k0, k1, k2, k3, k4⟩ := blk_cells5 (set5_at (u0 := .int .i64 m.a) (u1 := .int .i64 m.b) (u2 := .int .i64 m.c) (u3 := .int .i64 m.d) (u4 := .int .i64 x.e) Hr2.out)
    refine bodyPost_ret (v := (.agg #[.int .i64 (Dw.mk m x.e).n.a, .int .i64 (Dw.mk m x.e).n.b, .int .i64 (Dw.mk m x.e).n.c, .int .i64 (Dw.mk m x.e).n.d, .int .i64 (Dw.mk m x.e).e])) (by simp only [results, Tryz.results106]; simp [go_sem, k0, k1, k2, k3, k4]) rfl ⟨rfl, ?_⟩
    have := Hb2.out
    go_grown
theorem snegD_any (x : Dw) (w : World)  :
    Calls Tryz.prog 106 #[(.agg #[.int .i64 x.n.a, .int .i64 x.n.b, .int .i64 x.n.c, .int .i64 x.n.d, .int .i64 x.e])] w fun e w' => e = .returned (.agg #[.int .i64 (dNegV x).n.a, .int .i64 (dNegV x).n.b, .int .i64 (dNegV x).n.c, .int .i64 (dNegV x).n.d, .int .i64 (dNegV x).e]) ∧ Below w.heap.size w w' := by
  by_cases h : x.ok
  · rw [dNeg_of h]; exact snegD_yes x w h
  · rw [dNeg_no h]; exact snegD_no x w h
set_option maxRecDepth 100000 in
set_option maxHeartbeats 1600000 in
theorem iconjD_no (x : Dw) (w : World) (h0 : -9223372036854775808 ≤ x.e) (h1 : x.e ≤ 9223372036854775807) (hx : ¬ x.ok) :
    Calls Tryz.prog 92 #[(.agg #[.int .i64 x.n.a, .int .i64 x.n.b, .int .i64 x.n.c, .int .i64 x.n.d, .int .i64 x.e])] w fun e w' => e = .returned (.agg #[.int .i64 Dw.zero.n.a, .int .i64 Dw.zero.n.b, .int .i64 Dw.zero.n.c, .int .i64 Dw.zero.n.d, .int .i64 Dw.zero.e]) ∧ Below w.heap.size w w' := by
  have Hx := Lib.hid (fun w => ivalidD x w h0 h1)
  rw [okD_false.2 hx] at Hx
  clear hx
  have Hr0_0 := Lib.hid (alloc_blk (.cells #[.int .i64 0, .int .i64 0, .int .i64 0, .int .i64 0, .int .i64 0] 70) (heap_alloc_new w (.cells #[.int .i64 x.n.a, .int .i64 x.n.b, .int .i64 x.n.c, .int .i64 x.n.d, .int .i64 x.e] 70)))
  have Hr0_1 := Lib.hid (show ((w.alloc (.cells #[.int .i64 x.n.a, .int .i64 x.n.b, .int .i64 x.n.c, .int .i64 x.n.d, .int .i64 x.e] 70)).alloc (.cells #[.int .i64 0, .int .i64 0, .int .i64 0, .int .i64 0, .int .i64 0] 70)).heap[w.heap.size + 1]? = some (.cells #[.int .i64 0, .int .i64 0, .int .i64 0, .int .i64 0, .int .i64 0] 70 (0, 0)) from by simpa using heap_alloc_new (w.alloc (.cells #[.int .i64 x.n.a, .int .i64 x.n.b, .int .i64 x.n.c, .int .i64 x.n.d, .int .i64 x.e] 70)) (.cells #[.int .i64 0, .int .i64 0, .int .i64 0, .int .i64 0, .int .i64 0] 70))
  go_enter Tryz.func92, Tryz.ntmps92
  go_wp2_with fail
  refine (Hx.out _).mono ?_
  rintro e w1 ⟨rfl, hb1⟩
  have hr0 := below_blk hb1 (lt_of_block Hr0_0.out) Hr0_0.out
  have zg0 := lt_of_block hr0
  obtain ⟨c0_0, c0_1, c0_2, c0_3, c0_4⟩ := blk_cells5 hr0
  have Hr1_0 := Lib.hid hr0
  have hr1 := below_blk hb1 (lt_of_block Hr0_1.out) Hr0_1.out
  have zg1 := lt_of_block hr1
  obtain ⟨c1_0, c1_1, c1_2, c1_3, c1_4⟩ := blk_cells5 hr1
  have f1 := fun o => free_at hr1 o
  have Hq1_1 := Lib.hid hr1
  have Hr1_1 := Lib.hid hr1
  have hb1 := below_up (B := w.heap.size) (w := w) (by go_grown) hb1 (by simp <;> omega)
  have Hp1 := Lib.hid hb1
  have Hb1 := Lib.hid hb1
  clear hr0 hr1
  clear hb1
  go_wp2_with fail
  obtain ⟨k0, k1, k2, k3, k4⟩ := blk_cells5 (set5_at (u0 := .int .i64 0) (u1 := .int .i64 0) (u2 := .int .i64 0) (u3 := .int .i64 0) (u4 := .int .i64 0) Hq1_1.out)
  refine bodyPost_ret (v := (.agg #[.int .i64 Dw.zero.n.a, .int .i64 Dw.zero.n.b, .int .i64 Dw.zero.n.c, .int .i64 Dw.zero.n.d, .int .i64 Dw.zero.e])) (by simp only [results, Tryz.results92]; simp [go_sem, k0, k1, k2, k3, k4, Dw.zero, Zw.zero]) rfl ⟨rfl, ?_⟩
  have := Hp1.out
  go_grown
set_option maxRecDepth 100000 in
set_option maxHeartbeats 1600000 in
theorem iconjD_yes (x : Dw) (w : World) (h0 : -9223372036854775808 ≤ x.e) (h1 : x.e ≤ 9223372036854775807) (hx : x.ok) :
    Calls Tryz.prog 92 #[(.agg #[.int .i64 x.n.a, .int .i64 x.n.b, .int .i64 x.n.c, .int .i64 x.n.d, .int .i64 x.e])] w fun e w' => e = .returned (.agg #[.int .i64 (Dw.mk (conjV x.n) x.e).n.a, .int .i64 (Dw.mk (conjV x.n) x.e).n.b, .int .i64 (Dw.mk (conjV x.n) x.e).n.c, .int .i64 (Dw.mk (conjV x.n) x.e).n.d, .int .i64 (Dw.mk (conjV x.n) x.e).e]) ∧ Below w.heap.size w w' := by
  have Hx := Lib.hid (fun w => ivalidD x w h0 h1)
  rw [okD_true.2 hx] at Hx
  clear hx
  have Hm := Lib.hid (iconj_any x.n)
  generalize conjV x.n = m at *
  have Hr0_0 := Lib.hid (alloc_blk (.cells #[.int .i64 0, .int .i64 0, .int .i64 0, .int .i64 0, .int .i64 0] 70) (heap_alloc_new w (.cells #[.int .i64 x.n.a, .int .i64 x.n.b, .int .i64 x.n.c, .int .i64 x.n.d, .int .i64 x.e] 70)))
  have Hr0_1 := Lib.hid (show ((w.alloc (.cells #[.int .i64 x.n.a, .int .i64 x.n.b, .int .i64 x.n.c, .int .i64 x.n.d, .int .i64 x.e] 70)).alloc (.cells #[.int .i64 0, .int .i64 0, .int .i64 0, .int .i64 0, .int .i64 0] 70)).heap[w.heap.size + 1]? = some (.cells #[.int .i64 0, .int .i64 0, .int .i64 0, .int .i64 0, .int .i64 0] 70 (0, 0)) from by simpa using heap_alloc_new (w.alloc (.cells #[.int .i64 x.n.a, .int .i64 x.n.b, .int .i64 x.n.c, .int .i64 x.n.d, .int .i64 x.e] 70)) (.cells #[.int .i64 0, .int .i64 0, .int .i64 0, .int .i64 0, .int .i64 0] 70))
  go_enter Tryz.func92, Tryz.ntmps92
  go_wp2_with fail
  refine (Hx.out _).mono ?_
  rintro e w1 ⟨rfl, hb1⟩
  have hr0 := below_blk hb1 (lt_of_block Hr0_0.out) Hr0_0.out
  have zg0 := lt_of_block hr0
  obtain ⟨c0_0, c0_1, c0_2, c0_3, c0_4⟩ := blk_cells5 hr0
  have Hr1_0 := Lib.hid hr0
  have hr1 := below_blk hb1 (lt_of_block Hr0_1.out) Hr0_1.out
  have zg1 := lt_of_block hr1
  obtain ⟨c1_0, c1_1, c1_2, c1_3, c1_4⟩ := blk_cells5 hr1
  have f1 := fun o => free_at hr1 o
  have Hq1_1 := Lib.hid hr1
  have Hr1_1 := Lib.hid hr1
  have hb1 := below_up (B := w.heap.size) (w := w) (by go_grown) hb1 (by simp <;> omega)
  have Hp1 := Lib.hid hb1
  have Hb1 := Lib.hid hb1
  clear hr0 hr1
  clear hb1
  go_upto_region 3 with fail
  go_region_with (first | (go_at_call 125; refine (Hm.out _).mono ?_; rintro e w2 ⟨rfl, hb2⟩; have hr0 := below_blk hb2 (lt_of_block Hr1_0.out) Hr1_0.out; have hr1 := below_blk hb2 (lt_of_block Hr1_1.out) Hr1_1.out; obtain ⟨d0, d1, d2, d3, d4⟩ := blk_cells5 hr0; obtain ⟨e0, e1, e2, e3, e4⟩ := blk_cells5 hr1; have f2 := fun o => free_at hr1 o; have Hr2 := Lib.hid hr1; have Hb2 := Lib.hid (below_nx Hp1.out.drew hb2); clear hb2 hr0 hr1))
  all_goals go_wp2_with fail
  all_goals
    obtain ⟨k0, k1, k2, k3, k4⟩ := blk_cells5 (set5_at (u0 := .int .i64 m.a) (u1 := .int .i64 m.b) (u2 := .int .i64 m.c) (u3 := .int .i64 m.d) (u4 := .int .i64 x.e) Hr2.out)
    refine bodyPost_ret (v := (.agg #[.int .i64 (Dw.mk m x.e).n.a, .int .i64 (Dw.mk m x.e).n.b, .int .i64 (Dw.mk m x.e).n.c, .int .i64 (Dw.mk m x.e).n.d, .int .i64 (Dw.mk m x.e).e])) (by simp only [results, Tryz.results92]; simp [go_sem, k0, k1, k2, k3, k4]) rfl ⟨rfl, ?_⟩
    have := Hb2.out
    go_grown
theorem iconjD_any (x : Dw) (w : World) (h0 : -9223372036854775808 ≤ x.e) (h1 : x.e ≤ 9223372036854775807) :
    Calls Tryz.prog 92 #[(.agg #[.int .i64 x.n.a, .int .i64 x.n.b, .int .i64 x.n.c, .int .i64 x.n.d, .int .i64 x.e])] w fun e w' => e = .returned (.agg #[.int .i64 (dConjV x).n.a, .int .i64 (dConjV x).n.b, .int .i64 (dConjV x).n.c, .int .i64 (dConjV x).n.d, .int .i64 (dConjV x).e]) ∧ Below w.heap.size w w' := by
  by_cases h : x.ok
  · rw [dConj_of h]; exact iconjD_yes x w h0 h1 h
  · rw [dConj_no h]; exact iconjD_no x w h0 h1 h
set_option maxRecDepth 100000 in
set_option maxHeartbeats 1600000 in
theorem sconjD_no (x : Dw) (w : World)  (hx : ¬ x.ok) :
    Calls Tryz.prog 87 #[(.agg #[.int .i64 x.n.a, .int .i64 x.n.b, .int .i64 x.n.c, .int .i64 x.n.d, .int .i64 x.e])] w fun e w' => e = .returned (.agg #[.int .i64 Dw.zero.n.a, .int .i64 Dw.zero.n.b, .int .i64 Dw.zero.n.c, .int .i64 Dw.zero.n.d, .int .i64 Dw.zero.e]) ∧ Below w.heap.size w w' := by
  have Hx := Lib.hid (svalidD x)
  rw [okD_false.2 hx] at Hx
  clear hx
  have Hr0_0 := Lib.hid (alloc_blk (.cells #[.int .i64 0, .int .i64 0, .int .i64 0, .int .i64 0, .int .i64 0] 70) (heap_alloc_new w (.cells #[.int .i64 x.n.a, .int .i64 x.n.b, .int .i64 x.n.c, .int .i64 x.n.d, .int .i64 x.e] 70)))
  have Hr0_1 := Lib.hid (show ((w.alloc (.cells #[.int .i64 x.n.a, .int .i64 x.n.b, .int .i64 x.n.c, .int .i64 x.n.d, .int .i64 x.e] 70)).alloc (.cells #[.int .i64 0, .int .i64 0, .int .i64 0, .int .i64 0, .int .i64 0] 70)).heap[w.heap.size + 1]? = some (.cells #[.int .i64 0, .int .i64 0, .int .i64 0, .int .i64 0, .int .i64 0] 70 (0, 0)) from by simpa using heap_alloc_new (w.alloc (.cells #[.int .i64 x.n.a, .int .i64 x.n.b, .int .i64 x.n.c, .int .i64 x.n.d, .int .i64 x.e] 70)) (.cells #[.int .i64 0, .int .i64 0, .int .i64 0, .int .i64 0, .int .i64 0] 70))
  go_enter Tryz.func87, Tryz.ntmps87
  go_wp2_with fail
  refine (Hx.out _).mono ?_
  rintro e w1 ⟨rfl, hb1⟩
  have hr0 := below_blk hb1 (lt_of_block Hr0_0.out) Hr0_0.out
  have zg0 := lt_of_block hr0
  obtain ⟨c0_0, c0_1, c0_2, c0_3, c0_4⟩ := blk_cells5 hr0
  have Hr1_0 := Lib.hid hr0
  have hr1 := below_blk hb1 (lt_of_block Hr0_1.out) Hr0_1.out
  have zg1 := lt_of_block hr1
  obtain ⟨c1_0, c1_1, c1_2, c1_3, c1_4⟩ := blk_cells5 hr1
  have f1 := fun o => free_at hr1 o
  have Hq1_1 := Lib.hid hr1
  have Hr1_1 := Lib.hid hr1
  have hb1 := below_up (B := w.heap.size) (w := w) (by go_grown) hb1 (by simp <;> omega)
  have Hp1 := Lib.hid hb1
  have Hb1 := Lib.hid hb1
  clear hr0 hr1
  clear hb1
  go_wp2_with fail
  obtain ⟨k0, k1, k2, k3, k4⟩ := blk_cells5 (set5_at (u0 := .int .i64 0) (u1 := .int .i64 0) (u2 := .int .i64 0) (u3 := .int .i64 0) (u4 := .int .i64 0) Hq1_1.out)
  refine bodyPost_ret (v := (.agg #[.int .i64 Dw.zero.n.a, .int .i64 Dw.zero.n.b, .int .i64 Dw.zero.n.c, .int .i64 Dw.zero.n.d, .int .i64 Dw.zero.e])) (by simp only [results, Tryz.results87]; simp [go_sem, k0, k1, k2, k3, k4, Dw.zero, Zw.zero]) rfl ⟨rfl, ?_⟩
  have := Hp1.out
  go_grown
set_option maxRecDepth 100000 in
set_option maxHeartbeats 1600000 in
theorem sconjD_yes (x : Dw) (w : World)  (hx : x.ok) :
    Calls Tryz.prog 87 #[(.agg #[.int .i64 x.n.a, .int .i64 x.n.b, .int .i64 x.n.c, .int .i64 x.n.d, .int .i64 x.e])] w fun e w' => e = .returned (.agg #[.int .i64 (Dw.mk (conjV x.n) x.e).n.a, .int .i64 (Dw.mk (conjV x.n) x.e).n.b, .int .i64 (Dw.mk (conjV x.n) x.e).n.c, .int .i64 (Dw.mk (conjV x.n) x.e).n.d, .int .i64 (Dw.mk (conjV x.n) x.e).e]) ∧ Below w.heap.size w w' := by
  have Hx := Lib.hid (svalidD x)
  rw [okD_true.2 hx] at Hx
  clear hx
  have Hm := Lib.hid (sconj_any x.n)
  generalize conjV x.n = m at *
  have Hr0_0 := Lib.hid (alloc_blk (.cells #[.int .i64 0, .int .i64 0, .int .i64 0, .int .i64 0, .int .i64 0] 70) (heap_alloc_new w (.cells #[.int .i64 x.n.a, .int .i64 x.n.b, .int .i64 x.n.c, .int .i64 x.n.d, .int .i64 x.e] 70)))
  have Hr0_1 := Lib.hid (show ((w.alloc (.cells #[.int .i64 x.n.a, .int .i64 x.n.b, .int .i64 x.n.c, .int .i64 x.n.d, .int .i64 x.e] 70)).alloc (.cells #[.int .i64 0, .int .i64 0, .int .i64 0, .int .i64 0, .int .i64 0] 70)).heap[w.heap.size + 1]? = some (.cells #[.int .i64 0, .int .i64 0, .int .i64 0, .int .i64 0, .int .i64 0] 70 (0, 0)) from by simpa using heap_alloc_new (w.alloc (.cells #[.int .i64 x.n.a, .int .i64 x.n.b, .int .i64 x.n.c, .int .i64 x.n.d, .int .i64 x.e] 70)) (.cells #[.int .i64 0, .int .i64 0, .int .i64 0, .int .i64 0, .int .i64 0] 70))
  go_enter Tryz.func87, Tryz.ntmps87
  go_wp2_with fail
  refine (Hx.out _).mono ?_
  rintro e w1 ⟨rfl, hb1⟩
  have hr0 := below_blk hb1 (lt_of_block Hr0_0.out) Hr0_0.out
  have zg0 := lt_of_block hr0
  obtain ⟨c0_0, c0_1, c0_2, c0_3, c0_4⟩ := blk_cells5 hr0
  have Hr1_0 := Lib.hid hr0
  have hr1 := below_blk hb1 (lt_of_block Hr0_1.out) Hr0_1.out
  have zg1 := lt_of_block hr1
  obtain ⟨c1_0, c1_1, c1_2, c1_3, c1_4⟩ := blk_cells5 hr1
  have f1 := fun o => free_at hr1 o
  have Hq1_1 := Lib.hid hr1
  have Hr1_1 := Lib.hid hr1
  have hb1 := below_up (B := w.heap.size) (w := w) (by go_grown) hb1 (by simp <;> omega)
  have Hp1 := Lib.hid hb1
  have Hb1 := Lib.hid hb1
  clear hr0 hr1
  clear hb1
  go_upto_region 3 with fail
  go_region_with (first | (go_at_call 121; refine (Hm.out _).mono ?_; rintro e w2 ⟨rfl, hb2⟩; have hr0 := below_blk hb2 (lt_of_block Hr1_0.out) Hr1_0.out; have hr1 := below_blk hb2 (lt_of_block Hr1_1.out) Hr1_1.out; obtain ⟨d0, d1, d2, d3, d4⟩ := blk_cells5 hr0; obtain ⟨e0, e1, e2, e3, e4⟩ := blk_cells5 hr1; have f2 := fun o => free_at hr1 o; have Hr2 := Lib.hid hr1; have Hb2 := Lib.hid (below_nx Hp1.out.drew hb2); clear hb2 hr0 hr1))
  all_goals go_wp2_with fail
  all_goals
    obtain ⟨k0, k1, k2, k3, k4⟩ := blk_cells5 (set5_at (u0 := .int .i64 m.a) (u1 := .int .i64 m.b) (u2 := .int .i64 m.c) (u3 := .int .i64 m.d) (u4 := .int .i64 x.e) Hr2.out)
    refine bodyPost_ret (v := (.agg #[.int .i64 (Dw.mk m x.e).n.a, .int .i64 (Dw.mk m x.e).n.b, .int .i64 (Dw.mk m x.e).n.c, .int .i64 (Dw.mk m x.e).n.d, .int .i64 (Dw.mk m x.e).e])) (by simp only [results, Tryz.results87]; simp [go_sem, k0, k1, k2, k3, k4]) rfl ⟨rfl, ?_⟩
    have := Hb2.out
    go_grown
theorem sconjD_any (x : Dw) (w : World)  :
    Calls Tryz.prog 87 #[(.agg #[.int .i64 x.n.a, .int .i64 x.n.b, .int .i64 x.n.c, .int .i64 x.n.d, .int .i64 x.e])] w fun e w' => e = .returned (.agg #[.int .i64 (dConjV x).n.a, .int .i64 (dConjV x).n.b, .int .i64 (dConjV x).n.c, .int .i64 (dConjV x).n.d, .int .i64 (dConjV x).e]) ∧ Below w.heap.size w w' := by
  by_cases h : x.ok
  · rw [dConj_of h]; exact sconjD_yes x w h
  · rw [dConj_no h]; exact sconjD_no x w h
set_option maxRecDepth 100000 in
set_option maxHeartbeats 400000 in
theorem ione_any (w : World) :
    Calls Tryz.prog 113 #[] w fun e w' => e = .returned (.agg #[.int .i64 oneD.n.a, .int .i64 oneD.n.b, .int .i64 oneD.n.c, .int .i64 oneD.n.d, .int .i64 oneD.e]) ∧ Below w.heap.size w w' := by
  go_enter Tryz.func113, Tryz.ntmps113
  go_wp2_with fail
  refine bodyPost_ret (v := (.agg #[.int .i64 oneD.n.a, .int .i64 oneD.n.b, .int .i64 oneD.n.c, .int .i64 oneD.n.d, .int .i64 oneD.e])) (by simp [results, Tryz.results113, go_sem, oneD]) rfl ⟨rfl, ?_⟩
  go_grown
set_option maxRecDepth 100000 in
set_option maxHeartbeats 400000 in
theorem sone_any (w : World) :
    Calls Tryz.prog 75 #[] w fun e w' => e = .returned (.agg #[.int .i64 oneD.n.a, .int .i64 oneD.n.b, .int .i64 oneD.n.c, .int .i64 oneD.n.d, .int .i64 oneD.e]) ∧ Below w.heap.size w w' := by
  go_enter Tryz.func75, Tryz.ntmps75
  go_wp2_with fail
  refine bodyPost_ret (v := (.agg #[.int .i64 oneD.n.a, .int .i64 oneD.n.b, .int .i64 oneD.n.c, .int .i64 oneD.n.d, .int .i64 oneD.e])) (by simp [results, Tryz.results75, go_sem, oneD]) rfl ⟨rfl, ?_⟩
  go_grown
end Go.Proofs.YtlmiebeffdcfhaaGreat
