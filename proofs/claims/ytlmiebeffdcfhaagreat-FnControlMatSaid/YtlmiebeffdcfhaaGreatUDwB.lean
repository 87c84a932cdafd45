/- The product in D[omega], of the program and of its model. -/
import Derived.Test.YtlmiebeffdcfhaaGreatUBaseB07
namespace Go.Proofs.YtlmiebeffdcfhaaGreat
open Go.RowKit
attribute [local irreducible] World.cell?
theorem dMul_false {x y : Dw} (h : ¬ (x.ok ∧ y.ok ∧ mulB x.n y.n = true)) : dMulV x y = .zero ∧ dMulB x y = false := by
  have hb : dMulB x y = false := by
    rw [Bool.eq_false_iff]; intro k; have := dMulB_iff.1 k; exact h ⟨this.1, this.2.1, this.2.2.1⟩
  exact ⟨dMulV_no hb, hb⟩
theorem dMul_true {x y : Dw} (hx : x.ok) (hy : y.ok) (h : mulB x.n y.n = true) : dMulV x y = newV (mulV x.n y.n) (x.e + y.e) ∧ dMulB x y = newB (mulV x.n y.n) (x.e + y.e) := by
  have e : mulV x.n y.n = x.n.mul y.n := by rw [mulV, if_pos (mulB_iff.1 h)]
  have hb : dMulB x y = newB (x.n.mul y.n) (x.e + y.e) := by
    rw [Bool.eq_iff_iff, dMulB_iff]; exact ⟨fun k => k.2.2.2, fun k => ⟨hx, hy, h, k⟩⟩
  rw [e]
  exact ⟨by rw [dMulV, hb]; split <;> simp_all [newV], hb⟩
set_option maxRecDepth 100000 in
set_option maxHeartbeats 1600000 in
theorem imulD_bad1 (x y : Dw) (w : World) (h0 : -9223372036854775808 ≤ x.e) (h1 : x.e ≤ 9223372036854775807) (g0 : -9223372036854775808 ≤ y.e) (g1 : y.e ≤ 9223372036854775807) (hx : okD x = false) :
    Calls Tryz.prog 123 #[(.agg #[.int .i64 x.n.a, .int .i64 x.n.b, .int .i64 x.n.c, .int .i64 x.n.d, .int .i64 x.e]), (.agg #[.int .i64 y.n.a, .int .i64 y.n.b, .int .i64 y.n.c, .int .i64 y.n.d, .int .i64 y.e])] w fun e w' => e = .returned (.tuple #[(.agg #[.int .i64 Dw.zero.n.a, .int .i64 Dw.zero.n.b, .int .i64 Dw.zero.n.c, .int .i64 Dw.zero.n.d, .int .i64 Dw.zero.e]), .bool false]) ∧ Below w.heap.size w w' := by
  have Hx := Lib.hid (fun w => ivalidD x w h0 h1)
  have Hy := Lib.hid (fun w => ivalidD y w g0 g1)
  rw [hx] at Hx
  clear hx
  have Hr0_0 := Lib.hid (alloc_blk (.cells #[.int .i64 0, .int .i64 0, .int .i64 0, .int .i64 0, .int .i64 0] 70) (alloc_blk (.cells #[.int .i64 y.n.a, .int .i64 y.n.b, .int .i64 y.n.c, .int .i64 y.n.d, .int .i64 y.e] 70) (heap_alloc_new w (.cells #[.int .i64 x.n.a, .int .i64 x.n.b, .int .i64 x.n.c, .int .i64 x.n.d, .int .i64 x.e] 70))))
  have Hr0_1 := Lib.hid (alloc_blk (.cells #[.int .i64 0, .int .i64 0, .int .i64 0, .int .i64 0, .int .i64 0] 70) (show ((w.alloc (.cells #[.int .i64 x.n.a, .int .i64 x.n.b, .int .i64 x.n.c, .int .i64 x.n.d, .int .i64 x.e] 70)).alloc (.cells #[.int .i64 y.n.a, .int .i64 y.n.b, .int .i64 y.n.c, .int .i64 y.n.d, .int .i64 y.e] 70)).heap[w.heap.size + 1]? = some (.cells #[.int .i64 y.n.a, .int .i64 y.n.b, .int .i64 y.n.c, .int .i64 y.n.d, .int .i64 y.e] 70 (0, 0)) from by simpa using heap_alloc_new (w.alloc (.cells #[.int .i64 x.n.a, .int .i64 x.n.b, .int .i64 x.n.c, .int .i64 x.n.d, .int .i64 x.e] 70)) (.cells #[.int .i64 y.n.a, .int .i64 y.n.b, .int .i64 y.n.c, .int .i64 y.n.d, .int .i64 y.e] 70)))
  have Hr0_2 := Lib.hid (show (((w.alloc (.cells #[.int .i64 x.n.a, .int .i64 x.n.b, .int .i64 x.n.c, .int .i64 x.n.d, .int .i64 x.e] 70)).alloc (.cells #[.int .i64 y.n.a, .int .i64 y.n.b, .int .i64 y.n.c, .int .i64 y.n.d, .int .i64 y.e] 70)).alloc (.cells #[.int .i64 0, .int .i64 0, .int .i64 0, .int .i64 0, .int .i64 0] 70)).heap[w.heap.size + 2]? = some (.cells #[.int .i64 0, .int .i64 0, .int .i64 0, .int .i64 0, .int .i64 0] 70 (0, 0)) from by simpa using heap_alloc_new ((w.alloc (.cells #[.int .i64 x.n.a, .int .i64 x.n.b, .int .i64 x.n.c, .int .i64 x.n.d, .int .i64 x.e] 70)).alloc (.cells #[.int .i64 y.n.a, .int .i64 y.n.b, .int .i64 y.n.c, .int .i64 y.n.d, .int .i64 y.e] 70)) (.cells #[.int .i64 0, .int .i64 0, .int .i64 0, .int .i64 0, .int .i64 0] 70))
  go_enter Tryz.func123, Tryz.ntmps123
  go_wp2_with fail
  refine (Hx.out _).mono ?_
  rintro e w1 ⟨rfl, hb1⟩
  have hr0 := below_blk hb1 (lt_of_block Hr0_0.out) Hr0_0.out
  have zg0 := lt_of_block hr0
  obtain ⟨c0_0, c0_1, c0_2, c0_3, c0_4⟩ := blk_cells5 hr0
  have Hr1_0 := Lib.hid hr0
  have hr1 := below_blk hb1 (lt_of_block Hr0_1.out) Hr0_1.out
  have zg1 := lt_of_block hr1
  obtain ⟨c1_0, c1_1, c1_2, c1_3, c1_4⟩ := blk_cells5 hr1
  have Hr1_1 := Lib.hid hr1
  have hr2 := below_blk hb1 (lt_of_block Hr0_2.out) Hr0_2.out
  have zg2 := lt_of_block hr2
  obtain ⟨c2_0, c2_1, c2_2, c2_3, c2_4⟩ := blk_cells5 hr2
  have f2 := fun o => free_at hr2 o
  have Hq1_2 := Lib.hid hr2
  have Hr1_2 := Lib.hid hr2
  have hb1 := below_up (B := w.heap.size) (w := w) (by go_grown) hb1 (by simp <;> omega)
  have Hp1 := Lib.hid hb1
  have Hb1 := Lib.hid hb1
  clear hr0 hr1 hr2
  clear hb1
  go_wp2_with fail
  obtain ⟨k0, k1, k2, k3, k4⟩ := blk_cells5 (set5_at (u0 := .int .i64 0) (u1 := .int .i64 0) (u2 := .int .i64 0) (u3 := .int .i64 0) (u4 := .int .i64 0) Hq1_2.out)
  refine bodyPost_ret (v := .tuple #[(.agg #[.int .i64 Dw.zero.n.a, .int .i64 Dw.zero.n.b, .int .i64 Dw.zero.n.c, .int .i64 Dw.zero.n.d, .int .i64 Dw.zero.e]), .bool false]) (by simp only [results, Tryz.results123]; simp [go_sem, k0, k1, k2, k3, k4, Dw.zero, Zw.zero]) rfl ⟨rfl, ?_⟩
  have := Hp1.out
  go_grown
set_option maxRecDepth 100000 in
set_option maxHeartbeats 1600000 in
theorem imulD_bad2 (x y : Dw) (w : World) (h0 : -9223372036854775808 ≤ x.e) (h1 : x.e ≤ 9223372036854775807) (g0 : -9223372036854775808 ≤ y.e) (g1 : y.e ≤ 9223372036854775807) (hx : okD x = true) (hy : okD y = false) :
    Calls Tryz.prog 123 #[(.agg #[.int .i64 x.n.a, .int .i64 x.n.b, .int .i64 x.n.c, .int .i64 x.n.d, .int .i64 x.e]), (.agg #[.int .i64 y.n.a, .int .i64 y.n.b, .int .i64 y.n.c, .int .i64 y.n.d, .int .i64 y.e])] w fun e w' => e = .returned (.tuple #[(.agg #[.int .i64 Dw.zero.n.a, .int .i64 Dw.zero.n.b, .int .i64 Dw.zero.n.c, .int .i64 Dw.zero.n.d, .int .i64 Dw.zero.e]), .bool false]) ∧ Below w.heap.size w w' := by
  have Hx := Lib.hid (fun w => ivalidD x w h0 h1)
  have Hy := Lib.hid (fun w => ivalidD y w g0 g1)
  rw [hx] at Hx
  rw [hy] at Hy
  clear hy
  clear hx
  have Hr0_0 := Lib.hid (alloc_blk (.cells #[.int .i64 0, .int .i64 0, .int .i64 0, .int .i64 0, .int .i64 0] 70) (alloc_blk (.cells #[.int .i64 y.n.a, .int .i64 y.n.b, .int .i64 y.n.c, .int .i64 y.n.d, .int .i64 y.e] 70) (heap_alloc_new w (.cells #[.int .i64 x.n.a, .int .i64 x.n.b, .int .i64 x.n.c, .int .i64 x.n.d, .int .i64 x.e] 70))))
  have Hr0_1 := Lib.hid (alloc_blk (.cells #[.int .i64 0, .int .i64 0, .int .i64 0, .int .i64 0, .int .i64 0] 70) (show ((w.alloc (.cells #[.int .i64 x.n.a, .int .i64 x.n.b, .int .i64 x.n.c, .int .i64 x.n.d, .int .i64 x.e] 70)).alloc (.cells #[.int .i64 y.n.a, .int .i64 y.n.b, .int .i64 y.n.c, .int .i64 y.n.d, .int .i64 y.e] 70)).heap[w.heap.size + 1]? = some (.cells #[.int .i64 y.n.a, .int .i64 y.n.b, .int .i64 y.n.c, .int .i64 y.n.d, .int .i64 y.e] 70 (0, 0)) from by simpa using heap_alloc_new (w.alloc (.cells #[.int .i64 x.n.a, .int .i64 x.n.b, .int .i64 x.n.c, .int .i64 x.n.d, .int .i64 x.e] 70)) (.cells #[.int .i64 y.n.a, .int .i64 y.n.b, .int .i64 y.n.c, .int .i64 y.n.d, .int .i64 y.e] 70)))
  have Hr0_2 := Lib.hid (show (((w.alloc (.cells #[.int .i64 x.n.a, .int .i64 x.n.b, .int .i64 x.n.c, .int .i64 x.n.d, .int .i64 x.e] 70)).alloc (.cells #[.int .i64 y.n.a, .int .i64 y.n.b, .int .i64 y.n.c, .int .i64 y.n.d, .int .i64 y.e] 70)).alloc (.cells #[.int .i64 0, .int .i64 0, .int .i64 0, .int .i64 0, .int .i64 0] 70)).heap[w.heap.size + 2]? = some (.cells #[.int .i64 0, .int .i64 0, .int .i64 0, .int .i64 0, .int .i64 0] 70 (0, 0)) from by simpa using heap_alloc_new ((w.alloc (.cells #[.int .i64 x.n.a, .int .i64 x.n.b, .int .i64 x.n.c, .int .i64 x.n.d, .int .i64 x.e] 70)).alloc (.cells #[.int .i64 y.n.a, .int .i64 y.n.b, .int .i64 y.n.c, .int .i64 y.n.d, .int .i64 y.e] 70)) (.cells #[.int .i64 0, .int .i64 0, .int .i64 0, .int .i64 0, .int .i64 0] 70))
  go_enter Tryz.func123, Tryz.ntmps123
  go_wp2_with fail
  refine (Hx.out _).mono ?_
  rintro e w1 ⟨rfl, hb1⟩
  have hr0 := below_blk hb1 (lt_of_block Hr0_0.out) Hr0_0.out
  have zg0 := lt_of_block hr0
  obtain ⟨c0_0, c0_1, c0_2, c0_3, c0_4⟩ := blk_cells5 hr0
  have Hr1_0 := Lib.hid hr0
  have hr1 := below_blk hb1 (lt_of_block Hr0_1.out) Hr0_1.out
  have zg1 := lt_of_block hr1
  obtain ⟨c1_0, c1_1, c1_2, c1_3, c1_4⟩ := blk_cells5 hr1
  have Hr1_1 := Lib.hid hr1
  have hr2 := below_blk hb1 (lt_of_block Hr0_2.out) Hr0_2.out
  have zg2 := lt_of_block hr2
  obtain ⟨c2_0, c2_1, c2_2, c2_3, c2_4⟩ := blk_cells5 hr2
  have f2 := fun o => free_at hr2 o
  have Hq1_2 := Lib.hid hr2
  have Hr1_2 := Lib.hid hr2
  have hb1 := below_up (B := w.heap.size) (w := w) (by go_grown) hb1 (by simp <;> omega)
  have Hp1 := Lib.hid hb1
  have Hb1 := Lib.hid hb1
  clear hr0 hr1 hr2
  clear hb1
  go_wp2_with fail
  refine (Hy.out _).mono ?_
  rintro e w2 ⟨rfl, hb2⟩
  clear zg0 c0_0 c0_1 c0_2 c0_3 c0_4 zg1 c1_0 c1_1 c1_2 c1_3 c1_4 zg2 c2_0 c2_1 c2_2 c2_3 c2_4 f2
  have hr0 := below_blk hb2 (lt_of_block Hr1_0.out) Hr1_0.out
  have zg0 := lt_of_block hr0
  obtain ⟨c0_0, c0_1, c0_2, c0_3, c0_4⟩ := blk_cells5 hr0
  have Hr2_0 := Lib.hid hr0
  have hr1 := below_blk hb2 (lt_of_block Hr1_1.out) Hr1_1.out
  have zg1 := lt_of_block hr1
  obtain ⟨c1_0, c1_1, c1_2, c1_3, c1_4⟩ := blk_cells5 hr1
  have Hr2_1 := Lib.hid hr1
  have hr2 := below_blk hb2 (lt_of_block Hr1_2.out) Hr1_2.out
  have zg2 := lt_of_block hr2
  obtain ⟨c2_0, c2_1, c2_2, c2_3, c2_4⟩ := blk_cells5 hr2
  have f2 := fun o => free_at hr2 o
  have Hq2_2 := Lib.hid hr2
  have Hr2_2 := Lib.hid hr2
  have hb2 := below_nx Hb1.out hb2
  have Hp2 := Lib.hid hb2
  have Hb2 := Lib.hid hb2
  clear hr0 hr1 hr2
  clear hb2
  go_wp2_with fail
  obtain ⟨k0, k1, k2, k3, k4⟩ := blk_cells5 (set5_at (u0 := .int .i64 0) (u1 := .int .i64 0) (u2 := .int .i64 0) (u3 := .int .i64 0) (u4 := .int .i64 0) Hq2_2.out)
  refine bodyPost_ret (v := .tuple #[(.agg #[.int .i64 Dw.zero.n.a, .int .i64 Dw.zero.n.b, .int .i64 Dw.zero.n.c, .int .i64 Dw.zero.n.d, .int .i64 Dw.zero.e]), .bool false]) (by simp only [results, Tryz.results123]; simp [go_sem, k0, k1, k2, k3, k4, Dw.zero, Zw.zero]) rfl ⟨rfl, ?_⟩
  have := Hp2.out
  go_grown
set_option maxRecDepth 100000 in
set_option maxHeartbeats 3200000 in
theorem imulD_ok (x y : Dw) (w : World) (h0 : -9223372036854775808 ≤ x.e) (h1 : x.e ≤ 9223372036854775807) (g0 : -9223372036854775808 ≤ y.e) (g1 : y.e ≤ 9223372036854775807) (hx : x.ok) (hy : y.ok) :
    Calls Tryz.prog 123 #[(.agg #[.int .i64 x.n.a, .int .i64 x.n.b, .int .i64 x.n.c, .int .i64 x.n.d, .int .i64 x.e]), (.agg #[.int .i64 y.n.a, .int .i64 y.n.b, .int .i64 y.n.c, .int .i64 y.n.d, .int .i64 y.e])] w fun e w' => e = .returned (.tuple #[(.agg #[.int .i64 (dMulV x y).n.a, .int .i64 (dMulV x y).n.b, .int .i64 (dMulV x y).n.c, .int .i64 (dMulV x y).n.d, .int .i64 (dMulV x y).e]), .bool (dMulB x y)]) ∧ Below w.heap.size w w' := by
  have Hx := Lib.hid (fun w => ivalidD x w h0 h1)
  have Hy := Lib.hid (fun w => ivalidD y w g0 g1)
  rw [okD_true.2 hx] at Hx
  rw [okD_true.2 hy] at Hy
  have Hm := Lib.hid (imul_any x.n y.n)
  have he : 0 ≤ x.e + y.e ∧ x.e + y.e ≤ 120 := by have := hx.2; have := hy.2; omega
  obtain ⟨he0, he1⟩ := he
  have x0 := hx.2.1
  have x1 := hx.2.2.1
  have y0 := hy.2.1
  have y1 := hy.2.2.1
  have Ht := Lib.hid (@dMul_true x y hx hy)
  have Hf := Lib.hid (show mulB x.n y.n = false → dMulV x y = .zero ∧ dMulB x y = false from fun h => dMul_false (fun k => by rw [k.2.2] at h; cases h))
  have Hn := Lib.hid (fun w => inew_any (mulV x.n y.n) (x.e + y.e) w (by omega) (by omega))
  clear hx hy
  generalize dMulV x y = R at *
  generalize dMulB x y = T at *
  generalize newV (mulV x.n y.n) (x.e + y.e) = r at *
  generalize newB (mulV x.n y.n) (x.e + y.e) = u at *
  generalize mulV x.n y.n = m at *
  generalize mulB x.n y.n = t at *
  have Hr0_0 := Lib.hid (alloc_blk (.cells #[.int .i64 0, .int .i64 0, .int .i64 0, .int .i64 0, .int .i64 0] 70) (alloc_blk (.cells #[.int .i64 y.n.a, .int .i64 y.n.b, .int .i64 y.n.c, .int .i64 y.n.d, .int .i64 y.e] 70) (heap_alloc_new w (.cells #[.int .i64 x.n.a, .int .i64 x.n.b, .int .i64 x.n.c, .int .i64 x.n.d, .int .i64 x.e] 70))))
  have Hr0_1 := Lib.hid (alloc_blk (.cells #[.int .i64 0, .int .i64 0, .int .i64 0, .int .i64 0, .int .i64 0] 70) (show ((w.alloc (.cells #[.int .i64 x.n.a, .int .i64 x.n.b, .int .i64 x.n.c, .int .i64 x.n.d, .int .i64 x.e] 70)).alloc (.cells #[.int .i64 y.n.a, .int .i64 y.n.b, .int .i64 y.n.c, .int .i64 y.n.d, .int .i64 y.e] 70)).heap[w.heap.size + 1]? = some (.cells #[.int .i64 y.n.a, .int .i64 y.n.b, .int .i64 y.n.c, .int .i64 y.n.d, .int .i64 y.e] 70 (0, 0)) from by simpa using heap_alloc_new (w.alloc (.cells #[.int .i64 x.n.a, .int .i64 x.n.b, .int .i64 x.n.c, .int .i64 x.n.d, .int .i64 x.e] 70)) (.cells #[.int .i64 y.n.a, .int .i64 y.n.b, .int .i64 y.n.c, .int .i64 y.n.d, .int .i64 y.e] 70)))
  have Hr0_2 := Lib.hid (show (((w.alloc (.cells #[.int .i64 x.n.a, .int .i64 x.n.b, .int .i64 x.n.c, .int .i64 x.n.d, .int .i64 x.e] 70)).alloc (.cells #[.int .i64 y.n.a, .int .i64 y.n.b, .int .i64 y.n.c, .int .i64 y.n.d, .int .i64 y.e] 70)).alloc (.cells #[.int .i64 0, .int .i64 0, .int .i64 0, .int .i64 0, .int .i64 0] 70)).heap[w.heap.size + 2]? = some (.cells #[.int .i64 0, .int .i64 0, .int .i64 0, .int .i64 0, .int .i64 0] 70 (0, 0)) from by simpa using heap_alloc_new ((w.alloc (.cells #[.int .i64 x.n.a, .int .i64 x.n.b, .int .i64 x.n.c, .int .i64 x.n.d, .int .i64 x.e] 70)).alloc (.cells #[.int .i64 y.n.a, .int .i64 y.n.b, .int .i64 y.n.c, .int .i64 y.n.d, .int .i64 y.e] 70)) (.cells #[.int .i64 0, .int .i64 0, .int .i64 0, .int .i64 0, .int .i64 0] 70))
  go_enter Tryz.func123, Tryz.ntmps123
  go_wp2_with fail
  refine (Hx.out _).mono ?_
  rintro e w1 ⟨rfl, hb1⟩
  have hr0 := below_blk hb1 (lt_of_block Hr0_0.out) Hr0_0.out
  have zg0 := lt_of_block hr0
  obtain ⟨c0_0, c0_1, c0_2, c0_3, c0_4⟩ := blk_cells5 hr0
  have Hr1_0 := Lib.hid hr0
  have hr1 := below_blk hb1 (lt_of_block Hr0_1.out) Hr0_1.out
  have zg1 := lt_of_block hr1
  obtain ⟨c1_0, c1_1, c1_2, c1_3, c1_4⟩ := blk_cells5 hr1
  have Hr1_1 := Lib.hid hr1
  have hr2 := below_blk hb1 (lt_of_block Hr0_2.out) Hr0_2.out
  have zg2 := lt_of_block hr2
  obtain ⟨c2_0, c2_1, c2_2, c2_3, c2_4⟩ := blk_cells5 hr2
  have f2 := fun o => free_at hr2 o
  have Hq1_2 := Lib.hid hr2
  have Hr1_2 := Lib.hid hr2
  have hb1 := below_up (B := w.heap.size) (w := w) (by go_grown) hb1 (by simp <;> omega)
  have Hp1 := Lib.hid hb1
  have Hb1 := Lib.hid hb1
  clear hr0 hr1 hr2
  clear hb1
  go_wp2_with fail
  refine (Hy.out _).mono ?_
  rintro e w2 ⟨rfl, hb2⟩
  clear zg0 c0_0 c0_1 c0_2 c0_3 c0_4 zg1 c1_0 c1_1 c1_2 c1_3 c1_4 zg2 c2_0 c2_1 c2_2 c2_3 c2_4 f2
  have hr0 := below_blk hb2 (lt_of_block Hr1_0.out) Hr1_0.out
  have zg0 := lt_of_block hr0
  obtain ⟨c0_0, c0_1, c0_2, c0_3, c0_4⟩ := blk_cells5 hr0
  have Hr2_0 := Lib.hid hr0
  have hr1 := below_blk hb2 (lt_of_block Hr1_1.out) Hr1_1.out
  have zg1 := lt_of_block hr1
  obtain ⟨c1_0, c1_1, c1_2, c1_3, c1_4⟩ := blk_cells5 hr1
  have Hr2_1 := Lib.hid hr1
  have hr2 := below_blk hb2 (lt_of_block Hr1_2.out) Hr1_2.out
  have zg2 := lt_of_block hr2
  obtain ⟨c2_0, c2_1, c2_2, c2_3, c2_4⟩ := blk_cells5 hr2
  have f2 := fun o => free_at hr2 o
  have Hq2_2 := Lib.hid hr2
  have Hr2_2 := Lib.hid hr2
  have hb2 := below_nx Hb1.out hb2
  have Hp2 := Lib.hid hb2
  have Hb2 := Lib.hid hb2
  clear hr0 hr1 hr2
  clear hb2
  go_wp2_with fail
  refine (Hm.out _).mono ?_
  rintro e w3 ⟨rfl, hb3⟩
  clear zg0 c0_0 c0_1 c0_2 c0_3 c0_4 zg1 c1_0 c1_1 c1_2 c1_3 c1_4 zg2 c2_0 c2_1 c2_2 c2_3 c2_4 f2
  have hr0 := below_blk hb3 (lt_of_block Hr2_0.out) Hr2_0.out
  have zg0 := lt_of_block hr0
  obtain ⟨c0_0, c0_1, c0_2, c0_3, c0_4⟩ := blk_cells5 hr0
  have Hr3_0 := Lib.hid (alloc_blk (.cells #[.int .i64 m.a, .int .i64 m.b, .int .i64 m.c, .int .i64 m.d] 68) hr0)
  have hr1 := below_blk hb3 (lt_of_block Hr2_1.out) Hr2_1.out
  have zg1 := lt_of_block hr1
  obtain ⟨c1_0, c1_1, c1_2, c1_3, c1_4⟩ := blk_cells5 hr1
  have Hr3_1 := Lib.hid (alloc_blk (.cells #[.int .i64 m.a, .int .i64 m.b, .int .i64 m.c, .int .i64 m.d] 68) hr1)
  have hr2 := below_blk hb3 (lt_of_block Hr2_2.out) Hr2_2.out
  have zg2 := lt_of_block hr2
  obtain ⟨c2_0, c2_1, c2_2, c2_3, c2_4⟩ := blk_cells5 hr2
  have f2 := fun o => free_at hr2 o
  have Hq3_2 := Lib.hid hr2
  have Hr3_2 := Lib.hid (alloc_blk (.cells #[.int .i64 m.a, .int .i64 m.b, .int .i64 m.c, .int .i64 m.d] 68) hr2)
  have hb3 := below_nx Hb2.out hb3
  have Hp3 := Lib.hid hb3
  have Hb3 := Lib.hid (Below.alloc hb3 (Below.size hb3) (.cells #[.int .i64 m.a, .int .i64 m.b, .int .i64 m.c, .int .i64 m.d] 68))
  have Hr3_3 := Lib.hid (heap_alloc_new w3 (.cells #[.int .i64 m.a, .int .i64 m.b, .int .i64 m.c, .int .i64 m.d] 68))
  clear hr0 hr1 hr2
  clear hb3
  cases t
  · obtain ⟨rfl, rfl⟩ := Hf.out rfl
    go_wp2_with fail
    obtain ⟨k0, k1, k2, k3, k4⟩ := blk_cells5 (alloc_blk (.cells #[.int .i64 m.a, .int .i64 m.b, .int .i64 m.c, .int .i64 m.d] 68) (set5_at (u0 := .int .i64 0) (u1 := .int .i64 0) (u2 := .int .i64 0) (u3 := .int .i64 0) (u4 := .int .i64 0) Hq3_2.out))
    refine bodyPost_ret (v := .tuple #[(.agg #[.int .i64 Dw.zero.n.a, .int .i64 Dw.zero.n.b, .int .i64 Dw.zero.n.c, .int .i64 Dw.zero.n.d, .int .i64 Dw.zero.e]), .bool false]) (by simp only [results, Tryz.results123]; simp [go_sem, k0, k1, k2, k3, k4, Dw.zero, Zw.zero]) rfl ⟨rfl, ?_⟩
    have := Hp3.out
    go_grown
  · obtain ⟨rfl, rfl⟩ := Ht.out rfl
    go_wp2_with fail
    refine (Hn.out _).mono ?_
    rintro e w4 ⟨rfl, hb4⟩
    clear zg0 c0_0 c0_1 c0_2 c0_3 c0_4 zg1 c1_0 c1_1 c1_2 c1_3 c1_4 zg2 c2_0 c2_1 c2_2 c2_3 c2_4 f2
    have hr0 := below_blk hb4 (lt_of_block Hr3_0.out) Hr3_0.out
    have zg0 := lt_of_block hr0
    obtain ⟨c0_0, c0_1, c0_2, c0_3, c0_4⟩ := blk_cells5 hr0
    have Hr4_0 := Lib.hid hr0
    have hr1 := below_blk hb4 (lt_of_block Hr3_1.out) Hr3_1.out
    have zg1 := lt_of_block hr1
    obtain ⟨c1_0, c1_1, c1_2, c1_3, c1_4⟩ := blk_cells5 hr1
    have Hr4_1 := Lib.hid hr1
    have hr2 := below_blk hb4 (lt_of_block Hr3_2.out) Hr3_2.out
    have zg2 := lt_of_block hr2
    obtain ⟨c2_0, c2_1, c2_2, c2_3, c2_4⟩ := blk_cells5 hr2
    have f2 := fun o => free_at hr2 o
    have Hq4_2 := Lib.hid hr2
    have Hr4_2 := Lib.hid hr2
    have hr3 := below_blk hb4 (lt_of_block Hr3_3.out) Hr3_3.out
    have zg3 := lt_of_block hr3
    obtain ⟨c3_0, c3_1, c3_2, c3_3⟩ := blk_cells hr3
    have Hr4_3 := Lib.hid hr3
    have hb4 := below_nx Hb3.out hb4
    have Hp4 := Lib.hid hb4
    have Hb4 := Lib.hid hb4
    clear hr0 hr1 hr2 hr3
    clear hb4
    go_wp2_with fail
    obtain ⟨k0, k1, k2, k3, k4⟩ := blk_cells5 (set5_at (u0 := .int .i64 R.n.a) (u1 := .int .i64 R.n.b) (u2 := .int .i64 R.n.c) (u3 := .int .i64 R.n.d) (u4 := .int .i64 R.e) Hq4_2.out)
    refine bodyPost_ret (v := .tuple #[(.agg #[.int .i64 R.n.a, .int .i64 R.n.b, .int .i64 R.n.c, .int .i64 R.n.d, .int .i64 R.e]), .bool T]) (by simp only [results, Tryz.results123]; simp [go_sem, k0, k1, k2, k3, k4]) rfl ⟨rfl, ?_⟩
    have := Hp4.out
    go_grown
set_option maxRecDepth 100000 in
set_option maxHeartbeats 1600000 in
theorem smulD_bad1 (x y : Dw) (w : World) (hx : okD x = false) :
    Calls Tryz.prog 73 #[(.agg #[.int .i64 x.n.a, .int .i64 x.n.b, .int .i64 x.n.c, .int .i64 x.n.d, .int .i64 x.e]), (.agg #[.int .i64 y.n.a, .int .i64 y.n.b, .int .i64 y.n.c, .int .i64 y.n.d, .int .i64 y.e])] w fun e w' => e = .returned (.tuple #[(.agg #[.int .i64 Dw.zero.n.a, .int .i64 Dw.zero.n.b, .int .i64 Dw.zero.n.c, .int .i64 Dw.zero.n.d, .int .i64 Dw.zero.e]), .bool false]) ∧ Below w.heap.size w w' := by
  have Hx := Lib.hid (fun w => svalidD x w)
  have Hy := Lib.hid (fun w => svalidD y w)
  have Hm := Lib.hid (smul_any x.n y.n)
  rw [hx] at Hx
  clear hx
  generalize mulV x.n y.n = m at *
  generalize mulB x.n y.n = t at *
  have Hr0_0 := Lib.hid (alloc_blk (.cells #[.int .i64 0, .int .i64 0, .int .i64 0, .int .i64 0, .int .i64 0] 70) (alloc_blk (.cells #[.int .i64 y.n.a, .int .i64 y.n.b, .int .i64 y.n.c, .int .i64 y.n.d, .int .i64 y.e] 70) (heap_alloc_new w (.cells #[.int .i64 x.n.a, .int .i64 x.n.b, .int .i64 x.n.c, .int .i64 x.n.d, .int .i64 x.e] 70))))
  have Hr0_1 := Lib.hid (alloc_blk (.cells #[.int .i64 0, .int .i64 0, .int .i64 0, .int .i64 0, .int .i64 0] 70) (show ((w.alloc (.cells #[.int .i64 x.n.a, .int .i64 x.n.b, .int .i64 x.n.c, .int .i64 x.n.d, .int .i64 x.e] 70)).alloc (.cells #[.int .i64 y.n.a, .int .i64 y.n.b, .int .i64 y.n.c, .int .i64 y.n.d, .int .i64 y.e] 70)).heap[w.heap.size + 1]? = some (.cells #[.int .i64 y.n.a, .int .i64 y.n.b, .int .i64 y.n.c, .int .i64 y.n.d, .int .i64 y.e] 70 (0, 0)) from by simpa using heap_alloc_new (w.alloc (.cells #[.int .i64 x.n.a, .int .i64 x.n.b, .int .i64 x.n.c, .int .i64 x.n.d, .int .i64 x.e] 70)) (.cells #[.int .i64 y.n.a, .int .i64 y.n.b, .int .i64 y.n.c, .int .i64 y.n.d, .int .i64 y.e] 70)))
  have Hr0_2 := Lib.hid (show (((w.alloc (.cells #[.int .i64 x.n.a, .int .i64 x.n.b, .int .i64 x.n.c, .int .i64 x.n.d, .int .i64 x.e] 70)).alloc (.cells #[.int .i64 y.n.a, .int .i64 y.n.b, .int .i64 y.n.c, .int .i64 y.n.d, .int .i64 y.e] 70)).alloc (.cells #[.int .i64 0, .int .i64 0, .int .i64 0, .int .i64 0, .int .i64 0] 70)).heap[w.heap.size + 2]? = some (.cells #[.int .i64 0, .int .i64 0, .int .i64 0, .int .i64 0, .int .i64 0] 70 (0, 0)) from by simpa using heap_alloc_new ((w.alloc (.cells #[.int .i64 x.n.a, .int .i64 x.n.b, .int .i64 x.n.c, .int .i64 x.n.d, .int .i64 x.e] 70)).alloc (.cells #[.int .i64 y.n.a, .int .i64 y.n.b, .int .i64 y.n.c, .int .i64 y.n.d, .int .i64 y.e] 70)) (.cells #[.int .i64 0, .int .i64 0, .int .i64 0, .int .i64 0, .int .i64 0] 70))
  go_enter Tryz.func73, Tryz.ntmps73
  go_wp2_with fail
  refine (Hm.out _).mono ?_
  rintro e w1 ⟨rfl, hb1⟩
  have hr0 := below_blk hb1 (lt_of_block Hr0_0.out) Hr0_0.out
  have zg0 := lt_of_block hr0
  obtain ⟨c0_0, c0_1, c0_2, c0_3, c0_4⟩ := blk_cells5 hr0
  have Hr1_0 := Lib.hid (alloc_blk (.cells #[.int .i64 m.a, .int .i64 m.b, .int .i64 m.c, .int .i64 m.d] 68) hr0)
  have hr1 := below_blk hb1 (lt_of_block Hr0_1.out) Hr0_1.out
  have zg1 := lt_of_block hr1
  obtain ⟨c1_0, c1_1, c1_2, c1_3, c1_4⟩ := blk_cells5 hr1
  have Hr1_1 := Lib.hid (alloc_blk (.cells #[.int .i64 m.a, .int .i64 m.b, .int .i64 m.c, .int .i64 m.d] 68) hr1)
  have hr2 := below_blk hb1 (lt_of_block Hr0_2.out) Hr0_2.out
  have zg2 := lt_of_block hr2
  obtain ⟨c2_0, c2_1, c2_2, c2_3, c2_4⟩ := blk_cells5 hr2
  have f2 := fun o => free_at hr2 o
  have Hq1_2 := Lib.hid hr2
  have Hr1_2 := Lib.hid (alloc_blk (.cells #[.int .i64 m.a, .int .i64 m.b, .int .i64 m.c, .int .i64 m.d] 68) hr2)
  have hb1 := below_up (B := w.heap.size) (w := w) (by go_grown) hb1 (by simp <;> omega)
  have Hp1 := Lib.hid hb1
  have Hb1 := Lib.hid (Below.alloc hb1 (Below.size hb1) (.cells #[.int .i64 m.a, .int .i64 m.b, .int .i64 m.c, .int .i64 m.d] 68))
  have Hr1_3 := Lib.hid (heap_alloc_new w1 (.cells #[.int .i64 m.a, .int .i64 m.b, .int .i64 m.c, .int .i64 m.d] 68))
  clear hr0 hr1 hr2
  clear hb1
  go_wp2_with fail
  refine (Hx.out _).mono ?_
  rintro e w2 ⟨rfl, hb2⟩
  clear zg0 c0_0 c0_1 c0_2 c0_3 c0_4 zg1 c1_0 c1_1 c1_2 c1_3 c1_4 zg2 c2_0 c2_1 c2_2 c2_3 c2_4 f2
  have hr0 := below_blk hb2 (lt_of_block Hr1_0.out) Hr1_0.out
  have zg0 := lt_of_block hr0
  obtain ⟨c0_0, c0_1, c0_2, c0_3, c0_4⟩ := blk_cells5 hr0
  have Hr2_0 := Lib.hid hr0
  have hr1 := below_blk hb2 (lt_of_block Hr1_1.out) Hr1_1.out
  have zg1 := lt_of_block hr1
  obtain ⟨c1_0, c1_1, c1_2, c1_3, c1_4⟩ := blk_cells5 hr1
  have Hr2_1 := Lib.hid hr1
  have hr2 := below_blk hb2 (lt_of_block Hr1_2.out) Hr1_2.out
  have zg2 := lt_of_block hr2
  obtain ⟨c2_0, c2_1, c2_2, c2_3, c2_4⟩ := blk_cells5 hr2
  have f2 := fun o => free_at hr2 o
  have Hq2_2 := Lib.hid hr2
  have Hr2_2 := Lib.hid hr2
  have hr3 := below_blk hb2 (lt_of_block Hr1_3.out) Hr1_3.out
  have zg3 := lt_of_block hr3
  obtain ⟨c3_0, c3_1, c3_2, c3_3⟩ := blk_cells hr3
  have Hr2_3 := Lib.hid hr3
  have hb2 := below_nx Hb1.out hb2
  have Hp2 := Lib.hid hb2
  have Hb2 := Lib.hid hb2
  clear hr0 hr1 hr2 hr3
  clear hb2
  go_wp2_with fail
  obtain ⟨k0, k1, k2, k3, k4⟩ := blk_cells5 (set5_at (u0 := .int .i64 0) (u1 := .int .i64 0) (u2 := .int .i64 0) (u3 := .int .i64 0) (u4 := .int .i64 0) Hq2_2.out)
  refine bodyPost_ret (v := .tuple #[(.agg #[.int .i64 Dw.zero.n.a, .int .i64 Dw.zero.n.b, .int .i64 Dw.zero.n.c, .int .i64 Dw.zero.n.d, .int .i64 Dw.zero.e]), .bool false]) (by simp only [results, Tryz.results73]; simp [go_sem, k0, k1, k2, k3, k4, Dw.zero, Zw.zero]) rfl ⟨rfl, ?_⟩
  have := Hp2.out
  go_grown
set_option maxRecDepth 100000 in
set_option maxHeartbeats 1600000 in
theorem smulD_bad2 (x y : Dw) (w : World) (hx : okD x = true) (hy : okD y = false) :
    Calls Tryz.prog 73 #[(.agg #[.int .i64 x.n.a, .int .i64 x.n.b, .int .i64 x.n.c, .int .i64 x.n.d, .int .i64 x.e]), (.agg #[.int .i64 y.n.a, .int .i64 y.n.b, .int .i64 y.n.c, .int .i64 y.n.d, .int .i64 y.e])] w fun e w' => e = .returned (.tuple #[(.agg #[.int .i64 Dw.zero.n.a, .int .i64 Dw.zero.n.b, .int .i64 Dw.zero.n.c, .int .i64 Dw.zero.n.d, .int .i64 Dw.zero.e]), .bool false]) ∧ Below w.heap.size w w' := by
  have Hx := Lib.hid (fun w => svalidD x w)
  have Hy := Lib.hid (fun w => svalidD y w)
  have Hm := Lib.hid (smul_any x.n y.n)
  rw [hx] at Hx
  clear hx
  rw [hy] at Hy
  clear hy
  generalize mulV x.n y.n = m at *
  generalize mulB x.n y.n = t at *
  have Hr0_0 := Lib.hid (alloc_blk (.cells #[.int .i64 0, .int .i64 0, .int .i64 0, .int .i64 0, .int .i64 0] 70) (alloc_blk (.cells #[.int .i64 y.n.a, .int .i64 y.n.b, .int .i64 y.n.c, .int .i64 y.n.d, .int .i64 y.e] 70) (heap_alloc_new w (.cells #[.int .i64 x.n.a, .int .i64 x.n.b, .int .i64 x.n.c, .int .i64 x.n.d, .int .i64 x.e] 70))))
  have Hr0_1 := Lib.hid (alloc_blk (.cells #[.int .i64 0, .int .i64 0, .int .i64 0, .int .i64 0, .int .i64 0] 70) (show ((w.alloc (.cells #[.int .i64 x.n.a, .int .i64 x.n.b, .int .i64 x.n.c, .int .i64 x.n.d, .int .i64 x.e] 70)).alloc (.cells #[.int .i64 y.n.a, .int .i64 y.n.b, .int .i64 y.n.c, .int .i64 y.n.d, .int .i64 y.e] 70)).heap[w.heap.size + 1]? = some (.cells #[.int .i64 y.n.a, .int .i64 y.n.b, .int .i64 y.n.c, .int .i64 y.n.d, .int .i64 y.e] 70 (0, 0)) from by simpa using heap_alloc_new (w.alloc (.cells #[.int .i64 x.n.a, .int .i64 x.n.b, .int .i64 x.n.c, .int .i64 x.n.d, .int .i64 x.e] 70)) (.cells #[.int .i64 y.n.a, .int .i64 y.n.b, .int .i64 y.n.c, .int .i64 y.n.d, .int .i64 y.e] 70)))
  have Hr0_2 := Lib.hid (show (((w.alloc (.cells #[.int .i64 x.n.a, .int .i64 x.n.b, .int .i64 x.n.c, .int .i64 x.n.d, .int .i64 x.e] 70)).alloc (.cells #[.int .i64 y.n.a, .int .i64 y.n.b, .int .i64 y.n.c, .int .i64 y.n.d, .int .i64 y.e] 70)).alloc (.cells #[.int .i64 0, .int .i64 0, .int .i64 0, .int .i64 0, .int .i64 0] 70)).heap[w.heap.size + 2]? = some (.cells #[.int .i64 0, .int .i64 0, .int .i64 0, .int .i64 0, .int .i64 0] 70 (0, 0)) from by simpa using heap_alloc_new ((w.alloc (.cells #[.int .i64 x.n.a, .int .i64 x.n.b, .int .i64 x.n.c, .int .i64 x.n.d, .int .i64 x.e] 70)).alloc (.cells #[.int .i64 y.n.a, .int .i64 y.n.b, .int .i64 y.n.c, .int .i64 y.n.d, .int .i64 y.e] 70)) (.cells #[.int .i64 0, .int .i64 0, .int .i64 0, .int .i64 0, .int .i64 0] 70))
  go_enter Tryz.func73, Tryz.ntmps73
  go_wp2_with fail
  refine (Hm.out _).mono ?_
  rintro e w1 ⟨rfl, hb1⟩
  have hr0 := below_blk hb1 (lt_of_block Hr0_0.out) Hr0_0.out
  have zg0 := lt_of_block hr0
  obtain ⟨c0_0, c0_1, c0_2, c0_3, c0_4⟩ := blk_cells5 hr0
  have Hr1_0 := Lib.hid (alloc_blk (.cells #[.int .i64 m.a, .int .i64 m.b, .int .i64 m.c, .int .i64 m.d] 68) hr0)
  have hr1 := below_blk hb1 (lt_of_block Hr0_1.out) Hr0_1.out
  have zg1 := lt_of_block hr1
  obtain ⟨c1_0, c1_1, c1_2, c1_3, c1_4⟩ := blk_cells5 hr1
  have Hr1_1 := Lib.hid (alloc_blk (.cells #[.int .i64 m.a, .int .i64 m.b, .int .i64 m.c, .int .i64 m.d] 68) hr1)
  have hr2 := below_blk hb1 (lt_of_block Hr0_2.out) Hr0_2.out
  have zg2 := lt_of_block hr2
  obtain ⟨c2_0, c2_1, c2_2, c2_3, c2_4⟩ := blk_cells5 hr2
  have f2 := fun o => free_at hr2 o
  have Hq1_2 := Lib.hid hr2
  have Hr1_2 := Lib.hid (alloc_blk (.cells #[.int .i64 m.a, .int .i64 m.b, .int .i64 m.c, .int .i64 m.d] 68) hr2)
  have hb1 := below_up (B := w.heap.size) (w := w) (by go_grown) hb1 (by simp <;> omega)
  have Hp1 := Lib.hid hb1
  have Hb1 := Lib.hid (Below.alloc hb1 (Below.size hb1) (.cells #[.int .i64 m.a, .int .i64 m.b, .int .i64 m.c, .int .i64 m.d] 68))
  have Hr1_3 := Lib.hid (heap_alloc_new w1 (.cells #[.int .i64 m.a, .int .i64 m.b, .int .i64 m.c, .int .i64 m.d] 68))
  clear hr0 hr1 hr2
  clear hb1
  go_wp2_with fail
  refine (Hx.out _).mono ?_
  rintro e w2 ⟨rfl, hb2⟩
  clear zg0 c0_0 c0_1 c0_2 c0_3 c0_4 zg1 c1_0 c1_1 c1_2 c1_3 c1_4 zg2 c2_0 c2_1 c2_2 c2_3 c2_4 f2
  have hr0 := below_blk hb2 (lt_of_block Hr1_0.out) Hr1_0.out
  have zg0 := lt_of_block hr0
  obtain ⟨c0_0, c0_1, c0_2, c0_3, c0_4⟩ := blk_cells5 hr0
  have Hr2_0 := Lib.hid hr0
  have hr1 := below_blk hb2 (lt_of_block Hr1_1.out) Hr1_1.out
  have zg1 := lt_of_block hr1
  obtain ⟨c1_0, c1_1, c1_2, c1_3, c1_4⟩ := blk_cells5 hr1
  have Hr2_1 := Lib.hid hr1
  have hr2 := below_blk hb2 (lt_of_block Hr1_2.out) Hr1_2.out
  have zg2 := lt_of_block hr2
  obtain ⟨c2_0, c2_1, c2_2, c2_3, c2_4⟩ := blk_cells5 hr2
  have f2 := fun o => free_at hr2 o
  have Hq2_2 := Lib.hid hr2
  have Hr2_2 := Lib.hid hr2
  have hr3 := below_blk hb2 (lt_of_block Hr1_3.out) Hr1_3.out
  have zg3 := lt_of_block hr3
  obtain ⟨c3_0, c3_1, c3_2, c3_3⟩ := blk_cells hr3
  have Hr2_3 := Lib.hid hr3
  have hb2 := below_nx Hb1.out hb2
  have Hp2 := Lib.hid hb2
  have Hb2 := Lib.hid hb2
  clear hr0 hr1 hr2 hr3
  clear hb2
  go_wp2_with fail
  refine (Hy.out _).mono ?_
  rintro e w3 ⟨rfl, hb3⟩
  clear zg0 c0_0 c0_1 c0_2 c0_3 c0_4 zg1 c1_0 c1_1 c1_2 c1_3 c1_4 zg2 c2_0 c2_1 c2_2 c2_3 c2_4 f2 zg3 c3_0 c3_1 c3_2 c3_3
  have hr0 := below_blk hb3 (lt_of_block Hr2_0.out) Hr2_0.out
  have zg0 := lt_of_block hr0
  obtain ⟨c0_0, c0_1, c0_2, c0_3, c0_4⟩ := blk_cells5 hr0
  have Hr3_0 := Lib.hid hr0
  have hr1 := below_blk hb3 (lt_of_block Hr2_1.out) Hr2_1.out
  have zg1 := lt_of_block hr1
  obtain ⟨c1_0, c1_1, c1_2, c1_3, c1_4⟩ := blk_cells5 hr1
  have Hr3_1 := Lib.hid hr1
  have hr2 := below_blk hb3 (lt_of_block Hr2_2.out) Hr2_2.out
  have zg2 := lt_of_block hr2
  obtain ⟨c2_0, c2_1, c2_2, c2_3, c2_4⟩ := blk_cells5 hr2
  have f2 := fun o => free_at hr2 o
  have Hq3_2 := Lib.hid hr2
  have Hr3_2 := Lib.hid hr2
  have hr3 := below_blk hb3 (lt_of_block Hr2_3.out) Hr2_3.out
  have zg3 := lt_of_block hr3
  obtain ⟨c3_0, c3_1, c3_2, c3_3⟩ := blk_cells hr3
  have Hr3_3 := Lib.hid hr3
  have hb3 := below_nx Hb2.out hb3
  have Hp3 := Lib.hid hb3
  have Hb3 := Lib.hid hb3
  clear hr0 hr1 hr2 hr3
  clear hb3
  go_wp2_with fail
  obtain ⟨k0, k1, k2, k3, k4⟩ := blk_cells5 (set5_at (u0 := .int .i64 0) (u1 := .int .i64 0) (u2 := .int .i64 0) (u3 := .int .i64 0) (u4 := .int .i64 0) Hq3_2.out)
  refine bodyPost_ret (v := .tuple #[(.agg #[.int .i64 Dw.zero.n.a, .int .i64 Dw.zero.n.b, .int .i64 Dw.zero.n.c, .int .i64 Dw.zero.n.d, .int .i64 Dw.zero.e]), .bool false]) (by simp only [results, Tryz.results73]; simp [go_sem, k0, k1, k2, k3, k4, Dw.zero, Zw.zero]) rfl ⟨rfl, ?_⟩
  have := Hp3.out
  go_grown
set_option maxRecDepth 100000 in
set_option maxHeartbeats 1600000 in
theorem smulD_bad3 (x y : Dw) (w : World) (hx : okD x = true) (hy : okD y = true) (hm : mulB x.n y.n = false) :
    Calls Tryz.prog 73 #[(.agg #[.int .i64 x.n.a, .int .i64 x.n.b, .int .i64 x.n.c, .int .i64 x.n.d, .int .i64 x.e]), (.agg #[.int .i64 y.n.a, .int .i64 y.n.b, .int .i64 y.n.c, .int .i64 y.n.d, .int .i64 y.e])] w fun e w' => e = .returned (.tuple #[(.agg #[.int .i64 Dw.zero.n.a, .int .i64 Dw.zero.n.b, .int .i64 Dw.zero.n.c, .int .i64 Dw.zero.n.d, .int .i64 Dw.zero.e]), .bool false]) ∧ Below w.heap.size w w' := by
  have Hx := Lib.hid (fun w => svalidD x w)
  have Hy := Lib.hid (fun w => svalidD y w)
  have Hm := Lib.hid (smul_any x.n y.n)
  rw [hx] at Hx
  clear hx
  rw [hy] at Hy
  clear hy
  rw [hm] at Hm
  clear hm
  generalize mulV x.n y.n = m at *
  have Hr0_0 := Lib.hid (alloc_blk (.cells #[.int .i64 0, .int .i64 0, .int .i64 0, .int .i64 0, .int .i64 0] 70) (alloc_blk (.cells #[.int .i64 y.n.a, .int .i64 y.n.b, .int .i64 y.n.c, .int .i64 y.n.d, .int .i64 y.e] 70) (heap_alloc_new w (.cells #[.int .i64 x.n.a, .int .i64 x.n.b, .int .i64 x.n.c, .int .i64 x.n.d, .int .i64 x.e] 70))))
  have Hr0_1 := Lib.hid (alloc_blk (.cells #[.int .i64 0, .int .i64 0, .int .i64 0, .int .i64 0, .int .i64 0] 70) (show ((w.alloc (.cells #[.int .i64 x.n.a, .int .i64 x.n.b, .int .i64 x.n.c, .int .i64 x.n.d, .int .i64 x.e] 70)).alloc (.cells #[.int .i64 y.n.a, .int .i64 y.n.b, .int .i64 y.n.c, .int .i64 y.n.d, .int .i64 y.e] 70)).heap[w.heap.size + 1]? = some (.cells #[.int .i64 y.n.a, .int .i64 y.n.b, .int .i64 y.n.c, .int .i64 y.n.d, .int .i64 y.e] 70 (0, 0)) from by simpa using heap_alloc_new (w.alloc (.cells #[.int .i64 x.n.a, .int .i64 x.n.b, .int .i64 x.n.c, .int .i64 x.n.d, .int .i64 x.e] 70)) (.cells #[.int .i64 y.n.a, .int .i64 y.n.b, .int .i64 y.n.c, .int .i64 y.n.d, .int .i64 y.e] 70)))
  have Hr0_2 := Lib.hid (show (((w.alloc (.cells #[.int .i64 x.n.a, .int .i64 x.n.b, .int .i64 x.n.c, .int .i64 x.n.d, .int .i64 x.e] 70)).alloc (.cells #[.int .i64 y.n.a, .int .i64 y.n.b, .int .i64 y.n.c, .int .i64 y.n.d, .int .i64 y.e] 70)).alloc (.cells #[.int .i64 0, .int .i64 0, .int .i64 0, .int .i64 0, .int .i64 0] 70)).heap[w.heap.size + 2]? = some (.cells #[.int .i64 0, .int .i64 0, .int .i64 0, .int .i64 0, .int .i64 0] 70 (0, 0)) from by simpa using heap_alloc_new ((w.alloc (.cells #[.int .i64 x.n.a, .int .i64 x.n.b, .int .i64 x.n.c, .int .i64 x.n.d, .int .i64 x.e] 70)).alloc (.cells #[.int .i64 y.n.a, .int .i64 y.n.b, .int .i64 y.n.c, .int .i64 y.n.d, .int .i64 y.e] 70)) (.cells #[.int .i64 0, .int .i64 0, .int .i64 0, .int .i64 0, .int .i64 0] 70))
  go_enter Tryz.func73, Tryz.ntmps73
  go_wp2_with fail
  refine (Hm.out _).mono ?_
  rintro e w1 ⟨rfl, hb1⟩
  have hr0 := below_blk hb1 (lt_of_block Hr0_0.out) Hr0_0.out
  have zg0 := lt_of_block hr0
  obtain ⟨c0_0, c0_1, c0_2, c0_3, c0_4⟩ := blk_cells5 hr0
  have Hr1_0 := Lib.hid (alloc_blk (.cells #[.int .i64 m.a, .int .i64 m.b, .int .i64 m.c, .int .i64 m.d] 68) hr0)
  have hr1 := below_blk hb1 (lt_of_block Hr0_1.out) Hr0_1.out
  have zg1 := lt_of_block hr1
  obtain ⟨c1_0, c1_1, c1_2, c1_3, c1_4⟩ := blk_cells5 hr1
  have Hr1_1 := Lib.hid (alloc_blk (.cells #[.int .i64 m.a, .int .i64 m.b, .int .i64 m.c, .int .i64 m.d] 68) hr1)
  have hr2 := below_blk hb1 (lt_of_block Hr0_2.out) Hr0_2.out
  have zg2 := lt_of_block hr2
  obtain ⟨c2_0, c2_1, c2_2, c2_3, c2_4⟩ := blk_cells5 hr2
  have f2 := fun o => free_at hr2 o
  have Hq1_2 := Lib.hid hr2
  have Hr1_2 := Lib.hid (alloc_blk (.cells #[.int .i64 m.a, .int .i64 m.b, .int .i64 m.c, .int .i64 m.d] 68) hr2)
  have hb1 := below_up (B := w.heap.size) (w := w) (by go_grown) hb1 (by simp <;> omega)
  have Hp1 := Lib.hid hb1
  have Hb1 := Lib.hid (Below.alloc hb1 (Below.size hb1) (.cells #[.int .i64 m.a, .int .i64 m.b, .int .i64 m.c, .int .i64 m.d] 68))
  have Hr1_3 := Lib.hid (heap_alloc_new w1 (.cells #[.int .i64 m.a, .int .i64 m.b, .int .i64 m.c, .int .i64 m.d] 68))
  clear hr0 hr1 hr2
  clear hb1
  go_wp2_with fail
  refine (Hx.out _).mono ?_
  rintro e w2 ⟨rfl, hb2⟩
  clear zg0 c0_0 c0_1 c0_2 c0_3 c0_4 zg1 c1_0 c1_1 c1_2 c1_3 c1_4 zg2 c2_0 c2_1 c2_2 c2_3 c2_4 f2
  have hr0 := below_blk hb2 (lt_of_block Hr1_0.out) Hr1_0.out
  have zg0 := lt_of_block hr0
  obtain ⟨c0_0, c0_1, c0_2, c0_3, c0_4⟩ := blk_cells5 hr0
  have Hr2_0 := Lib.hid hr0
  have hr1 := below_blk hb2 (lt_of_block Hr1_1.out) Hr1_1.out
  have zg1 := lt_of_block hr1
  obtain ⟨c1_0, c1_1, c1_2, c1_3, c1_4⟩ := blk_cells5 hr1
  have Hr2_1 := Lib.hid hr1
  have hr2 := below_blk hb2 (lt_of_block Hr1_2.out) Hr1_2.out
  have zg2 := lt_of_block hr2
  obtain ⟨c2_0, c2_1, c2_2, c2_3, c2_4⟩ := blk_cells5 hr2
  have f2 := fun o => free_at hr2 o
  have Hq2_2 := Lib.hid hr2
  have Hr2_2 := Lib.hid hr2
  have hr3 := below_blk hb2 (lt_of_block Hr1_3.out) Hr1_3.out
  have zg3 := lt_of_block hr3
  obtain ⟨c3_0, c3_1, c3_2, c3_3⟩ := blk_cells hr3
  have Hr2_3 := Lib.hid hr3
  have hb2 := below_nx Hb1.out hb2
  have Hp2 := Lib.hid hb2
  have Hb2 := Lib.hid hb2
  clear hr0 hr1 hr2 hr3
  clear hb2
  go_wp2_with fail
  refine (Hy.out _).mono ?_
  rintro e w3 ⟨rfl, hb3⟩
  clear zg0 c0_0 c0_1 c0_2 c0_3 c0_4 zg1 c1_0 c1_1 c1_2 c1_3 c1_4 zg2 c2_0 c2_1 c2_2 c2_3 c2_4 f2 zg3 c3_0 c3_1 c3_2 c3_3
  have hr0 := below_blk hb3 (lt_of_block Hr2_0.out) Hr2_0.out
  have zg0 := lt_of_block hr0
  obtain ⟨c0_0, c0_1, c0_2, c0_3, c0_4⟩ := blk_cells5 hr0
  have Hr3_0 := Lib.hid hr0
  have hr1 := below_blk hb3 (lt_of_block Hr2_1.out) Hr2_1.out
  have zg1 := lt_of_block hr1
  obtain ⟨c1_0, c1_1, c1_2, c1_3, c1_4⟩ := blk_cells5 hr1
  have Hr3_1 := Lib.hid hr1
  have hr2 := below_blk hb3 (lt_of_block Hr2_2.out) Hr2_2.out
  have zg2 := lt_of_block hr2
  obtain ⟨c2_0, c2_1, c2_2, c2_3, c2_4⟩ := blk_cells5 hr2
  have f2 := fun o => free_at hr2 o
  have Hq3_2 := Lib.hid hr2
  have Hr3_2 := Lib.hid hr2
  have hr3 := below_blk hb3 (lt_of_block Hr2_3.out) Hr2_3.out
  have zg3 := lt_of_block hr3
  obtain ⟨c3_0, c3_1, c3_2, c3_3⟩ := blk_cells hr3
  have Hr3_3 := Lib.hid hr3
  have hb3 := below_nx Hb2.out hb3
  have Hp3 := Lib.hid hb3
  have Hb3 := Lib.hid hb3
  clear hr0 hr1 hr2 hr3
  clear hb3
  go_wp2_with fail
  obtain ⟨k0, k1, k2, k3, k4⟩ := blk_cells5 (set5_at (u0 := .int .i64 0) (u1 := .int .i64 0) (u2 := .int .i64 0) (u3 := .int .i64 0) (u4 := .int .i64 0) Hq3_2.out)
  refine bodyPost_ret (v := .tuple #[(.agg #[.int .i64 Dw.zero.n.a, .int .i64 Dw.zero.n.b, .int .i64 Dw.zero.n.c, .int .i64 Dw.zero.n.d, .int .i64 Dw.zero.e]), .bool false]) (by simp only [results, Tryz.results73]; simp [go_sem, k0, k1, k2, k3, k4, Dw.zero, Zw.zero]) rfl ⟨rfl, ?_⟩
  have := Hp3.out
  go_grown
set_option maxRecDepth 100000 in
set_option maxHeartbeats 1600000 in
theorem smulD_ok (x y : Dw) (w : World) (hx : x.ok) (hy : y.ok) (hm : mulB x.n y.n = true) :
    Calls Tryz.prog 73 #[(.agg #[.int .i64 x.n.a, .int .i64 x.n.b, .int .i64 x.n.c, .int .i64 x.n.d, .int .i64 x.e]), (.agg #[.int .i64 y.n.a, .int .i64 y.n.b, .int .i64 y.n.c, .int .i64 y.n.d, .int .i64 y.e])] w fun e w' => e = .returned (.tuple #[(.agg #[.int .i64 (newV (mulV x.n y.n) (x.e + y.e)).n.a, .int .i64 (newV (mulV x.n y.n) (x.e + y.e)).n.b, .int .i64 (newV (mulV x.n y.n) (x.e + y.e)).n.c, .int .i64 (newV (mulV x.n y.n) (x.e + y.e)).n.d, .int .i64 (newV (mulV x.n y.n) (x.e + y.e)).e]), .bool (newB (mulV x.n y.n) (x.e + y.e))]) ∧ Below w.heap.size w w' := by
  have Hx := Lib.hid (fun w => svalidD x w)
  have Hy := Lib.hid (fun w => svalidD y w)
  have Hm := Lib.hid (smul_any x.n y.n)
  rw [okD_true.2 hx] at Hx
  rw [okD_true.2 hy] at Hy
  have x0 := hx.2.1
  have x1 := hx.2.2.1
  have y0 := hy.2.1
  have y1 := hy.2.2.1
  have Hn := Lib.hid (fun w => snew_any (mulV x.n y.n) (x.e + y.e) w (by omega) (by omega))
  rw [hm] at Hm
  clear hx hy hm
  generalize newV (mulV x.n y.n) (x.e + y.e) = r at *
  generalize newB (mulV x.n y.n) (x.e + y.e) = u at *
  generalize mulV x.n y.n = m at *
  have Hr0_0 := Lib.hid (alloc_blk (.cells #[.int .i64 0, .int .i64 0, .int .i64 0, .int .i64 0, .int .i64 0] 70) (alloc_blk (.cells #[.int .i64 y.n.a, .int .i64 y.n.b, .int .i64 y.n.c, .int .i64 y.n.d, .int .i64 y.e] 70) (heap_alloc_new w (.cells #[.int .i64 x.n.a, .int .i64 x.n.b, .int .i64 x.n.c, .int .i64 x.n.d, .int .i64 x.e] 70))))
  have Hr0_1 := Lib.hid (alloc_blk (.cells #[.int .i64 0, .int .i64 0, .int .i64 0, .int .i64 0, .int .i64 0] 70) (show ((w.alloc (.cells #[.int .i64 x.n.a, .int .i64 x.n.b, .int .i64 x.n.c, .int .i64 x.n.d, .int .i64 x.e] 70)).alloc (.cells #[.int .i64 y.n.a, .int .i64 y.n.b, .int .i64 y.n.c, .int .i64 y.n.d, .int .i64 y.e] 70)).heap[w.heap.size + 1]? = some (.cells #[.int .i64 y.n.a, .int .i64 y.n.b, .int .i64 y.n.c, .int .i64 y.n.d, .int .i64 y.e] 70 (0, 0)) from by simpa using heap_alloc_new (w.alloc (.cells #[.int .i64 x.n.a, .int .i64 x.n.b, .int .i64 x.n.c, .int .i64 x.n.d, .int .i64 x.e] 70)) (.cells #[.int .i64 y.n.a, .int .i64 y.n.b, .int .i64 y.n.c, .int .i64 y.n.d, .int .i64 y.e] 70)))
  have Hr0_2 := Lib.hid (show (((w.alloc (.cells #[.int .i64 x.n.a, .int .i64 x.n.b, .int .i64 x.n.c, .int .i64 x.n.d, .int .i64 x.e] 70)).alloc (.cells #[.int .i64 y.n.a, .int .i64 y.n.b, .int .i64 y.n.c, .int .i64 y.n.d, .int .i64 y.e] 70)).alloc (.cells #[.int .i64 0, .int .i64 0, .int .i64 0, .int .i64 0, .int .i64 0] 70)).heap[w.heap.size + 2]? = some (.cells #[.int .i64 0, .int .i64 0, .int .i64 0, .int .i64 0, .int .i64 0] 70 (0, 0)) from by simpa using heap_alloc_new ((w.alloc (.cells #[.int .i64 x.n.a, .int .i64 x.n.b, .int .i64 x.n.c, .int .i64 x.n.d, .int .i64 x.e] 70)).alloc (.cells #[.int .i64 y.n.a, .int .i64 y.n.b, .int .i64 y.n.c, .int .i64 y.n.d, .int .i64 y.e] 70)) (.cells #[.int .i64 0, .int .i64 0, .int .i64 0, .int .i64 0, .int .i64 0] 70))
  go_enter Tryz.func73, Tryz.ntmps73
  go_wp2_with fail
  refine (Hm.out _).mono ?_
  rintro e w1 ⟨rfl, hb1⟩
  have hr0 := below_blk hb1 (lt_of_block Hr0_0.out) Hr0_0.out
  have zg0 := lt_of_block hr0
  obtain ⟨c0_0, c0_1, c0_2, c0_3, c0_4⟩ := blk_cells5 hr0
  have Hr1_0 := Lib.hid (alloc_blk (.cells #[.int .i64 m.a, .int .i64 m.b, .int .i64 m.c, .int .i64 m.d] 68) hr0)
  have hr1 := below_blk hb1 (lt_of_block Hr0_1.out) Hr0_1.out
  have zg1 := lt_of_block hr1
  obtain ⟨c1_0, c1_1, c1_2, c1_3, c1_4⟩ := blk_cells5 hr1
  have Hr1_1 := Lib.hid (alloc_blk (.cells #[.int .i64 m.a, .int .i64 m.b, .int .i64 m.c, .int .i64 m.d] 68) hr1)
  have hr2 := below_blk hb1 (lt_of_block Hr0_2.out) Hr0_2.out
  have zg2 := lt_of_block hr2
  obtain ⟨c2_0, c2_1, c2_2, c2_3, c2_4⟩ := blk_cells5 hr2
  have f2 := fun o => free_at hr2 o
  have Hq1_2 := Lib.hid hr2
  have Hr1_2 := Lib.hid (alloc_blk (.cells #[.int .i64 m.a, .int .i64 m.b, .int .i64 m.c, .int .i64 m.d] 68) hr2)
  have hb1 := below_up (B := w.heap.size) (w := w) (by go_grown) hb1 (by simp <;> omega)
  have Hp1 := Lib.hid hb1
  have Hb1 := Lib.hid (Below.alloc hb1 (Below.size hb1) (.cells #[.int .i64 m.a, .int .i64 m.b, .int .i64 m.c, .int .i64 m.d] 68))
  have Hr1_3 := Lib.hid (heap_alloc_new w1 (.cells #[.int .i64 m.a, .int .i64 m.b, .int .i64 m.c, .int .i64 m.d] 68))
  clear hr0 hr1 hr2
  clear hb1
  go_wp2_with fail
  refine (Hx.out _).mono ?_
  rintro e w2 ⟨rfl, hb2⟩
  clear zg0 c0_0 c0_1 c0_2 c0_3 c0_4 zg1 c1_0 c1_1 c1_2 c1_3 c1_4 zg2 c2_0 c2_1 c2_2 c2_3 c2_4 f2
  have hr0 := below_blk hb2 (lt_of_block Hr1_0.out) Hr1_0.out
  have zg0 := lt_of_block hr0
  obtain ⟨c0_0, c0_1, c0_2, c0_3, c0_4⟩ := blk_cells5 hr0
  have Hr2_0 := Lib.hid hr0
  have hr1 := below_blk hb2 (lt_of_block Hr1_1.out) Hr1_1.out
  have zg1 := lt_of_block hr1
  obtain ⟨c1_0, c1_1, c1_2, c1_3, c1_4⟩ := blk_cells5 hr1
  have Hr2_1 := Lib.hid hr1
  have hr2 := below_blk hb2 (lt_of_block Hr1_2.out) Hr1_2.out
  have zg2 := lt_of_block hr2
  obtain ⟨c2_0, c2_1, c2_2, c2_3, c2_4⟩ := blk_cells5 hr2
  have f2 := fun o => free_at hr2 o
  have Hq2_2 := Lib.hid hr2
  have Hr2_2 := Lib.hid hr2
  have hr3 := below_blk hb2 (lt_of_block Hr1_3.out) Hr1_3.out
  have zg3 := lt_of_block hr3
  obtain ⟨c3_0, c3_1, c3_2, c3_3⟩ := blk_cells hr3
  have Hr2_3 := Lib.hid hr3
  have hb2 := below_nx Hb1.out hb2
  have Hp2 := Lib.hid hb2
  have Hb2 := Lib.hid hb2
  clear hr0 hr1 hr2 hr3
  clear hb2
  go_wp2_with fail
  refine (Hy.out _).mono ?_
  rintro e w3 ⟨rfl, hb3⟩
  clear zg0 c0_0 c0_1 c0_2 c0_3 c0_4 zg1 c1_0 c1_1 c1_2 c1_3 c1_4 zg2 c2_0 c2_1 c2_2 c2_3 c2_4 f2 zg3 c3_0 c3_1 c3_2 c3_3
  have hr0 := below_blk hb3 (lt_of_block Hr2_0.out) Hr2_0.out
  have zg0 := lt_of_block hr0
  obtain ⟨c0_0, c0_1, c0_2, c0_3, c0_4⟩ := blk_cells5 hr0
  have Hr3_0 := Lib.hid hr0
  have hr1 := below_blk hb3 (lt_of_block Hr2_1.out) Hr2_1.out
  have zg1 := lt_of_block hr1
  obtain ⟨c1_0, c1_1, c1_2, c1_3, c1_4⟩ := blk_cells5 hr1
  have Hr3_1 := Lib.hid hr1
  have hr2 := below_blk hb3 (lt_of_block Hr2_2.out) Hr2_2.out
  have zg2 := lt_of_block hr2
  obtain ⟨c2_0, c2_1, c2_2, c2_3, c2_4⟩ := blk_cells5 hr2
  have f2 := fun o => free_at hr2 o
  have Hq3_2 := Lib.hid hr2
  have Hr3_2 := Lib.hid hr2
  have hr3 := below_blk hb3 (lt_of_block Hr2_3.out) Hr2_3.out
  have zg3 := lt_of_block hr3
  obtain ⟨c3_0, c3_1, c3_2, c3_3⟩ := blk_cells hr3
  have Hr3_3 := Lib.hid hr3
  have hb3 := below_nx Hb2.out hb3
  have Hp3 := Lib.hid hb3
  have Hb3 := Lib.hid hb3
  clear hr0 hr1 hr2 hr3
  clear hb3
  go_wp2_with fail
  refine (Hn.out _).mono ?_
  rintro e w4 ⟨rfl, hb4⟩
  clear zg0 c0_0 c0_1 c0_2 c0_3 c0_4 zg1 c1_0 c1_1 c1_2 c1_3 c1_4 zg2 c2_0 c2_1 c2_2 c2_3 c2_4 f2 zg3 c3_0 c3_1 c3_2 c3_3
  have hr0 := below_blk hb4 (lt_of_block Hr3_0.out) Hr3_0.out
  have zg0 := lt_of_block hr0
  obtain ⟨c0_0, c0_1, c0_2, c0_3, c0_4⟩ := blk_cells5 hr0
  have Hr4_0 := Lib.hid hr0
  have hr1 := below_blk hb4 (lt_of_block Hr3_1.out) Hr3_1.out
  have zg1 := lt_of_block hr1
  obtain ⟨c1_0, c1_1, c1_2, c1_3, c1_4⟩ := blk_cells5 hr1
  have Hr4_1 := Lib.hid hr1
  have hr2 := below_blk hb4 (lt_of_block Hr3_2.out) Hr3_2.out
  have zg2 := lt_of_block hr2
  obtain ⟨c2_0, c2_1, c2_2, c2_3, c2_4⟩ := blk_cells5 hr2
  have f2 := fun o => free_at hr2 o
  have Hq4_2 := Lib.hid hr2
  have Hr4_2 := Lib.hid hr2
  have hr3 := below_blk hb4 (lt_of_block Hr3_3.out) Hr3_3.out
  have zg3 := lt_of_block hr3
  obtain ⟨c3_0, c3_1, c3_2, c3_3⟩ := blk_cells hr3
  have Hr4_3 := Lib.hid hr3
  have hb4 := below_nx Hb3.out hb4
  have Hp4 := Lib.hid hb4
  have Hb4 := Lib.hid hb4
  clear hr0 hr1 hr2 hr3
  clear hb4
  go_wp2_with fail
  obtain ⟨k0, k1, k2, k3, k4⟩ := blk_cells5 (set5_at (u0 := .int .i64 r.n.a) (u1 := .int .i64 r.n.b) (u2 := .int .i64 r.n.c) (u3 := .int .i64 r.n.d) (u4 := .int .i64 r.e) Hq4_2.out)
  refine bodyPost_ret (v := .tuple #[(.agg #[.int .i64 r.n.a, .int .i64 r.n.b, .int .i64 r.n.c, .int .i64 r.n.d, .int .i64 r.e]), .bool u]) (by simp only [results, Tryz.results73]; simp [go_sem, k0, k1, k2, k3, k4]) rfl ⟨rfl, ?_⟩
  have := Hp4.out
  go_grown
theorem imulD_any (x y : Dw) (w : World) (h0 : -9223372036854775808 ≤ x.e) (h1 : x.e ≤ 9223372036854775807) (g0 : -9223372036854775808 ≤ y.e) (g1 : y.e ≤ 9223372036854775807) :
    Calls Tryz.prog 123 #[(.agg #[.int .i64 x.n.a, .int .i64 x.n.b, .int .i64 x.n.c, .int .i64 x.n.d, .int .i64 x.e]), (.agg #[.int .i64 y.n.a, .int .i64 y.n.b, .int .i64 y.n.c, .int .i64 y.n.d, .int .i64 y.e])] w fun e w' => e = .returned (.tuple #[(.agg #[.int .i64 (dMulV x y).n.a, .int .i64 (dMulV x y).n.b, .int .i64 (dMulV x y).n.c, .int .i64 (dMulV x y).n.d, .int .i64 (dMulV x y).e]), .bool (dMulB x y)]) ∧ Below w.heap.size w w' := by
  by_cases hx : x.ok
  · by_cases hy : y.ok
    · exact imulD_ok x y w h0 h1 g0 g1 hx hy
    · rw [(dMul_false (fun k => hy k.2.1)).1, (dMul_false (fun k => hy k.2.1)).2]
      exact imulD_bad2 x y w h0 h1 g0 g1 (okD_true.2 hx) (okD_false.2 hy)
  · rw [(dMul_false (fun k => hx k.1)).1, (dMul_false (fun k => hx k.1)).2]
    exact imulD_bad1 x y w h0 h1 g0 g1 (okD_false.2 hx)
theorem smulD_any (x y : Dw) (w : World) :
    Calls Tryz.prog 73 #[(.agg #[.int .i64 x.n.a, .int .i64 x.n.b, .int .i64 x.n.c, .int .i64 x.n.d, .int .i64 x.e]), (.agg #[.int .i64 y.n.a, .int .i64 y.n.b, .int .i64 y.n.c, .int .i64 y.n.d, .int .i64 y.e])] w fun e w' => e = .returned (.tuple #[(.agg #[.int .i64 (dMulV x y).n.a, .int .i64 (dMulV x y).n.b, .int .i64 (dMulV x y).n.c, .int .i64 (dMulV x y).n.d, .int .i64 (dMulV x y).e]), .bool (dMulB x y)]) ∧ Below w.heap.size w w' := by
  by_cases hx : x.ok
  · by_cases hy : y.ok
    · cases hm : mulB x.n y.n
      · rw [(dMul_false (fun k => by rw [k.2.2] at hm; cases hm)).1, (dMul_false (fun k => by rw [k.2.2] at hm; cases hm)).2]
        exact smulD_bad3 x y w (okD_true.2 hx) (okD_true.2 hy) hm
      · rw [(dMul_true hx hy hm).1, (dMul_true hx hy hm).2]
        exact smulD_ok x y w hx hy hm
    · rw [(dMul_false (fun k => hy k.2.1)).1, (dMul_false (fun k => hy k.2.1)).2]
      exact smulD_bad2 x y w (okD_true.2 hx) (okD_false.2 hy)
  · rw [(dMul_false (fun k => hx k.1)).1, (dMul_false (fun k => hx k.1)).2]
    exact smulD_bad1 x y w (okD_false.2 hx)
end Go.Proofs.YtlmiebeffdcfhaaGreat
