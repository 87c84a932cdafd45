/- The sum in D[omega], of the program and of its model. -/
import Derived.Test.YtlmiebeffdcfhaaGreatUBaseB07
namespace Go.Proofs.YtlmiebeffdcfhaaGreat
open Go.RowKit
attribute [local irreducible] World.cell?
theorem iup_int (x : Zw) (k : Int) (h0 : 0 ≤ k) (h1 : k ≤ 120) (w : World) :
    Calls Tryz.prog 152 #[(.agg #[.int .i64 x.a, .int .i64 x.b, .int .i64 x.c, .int .i64 x.d]), .int .i64 k] w fun e w' => e = .returned (.tuple #[(.agg #[.int .i64 (upV k.toNat x).a, .int .i64 (upV k.toNat x).b, .int .i64 (upV k.toNat x).c, .int .i64 (upV k.toNat x).d]), .bool (upB k.toNat x)]) ∧ Below w.heap.size w w' := by
  have := iup_any x k.toNat (by omega) w
  rw [Int.toNat_of_nonneg h0] at this
  exact this
theorem sup_int (x : Zw) (k : Int) (h0 : 0 ≤ k) (h1 : k ≤ 120) (w : World) :
    Calls Tryz.prog 110 #[(.agg #[.int .i64 x.a, .int .i64 x.b, .int .i64 x.c, .int .i64 x.d]), .int .i64 k] w fun e w' => e = .returned (.tuple #[(.agg #[.int .i64 (upV k.toNat x).a, .int .i64 (upV k.toNat x).b, .int .i64 (upV k.toNat x).c, .int .i64 (upV k.toNat x).d]), .bool (upB k.toNat x)]) ∧ Below w.heap.size w w' := by
  have := sup_any x k.toNat (by omega) w
  rw [Int.toNat_of_nonneg h0] at this
  exact this
/-- Both numerators over the larger exponent, and their sum. -/
def upA (x y : Dw) : Zw := upV (topE x y - x.e).toNat x.n
def upC (x y : Dw) : Zw := upV (topE x y - y.e).toNat y.n
def upAB (x y : Dw) : Bool := upB (topE x y - x.e).toNat x.n
def upCB (x y : Dw) : Bool := upB (topE x y - y.e).toNat y.n
theorem dAdd_false {x y : Dw} (h : ¬ (x.ok ∧ y.ok ∧ (upAB x y && (upCB x y && addB (upA x y) (upC x y))) = true)) : dAddV x y = .zero ∧ dAddB x y = false := by
  have hb : dAddB x y = false := by
    rw [Bool.eq_false_iff]; intro k
    obtain ⟨k0, k1, k2, k3, k4, k5⟩ := dAddB_iff.1 k
    refine h ⟨k0, k1, ?_⟩
    rw [show upA x y = numA x y from upV_of k2, show upC x y = numB x y from upV_of k3, k4]
    simp [upAB, upCB, k2, k3]
  exact ⟨dAddV_no hb, hb⟩
theorem dAdd_true {x y : Dw} (hx : x.ok) (hy : y.ok) (h1 : upAB x y = true) (h2 : upCB x y = true) (h3 : addB (upA x y) (upC x y) = true) :
    dAddV x y = newV (addV (upA x y) (upC x y)) (topE x y) ∧ dAddB x y = newB (addV (upA x y) (upC x y)) (topE x y) := by
  rw [show upA x y = numA x y from upV_of h1, show upC x y = numB x y from upV_of h2] at *
  have e : addV (numA x y) (numB x y) = (numA x y).add (numB x y) := by rw [addV, if_pos (addB_iff.1 h3)]
  have hb : dAddB x y = newB ((numA x y).add (numB x y)) (topE x y) := by
    rw [Bool.eq_iff_iff, dAddB_iff]; exact ⟨fun k => k.2.2.2.2.2, fun k => ⟨hx, hy, h1, h2, h3, k⟩⟩
  rw [e]
  exact ⟨by rw [dAddV, hb]; split <;> simp_all [newV], hb⟩
set_option maxRecDepth 100000 in
set_option maxHeartbeats 1600000 in
theorem iaddD_bad1 (x y : Dw) (w : World) (h0 : -9223372036854775808 ≤ x.e) (h1 : x.e ≤ 9223372036854775807) (g0 : -9223372036854775808 ≤ y.e) (g1 : y.e ≤ 9223372036854775807) (hx : okD x = false) :
    Calls Tryz.prog 138 #[(.agg #[.int .i64 x.n.a, .int .i64 x.n.b, .int .i64 x.n.c, .int .i64 x.n.d, .int .i64 x.e]), (.agg #[.int .i64 y.n.a, .int .i64 y.n.b, .int .i64 y.n.c, .int .i64 y.n.d, .int .i64 y.e])] w fun e w' => e = .returned (.tuple #[(.agg #[.int .i64 Dw.zero.n.a, .int .i64 Dw.zero.n.b, .int .i64 Dw.zero.n.c, .int .i64 Dw.zero.n.d, .int .i64 Dw.zero.e]), .bool false]) ∧ Below w.heap.size w w' := by
  have Hx := Lib.hid (fun w => ivalidD x w h0 h1)
  have Hy := Lib.hid (fun w => ivalidD y w g0 g1)
  rw [hx] at Hx
  clear hx
  have Hr0_0 := Lib.hid (alloc_blk (.cells #[.int .i64 0, .int .i64 0, .int .i64 0, .int .i64 0, .int .i64 0] 70) (alloc_blk (.cells #[.int .i64 y.n.a, .int .i64 y.n.b, .int .i64 y.n.c, .int .i64 y.n.d, .int .i64 y.e] 70) (heap_alloc_new w (.cells #[.int .i64 x.n.a, .int .i64 x.n.b, .int .i64 x.n.c, .int .i64 x.n.d, .int .i64 x.e] 70))))
  have Hr0_1 := Lib.hid (alloc_blk (.cells #[.int .i64 0, .int .i64 0, .int .i64 0, .int .i64 0, .int .i64 0] 70) (show ((w.alloc (.cells #[.int .i64 x.n.a, .int .i64 x.n.b, .int .i64 x.n.c, .int .i64 x.n.d, .int .i64 x.e] 70)).alloc (.cells #[.int .i64 y.n.a, .int .i64 y.n.b, .int .i64 y.n.c, .int .i64 y.n.d, .int .i64 y.e] 70)).heap[w.heap.size + 1]? = some (.cells #[.int .i64 y.n.a, .int .i64 y.n.b, .int .i64 y.n.c, .int .i64 y.n.d, .int .i64 y.e] 70 (0, 0)) from by simpa using heap_alloc_new (w.alloc (.cells #[.int .i64 x.n.a, .int .i64 x.n.b, .int .i64 x.n.c, .int .i64 x.n.d, .int .i64 x.e] 70)) (.cells #[.int .i64 y.n.a, .int .i64 y.n.b, .int .i64 y.n.c, .int .i64 y.n.d, .int .i64 y.e] 70)))
  have Hr0_2 := Lib.hid (show (((w.alloc (.cells #[.int .i64 x.n.a, .int .i64 x.n.b, .int .i64 x.n.c, .int .i64 x.n.d, .int .i64 x.e] 70)).alloc (.cells #[.int .i64 y.n.a, .int .i64 y.n.b, .int .i64 y.n.c, .int .i64 y.n.d, .int .i64 y.e] 70)).alloc (.cells #[.int .i64 0, .int .i64 0, .int .i64 0, .int .i64 0, .int .i64 0] 70)).heap[w.heap.size + 2]? = some (.cells #[.int .i64 0, .int .i64 0, .int .i64 0, .int .i64 0, .int .i64 0] 70 (0, 0)) from by simpa using heap_alloc_new ((w.alloc (.cells #[.int .i64 x.n.a, .int .i64 x.n.b, .int .i64 x.n.c, .int .i64 x.n.d, .int .i64 x.e] 70)).alloc (.cells #[.int .i64 y.n.a, .int .i64 y.n.b, .int .i64 y.n.c, .int .i64 y.n.d, .int .i64 y.e] 70)) (.cells #[.int .i64 0, .int .i64 0, .int .i64 0, .int .i64 0, .int .i64 0] 70))
  go_enter Tryz.func138, Tryz.ntmps138
  go_wp2_with fail
  refine (Hx.out _).mono ?_
  rintro e w1 ⟨rfl, hb1⟩
  have hr0 := below_blk hb1 (lt_of_block Hr0_0.out) Hr0_0.out
  have zg0 := lt_of_block hr0
  obtain ⟨c0_0, c0_1, c0_2, c0_3, c0_4⟩ := blk_cells5 hr0
  have Hr1_0 := Lib.hid hr0
  have hr1 := below_blk hb1 (lt_of_block Hr0_1.out) Hr0_1.out
  have zg1 := lt_of_block hr1
  obtain ⟨c1_0, c1_1, c1_2, c1_3, c1_4⟩ := blk_cells5 hr1
  have Hr1_1 := Lib.hid hr1
  have hr2 := below_blk hb1 (lt_of_block Hr0_2.out) Hr0_2.out
  have zg2 := lt_of_block hr2
  obtain ⟨c2_0, c2_1, c2_2, c2_3, c2_4⟩ := blk_cells5 hr2
  have f2 := fun o => free_at hr2 o
  have Hq1_2 := Lib.hid hr2
  have Hr1_2 := Lib.hid hr2
  have hb1 := below_up (B := w.heap.size) (w := w) (by go_grown) hb1 (by simp <;> omega)
  have Hp1 := Lib.hid hb1
  have Hb1 := Lib.hid hb1
  clear hr0 hr1 hr2
  clear hb1
  go_wp2_with fail
  obtain ⟨k0, k1, k2, k3, k4⟩ := blk_cells5 (set5_at (u0 := .int .i64 0) (u1 := .int .i64 0) (u2 := .int .i64 0) (u3 := .int .i64 0) (u4 := .int .i64 0) Hq1_2.out)
  refine bodyPost_ret (v := .tuple #[(.agg #[.int .i64 Dw.zero.n.a, .int .i64 Dw.zero.n.b, .int .i64 Dw.zero.n.c, .int .i64 Dw.zero.n.d, .int .i64 Dw.zero.e]), .bool false]) (by simp only [results, Tryz.results138]; simp [go_sem, k0, k1, k2, k3, k4, Dw.zero, Zw.zero]) rfl ⟨rfl, ?_⟩
  have := Hp1.out
  go_grown
set_option maxRecDepth 100000 in
set_option maxHeartbeats 1600000 in
theorem iaddD_bad2 (x y : Dw) (w : World) (h0 : -9223372036854775808 ≤ x.e) (h1 : x.e ≤ 9223372036854775807) (g0 : -9223372036854775808 ≤ y.e) (g1 : y.e ≤ 9223372036854775807) (hx : okD x = true) (hy : okD y = false) :
    Calls Tryz.prog 138 #[(.agg #[.int .i64 x.n.a, .int .i64 x.n.b, .int .i64 x.n.c, .int .i64 x.n.d, .int .i64 x.e]), (.agg #[.int .i64 y.n.a, .int .i64 y.n.b, .int .i64 y.n.c, .int .i64 y.n.d, .int .i64 y.e])] w fun e w' => e = .returned (.tuple #[(.agg #[.int .i64 Dw.zero.n.a, .int .i64 Dw.zero.n.b, .int .i64 Dw.zero.n.c, .int .i64 Dw.zero.n.d, .int .i64 Dw.zero.e]), .bool false]) ∧ Below w.heap.size w w' := by
  have Hx := Lib.hid (fun w => ivalidD x w h0 h1)
  have Hy := Lib.hid (fun w => ivalidD y w g0 g1)
  rw [hx] at Hx
  rw [hy] at Hy
  clear hy
  clear hx
  have Hr0_0 := Lib.hid (alloc_blk (.cells #[.int .i64 0, .int .i64 0, .int .i64 0, .int .i64 0, .int .i64 0] 70) (alloc_blk (.cells #[.int .i64 y.n.a, .int .i64 y.n.b, .int .i64 y.n.c, .int .i64 y.n.d, .int .i64 y.e] 70) (heap_alloc_new w (.cells #[.int .i64 x.n.a, .int .i64 x.n.b, .int .i64 x.n.c, .int .i64 x.n.d, .int .i64 x.e] 70))))
  have Hr0_1 := Lib.hid (alloc_blk (.cells #[.int .i64 0, .int .i64 0, .int .i64 0, .int .i64 0, .int .i64 0] 70) (show ((w.alloc (.cells #[.int .i64 x.n.a, .int .i64 x.n.b, .int .i64 x.n.c, .int .i64 x.n.d, .int .i64 x.e] 70)).alloc (.cells #[.int .i64 y.n.a, .int .i64 y.n.b, .int .i64 y.n.c, .int .i64 y.n.d, .int .i64 y.e] 70)).heap[w.heap.size + 1]? = some (.cells #[.int .i64 y.n.a, .int .i64 y.n.b, .int .i64 y.n.c, .int .i64 y.n.d, .int .i64 y.e] 70 (0, 0)) from by simpa using heap_alloc_new (w.alloc (.cells #[.int .i64 x.n.a, .int .i64 x.n.b, .int .i64 x.n.c, .int .i64 x.n.d, .int .i64 x.e] 70)) (.cells #[.int .i64 y.n.a, .int .i64 y.n.b, .int .i64 y.n.c, .int .i64 y.n.d, .int .i64 y.e] 70)))
  have Hr0_2 := Lib.hid (show (((w.alloc (.cells #[.int .i64 x.n.a, .int .i64 x.n.b, .int .i64 x.n.c, .int .i64 x.n.d, .int .i64 x.e] 70)).alloc (.cells #[.int .i64 y.n.a, .int .i64 y.n.b, .int .i64 y.n.c, .int .i64 y.n.d, .int .i64 y.e] 70)).alloc (.cells #[.int .i64 0, .int .i64 0, .int .i64 0, .int .i64 0, .int .i64 0] 70)).heap[w.heap.size + 2]? = some (.cells #[.int .i64 0, .int .i64 0, .int .i64 0, .int .i64 0, .int .i64 0] 70 (0, 0)) from by simpa using heap_alloc_new ((w.alloc (.cells #[.int .i64 x.n.a, .int .i64 x.n.b, .int .i64 x.n.c, .int .i64 x.n.d, .int .i64 x.e] 70)).alloc (.cells #[.int .i64 y.n.a, .int .i64 y.n.b, .int .i64 y.n.c, .int .i64 y.n.d, .int .i64 y.e] 70)) (.cells #[.int .i64 0, .int .i64 0, .int .i64 0, .int .i64 0, .int .i64 0] 70))
  go_enter Tryz.func138, Tryz.ntmps138
  go_wp2_with fail
  refine (Hx.out _).mono ?_
  rintro e w1 ⟨rfl, hb1⟩
  have hr0 := below_blk hb1 (lt_of_block Hr0_0.out) Hr0_0.out
  have zg0 := lt_of_block hr0
  obtain ⟨c0_0, c0_1, c0_2, c0_3, c0_4⟩ := blk_cells5 hr0
  have Hr1_0 := Lib.hid hr0
  have hr1 := below_blk hb1 (lt_of_block Hr0_1.out) Hr0_1.out
  have zg1 := lt_of_block hr1
  obtain ⟨c1_0, c1_1, c1_2, c1_3, c1_4⟩ := blk_cells5 hr1
  have Hr1_1 := Lib.hid hr1
  have hr2 := below_blk hb1 (lt_of_block Hr0_2.out) Hr0_2.out
  have zg2 := lt_of_block hr2
  obtain ⟨c2_0, c2_1, c2_2, c2_3, c2_4⟩ := blk_cells5 hr2
  have f2 := fun o => free_at hr2 o
  have Hq1_2 := Lib.hid hr2
  have Hr1_2 := Lib.hid hr2
  have hb1 := below_up (B := w.heap.size) (w := w) (by go_grown) hb1 (by simp <;> omega)
  have Hp1 := Lib.hid hb1
  have Hb1 := Lib.hid hb1
  clear hr0 hr1 hr2
  clear hb1
  go_wp2_with fail
  refine (Hy.out _).mono ?_
  rintro e w2 ⟨rfl, hb2⟩
  clear zg0 c0_0 c0_1 c0_2 c0_3 c0_4 zg1 c1_0 c1_1 c1_2 c1_3 c1_4 zg2 c2_0 c2_1 c2_2 c2_3 c2_4 f2
  have hr0 := below_blk hb2 (lt_of_block Hr1_0.out) Hr1_0.out
  have zg0 := lt_of_block hr0
  obtain ⟨c0_0, c0_1, c0_2, c0_3, c0_4⟩ := blk_cells5 hr0
  have Hr2_0 := Lib.hid hr0
  have hr1 := below_blk hb2 (lt_of_block Hr1_1.out) Hr1_1.out
  have zg1 := lt_of_block hr1
  obtain ⟨c1_0, c1_1, c1_2, c1_3, c1_4⟩ := blk_cells5 hr1
  have Hr2_1 := Lib.hid hr1
  have hr2 := below_blk hb2 (lt_of_block Hr1_2.out) Hr1_2.out
  have zg2 := lt_of_block hr2
  obtain ⟨c2_0, c2_1, c2_2, c2_3, c2_4⟩ := blk_cells5 hr2
  have f2 := fun o => free_at hr2 o
  have Hq2_2 := Lib.hid hr2
  have Hr2_2 := Lib.hid hr2
  have hb2 := below_nx Hb1.out hb2
  have Hp2 := Lib.hid hb2
  have Hb2 := Lib.hid hb2
  clear hr0 hr1 hr2
  clear hb2
  go_wp2_with fail
  obtain ⟨k0, k1, k2, k3, k4⟩ := blk_cells5 (set5_at (u0 := .int .i64 0) (u1 := .int .i64 0) (u2 := .int .i64 0) (u3 := .int .i64 0) (u4 := .int .i64 0) Hq2_2.out)
  refine bodyPost_ret (v := .tuple #[(.agg #[.int .i64 Dw.zero.n.a, .int .i64 Dw.zero.n.b, .int .i64 Dw.zero.n.c, .int .i64 Dw.zero.n.d, .int .i64 Dw.zero.e]), .bool false]) (by simp only [results, Tryz.results138]; simp [go_sem, k0, k1, k2, k3, k4, Dw.zero, Zw.zero]) rfl ⟨rfl, ?_⟩
  have := Hp2.out
  go_grown
set_option maxRecDepth 100000 in
set_option maxHeartbeats 3200000 in
theorem iaddD_ok (x y : Dw) (w : World) (h0 : -9223372036854775808 ≤ x.e) (h1 : x.e ≤ 9223372036854775807) (g0 : -9223372036854775808 ≤ y.e) (g1 : y.e ≤ 9223372036854775807) (hx : x.ok) (hy : y.ok) :
    Calls Tryz.prog 138 #[(.agg #[.int .i64 x.n.a, .int .i64 x.n.b, .int .i64 x.n.c, .int .i64 x.n.d, .int .i64 x.e]), (.agg #[.int .i64 y.n.a, .int .i64 y.n.b, .int .i64 y.n.c, .int .i64 y.n.d, .int .i64 y.e])] w fun e w' => e = .returned (.tuple #[(.agg #[.int .i64 (dAddV x y).n.a, .int .i64 (dAddV x y).n.b, .int .i64 (dAddV x y).n.c, .int .i64 (dAddV x y).n.d, .int .i64 (dAddV x y).e]), .bool (dAddB x y)]) ∧ Below w.heap.size w w' := by
  have Hx := Lib.hid (fun w => ivalidD x w h0 h1)
  have Hy := Lib.hid (fun w => ivalidD y w g0 g1)
  rw [okD_true.2 hx] at Hx
  rw [okD_true.2 hy] at Hy
  have x0 := hx.2.1
  have x1 := hx.2.2.1
  have y0 := hy.2.1
  have y1 := hy.2.2.1
  have hk := topE_le x y
  have k0 : 0 ≤ topE x y - x.e ∧ topE x y - x.e ≤ 60 := by omega
  have k1 : 0 ≤ topE x y - y.e ∧ topE x y - y.e ≤ 60 := by omega
  have k2 : 0 ≤ topE x y ∧ topE x y ≤ 60 := by omega
  have Hu := Lib.hid (show ∀ w, Calls Tryz.prog 152 #[(.agg #[.int .i64 x.n.a, .int .i64 x.n.b, .int .i64 x.n.c, .int .i64 x.n.d]), .int .i64 (topE x y - x.e)] w fun e w' => e = .returned (.tuple #[(.agg #[.int .i64 (upA x y).a, .int .i64 (upA x y).b, .int .i64 (upA x y).c, .int .i64 (upA x y).d]), .bool (upAB x y)]) ∧ Below w.heap.size w w' from fun w => iup_int x.n (topE x y - x.e) k0.1 (by omega) w)
  have Hv := Lib.hid (show ∀ w, Calls Tryz.prog 152 #[(.agg #[.int .i64 y.n.a, .int .i64 y.n.b, .int .i64 y.n.c, .int .i64 y.n.d]), .int .i64 (topE x y - y.e)] w fun e w' => e = .returned (.tuple #[(.agg #[.int .i64 (upC x y).a, .int .i64 (upC x y).b, .int .i64 (upC x y).c, .int .i64 (upC x y).d]), .bool (upCB x y)]) ∧ Below w.heap.size w w' from fun w => iup_int y.n (topE x y - y.e) k1.1 (by omega) w)
  have Ha := Lib.hid (iadd_any (upA x y) (upC x y))
  have Hn := Lib.hid (fun w => inew_any (addV (upA x y) (upC x y)) (topE x y) w (by omega) (by omega))
  have Ht := Lib.hid (@dAdd_true x y hx hy)
  have Hf := Lib.hid (fun h => @dAdd_false x y h)
  have Hm := Lib.hid (show (if x.e < y.e then y.e else x.e) = topE x y by unfold topE; split <;> split <;> omega)
  clear hx hy
  generalize dAddV x y = R at *
  generalize dAddB x y = T at *
  generalize newV (addV (upA x y) (upC x y)) (topE x y) = r at *
  generalize newB (addV (upA x y) (upC x y)) (topE x y) = u at *
  generalize addV (upA x y) (upC x y) = s at *
  generalize addB (upA x y) (upC x y) = t3 at *
  generalize upA x y = a at *
  generalize upC x y = c at *
  generalize upAB x y = t1 at *
  generalize upCB x y = t2 at *
  have Hr0_0 := Lib.hid (alloc_blk (.cells #[.int .i64 0, .int .i64 0, .int .i64 0, .int .i64 0, .int .i64 0] 70) (alloc_blk (.cells #[.int .i64 y.n.a, .int .i64 y.n.b, .int .i64 y.n.c, .int .i64 y.n.d, .int .i64 y.e] 70) (heap_alloc_new w (.cells #[.int .i64 x.n.a, .int .i64 x.n.b, .int .i64 x.n.c, .int .i64 x.n.d, .int .i64 x.e] 70))))
  have Hr0_1 := Lib.hid (alloc_blk (.cells #[.int .i64 0, .int .i64 0, .int .i64 0, .int .i64 0, .int .i64 0] 70) (show ((w.alloc (.cells #[.int .i64 x.n.a, .int .i64 x.n.b, .int .i64 x.n.c, .int .i64 x.n.d, .int .i64 x.e] 70)).alloc (.cells #[.int .i64 y.n.a, .int .i64 y.n.b, .int .i64 y.n.c, .int .i64 y.n.d, .int .i64 y.e] 70)).heap[w.heap.size + 1]? = some (.cells #[.int .i64 y.n.a, .int .i64 y.n.b, .int .i64 y.n.c, .int .i64 y.n.d, .int .i64 y.e] 70 (0, 0)) from by simpa using heap_alloc_new (w.alloc (.cells #[.int .i64 x.n.a, .int .i64 x.n.b, .int .i64 x.n.c, .int .i64 x.n.d, .int .i64 x.e] 70)) (.cells #[.int .i64 y.n.a, .int .i64 y.n.b, .int .i64 y.n.c, .int .i64 y.n.d, .int .i64 y.e] 70)))
  have Hr0_2 := Lib.hid (show (((w.alloc (.cells #[.int .i64 x.n.a, .int .i64 x.n.b, .int .i64 x.n.c, .int .i64 x.n.d, .int .i64 x.e] 70)).alloc (.cells #[.int .i64 y.n.a, .int .i64 y.n.b, .int .i64 y.n.c, .int .i64 y.n.d, .int .i64 y.e] 70)).alloc (.cells #[.int .i64 0, .int .i64 0, .int .i64 0, .int .i64 0, .int .i64 0] 70)).heap[w.heap.size + 2]? = some (.cells #[.int .i64 0, .int .i64 0, .int .i64 0, .int .i64 0, .int .i64 0] 70 (0, 0)) from by simpa using heap_alloc_new ((w.alloc (.cells #[.int .i64 x.n.a, .int .i64 x.n.b, .int .i64 x.n.c, .int .i64 x.n.d, .int .i64 x.e] 70)).alloc (.cells #[.int .i64 y.n.a, .int .i64 y.n.b, .int .i64 y.n.c, .int .i64 y.n.d, .int .i64 y.e] 70)) (.cells #[.int .i64 0, .int .i64 0, .int .i64 0, .int .i64 0, .int .i64 0] 70))
  go_enter Tryz.func138, Tryz.ntmps138
  go_wp2_with fail
  refine (Hx.out _).mono ?_
  rintro e w1 ⟨rfl, hb1⟩
  have hr0 := below_blk hb1 (lt_of_block Hr0_0.out) Hr0_0.out
  have zg0 := lt_of_block hr0
  obtain ⟨c0_0, c0_1, c0_2, c0_3, c0_4⟩ := blk_cells5 hr0
  have Hr1_0 := Lib.hid hr0
  have hr1 := below_blk hb1 (lt_of_block Hr0_1.out) Hr0_1.out
  have zg1 := lt_of_block hr1
  obtain ⟨c1_0, c1_1, c1_2, c1_3, c1_4⟩ := blk_cells5 hr1
  have Hr1_1 := Lib.hid hr1
  have hr2 := below_blk hb1 (lt_of_block Hr0_2.out) Hr0_2.out
  have zg2 := lt_of_block hr2
  obtain ⟨c2_0, c2_1, c2_2, c2_3, c2_4⟩ := blk_cells5 hr2
  have f2 := fun o => free_at hr2 o
  have Hq1_2 := Lib.hid hr2
  have Hr1_2 := Lib.hid hr2
  have hb1 := below_up (B := w.heap.size) (w := w) (by go_grown) hb1 (by simp <;> omega)
  have Hp1 := Lib.hid hb1
  have Hb1 := Lib.hid hb1
  clear hr0 hr1 hr2
  clear hb1
  go_wp2_with fail
  refine (Hy.out _).mono ?_
  rintro e w2 ⟨rfl, hb2⟩
  clear zg0 c0_0 c0_1 c0_2 c0_3 c0_4 zg1 c1_0 c1_1 c1_2 c1_3 c1_4 zg2 c2_0 c2_1 c2_2 c2_3 c2_4 f2
  have hr0 := below_blk hb2 (lt_of_block Hr1_0.out) Hr1_0.out
  have zg0 := lt_of_block hr0
  obtain ⟨c0_0, c0_1, c0_2, c0_3, c0_4⟩ := blk_cells5 hr0
  have Hr2_0 := Lib.hid hr0
  have hr1 := below_blk hb2 (lt_of_block Hr1_1.out) Hr1_1.out
  have zg1 := lt_of_block hr1
  obtain ⟨c1_0, c1_1, c1_2, c1_3, c1_4⟩ := blk_cells5 hr1
  have Hr2_1 := Lib.hid hr1
  have hr2 := below_blk hb2 (lt_of_block Hr1_2.out) Hr1_2.out
  have zg2 := lt_of_block hr2
  obtain ⟨c2_0, c2_1, c2_2, c2_3, c2_4⟩ := blk_cells5 hr2
  have f2 := fun o => free_at hr2 o
  have Hq2_2 := Lib.hid hr2
  have Hr2_2 := Lib.hid hr2
  have hb2 := below_nx Hb1.out hb2
  have Hp2 := Lib.hid hb2
  have Hb2 := Lib.hid hb2
  clear hr0 hr1 hr2
  clear hb2
  go_upto_region 4 with fail
  rw [Hm.out]
  clear Hm
  generalize topE x y = k at *
  go_wp2_with fail
  refine (Hu.out _).mono ?_
  rintro e w3 ⟨rfl, hb3⟩
  clear zg0 c0_0 c0_1 c0_2 c0_3 c0_4 zg1 c1_0 c1_1 c1_2 c1_3 c1_4 zg2 c2_0 c2_1 c2_2 c2_3 c2_4 f2
  have hr0 := below_blk hb3 (lt_of_block Hr2_0.out) Hr2_0.out
  have zg0 := lt_of_block hr0
  obtain ⟨c0_0, c0_1, c0_2, c0_3, c0_4⟩ := blk_cells5 hr0
  have Hr3_0 := Lib.hid (alloc_blk (.cells #[.int .i64 a.a, .int .i64 a.b, .int .i64 a.c, .int .i64 a.d] 68) hr0)
  have hr1 := below_blk hb3 (lt_of_block Hr2_1.out) Hr2_1.out
  have zg1 := lt_of_block hr1
  obtain ⟨c1_0, c1_1, c1_2, c1_3, c1_4⟩ := blk_cells5 hr1
  have Hr3_1 := Lib.hid (alloc_blk (.cells #[.int .i64 a.a, .int .i64 a.b, .int .i64 a.c, .int .i64 a.d] 68) hr1)
  have hr2 := below_blk hb3 (lt_of_block Hr2_2.out) Hr2_2.out
  have zg2 := lt_of_block hr2
  obtain ⟨c2_0, c2_1, c2_2, c2_3, c2_4⟩ := blk_cells5 hr2
  have f2 := fun o => free_at hr2 o
  have Hq3_2 := Lib.hid hr2
  have Hr3_2 := Lib.hid (alloc_blk (.cells #[.int .i64 a.a, .int .i64 a.b, .int .i64 a.c, .int .i64 a.d] 68) hr2)
  have hb3 := below_nx Hb2.out hb3
  have Hp3 := Lib.hid hb3
  have Hb3 := Lib.hid (Below.alloc hb3 (Below.size hb3) (.cells #[.int .i64 a.a, .int .i64 a.b, .int .i64 a.c, .int .i64 a.d] 68))
  have Hr3_3 := Lib.hid (heap_alloc_new w3 (.cells #[.int .i64 a.a, .int .i64 a.b, .int .i64 a.c, .int .i64 a.d] 68))
  clear hr0 hr1 hr2
  clear hb3
  cases t1
  · obtain ⟨rfl, rfl⟩ := Hf.out (by simp)
    go_wp2_with fail
    obtain ⟨k0, k1, k2, k3, k4⟩ := blk_cells5 (alloc_blk (.cells #[.int .i64 a.a, .int .i64 a.b, .int .i64 a.c, .int .i64 a.d] 68) (set5_at (u0 := .int .i64 0) (u1 := .int .i64 0) (u2 := .int .i64 0) (u3 := .int .i64 0) (u4 := .int .i64 0) Hq3_2.out))
    refine bodyPost_ret (v := .tuple #[(.agg #[.int .i64 Dw.zero.n.a, .int .i64 Dw.zero.n.b, .int .i64 Dw.zero.n.c, .int .i64 Dw.zero.n.d, .int .i64 Dw.zero.e]), .bool false]) (by simp only [results, Tryz.results138]; simp [go_sem, k0, k1, k2, k3, k4, Dw.zero, Zw.zero]) rfl ⟨rfl, ?_⟩
    have := Hp3.out
    go_grown
  · go_wp2_with fail
    refine (Hv.out _).mono ?_
    rintro e w4 ⟨rfl, hb4⟩
    clear zg0 c0_0 c0_1 c0_2 c0_3 c0_4 zg1 c1_0 c1_1 c1_2 c1_3 c1_4 zg2 c2_0 c2_1 c2_2 c2_3 c2_4 f2
    have hr0 := below_blk hb4 (lt_of_block Hr3_0.out) Hr3_0.out
    have zg0 := lt_of_block hr0
    obtain ⟨c0_0, c0_1, c0_2, c0_3, c0_4⟩ := blk_cells5 hr0
    have Hr4_0 := Lib.hid (alloc_blk (.cells #[.int .i64 c.a, .int .i64 c.b, .int .i64 c.c, .int .i64 c.d] 68) hr0)
    have hr1 := below_blk hb4 (lt_of_block Hr3_1.out) Hr3_1.out
    have zg1 := lt_of_block hr1
    obtain ⟨c1_0, c1_1, c1_2, c1_3, c1_4⟩ := blk_cells5 hr1
    have Hr4_1 := Lib.hid (alloc_blk (.cells #[.int .i64 c.a, .int .i64 c.b, .int .i64 c.c, .int .i64 c.d] 68) hr1)
    have hr2 := below_blk hb4 (lt_of_block Hr3_2.out) Hr3_2.out
    have zg2 := lt_of_block hr2
    obtain ⟨c2_0, c2_1, c2_2, c2_3, c2_4⟩ := blk_cells5 hr2
    have f2 := fun o => free_at hr2 o
    have Hq4_2 := Lib.hid hr2
    have Hr4_2 := Lib.hid (alloc_blk (.cells #[.int .i64 c.a, .int .i64 c.b, .int .i64 c.c, .int .i64 c.d] 68) hr2)
    have hr3 := below_blk hb4 (lt_of_block Hr3_3.out) Hr3_3.out
    have zg3 := lt_of_block hr3
    obtain ⟨c3_0, c3_1, c3_2, c3_3⟩ := blk_cells hr3
    have Hr4_3 := Lib.hid (alloc_blk (.cells #[.int .i64 c.a, .int .i64 c.b, .int .i64 c.c, .int .i64 c.d] 68) hr3)
    have hb4 := below_nx Hb3.out hb4
    have Hp4 := Lib.hid hb4
    have Hb4 := Lib.hid (Below.alloc hb4 (Below.size hb4) (.cells #[.int .i64 c.a, .int .i64 c.b, .int .i64 c.c, .int .i64 c.d] 68))
    have Hr4_4 := Lib.hid (heap_alloc_new w4 (.cells #[.int .i64 c.a, .int .i64 c.b, .int .i64 c.c, .int .i64 c.d] 68))
    clear hr0 hr1 hr2 hr3
    clear hb4
    cases t2
    · obtain ⟨rfl, rfl⟩ := Hf.out (by simp)
      go_wp2_with fail
      obtain ⟨k0, k1, k2, k3, k4⟩ := blk_cells5 (alloc_blk (.cells #[.int .i64 c.a, .int .i64 c.b, .int .i64 c.c, .int .i64 c.d] 68) (set5_at (u0 := .int .i64 0) (u1 := .int .i64 0) (u2 := .int .i64 0) (u3 := .int .i64 0) (u4 := .int .i64 0) Hq4_2.out))
      refine bodyPost_ret (v := .tuple #[(.agg #[.int .i64 Dw.zero.n.a, .int .i64 Dw.zero.n.b, .int .i64 Dw.zero.n.c, .int .i64 Dw.zero.n.d, .int .i64 Dw.zero.e]), .bool false]) (by simp only [results, Tryz.results138]; simp [go_sem, k0, k1, k2, k3, k4, Dw.zero, Zw.zero]) rfl ⟨rfl, ?_⟩
      have := Hp4.out
      go_grown
    · go_wp2_with fail
      refine (Ha.out _).mono ?_
      rintro e w5 ⟨rfl, hb5⟩
      clear zg0 c0_0 c0_1 c0_2 c0_3 c0_4 zg1 c1_0 c1_1 c1_2 c1_3 c1_4 zg2 c2_0 c2_1 c2_2 c2_3 c2_4 f2 zg3 c3_0 c3_1 c3_2 c3_3
      have hr0 := below_blk hb5 (lt_of_block Hr4_0.out) Hr4_0.out
      have zg0 := lt_of_block hr0
      obtain ⟨c0_0, c0_1, c0_2, c0_3, c0_4⟩ := blk_cells5 hr0
      have Hr5_0 := Lib.hid (alloc_blk (.cells #[.int .i64 s.a, .int .i64 s.b, .int .i64 s.c, .int .i64 s.d] 68) hr0)
      have hr1 := below_blk hb5 (lt_of_block Hr4_1.out) Hr4_1.out
      have zg1 := lt_of_block hr1
      obtain ⟨c1_0, c1_1, c1_2, c1_3, c1_4⟩ := blk_cells5 hr1
      have Hr5_1 := Lib.hid (alloc_blk (.cells #[.int .i64 s.a, .int .i64 s.b, .int .i64 s.c, .int .i64 s.d] 68) hr1)
      have hr2 := below_blk hb5 (lt_of_block Hr4_2.out) Hr4_2.out
      have zg2 := lt_of_block hr2
      obtain ⟨c2_0, c2_1, c2_2, c2_3, c2_4⟩ := blk_cells5 hr2
      have f2 := fun o => free_at hr2 o
      have Hq5_2 := Lib.hid hr2
      have Hr5_2 := Lib.hid (alloc_blk (.cells #[.int .i64 s.a, .int .i64 s.b, .int .i64 s.c, .int .i64 s.d] 68) hr2)
      have hr3 := below_blk hb5 (lt_of_block Hr4_3.out) Hr4_3.out
      have zg3 := lt_of_block hr3
      obtain ⟨c3_0, c3_1, c3_2, c3_3⟩ := blk_cells hr3
      have Hr5_3 := Lib.hid (alloc_blk (.cells #[.int .i64 s.a, .int .i64 s.b, .int .i64 s.c, .int .i64 s.d] 68) hr3)
      have hr4 := below_blk hb5 (lt_of_block Hr4_4.out) Hr4_4.out
      have zg4 := lt_of_block hr4
      obtain ⟨c4_0, c4_1, c4_2, c4_3⟩ := blk_cells hr4
      have Hr5_4 := Lib.hid (alloc_blk (.cells #[.int .i64 s.a, .int .i64 s.b, .int .i64 s.c, .int .i64 s.d] 68) hr4)
      have hb5 := below_nx Hb4.out hb5
      have Hp5 := Lib.hid hb5
      have Hb5 := Lib.hid (Below.alloc hb5 (Below.size hb5) (.cells #[.int .i64 s.a, .int .i64 s.b, .int .i64 s.c, .int .i64 s.d] 68))
      have Hr5_5 := Lib.hid (heap_alloc_new w5 (.cells #[.int .i64 s.a, .int .i64 s.b, .int .i64 s.c, .int .i64 s.d] 68))
      clear hr0 hr1 hr2 hr3 hr4
      clear hb5
      cases t3
      · obtain ⟨rfl, rfl⟩ := Hf.out (by simp)
        go_wp2_with fail
        obtain ⟨k0, k1, k2, k3, k4⟩ := blk_cells5 (alloc_blk (.cells #[.int .i64 s.a, .int .i64 s.b, .int .i64 s.c, .int .i64 s.d] 68) (set5_at (u0 := .int .i64 0) (u1 := .int .i64 0) (u2 := .int .i64 0) (u3 := .int .i64 0) (u4 := .int .i64 0) Hq5_2.out))
        refine bodyPost_ret (v := .tuple #[(.agg #[.int .i64 Dw.zero.n.a, .int .i64 Dw.zero.n.b, .int .i64 Dw.zero.n.c, .int .i64 Dw.zero.n.d, .int .i64 Dw.zero.e]), .bool false]) (by simp only [results, Tryz.results138]; simp [go_sem, k0, k1, k2, k3, k4, Dw.zero, Zw.zero]) rfl ⟨rfl, ?_⟩
        have := Hp5.out
        go_grown
      · obtain ⟨rfl, rfl⟩ := Ht.out (by trivial) (by trivial) (by trivial)
        go_wp2_with fail
        refine (Hn.out _).mono ?_
        rintro e w6 ⟨rfl, hb6⟩
        clear zg0 c0_0 c0_1 c0_2 c0_3 c0_4 zg1 c1_0 c1_1 c1_2 c1_3 c1_4 zg2 c2_0 c2_1 c2_2 c2_3 c2_4 f2 zg3 c3_0 c3_1 c3_2 c3_3 zg4 c4_0 c4_1 c4_2 c4_3
        have hr0 := below_blk hb6 (lt_of_block Hr5_0.out) Hr5_0.out
        have zg0 := lt_of_block hr0
        obtain ⟨c0_0, c0_1, c0_2, c0_3, c0_4⟩ := blk_cells5 hr0
        have Hr6_0 := Lib.hid hr0
        have hr1 := below_blk hb6 (lt_of_block Hr5_1.out) Hr5_1.out
        have zg1 := lt_of_block hr1
        obtain ⟨c1_0, c1_1, c1_2, c1_3, c1_4⟩ := blk_cells5 hr1
        have Hr6_1 := Lib.hid hr1
        have hr2 := below_blk hb6 (lt_of_block Hr5_2.out) Hr5_2.out
        have zg2 := lt_of_block hr2
        obtain ⟨c2_0, c2_1, c2_2, c2_3, c2_4⟩ := blk_cells5 hr2
        have f2 := fun o => free_at hr2 o
        have Hq6_2 := Lib.hid hr2
        have Hr6_2 := Lib.hid hr2
        have hr3 := below_blk hb6 (lt_of_block Hr5_3.out) Hr5_3.out
        have zg3 := lt_of_block hr3
        obtain ⟨c3_0, c3_1, c3_2, c3_3⟩ := blk_cells hr3
        have Hr6_3 := Lib.hid hr3
        have hr4 := below_blk hb6 (lt_of_block Hr5_4.out) Hr5_4.out
        have zg4 := lt_of_block hr4
        obtain ⟨c4_0, c4_1, c4_2, c4_3⟩ := blk_cells hr4
        have Hr6_4 := Lib.hid hr4
        have hr5 := below_blk hb6 (lt_of_block Hr5_5.out) Hr5_5.out
        have zg5 := lt_of_block hr5
        obtain ⟨c5_0, c5_1, c5_2, c5_3⟩ := blk_cells hr5
        have Hr6_5 := Lib.hid hr5
        have hb6 := below_nx Hb5.out hb6
        have Hp6 := Lib.hid hb6
        have Hb6 := Lib.hid hb6
        clear hr0 hr1 hr2 hr3 hr4 hr5
        clear hb6
        go_wp2_with fail
        obtain ⟨k0, k1, k2, k3, k4⟩ := blk_cells5 (set5_at (u0 := .int .i64 R.n.a) (u1 := .int .i64 R.n.b) (u2 := .int .i64 R.n.c) (u3 := .int .i64 R.n.d) (u4 := .int .i64 R.e) Hq6_2.out)
        refine bodyPost_ret (v := .tuple #[(.agg #[.int .i64 R.n.a, .int .i64 R.n.b, .int .i64 R.n.c, .int .i64 R.n.d, .int .i64 R.e]), .bool T]) (by simp only [results, Tryz.results138]; simp [go_sem, k0, k1, k2, k3, k4]) rfl ⟨rfl, ?_⟩
        have := Hp6.out
        go_grown
theorem iaddD_any (x y : Dw) (w : World) (h0 : -9223372036854775808 ≤ x.e) (h1 : x.e ≤ 9223372036854775807) (g0 : -9223372036854775808 ≤ y.e) (g1 : y.e ≤ 9223372036854775807) :
    Calls Tryz.prog 138 #[(.agg #[.int .i64 x.n.a, .int .i64 x.n.b, .int .i64 x.n.c, .int .i64 x.n.d, .int .i64 x.e]), (.agg #[.int .i64 y.n.a, .int .i64 y.n.b, .int .i64 y.n.c, .int .i64 y.n.d, .int .i64 y.e])] w fun e w' => e = .returned (.tuple #[(.agg #[.int .i64 (dAddV x y).n.a, .int .i64 (dAddV x y).n.b, .int .i64 (dAddV x y).n.c, .int .i64 (dAddV x y).n.d, .int .i64 (dAddV x y).e]), .bool (dAddB x y)]) ∧ Below w.heap.size w w' := by
  by_cases hx : x.ok
  · by_cases hy : y.ok
    · exact iaddD_ok x y w h0 h1 g0 g1 hx hy
    · rw [(dAdd_false (fun k => hy k.2.1)).1, (dAdd_false (fun k => hy k.2.1)).2]
      exact iaddD_bad2 x y w h0 h1 g0 g1 (okD_true.2 hx) (okD_false.2 hy)
  · rw [(dAdd_false (fun k => hx k.1)).1, (dAdd_false (fun k => hx k.1)).2]
    exact iaddD_bad1 x y w h0 h1 g0 g1 (okD_false.2 hx)
set_option maxRecDepth 100000 in
set_option maxHeartbeats 1600000 in
theorem saddD_bad1 (x y : Dw) (w : World) (_ : -9223372036854775808 ≤ x.e) (_ : x.e ≤ 9223372036854775807) (_ : -9223372036854775808 ≤ y.e) (_ : y.e ≤ 9223372036854775807) (hx : okD x = false) :
    Calls Tryz.prog 74 #[(.agg #[.int .i64 x.n.a, .int .i64 x.n.b, .int .i64 x.n.c, .int .i64 x.n.d, .int .i64 x.e]), (.agg #[.int .i64 y.n.a, .int .i64 y.n.b, .int .i64 y.n.c, .int .i64 y.n.d, .int .i64 y.e])] w fun e w' => e = .returned (.tuple #[(.agg #[.int .i64 Dw.zero.n.a, .int .i64 Dw.zero.n.b, .int .i64 Dw.zero.n.c, .int .i64 Dw.zero.n.d, .int .i64 Dw.zero.e]), .bool false]) ∧ Below w.heap.size w w' := by
  have Hx := Lib.hid (fun w => svalidD x w)
  have Hy := Lib.hid (fun w => svalidD y w)
  rw [hx] at Hx
  clear hx
  have Hr0_0 := Lib.hid (alloc_blk (.cells #[.int .i64 0, .int .i64 0, .int .i64 0, .int .i64 0, .int .i64 0] 70) (alloc_blk (.cells #[.int .i64 y.n.a, .int .i64 y.n.b, .int .i64 y.n.c, .int .i64 y.n.d, .int .i64 y.e] 70) (heap_alloc_new w (.cells #[.int .i64 x.n.a, .int .i64 x.n.b, .int .i64 x.n.c, .int .i64 x.n.d, .int .i64 x.e] 70))))
  have Hr0_1 := Lib.hid (alloc_blk (.cells #[.int .i64 0, .int .i64 0, .int .i64 0, .int .i64 0, .int .i64 0] 70) (show ((w.alloc (.cells #[.int .i64 x.n.a, .int .i64 x.n.b, .int .i64 x.n.c, .int .i64 x.n.d, .int .i64 x.e] 70)).alloc (.cells #[.int .i64 y.n.a, .int .i64 y.n.b, .int .i64 y.n.c, .int .i64 y.n.d, .int .i64 y.e] 70)).heap[w.heap.size + 1]? = some (.cells #[.int .i64 y.n.a, .int .i64 y.n.b, .int .i64 y.n.c, .int .i64 y.n.d, .int .i64 y.e] 70 (0, 0)) from by simpa using heap_alloc_new (w.alloc (.cells #[.int .i64 x.n.a, .int .i64 x.n.b, .int .i64 x.n.c, .int .i64 x.n.d, .int .i64 x.e] 70)) (.cells #[.int .i64 y.n.a, .int .i64 y.n.b, .int .i64 y.n.c, .int .i64 y.n.d, .int .i64 y.e] 70)))
  have Hr0_2 := Lib.hid (show (((w.alloc (.cells #[.int .i64 x.n.a, .int .i64 x.n.b, .int .i64 x.n.c, .int .i64 x.n.d, .int .i64 x.e] 70)).alloc (.cells #[.int .i64 y.n.a, .int .i64 y.n.b, .int .i64 y.n.c, .int .i64 y.n.d, .int .i64 y.e] 70)).alloc (.cells #[.int .i64 0, .int .i64 0, .int .i64 0, .int .i64 0, .int .i64 0] 70)).heap[w.heap.size + 2]? = some (.cells #[.int .i64 0, .int .i64 0, .int .i64 0, .int .i64 0, .int .i64 0] 70 (0, 0)) from by simpa using heap_alloc_new ((w.alloc (.cells #[.int .i64 x.n.a, .int .i64 x.n.b, .int .i64 x.n.c, .int .i64 x.n.d, .int .i64 x.e] 70)).alloc (.cells #[.int .i64 y.n.a, .int .i64 y.n.b, .int .i64 y.n.c, .int .i64 y.n.d, .int .i64 y.e] 70)) (.cells #[.int .i64 0, .int .i64 0, .int .i64 0, .int .i64 0, .int .i64 0] 70))
  go_enter Tryz.func74, Tryz.ntmps74
  go_wp2_with fail
  refine (Hx.out _).mono ?_
  rintro e w1 ⟨rfl, hb1⟩
  have hr0 := below_blk hb1 (lt_of_block Hr0_0.out) Hr0_0.out
  have zg0 := lt_of_block hr0
  obtain ⟨c0_0, c0_1, c0_2, c0_3, c0_4⟩ := blk_cells5 hr0
  have Hr1_0 := Lib.hid hr0
  have hr1 := below_blk hb1 (lt_of_block Hr0_1.out) Hr0_1.out
  have zg1 := lt_of_block hr1
  obtain ⟨c1_0, c1_1, c1_2, c1_3, c1_4⟩ := blk_cells5 hr1
  have Hr1_1 := Lib.hid hr1
  have hr2 := below_blk hb1 (lt_of_block Hr0_2.out) Hr0_2.out
  have zg2 := lt_of_block hr2
  obtain ⟨c2_0, c2_1, c2_2, c2_3, c2_4⟩ := blk_cells5 hr2
  have f2 := fun o => free_at hr2 o
  have Hq1_2 := Lib.hid hr2
  have Hr1_2 := Lib.hid hr2
  have hb1 := below_up (B := w.heap.size) (w := w) (by go_grown) hb1 (by simp <;> omega)
  have Hp1 := Lib.hid hb1
  have Hb1 := Lib.hid hb1
  clear hr0 hr1 hr2
  clear hb1
  go_wp2_with fail
  obtain ⟨k0, k1, k2, k3, k4⟩ := blk_cells5 (set5_at (u0 := .int .i64 0) (u1 := .int .i64 0) (u2 := .int .i64 0) (u3 := .int .i64 0) (u4 := .int .i64 0) Hq1_2.out)
  refine bodyPost_ret (v := .tuple #[(.agg #[.int .i64 Dw.zero.n.a, .int .i64 Dw.zero.n.b, .int .i64 Dw.zero.n.c, .int .i64 Dw.zero.n.d, .int .i64 Dw.zero.e]), .bool false]) (by simp only [results, Tryz.results74]; simp [go_sem, k0, k1, k2, k3, k4, Dw.zero, Zw.zero]) rfl ⟨rfl, ?_⟩
  have := Hp1.out
  go_grown
set_option maxRecDepth 100000 in
set_option maxHeartbeats 1600000 in
theorem saddD_bad2 (x y : Dw) (w : World) (_ : -9223372036854775808 ≤ x.e) (_ : x.e ≤ 9223372036854775807) (_ : -9223372036854775808 ≤ y.e) (_ : y.e ≤ 9223372036854775807) (hx : okD x = true) (hy : okD y = false) :
    Calls Tryz.prog 74 #[(.agg #[.int .i64 x.n.a, .int .i64 x.n.b, .int .i64 x.n.c, .int .i64 x.n.d, .int .i64 x.e]), (.agg #[.int .i64 y.n.a, .int .i64 y.n.b, .int .i64 y.n.c, .int .i64 y.n.d, .int .i64 y.e])] w fun e w' => e = .returned (.tuple #[(.agg #[.int .i64 Dw.zero.n.a, .int .i64 Dw.zero.n.b, .int .i64 Dw.zero.n.c, .int .i64 Dw.zero.n.d, .int .i64 Dw.zero.e]), .bool false]) ∧ Below w.heap.size w w' := by
  have Hx := Lib.hid (fun w => svalidD x w)
  have Hy := Lib.hid (fun w => svalidD y w)
  rw [hx] at Hx
  rw [hy] at Hy
  clear hy
  clear hx
  have Hr0_0 := Lib.hid (alloc_blk (.cells #[.int .i64 0, .int .i64 0, .int .i64 0, .int .i64 0, .int .i64 0] 70) (alloc_blk (.cells #[.int .i64 y.n.a, .int .i64 y.n.b, .int .i64 y.n.c, .int .i64 y.n.d, .int .i64 y.e] 70) (heap_alloc_new w (.cells #[.int .i64 x.n.a, .int .i64 x.n.b, .int .i64 x.n.c, .int .i64 x.n.d, .int .i64 x.e] 70))))
  have Hr0_1 := Lib.hid (alloc_blk (.cells #[.int .i64 0, .int .i64 0, .int .i64 0, .int .i64 0, .int .i64 0] 70) (show ((w.alloc (.cells #[.int .i64 x.n.a, .int .i64 x.n.b, .int .i64 x.n.c, .int .i64 x.n.d, .int .i64 x.e] 70)).alloc (.cells #[.int .i64 y.n.a, .int .i64 y.n.b, .int .i64 y.n.c, .int .i64 y.n.d, .int .i64 y.e] 70)).heap[w.heap.size + 1]? = some (.cells #[.int .i64 y.n.a, .int .i64 y.n.b, .int .i64 y.n.c, .int .i64 y.n.d, .int .i64 y.e] 70 (0, 0)) from by simpa using heap_alloc_new (w.alloc (.cells #[.int .i64 x.n.a, .int .i64 x.n.b, .int .i64 x.n.c, .int .i64 x.n.d, .int .i64 x.e] 70)) (.cells #[.int .i64 y.n.a, .int .i64 y.n.b, .int .i64 y.n.c, .int .i64 y.n.d, .int .i64 y.e] 70)))
  have Hr0_2 := Lib.hid (show (((w.alloc (.cells #[.int .i64 x.n.a, .int .i64 x.n.b, .int .i64 x.n.c, .int .i64 x.n.d, .int .i64 x.e] 70)).alloc (.cells #[.int .i64 y.n.a, .int .i64 y.n.b, .int .i64 y.n.c, .int .i64 y.n.d, .int .i64 y.e] 70)).alloc (.cells #[.int .i64 0, .int .i64 0, .int .i64 0, .int .i64 0, .int .i64 0] 70)).heap[w.heap.size + 2]? = some (.cells #[.int .i64 0, .int .i64 0, .int .i64 0, .int .i64 0, .int .i64 0] 70 (0, 0)) from by simpa using heap_alloc_new ((w.alloc (.cells #[.int .i64 x.n.a, .int .i64 x.n.b, .int .i64 x.n.c, .int .i64 x.n.d, .int .i64 x.e] 70)).alloc (.cells #[.int .i64 y.n.a, .int .i64 y.n.b, .int .i64 y.n.c, .int .i64 y.n.d, .int .i64 y.e] 70)) (.cells #[.int .i64 0, .int .i64 0, .int .i64 0, .int .i64 0, .int .i64 0] 70))
  go_enter Tryz.func74, Tryz.ntmps74
  go_wp2_with fail
  refine (Hx.out _).mono ?_
  rintro e w1 ⟨rfl, hb1⟩
  have hr0 := below_blk hb1 (lt_of_block Hr0_0.out) Hr0_0.out
  have zg0 := lt_of_block hr0
  obtain ⟨c0_0, c0_1, c0_2, c0_3, c0_4⟩ := blk_cells5 hr0
  have Hr1_0 := Lib.hid hr0
  have hr1 := below_blk hb1 (lt_of_block Hr0_1.out) Hr0_1.out
  have zg1 := lt_of_block hr1
  obtain ⟨c1_0, c1_1, c1_2, c1_3, c1_4⟩ := blk_cells5 hr1
  have Hr1_1 := Lib.hid hr1
  have hr2 := below_blk hb1 (lt_of_block Hr0_2.out) Hr0_2.out
  have zg2 := lt_of_block hr2
  obtain ⟨c2_0, c2_1, c2_2, c2_3, c2_4⟩ := blk_cells5 hr2
  have f2 := fun o => free_at hr2 o
  have Hq1_2 := Lib.hid hr2
  have Hr1_2 := Lib.hid hr2
  have hb1 := below_up (B := w.heap.size) (w := w) (by go_grown) hb1 (by simp <;> omega)
  have Hp1 := Lib.hid hb1
  have Hb1 := Lib.hid hb1
  clear hr0 hr1 hr2
  clear hb1
  go_wp2_with fail
  refine (Hy.out _).mono ?_
  rintro e w2 ⟨rfl, hb2⟩
  clear zg0 c0_0 c0_1 c0_2 c0_3 c0_4 zg1 c1_0 c1_1 c1_2 c1_3 c1_4 zg2 c2_0 c2_1 c2_2 c2_3 c2_4 f2
  have hr0 := below_blk hb2 (lt_of_block Hr1_0.out) Hr1_0.out
  have zg0 := lt_of_block hr0
  obtain ⟨c0_0, c0_1, c0_2, c0_3, c0_4⟩ := blk_cells5 hr0
  have Hr2_0 := Lib.hid hr0
  have hr1 := below_blk hb2 (lt_of_block Hr1_1.out) Hr1_1.out
  have zg1 := lt_of_block hr1
  obtain ⟨c1_0, c1_1, c1_2, c1_3, c1_4⟩ := blk_cells5 hr1
  have Hr2_1 := Lib.hid hr1
  have hr2 := below_blk hb2 (lt_of_block Hr1_2.out) Hr1_2.out
  have zg2 := lt_of_block hr2
  obtain ⟨c2_0, c2_1, c2_2, c2_3, c2_4⟩ := blk_cells5 hr2
  have f2 := fun o => free_at hr2 o
  have Hq2_2 := Lib.hid hr2
  have Hr2_2 := Lib.hid hr2
  have hb2 := below_nx Hb1.out hb2
  have Hp2 := Lib.hid hb2
  have Hb2 := Lib.hid hb2
  clear hr0 hr1 hr2
  clear hb2
  go_wp2_with fail
  obtain ⟨k0, k1, k2, k3, k4⟩ := blk_cells5 (set5_at (u0 := .int .i64 0) (u1 := .int .i64 0) (u2 := .int .i64 0) (u3 := .int .i64 0) (u4 := .int .i64 0) Hq2_2.out)
  refine bodyPost_ret (v := .tuple #[(.agg #[.int .i64 Dw.zero.n.a, .int .i64 Dw.zero.n.b, .int .i64 Dw.zero.n.c, .int .i64 Dw.zero.n.d, .int .i64 Dw.zero.e]), .bool false]) (by simp only [results, Tryz.results74]; simp [go_sem, k0, k1, k2, k3, k4, Dw.zero, Zw.zero]) rfl ⟨rfl, ?_⟩
  have := Hp2.out
  go_grown
set_option maxRecDepth 100000 in
set_option maxHeartbeats 3200000 in
theorem saddD_ok (x y : Dw) (w : World) (_ : -9223372036854775808 ≤ x.e) (_ : x.e ≤ 9223372036854775807) (_ : -9223372036854775808 ≤ y.e) (_ : y.e ≤ 9223372036854775807) (hx : x.ok) (hy : y.ok) :
    Calls Tryz.prog 74 #[(.agg #[.int .i64 x.n.a, .int .i64 x.n.b, .int .i64 x.n.c, .int .i64 x.n.d, .int .i64 x.e]), (.agg #[.int .i64 y.n.a, .int .i64 y.n.b, .int .i64 y.n.c, .int .i64 y.n.d, .int .i64 y.e])] w fun e w' => e = .returned (.tuple #[(.agg #[.int .i64 (dAddV x y).n.a, .int .i64 (dAddV x y).n.b, .int .i64 (dAddV x y).n.c, .int .i64 (dAddV x y).n.d, .int .i64 (dAddV x y).e]), .bool (dAddB x y)]) ∧ Below w.heap.size w w' := by
  have Hx := Lib.hid (fun w => svalidD x w)
  have Hy := Lib.hid (fun w => svalidD y w)
  rw [okD_true.2 hx] at Hx
  rw [okD_true.2 hy] at Hy
  have x0 := hx.2.1
  have x1 := hx.2.2.1
  have y0 := hy.2.1
  have y1 := hy.2.2.1
  have hk := topE_le x y
  have k0 : 0 ≤ topE x y - x.e ∧ topE x y - x.e ≤ 60 := by omega
  have k1 : 0 ≤ topE x y - y.e ∧ topE x y - y.e ≤ 60 := by omega
  have k2 : 0 ≤ topE x y ∧ topE x y ≤ 60 := by omega
  have Hu := Lib.hid (show ∀ w, Calls Tryz.prog 110 #[(.agg #[.int .i64 x.n.a, .int .i64 x.n.b, .int .i64 x.n.c, .int .i64 x.n.d]), .int .i64 (topE x y - x.e)] w fun e w' => e = .returned (.tuple #[(.agg #[.int .i64 (upA x y).a, .int .i64 (upA x y).b, .int .i64 (upA x y).c, .int .i64 (upA x y).d]), .bool (upAB x y)]) ∧ Below w.heap.size w w' from fun w => sup_int x.n (topE x y - x.e) k0.1 (by omega) w)
  have Hv := Lib.hid (show ∀ w, Calls Tryz.prog 110 #[(.agg #[.int .i64 y.n.a, .int .i64 y.n.b, .int .i64 y.n.c, .int .i64 y.n.d]), .int .i64 (topE x y - y.e)] w fun e w' => e = .returned (.tuple #[(.agg #[.int .i64 (upC x y).a, .int .i64 (upC x y).b, .int .i64 (upC x y).c, .int .i64 (upC x y).d]), .bool (upCB x y)]) ∧ Below w.heap.size w w' from fun w => sup_int y.n (topE x y - y.e) k1.1 (by omega) w)
  have Ha := Lib.hid (sadd_any (upA x y) (upC x y))
  have Hn := Lib.hid (fun w => snew_any (addV (upA x y) (upC x y)) (topE x y) w (by omega) (by omega))
  have Ht := Lib.hid (@dAdd_true x y hx hy)
  have Hf := Lib.hid (fun h => @dAdd_false x y h)
  have Hm := Lib.hid (show ∀ w, Calls Tryz.prog 109 #[.int .i64 x.e, .int .i64 y.e] w fun e w' => e = .returned (.int .i64 (topE x y)) ∧ w = w' from fun w => max_any x.e y.e w)
  clear hx hy
  generalize dAddV x y = R at *
  generalize dAddB x y = T at *
  generalize newV (addV (upA x y) (upC x y)) (topE x y) = r at *
  generalize newB (addV (upA x y) (upC x y)) (topE x y) = u at *
  generalize addV (upA x y) (upC x y) = s at *
  generalize addB (upA x y) (upC x y) = t3 at *
  generalize upA x y = a at *
  generalize upC x y = c at *
  generalize upAB x y = t1 at *
  generalize upCB x y = t2 at *
  have Hr0_0 := Lib.hid (alloc_blk (.cells #[.int .i64 0, .int .i64 0, .int .i64 0, .int .i64 0, .int .i64 0] 70) (alloc_blk (.cells #[.int .i64 y.n.a, .int .i64 y.n.b, .int .i64 y.n.c, .int .i64 y.n.d, .int .i64 y.e] 70) (heap_alloc_new w (.cells #[.int .i64 x.n.a, .int .i64 x.n.b, .int .i64 x.n.c, .int .i64 x.n.d, .int .i64 x.e] 70))))
  have Hr0_1 := Lib.hid (alloc_blk (.cells #[.int .i64 0, .int .i64 0, .int .i64 0, .int .i64 0, .int .i64 0] 70) (show ((w.alloc (.cells #[.int .i64 x.n.a, .int .i64 x.n.b, .int .i64 x.n.c, .int .i64 x.n.d, .int .i64 x.e] 70)).alloc (.cells #[.int .i64 y.n.a, .int .i64 y.n.b, .int .i64 y.n.c, .int .i64 y.n.d, .int .i64 y.e] 70)).heap[w.heap.size + 1]? = some (.cells #[.int .i64 y.n.a, .int .i64 y.n.b, .int .i64 y.n.c, .int .i64 y.n.d, .int .i64 y.e] 70 (0, 0)) from by simpa using heap_alloc_new (w.alloc (.cells #[.int .i64 x.n.a, .int .i64 x.n.b, .int .i64 x.n.c, .int .i64 x.n.d, .int .i64 x.e] 70)) (.cells #[.int .i64 y.n.a, .int .i64 y.n.b, .int .i64 y.n.c, .int .i64 y.n.d, .int .i64 y.e] 70)))
  have Hr0_2 := Lib.hid (show (((w.alloc (.cells #[.int .i64 x.n.a, .int .i64 x.n.b, .int .i64 x.n.c, .int .i64 x.n.d, .int .i64 x.e] 70)).alloc (.cells #[.int .i64 y.n.a, .int .i64 y.n.b, .int .i64 y.n.c, .int .i64 y.n.d, .int .i64 y.e] 70)).alloc (.cells #[.int .i64 0, .int .i64 0, .int .i64 0, .int .i64 0, .int .i64 0] 70)).heap[w.heap.size + 2]? = some (.cells #[.int .i64 0, .int .i64 0, .int .i64 0, .int .i64 0, .int .i64 0] 70 (0, 0)) from by simpa using heap_alloc_new ((w.alloc (.cells #[.int .i64 x.n.a, .int .i64 x.n.b, .int .i64 x.n.c, .int .i64 x.n.d, .int .i64 x.e] 70)).alloc (.cells #[.int .i64 y.n.a, .int .i64 y.n.b, .int .i64 y.n.c, .int .i64 y.n.d, .int .i64 y.e] 70)) (.cells #[.int .i64 0, .int .i64 0, .int .i64 0, .int .i64 0, .int .i64 0] 70))
  go_enter Tryz.func74, Tryz.ntmps74
  go_wp2_with fail
  refine (Hx.out _).mono ?_
  rintro e w1 ⟨rfl, hb1⟩
  have hr0 := below_blk hb1 (lt_of_block Hr0_0.out) Hr0_0.out
  have zg0 := lt_of_block hr0
  obtain ⟨c0_0, c0_1, c0_2, c0_3, c0_4⟩ := blk_cells5 hr0
  have Hr1_0 := Lib.hid hr0
  have hr1 := below_blk hb1 (lt_of_block Hr0_1.out) Hr0_1.out
  have zg1 := lt_of_block hr1
  obtain ⟨c1_0, c1_1, c1_2, c1_3, c1_4⟩ := blk_cells5 hr1
  have Hr1_1 := Lib.hid hr1
  have hr2 := below_blk hb1 (lt_of_block Hr0_2.out) Hr0_2.out
  have zg2 := lt_of_block hr2
  obtain ⟨c2_0, c2_1, c2_2, c2_3, c2_4⟩ := blk_cells5 hr2
  have f2 := fun o => free_at hr2 o
  have Hq1_2 := Lib.hid hr2
  have Hr1_2 := Lib.hid hr2
  have hb1 := below_up (B := w.heap.size) (w := w) (by go_grown) hb1 (by simp <;> omega)
  have Hp1 := Lib.hid hb1
  have Hb1 := Lib.hid hb1
  clear hr0 hr1 hr2
  clear hb1
  go_wp2_with fail
  refine (Hy.out _).mono ?_
  rintro e w2 ⟨rfl, hb2⟩
  clear zg0 c0_0 c0_1 c0_2 c0_3 c0_4 zg1 c1_0 c1_1 c1_2 c1_3 c1_4 zg2 c2_0 c2_1 c2_2 c2_3 c2_4 f2
  have hr0 := below_blk hb2 (lt_of_block Hr1_0.out) Hr1_0.out
  have zg0 := lt_of_block hr0
  obtain ⟨c0_0, c0_1, c0_2, c0_3, c0_4⟩ := blk_cells5 hr0
  have Hr2_0 := Lib.hid hr0
  have hr1 := below_blk hb2 (lt_of_block Hr1_1.out) Hr1_1.out
  have zg1 := lt_of_block hr1
  obtain ⟨c1_0, c1_1, c1_2, c1_3, c1_4⟩ := blk_cells5 hr1
  have Hr2_1 := Lib.hid hr1
  have hr2 := below_blk hb2 (lt_of_block Hr1_2.out) Hr1_2.out
  have zg2 := lt_of_block hr2
  obtain ⟨c2_0, c2_1, c2_2, c2_3, c2_4⟩ := blk_cells5 hr2
  have f2 := fun o => free_at hr2 o
  have Hq2_2 := Lib.hid hr2
  have Hr2_2 := Lib.hid hr2
  have hb2 := below_nx Hb1.out hb2
  have Hp2 := Lib.hid hb2
  have Hb2 := Lib.hid hb2
  clear hr0 hr1 hr2
  clear hb2
  go_wp2_with fail
  refine (Hm.out _).mono ?_
  rintro e wx ⟨rfl, rfl⟩
  clear Hm
  generalize topE x y = k at *
  go_wp2_with fail
  refine (Hu.out _).mono ?_
  rintro e w3 ⟨rfl, hb3⟩
  clear zg0 c0_0 c0_1 c0_2 c0_3 c0_4 zg1 c1_0 c1_1 c1_2 c1_3 c1_4 zg2 c2_0 c2_1 c2_2 c2_3 c2_4 f2
  have hr0 := below_blk hb3 (lt_of_block Hr2_0.out) Hr2_0.out
  have zg0 := lt_of_block hr0
  obtain ⟨c0_0, c0_1, c0_2, c0_3, c0_4⟩ := blk_cells5 hr0
  have Hr3_0 := Lib.hid (alloc_blk (.cells #[.int .i64 a.a, .int .i64 a.b, .int .i64 a.c, .int .i64 a.d] 68) hr0)
  have hr1 := below_blk hb3 (lt_of_block Hr2_1.out) Hr2_1.out
  have zg1 := lt_of_block hr1
  obtain ⟨c1_0, c1_1, c1_2, c1_3, c1_4⟩ := blk_cells5 hr1
  have Hr3_1 := Lib.hid (alloc_blk (.cells #[.int .i64 a.a, .int .i64 a.b, .int .i64 a.c, .int .i64 a.d] 68) hr1)
  have hr2 := below_blk hb3 (lt_of_block Hr2_2.out) Hr2_2.out
  have zg2 := lt_of_block hr2
  obtain ⟨c2_0, c2_1, c2_2, c2_3, c2_4⟩ := blk_cells5 hr2
  have f2 := fun o => free_at hr2 o
  have Hq3_2 := Lib.hid hr2
  have Hr3_2 := Lib.hid (alloc_blk (.cells #[.int .i64 a.a, .int .i64 a.b, .int .i64 a.c, .int .i64 a.d] 68) hr2)
  have hb3 := below_nx Hb2.out hb3
  have Hp3 := Lib.hid hb3
  have Hb3 := Lib.hid (Below.alloc hb3 (Below.size hb3) (.cells #[.int .i64 a.a, .int .i64 a.b, .int .i64 a.c, .int .i64 a.d] 68))
  have Hr3_3 := Lib.hid (heap_alloc_new w3 (.cells #[.int .i64 a.a, .int .i64 a.b, .int .i64 a.c, .int .i64 a.d] 68))
  clear hr0 hr1 hr2
  clear hb3
  go_wp2_with fail
  refine (Hv.out _).mono ?_
  rintro e w4 ⟨rfl, hb4⟩
  clear zg0 c0_0 c0_1 c0_2 c0_3 c0_4 zg1 c1_0 c1_1 c1_2 c1_3 c1_4 zg2 c2_0 c2_1 c2_2 c2_3 c2_4 f2
  have hr0 := below_blk hb4 (lt_of_block Hr3_0.out) Hr3_0.out
  have zg0 := lt_of_block hr0
  obtain ⟨c0_0, c0_1, c0_2, c0_3, c0_4⟩ := blk_cells5 hr0
  have Hr4_0 := Lib.hid (alloc_blk (.cells #[.int .i64 c.a, .int .i64 c.b, .int .i64 c.c, .int .i64 c.d] 68) hr0)
  have hr1 := below_blk hb4 (lt_of_block Hr3_1.out) Hr3_1.out
  have zg1 := lt_of_block hr1
  obtain ⟨c1_0, c1_1, c1_2, c1_3, c1_4⟩ := blk_cells5 hr1
  have Hr4_1 := Lib.hid (alloc_blk (.cells #[.int .i64 c.a, .int .i64 c.b, .int .i64 c.c, .int .i64 c.d] 68) hr1)
  have hr2 := below_blk hb4 (lt_of_block Hr3_2.out) Hr3_2.out
  have zg2 := lt_of_block hr2
  obtain ⟨c2_0, c2_1, c2_2, c2_3, c2_4⟩ := blk_cells5 hr2
  have f2 := fun o => free_at hr2 o
  have Hq4_2 := Lib.hid hr2
  have Hr4_2 := Lib.hid (alloc_blk (.cells #[.int .i64 c.a, .int .i64 c.b, .int .i64 c.c, .int .i64 c.d] 68) hr2)
  have hr3 := below_blk hb4 (lt_of_block Hr3_3.out) Hr3_3.out
  have zg3 := lt_of_block hr3
  obtain ⟨c3_0, c3_1, c3_2, c3_3⟩ := blk_cells hr3
  have Hr4_3 := Lib.hid (alloc_blk (.cells #[.int .i64 c.a, .int .i64 c.b, .int .i64 c.c, .int .i64 c.d] 68) hr3)
  have hb4 := below_nx Hb3.out hb4
  have Hp4 := Lib.hid hb4
  have Hb4 := Lib.hid (Below.alloc hb4 (Below.size hb4) (.cells #[.int .i64 c.a, .int .i64 c.b, .int .i64 c.c, .int .i64 c.d] 68))
  have Hr4_4 := Lib.hid (heap_alloc_new w4 (.cells #[.int .i64 c.a, .int .i64 c.b, .int .i64 c.c, .int .i64 c.d] 68))
  clear hr0 hr1 hr2 hr3
  clear hb4
  go_wp2_with fail
  refine (Ha.out _).mono ?_
  rintro e w5 ⟨rfl, hb5⟩
  clear zg0 c0_0 c0_1 c0_2 c0_3 c0_4 zg1 c1_0 c1_1 c1_2 c1_3 c1_4 zg2 c2_0 c2_1 c2_2 c2_3 c2_4 f2 zg3 c3_0 c3_1 c3_2 c3_3
  have hr0 := below_blk hb5 (lt_of_block Hr4_0.out) Hr4_0.out
  have zg0 := lt_of_block hr0
  obtain ⟨c0_0, c0_1, c0_2, c0_3, c0_4⟩ := blk_cells5 hr0
  have Hr5_0 := Lib.hid (alloc_blk (.cells #[.int .i64 s.a, .int .i64 s.b, .int .i64 s.c, .int .i64 s.d] 68) hr0)
  have hr1 := below_blk hb5 (lt_of_block Hr4_1.out) Hr4_1.out
  have zg1 := lt_of_block hr1
  obtain ⟨c1_0, c1_1, c1_2, c1_3, c1_4⟩ := blk_cells5 hr1
  have Hr5_1 := Lib.hid (alloc_blk (.cells #[.int .i64 s.a, .int .i64 s.b, .int .i64 s.c, .int .i64 s.d] 68) hr1)
  have hr2 := below_blk hb5 (lt_of_block Hr4_2.out) Hr4_2.out
  have zg2 := lt_of_block hr2
  obtain ⟨c2_0, c2_1, c2_2, c2_3, c2_4⟩ := blk_cells5 hr2
  have f2 := fun o => free_at hr2 o
  have Hq5_2 := Lib.hid hr2
  have Hr5_2 := Lib.hid (alloc_blk (.cells #[.int .i64 s.a, .int .i64 s.b, .int .i64 s.c, .int .i64 s.d] 68) hr2)
  have hr3 := below_blk hb5 (lt_of_block Hr4_3.out) Hr4_3.out
  have zg3 := lt_of_block hr3
  obtain ⟨c3_0, c3_1, c3_2, c3_3⟩ := blk_cells hr3
  have Hr5_3 := Lib.hid (alloc_blk (.cells #[.int .i64 s.a, .int .i64 s.b, .int .i64 s.c, .int .i64 s.d] 68) hr3)
  have hr4 := below_blk hb5 (lt_of_block Hr4_4.out) Hr4_4.out
  have zg4 := lt_of_block hr4
  obtain ⟨c4_0, c4_1, c4_2, c4_3⟩ := blk_cells hr4
  have Hr5_4 := Lib.hid (alloc_blk (.cells #[.int .i64 s.a, .int .i64 s.b, .int .i64 s.c, .int .i64 s.d] 68) hr4)
  have hb5 := below_nx Hb4.out hb5
  have Hp5 := Lib.hid hb5
  have Hb5 := Lib.hid (Below.alloc hb5 (Below.size hb5) (.cells #[.int .i64 s.a, .int .i64 s.b, .int .i64 s.c, .int .i64 s.d] 68))
  have Hr5_5 := Lib.hid (heap_alloc_new w5 (.cells #[.int .i64 s.a, .int .i64 s.b, .int .i64 s.c, .int .i64 s.d] 68))
  clear hr0 hr1 hr2 hr3 hr4
  clear hb5
  cases t1
  · obtain ⟨rfl, rfl⟩ := Hf.out (by simp)
    go_wp2_with fail
    obtain ⟨k0, k1, k2, k3, k4⟩ := blk_cells5 (alloc_blk (.cells #[.int .i64 s.a, .int .i64 s.b, .int .i64 s.c, .int .i64 s.d] 68) (set5_at (u0 := .int .i64 0) (u1 := .int .i64 0) (u2 := .int .i64 0) (u3 := .int .i64 0) (u4 := .int .i64 0) Hq5_2.out))
    refine bodyPost_ret (v := .tuple #[(.agg #[.int .i64 Dw.zero.n.a, .int .i64 Dw.zero.n.b, .int .i64 Dw.zero.n.c, .int .i64 Dw.zero.n.d, .int .i64 Dw.zero.e]), .bool false]) (by simp only [results, Tryz.results74]; simp [go_sem, k0, k1, k2, k3, k4, Dw.zero, Zw.zero]) rfl ⟨rfl, ?_⟩
    have := Hp5.out
    go_grown
  · cases t2
    · obtain ⟨rfl, rfl⟩ := Hf.out (by simp)
      go_wp2_with fail
      obtain ⟨k0, k1, k2, k3, k4⟩ := blk_cells5 (alloc_blk (.cells #[.int .i64 s.a, .int .i64 s.b, .int .i64 s.c, .int .i64 s.d] 68) (set5_at (u0 := .int .i64 0) (u1 := .int .i64 0) (u2 := .int .i64 0) (u3 := .int .i64 0) (u4 := .int .i64 0) Hq5_2.out))
      refine bodyPost_ret (v := .tuple #[(.agg #[.int .i64 Dw.zero.n.a, .int .i64 Dw.zero.n.b, .int .i64 Dw.zero.n.c, .int .i64 Dw.zero.n.d, .int .i64 Dw.zero.e]), .bool false]) (by simp only [results, Tryz.results74]; simp [go_sem, k0, k1, k2, k3, k4, Dw.zero, Zw.zero]) rfl ⟨rfl, ?_⟩
      have := Hp5.out
      go_grown
    · cases t3
      · obtain ⟨rfl, rfl⟩ := Hf.out (by simp)
        go_wp2_with fail
        obtain ⟨k0, k1, k2, k3, k4⟩ := blk_cells5 (alloc_blk (.cells #[.int .i64 s.a, .int .i64 s.b, .int .i64 s.c, .int .i64 s.d] 68) (set5_at (u0 := .int .i64 0) (u1 := .int .i64 0) (u2 := .int .i64 0) (u3 := .int .i64 0) (u4 := .int .i64 0) Hq5_2.out))
        refine bodyPost_ret (v := .tuple #[(.agg #[.int .i64 Dw.zero.n.a, .int .i64 Dw.zero.n.b, .int .i64 Dw.zero.n.c, .int .i64 Dw.zero.n.d, .int .i64 Dw.zero.e]), .bool false]) (by simp only [results, Tryz.results74]; simp [go_sem, k0, k1, k2, k3, k4, Dw.zero, Zw.zero]) rfl ⟨rfl, ?_⟩
        have := Hp5.out
        go_grown
      · obtain ⟨rfl, rfl⟩ := Ht.out (by trivial) (by trivial) (by trivial)
        go_wp2_with fail
        refine (Hn.out _).mono ?_
        rintro e w6 ⟨rfl, hb6⟩
        clear zg0 c0_0 c0_1 c0_2 c0_3 c0_4 zg1 c1_0 c1_1 c1_2 c1_3 c1_4 zg2 c2_0 c2_1 c2_2 c2_3 c2_4 f2 zg3 c3_0 c3_1 c3_2 c3_3 zg4 c4_0 c4_1 c4_2 c4_3
        have hr0 := below_blk hb6 (lt_of_block Hr5_0.out) Hr5_0.out
        have zg0 := lt_of_block hr0
        obtain ⟨c0_0, c0_1, c0_2, c0_3, c0_4⟩ := blk_cells5 hr0
        have Hr6_0 := Lib.hid hr0
        have hr1 := below_blk hb6 (lt_of_block Hr5_1.out) Hr5_1.out
        have zg1 := lt_of_block hr1
        obtain ⟨c1_0, c1_1, c1_2, c1_3, c1_4⟩ := blk_cells5 hr1
        have Hr6_1 := Lib.hid hr1
        have hr2 := below_blk hb6 (lt_of_block Hr5_2.out) Hr5_2.out
        have zg2 := lt_of_block hr2
        obtain ⟨c2_0, c2_1, c2_2, c2_3, c2_4⟩ := blk_cells5 hr2
        have f2 := fun o => free_at hr2 o
        have Hq6_2 := Lib.hid hr2
        have Hr6_2 := Lib.hid hr2
        have hr3 := below_blk hb6 (lt_of_block Hr5_3.out) Hr5_3.out
        have zg3 := lt_of_block hr3
        obtain ⟨c3_0, c3_1, c3_2, c3_3⟩ := blk_cells hr3
        have Hr6_3 := Lib.hid hr3
        have hr4 := below_blk hb6 (lt_of_block Hr5_4.out) Hr5_4.out
        have zg4 := lt_of_block hr4
        obtain ⟨c4_0, c4_1, c4_2, c4_3⟩ := blk_cells hr4
        have Hr6_4 := Lib.hid hr4
        have hr5 := below_blk hb6 (lt_of_block Hr5_5.out) Hr5_5.out
        have zg5 := lt_of_block hr5
        obtain ⟨c5_0, c5_1, c5_2, c5_3⟩ := blk_cells hr5
        have Hr6_5 := Lib.hid hr5
        have hb6 := below_nx Hb5.out hb6
        have Hp6 := Lib.hid hb6
        have Hb6 := Lib.hid hb6
        clear hr0 hr1 hr2 hr3 hr4 hr5
        clear hb6
        go_wp2_with fail
        obtain ⟨k0, k1, k2, k3, k4⟩ := blk_cells5 (set5_at (u0 := .int .i64 R.n.a) (u1 := .int .i64 R.n.b) (u2 := .int .i64 R.n.c) (u3 := .int .i64 R.n.d) (u4 := .int .i64 R.e) Hq6_2.out)
        refine bodyPost_ret (v := .tuple #[(.agg #[.int .i64 R.n.a, .int .i64 R.n.b, .int .i64 R.n.c, .int .i64 R.n.d, .int .i64 R.e]), .bool T]) (by simp only [results, Tryz.results74]; simp [go_sem, k0, k1, k2, k3, k4]) rfl ⟨rfl, ?_⟩
        have := Hp6.out
        go_grown
theorem saddD_any (x y : Dw) (w : World) (h0 : -9223372036854775808 ≤ x.e) (h1 : x.e ≤ 9223372036854775807) (g0 : -9223372036854775808 ≤ y.e) (g1 : y.e ≤ 9223372036854775807) :
    Calls Tryz.prog 74 #[(.agg #[.int .i64 x.n.a, .int .i64 x.n.b, .int .i64 x.n.c, .int .i64 x.n.d, .int .i64 x.e]), (.agg #[.int .i64 y.n.a, .int .i64 y.n.b, .int .i64 y.n.c, .int .i64 y.n.d, .int .i64 y.e])] w fun e w' => e = .returned (.tuple #[(.agg #[.int .i64 (dAddV x y).n.a, .int .i64 (dAddV x y).n.b, .int .i64 (dAddV x y).n.c, .int .i64 (dAddV x y).n.d, .int .i64 (dAddV x y).e]), .bool (dAddB x y)]) ∧ Below w.heap.size w w' := by
  by_cases hx : x.ok
  · by_cases hy : y.ok
    · exact saddD_ok x y w h0 h1 g0 g1 hx hy
    · rw [(dAdd_false (fun k => hy k.2.1)).1, (dAdd_false (fun k => hy k.2.1)).2]
      exact saddD_bad2 x y w h0 h1 g0 g1 (okD_true.2 hx) (okD_false.2 hy)
  · rw [(dAdd_false (fun k => hx k.1)).1, (dAdd_false (fun k => hx k.1)).2]
    exact saddD_bad1 x y w h0 h1 g0 g1 (okD_false.2 hx)
end Go.Proofs.YtlmiebeffdcfhaaGreat
