/- The draws of the chapter's laws. -/
import Derived.Test.YtiemnhejonepfaaDwDraw
namespace Go.Proofs.Ytiemnhejonepfaa
open Go.RowKit
attribute [local irreducible] World.cell?
def D2Ret (e : Ending) : Prop := ∃ x y : Dw, e = .returned (.tuple #[(.agg #[.int .i64 x.n.a, .int .i64 x.n.b, .int .i64 x.n.c, .int .i64 x.n.d, .int .i64 x.e]), (.agg #[.int .i64 y.n.a, .int .i64 y.n.b, .int .i64 y.n.c, .int .i64 y.n.d, .int .i64 y.e])]) ∧ (-9223372036854775808 ≤ x.e ∧ x.e ≤ 9223372036854775807) ∧ -9223372036854775808 ≤ y.e ∧ y.e ≤ 9223372036854775807
theorem d2ret (x y : Dw) (h0 : -9223372036854775808 ≤ x.e) (h1 : x.e ≤ 9223372036854775807) (g0 : -9223372036854775808 ≤ y.e) (g1 : y.e ≤ 9223372036854775807) : D2Ret (.returned (.tuple #[(.agg #[.int .i64 x.n.a, .int .i64 x.n.b, .int .i64 x.n.c, .int .i64 x.n.d, .int .i64 x.e]), (.agg #[.int .i64 y.n.a, .int .i64 y.n.b, .int .i64 y.n.c, .int .i64 y.n.d, .int .i64 y.e])])) := ⟨x, y, rfl, ⟨h0, h1⟩, g0, g1⟩
def ZIRet (e : Ending) : Prop := ∃ (x : Zw) (k : Int), e = .returned (.tuple #[(.agg #[.int .i64 x.a, .int .i64 x.b, .int .i64 x.c, .int .i64 x.d]), .int .i64 k]) ∧ -1 ≤ k ∧ k ≤ 121
theorem ziret (x : Zw) (k : Int) (h0 : -1 ≤ k) (h1 : k ≤ 121) : ZIRet (.returned (.tuple #[(.agg #[.int .i64 x.a, .int .i64 x.b, .int .i64 x.c, .int .i64 x.d]), .int .i64 k])) := ⟨x, k, rfl, h0, h1⟩
set_option maxRecDepth 100000 in
set_option maxHeartbeats 1600000 in
theorem drawAddD_any (a0 : Option Addr) (len cap : Nat) (w : World) (hcode : CodeAt w w.heap.size a0 len) :
    Calls Try.prog 21 #[.slice a0 len cap] w fun e w' => D2Ret e ∧ Below w.heap.size w w' := by
  have Hr0_0 := Lib.hid (alloc_blk (.cells #[.int .i64 0, .int .i64 0, .int .i64 0, .int .i64 0, .int .i64 0] 29) (heap_alloc_new w (.cells #[.int .i64 0, .int .i64 0, .int .i64 0, .int .i64 0, .int .i64 0] 29)))
  have Hr0_1 := Lib.hid (show ((w.alloc (.cells #[.int .i64 0, .int .i64 0, .int .i64 0, .int .i64 0, .int .i64 0] 29)).alloc (.cells #[.int .i64 0, .int .i64 0, .int .i64 0, .int .i64 0, .int .i64 0] 29)).heap[w.heap.size + 1]? = some (.cells #[.int .i64 0, .int .i64 0, .int .i64 0, .int .i64 0, .int .i64 0] 29 (0, 0)) from by simpa using heap_alloc_new (w.alloc (.cells #[.int .i64 0, .int .i64 0, .int .i64 0, .int .i64 0, .int .i64 0] 29)) (.cells #[.int .i64 0, .int .i64 0, .int .i64 0, .int .i64 0, .int .i64 0] 29))
  have hb0 : Below w.heap.size w ((w.alloc (.cells #[.int .i64 0, .int .i64 0, .int .i64 0, .int .i64 0, .int .i64 0] 29)).alloc (.cells #[.int .i64 0, .int .i64 0, .int .i64 0, .int .i64 0, .int .i64 0] 29)) := by go_grown
  have Hb0 := Lib.hid hb0
  have Hcode := Lib.hid ((hcode.below hb0).mono hb0.size)
  clear hcode hb0
  have hn0 : w.heap.size ≠ (w.heap.size + 2) := by omega
  have hn1 : w.heap.size + 1 ≠ (w.heap.size + 2) := by omega
  go_enter Try.func21, Try.ntmps21
  go_wp2_with fail
  refine (new_any a0 len cap _ Hcode.out).mono ?_
  rintro e w1 ⟨rfl, hc1, hb1, hB1⟩
  have hsz : ((w.alloc (.cells #[.int .i64 0, .int .i64 0, .int .i64 0, .int .i64 0, .int .i64 0] 29)).alloc (.cells #[.int .i64 0, .int .i64 0, .int .i64 0, .int .i64 0, .int .i64 0] 29)).heap.size = w.heap.size + 2 := by simp
  rw [hsz] at hc1 hB1
  clear hsz
  have hr0 := below_blk hb1 (lt_of_block Hr0_0.out) Hr0_0.out
  have zg0 := lt_of_block hr0
  obtain ⟨c0_0, c0_1, c0_2, c0_3, c0_4⟩ := blk_cells5 hr0
  have f0 := fun o => free_at hr0 o
  have Hq1_0 := Lib.hid hr0
  have Hr1_0 := Lib.hid hr0
  have hr1 := below_blk hb1 (lt_of_block Hr0_1.out) Hr0_1.out
  have zg1 := lt_of_block hr1
  obtain ⟨c1_0, c1_1, c1_2, c1_3, c1_4⟩ := blk_cells5 hr1
  have f1 := fun o => free_at hr1 o
  have Hq1_1 := Lib.hid hr1
  have Hr1_1 := Lib.hid hr1
  have hBq1 : (w.heap.size + 2) < w1.heap.size := by simpa using hB1
  clear hB1
  have hbb1 := below_nx Hb0.out hb1
  have Hp1 := Lib.hid hbb1
  have Hx1 := Lib.hid hc1
  have Hb1 := Lib.hid hbb1
  have Hc1 := Lib.hid hc1
  have hB1 := hBq1
  clear hr0 hr1
  clear hb1 hbb1 hc1
  go_wp2_with fail
  refine (bent_any _ _ Hc1.out hB1).mono ?_
  rintro e w2 ⟨⟨x, rfl, x0, x1⟩, hc2, ho2⟩
  clear zg0 f0 c0_0 c0_1 c0_2 c0_3 c0_4 zg1 f1 c1_0 c1_1 c1_2 c1_3 c1_4
  have hr0 := own_blk ho2 hn0 Hr1_0.out
  have zg0 := lt_of_block hr0
  obtain ⟨c0_0, c0_1, c0_2, c0_3, c0_4⟩ := blk_cells5 hr0
  have f0 := fun o => free_at hr0 o
  have Hq2_0 := Lib.hid hr0
  have Hr2_0 := Lib.hid hr0
  have hr1 := own_blk ho2 hn1 Hr1_1.out
  have zg1 := lt_of_block hr1
  obtain ⟨c1_0, c1_1, c1_2, c1_3, c1_4⟩ := blk_cells5 hr1
  have f1 := fun o => free_at hr1 o
  have Hq2_1 := Lib.hid hr1
  have Hr2_1 := Lib.hid hr1
  have hBq2 := Nat.lt_of_lt_of_le hB1 ho2.size
  have hbb2 := below_own Hb1.out ho2 (by omega) Hb1.out.size
  have Hp2 := Lib.hid hbb2
  have Hx2 := Lib.hid hc2
  have Hb2 := Lib.hid hbb2
  have Hc2 := Lib.hid hc2
  have hB2 := hBq2
  clear hr0 hr1
  clear ho2 hbb2 hc2
  go_wp2_with fail
  refine (bent_any _ _ Hc2.out hB2).mono ?_
  rintro e w3 ⟨⟨y, rfl, y0, y1⟩, hc3, ho3⟩
  clear zg0 f0 c0_0 c0_1 c0_2 c0_3 c0_4 zg1 f1 c1_0 c1_1 c1_2 c1_3 c1_4
  have hr0 := own_blk ho3 hn0 Hr2_0.out
  have zg0 := lt_of_block hr0
  obtain ⟨c0_0, c0_1, c0_2, c0_3, c0_4⟩ := blk_cells5 hr0
  have f0 := fun o => free_at hr0 o
  have Hq3_0 := Lib.hid hr0
  have Hr3_0 := Lib.hid hr0
  have hr1 := own_blk ho3 hn1 Hr2_1.out
  have zg1 := lt_of_block hr1
  obtain ⟨c1_0, c1_1, c1_2, c1_3, c1_4⟩ := blk_cells5 hr1
  have f1 := fun o => free_at hr1 o
  have Hq3_1 := Lib.hid hr1
  have Hr3_1 := Lib.hid hr1
  have hBq3 := Nat.lt_of_lt_of_le hB2 ho3.size
  have hbb3 := below_own Hb2.out ho3 (by omega) Hb2.out.size
  have Hp3 := Lib.hid hbb3
  have Hx3 := Lib.hid hc3
  have Hb3 := Lib.hid hbb3
  have Hc3 := Lib.hid hc3
  have hB3 := hBq3
  clear hr0 hr1
  clear ho3 hbb3 hc3
  go_wp2_with fail
  obtain ⟨k0, k1, k2, k3, k4⟩ := blk_cells5 (set5_blk (u0 := .int .i64 y.n.a) (u1 := .int .i64 y.n.b) (u2 := .int .i64 y.n.c) (u3 := .int .i64 y.n.d) (u4 := .int .i64 y.e) (g := w.heap.size + 1) (by omega) (set5_at (u0 := .int .i64 x.n.a) (u1 := .int .i64 x.n.b) (u2 := .int .i64 x.n.c) (u3 := .int .i64 x.n.d) (u4 := .int .i64 x.e) Hq3_0.out))
  obtain ⟨l0, l1, l2, l3, l4⟩ := blk_cells5 (set5_at (u0 := .int .i64 y.n.a) (u1 := .int .i64 y.n.b) (u2 := .int .i64 y.n.c) (u3 := .int .i64 y.n.d) (u4 := .int .i64 y.e) (set5_blk (u0 := .int .i64 x.n.a) (u1 := .int .i64 x.n.b) (u2 := .int .i64 x.n.c) (u3 := .int .i64 x.n.d) (u4 := .int .i64 x.e) (g := w.heap.size) (by omega) Hq3_1.out))
  refine bodyPost_ret (v := .tuple #[(.agg #[.int .i64 x.n.a, .int .i64 x.n.b, .int .i64 x.n.c, .int .i64 x.n.d, .int .i64 x.e]), (.agg #[.int .i64 y.n.a, .int .i64 y.n.b, .int .i64 y.n.c, .int .i64 y.n.d, .int .i64 y.e])]) (by simp only [results, Try.results21]; simp [go_sem, k0, k1, k2, k3, k4, l0, l1, l2, l3, l4]) rfl ⟨d2ret x y x0 x1 y0 y1, ?_⟩
  have := Hp3.out
  go_grown
set_option maxRecDepth 100000 in
set_option maxHeartbeats 1600000 in
theorem drawMulD_any (a0 : Option Addr) (len cap : Nat) (w : World) (hcode : CodeAt w w.heap.size a0 len) :
    Calls Try.prog 25 #[.slice a0 len cap] w fun e w' => D2Ret e ∧ Below w.heap.size w w' := by
  have Hr0_0 := Lib.hid (alloc_blk (.cells #[.int .i64 0, .int .i64 0, .int .i64 0, .int .i64 0, .int .i64 0] 29) (heap_alloc_new w (.cells #[.int .i64 0, .int .i64 0, .int .i64 0, .int .i64 0, .int .i64 0] 29)))
  have Hr0_1 := Lib.hid (show ((w.alloc (.cells #[.int .i64 0, .int .i64 0, .int .i64 0, .int .i64 0, .int .i64 0] 29)).alloc (.cells #[.int .i64 0, .int .i64 0, .int .i64 0, .int .i64 0, .int .i64 0] 29)).heap[w.heap.size + 1]? = some (.cells #[.int .i64 0, .int .i64 0, .int .i64 0, .int .i64 0, .int .i64 0] 29 (0, 0)) from by simpa using heap_alloc_new (w.alloc (.cells #[.int .i64 0, .int .i64 0, .int .i64 0, .int .i64 0, .int .i64 0] 29)) (.cells #[.int .i64 0, .int .i64 0, .int .i64 0, .int .i64 0, .int .i64 0] 29))
  have hb0 : Below w.heap.size w ((w.alloc (.cells #[.int .i64 0, .int .i64 0, .int .i64 0, .int .i64 0, .int .i64 0] 29)).alloc (.cells #[.int .i64 0, .int .i64 0, .int .i64 0, .int .i64 0, .int .i64 0] 29)) := by go_grown
  have Hb0 := Lib.hid hb0
  have Hcode := Lib.hid ((hcode.below hb0).mono hb0.size)
  clear hcode hb0
  have hn0 : w.heap.size ≠ (w.heap.size + 2) := by omega
  have hn1 : w.heap.size + 1 ≠ (w.heap.size + 2) := by omega
  go_enter Try.func25, Try.ntmps25
  go_wp2_with fail
  refine (drawAddD_any a0 len cap _ Hcode.out).mono ?_
  rintro e w1 ⟨⟨x, y, rfl, ⟨x0, x1⟩, y0, y1⟩, hb1⟩
  have hr0 := below_blk hb1 (lt_of_block Hr0_0.out) Hr0_0.out
  have zg0 := lt_of_block hr0
  obtain ⟨c0_0, c0_1, c0_2, c0_3, c0_4⟩ := blk_cells5 hr0
  have f0 := fun o => free_at hr0 o
  have Hq1_0 := Lib.hid hr0
  have Hr1_0 := Lib.hid hr0
  have hr1 := below_blk hb1 (lt_of_block Hr0_1.out) Hr0_1.out
  have zg1 := lt_of_block hr1
  obtain ⟨c1_0, c1_1, c1_2, c1_3, c1_4⟩ := blk_cells5 hr1
  have f1 := fun o => free_at hr1 o
  have Hq1_1 := Lib.hid hr1
  have Hr1_1 := Lib.hid hr1
  have Hp1 := Lib.hid (below_nx Hb0.out hb1)
  clear hb1 hr0 hr1
  go_wp2_with fail
  obtain ⟨k0, k1, k2, k3, k4⟩ := blk_cells5 (set5_blk (u0 := .int .i64 y.n.a) (u1 := .int .i64 y.n.b) (u2 := .int .i64 y.n.c) (u3 := .int .i64 y.n.d) (u4 := .int .i64 y.e) (g := w.heap.size + 1) (by omega) (set5_at (u0 := .int .i64 x.n.a) (u1 := .int .i64 x.n.b) (u2 := .int .i64 x.n.c) (u3 := .int .i64 x.n.d) (u4 := .int .i64 x.e) Hq1_0.out))
  obtain ⟨l0, l1, l2, l3, l4⟩ := blk_cells5 (set5_at (u0 := .int .i64 y.n.a) (u1 := .int .i64 y.n.b) (u2 := .int .i64 y.n.c) (u3 := .int .i64 y.n.d) (u4 := .int .i64 y.e) (set5_blk (u0 := .int .i64 x.n.a) (u1 := .int .i64 x.n.b) (u2 := .int .i64 x.n.c) (u3 := .int .i64 x.n.d) (u4 := .int .i64 x.e) (g := w.heap.size) (by omega) Hq1_1.out))
  refine bodyPost_ret (v := .tuple #[(.agg #[.int .i64 x.n.a, .int .i64 x.n.b, .int .i64 x.n.c, .int .i64 x.n.d, .int .i64 x.e]), (.agg #[.int .i64 y.n.a, .int .i64 y.n.b, .int .i64 y.n.c, .int .i64 y.n.d, .int .i64 y.e])]) (by simp only [results, Try.results25]; simp [go_sem, k0, k1, k2, k3, k4, l0, l1, l2, l3, l4]) rfl ⟨d2ret x y x0 x1 y0 y1, ?_⟩
  have := Hp1.out
  go_grown
end Go.Proofs.Ytiemnhejonepfaa
