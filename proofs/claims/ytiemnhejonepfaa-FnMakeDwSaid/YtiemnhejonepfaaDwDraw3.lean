/- The draw of NewDOmega's arguments. -/
import Derived.Test.YtiemnhejonepfaaDwDraw2
import Derived.Test.YtiemnhejonepfaaDwA
namespace Go.Proofs.Ytiemnhejonepfaa
open Go.RowKit
theorem below_far4 {B g : Nat} {w W : World} {u0 u1 u2 u3 : Value} (h : Below B w W) (hg : B ≤ g) : Below B w ((((W.setCell ⟨g, 0, none⟩ u0).setCell ⟨g, 1, none⟩ u1).setCell ⟨g, 2, none⟩ u2).setCell ⟨g, 3, none⟩ u3) :=
  (((h.setCell (p := ⟨g, 0, none⟩) hg _).setCell (p := ⟨g, 1, none⟩) hg _).setCell (p := ⟨g, 2, none⟩) hg _).setCell (p := ⟨g, 3, none⟩) hg _
attribute [local irreducible] World.cell?
set_option maxRecDepth 100000 in
set_option maxHeartbeats 3200000 in
theorem drawNewD_any (a0 : Option Addr) (len cap : Nat) (w : World) (hcode : CodeAt w w.heap.size a0 len) :
    Calls Try.prog 15 #[.slice a0 len cap] w fun e w' => ZIRet e ∧ Below w.heap.size w w' := by
  have Hr0_0 := Lib.hid (heap_alloc_new w (.cells #[.int .i64 0, .int .i64 0, .int .i64 0, .int .i64 0] 25))
  have hb0 : Below w.heap.size w (w.alloc (.cells #[.int .i64 0, .int .i64 0, .int .i64 0, .int .i64 0] 25)) := by go_grown
  have Hb0 := Lib.hid hb0
  have Hcode := Lib.hid ((hcode.below hb0).mono hb0.size)
  clear hcode hb0
  have hn0 : w.heap.size ≠ (w.heap.size + 1) := by omega
  go_enter Try.func15, Try.ntmps15
  go_wp2_with fail
  refine (new_any a0 len cap _ Hcode.out).mono ?_
  rintro e w1 ⟨rfl, hc1, hb1, hB1⟩
  have hsz : (w.alloc (.cells #[.int .i64 0, .int .i64 0, .int .i64 0, .int .i64 0] 25)).heap.size = w.heap.size + 1 := by simp
  rw [hsz] at hc1 hB1
  clear hsz
  have hr0 := below_blk hb1 (lt_of_block Hr0_0.out) Hr0_0.out
  have zg0 := lt_of_block hr0
  obtain ⟨c0_0, c0_1, c0_2, c0_3⟩ := blk_cells hr0
  have f0 := fun o => free_at hr0 o
  have Hq1_0 := Lib.hid hr0
  have Hr1_0 := Lib.hid hr0
  have hBq1 : (w.heap.size + 1) < w1.heap.size := by simpa using hB1
  clear hB1
  have hbb1 := below_nx Hb0.out hb1
  have Hp1 := Lib.hid hbb1
  have Hx1 := Lib.hid hc1
  have Hb1 := Lib.hid hbb1
  have Hc1 := Lib.hid hc1
  have hB1 := hBq1
  clear hr0
  clear hb1 hbb1 hc1
  go_wp2_with fail
  refine (zw_any _ _ Hc1.out hB1).mono ?_
  rintro e w2 ⟨⟨n, rfl⟩, hc2, ho2⟩
  clear zg0 f0 c0_0 c0_1 c0_2 c0_3
  have hr0 := own_blk ho2 hn0 Hr1_0.out
  have zg0 := lt_of_block hr0
  obtain ⟨c0_0, c0_1, c0_2, c0_3⟩ := blk_cells hr0
  have f0 := fun o => free_at hr0 o
  have Hq2_0 := Lib.hid hr0
  have Hr2_0 := Lib.hid (alloc_blk (.cells #[.int .i64 n.a, .int .i64 n.b, .int .i64 n.c, .int .i64 n.d] 25) hr0)
  have hBq2 := Nat.lt_of_lt_of_le hB1 ho2.size
  have hbb2 := below_own Hb1.out ho2 (by omega) Hb1.out.size
  have Hp2 := Lib.hid hbb2
  have Hx2 := Lib.hid hc2
  have Hb2 := Lib.hid (Below.alloc hbb2 (Below.size hbb2) (.cells #[.int .i64 n.a, .int .i64 n.b, .int .i64 n.c, .int .i64 n.d] 25))
  have Hc2 := Lib.hid (hc2.own (own_alloc (own_refl w2.heap.size w2) (.cells #[.int .i64 n.a, .int .i64 n.b, .int .i64 n.c, .int .i64 n.d] 25)) hBq2)
  have hB2 : (w.heap.size + 1) < (w2.alloc (.cells #[.int .i64 n.a, .int .i64 n.b, .int .i64 n.c, .int .i64 n.d] 25)).heap.size := by simp; omega
  have Hr2_1 := Lib.hid (heap_alloc_new w2 (.cells #[.int .i64 n.a, .int .i64 n.b, .int .i64 n.c, .int .i64 n.d] 25))
  have hn1 : w2.heap.size ≠ (w.heap.size + 1) := by omega
  clear hr0
  clear ho2 hbb2 hc2
  go_wp2_with fail
  refine (once_any _ 2 _ Hc2.out (by omega) (by omega)).mono ?_
  rintro e w3 ⟨⟨b, rfl⟩, hc3, ho3⟩
  clear zg0 f0 c0_0 c0_1 c0_2 c0_3
  have hr0 := own_blk ho3 hn0 Hr2_0.out
  have zg0 := lt_of_block hr0
  obtain ⟨c0_0, c0_1, c0_2, c0_3⟩ := blk_cells hr0
  have f0 := fun o => free_at hr0 o
  have Hq3_0 := Lib.hid hr0
  have Hr3_0 := Lib.hid hr0
  have hr1 := own_blk ho3 hn1 Hr2_1.out
  have zg1 := lt_of_block hr1
  obtain ⟨c1_0, c1_1, c1_2, c1_3⟩ := blk_cells hr1
  have f1 := fun o => free_at hr1 o
  have Hq3_1 := Lib.hid hr1
  have Hr3_1 := Lib.hid hr1
  have hBq3 := Nat.lt_of_lt_of_le hB2 ho3.size
  have hbb3 := below_own Hb2.out ho3 (by omega) Hb2.out.size
  have Hp3 := Lib.hid hbb3
  have Hx3 := Lib.hid hc3
  have Hb3 := Lib.hid hbb3
  have Hc3 := Lib.hid hc3
  have hB3 := hBq3
  clear hr0 hr1
  clear ho3 hbb3 hc3
  cases b
  · have Hv0 := Lib.hid Hq3_0.out
    have Hv1 := Lib.hid Hq3_1.out
    have Hvc := Lib.hid Hx3.out
    have Hvb := Lib.hid Hp3.out
    have hvs := hB3
    go_upto_region 5 with fail
    generalize w3 = V at *
    clear zg0 f0 c0_0 c0_1 c0_2 c0_3 zg1 f1 c1_0 c1_1 c1_2 c1_3
    have y0 := lt_of_block Hv0.out
    have y1 := lt_of_block Hv1.out
    obtain ⟨d0, d1, d2, d3⟩ := blk_cells Hv1.out
    have hne : V.heap.size ≠ (w.heap.size + 1) := by omega
    have Hd := Lib.hid ((CurAt.drew Hvc.out).own (own_alloc (own_refl V.heap.size V.drew) (.cells #[.int .i64 0, .int .i64 1, .int .i64 2, .int .i64 3, .int .i64 8, .int .i64 60, .int .i64 61, .int .i64 64, .int .i64 120, .int .i64 121, .int .i64 (-1)] 3)) hvs)
    have Hl := Lib.hid (dlist3_at V.drew)
    have Hw0 := Lib.hid (alloc_blk (.cells #[.int .i64 0, .int .i64 1, .int .i64 2, .int .i64 3, .int .i64 8, .int .i64 60, .int .i64 61, .int .i64 64, .int .i64 120, .int .i64 121, .int .i64 (-1)] 3) (show V.drew.heap[w.heap.size]? = some (.cells #[.int .i64 0, .int .i64 0, .int .i64 0, .int .i64 0] 25 (0, 0)) from Hv0.out))
    have Hw1 := Lib.hid (alloc_blk (.cells #[.int .i64 0, .int .i64 1, .int .i64 2, .int .i64 3, .int .i64 8, .int .i64 60, .int .i64 61, .int .i64 64, .int .i64 120, .int .i64 121, .int .i64 (-1)] 3) (show V.drew.heap[w2.heap.size]? = some (.cells #[.int .i64 n.a, .int .i64 n.b, .int .i64 n.c, .int .i64 n.d] 25 (0, 0)) from Hv1.out))
    have Hwb := Lib.hid ((Hvb.out.drew).alloc Hvb.out.size (.cells #[.int .i64 0, .int .i64 1, .int .i64 2, .int .i64 3, .int .i64 8, .int .i64 60, .int .i64 61, .int .i64 64, .int .i64 120, .int .i64 121, .int .i64 (-1)] 3))
    go_region_with (first | (go_at_call 43; refine (pickB (w.heap.size + 1) V.heap.size 11 _ dlist3 _ Hd.out Hl.out hne (by omega) (by omega) rfl (-1) 121 (by decide)).mono ?_; rintro e wR ⟨⟨v, v0, v1, rfl⟩, hcR, hoR⟩; have hr0 := own_blk hoR hn0 Hw0.out; have hr1 := own_blk hoR hn1 Hw1.out; have Hr0 := Lib.hid hr0; have HbR := Lib.hid (below_own Hwb.out hoR (Nat.le_succ _) Hwb.out.size); obtain ⟨g0, g1, g2, g3⟩ := blk_cells hr0; have gf := fun o => free_at hr0 o; obtain ⟨i0, i1, i2, i3⟩ := blk_cells hr1; clear hcR hoR hr0 hr1))
    all_goals go_wp2_with fail
    all_goals
      obtain ⟨k0, k1, k2, k3⟩ := blk_cells (set4_at (u0 := .int .i64 n.a) (u1 := .int .i64 n.b) (u2 := .int .i64 n.c) (u3 := .int .i64 n.d) Hr0.out)
      refine bodyPost_ret (v := .tuple #[(.agg #[.int .i64 n.a, .int .i64 n.b, .int .i64 n.c, .int .i64 n.d]), .int .i64 v]) (by simp only [results, Try.results15]; simp [go_sem, k0, k1, k2, k3]) rfl ⟨ziret n v v0 v1, ?_⟩
      have := HbR.out
      go_grown
  · go_wp2_with fail
    refine (small_any _ _ Hc3.out hB3).mono ?_
    rintro e w4 ⟨⟨m, rfl⟩, hc4, ho4⟩
    clear zg0 f0 c0_0 c0_1 c0_2 c0_3 zg1 f1 c1_0 c1_1 c1_2 c1_3
    have hr0 := own_blk ho4 hn0 Hr3_0.out
    have zg0 := lt_of_block hr0
    obtain ⟨c0_0, c0_1, c0_2, c0_3⟩ := blk_cells hr0
    have f0 := fun o => free_at hr0 o
    have Hq4_0 := Lib.hid hr0
    have Hr4_0 := Lib.hid hr0
    have hr1 := own_blk ho4 hn1 Hr3_1.out
    have zg1 := lt_of_block hr1
    obtain ⟨c1_0, c1_1, c1_2, c1_3⟩ := blk_cells hr1
    have f1 := fun o => free_at hr1 o
    have Hq4_1 := Lib.hid hr1
    have Hr4_1 := Lib.hid hr1
    have hBq4 := Nat.lt_of_lt_of_le hB3 ho4.size
    have hbb4 := below_own Hb3.out ho4 (by omega) Hb3.out.size
    have Hp4 := Lib.hid hbb4
    have Hx4 := Lib.hid hc4
    have Hb4 := Lib.hid hbb4
    have Hc4 := Lib.hid hc4
    have hB4 := hBq4
    clear hr0 hr1
    clear ho4 hbb4 hc4
    go_wp2_with fail
    refine (below_any _ 8 _ Hc4.out (by omega) (by omega)).mono ?_
    rintro e w5 ⟨⟨k, k0, k1, rfl⟩, hc5, ho5⟩
    clear zg0 f0 c0_0 c0_1 c0_2 c0_3 zg1 f1 c1_0 c1_1 c1_2 c1_3
    have hr0 := own_blk ho5 hn0 Hr4_0.out
    have zg0 := lt_of_block hr0
    obtain ⟨c0_0, c0_1, c0_2, c0_3⟩ := blk_cells hr0
    have f0 := fun o => free_at hr0 o
    have Hq5_0 := Lib.hid hr0
    have Hr5_0 := Lib.hid hr0
    have hr1 := own_blk ho5 hn1 Hr4_1.out
    have zg1 := lt_of_block hr1
    obtain ⟨c1_0, c1_1, c1_2, c1_3⟩ := blk_cells hr1
    have f1 := fun o => free_at hr1 o
    have Hq5_1 := Lib.hid hr1
    have Hr5_1 := Lib.hid hr1
    have hBq5 := Nat.lt_of_lt_of_le hB4 ho5.size
    have hbb5 := below_own Hb4.out ho5 (by omega) Hb4.out.size
    have Hp5 := Lib.hid hbb5
    have Hx5 := Lib.hid hc5
    have Hb5 := Lib.hid hbb5
    have Hc5 := Lib.hid hc5
    have hB5 := hBq5
    clear hr0 hr1
    clear ho5 hbb5 hc5
    have Hu := Lib.hid (fun w => sup_int m k (by omega) (by omega) w)
    generalize upV k.toNat m = q at *
    generalize upB k.toNat m = t at *
    go_wp2_with fail
    refine (Hu.out _).mono ?_
    rintro e w6 ⟨rfl, hb6⟩
    clear zg0 f0 c0_0 c0_1 c0_2 c0_3 zg1 f1 c1_0 c1_1 c1_2 c1_3
    have hr0 := below_blk hb6 (lt_of_block Hr5_0.out) Hr5_0.out
    have zg0 := lt_of_block hr0
    obtain ⟨c0_0, c0_1, c0_2, c0_3⟩ := blk_cells hr0
    have f0 := fun o => free_at hr0 o
    have Hq6_0 := Lib.hid hr0
    have Hr6_0 := Lib.hid hr0
    have hr1 := below_blk hb6 (lt_of_block Hr5_1.out) Hr5_1.out
    have zg1 := lt_of_block hr1
    obtain ⟨c1_0, c1_1, c1_2, c1_3⟩ := blk_cells hr1
    have f1 := fun o => free_at hr1 o
    have Hq6_1 := Lib.hid hr1
    have Hr6_1 := Lib.hid hr1
    have hc6 := Hc5.out.below hb6 hB5
    have hBq6 := Nat.lt_of_lt_of_le hB5 hb6.size
    have hbb6 := below_nx Hb5.out hb6
    have Hp6 := Lib.hid hbb6
    have Hx6 := Lib.hid hc6
    have Hb6 := Lib.hid hbb6
    have Hc6 := Lib.hid hc6
    have hB6 := hBq6
    clear hr0 hr1
    clear hb6 hbb6 hc6
    have Hv0 := Lib.hid (set4_blk (u0 := .int .i64 q.a) (u1 := .int .i64 q.b) (u2 := .int .i64 q.c) (u3 := .int .i64 q.d) (g := w2.heap.size) (by omega) Hq6_0.out)
    have Hv1 := Lib.hid (set4_at (u0 := .int .i64 q.a) (u1 := .int .i64 q.b) (u2 := .int .i64 q.c) (u3 := .int .i64 q.d) Hq6_1.out)
    have Hvc := Lib.hid (CurAt.far4 (u0 := .int .i64 q.a) (u1 := .int .i64 q.b) (u2 := .int .i64 q.c) (u3 := .int .i64 q.d) (g := w2.heap.size) Hx6.out (by omega))
    have Hvb := Lib.hid (below_far4 (u0 := .int .i64 q.a) (u1 := .int .i64 q.b) (u2 := .int .i64 q.c) (u3 := .int .i64 q.d) (g := w2.heap.size) Hp6.out (by omega))
    have hvs : (w.heap.size + 1) < ((((w6.setCell ⟨w2.heap.size, 0, none⟩ (.int .i64 q.a)).setCell ⟨w2.heap.size, 1, none⟩ (.int .i64 q.b)).setCell ⟨w2.heap.size, 2, none⟩ (.int .i64 q.c)).setCell ⟨w2.heap.size, 3, none⟩ (.int .i64 q.d)).heap.size := by simpa [World.setCell] using hB6
    go_upto_region 5 with fail
    generalize ((((w6.setCell ⟨w2.heap.size, 0, none⟩ (.int .i64 q.a)).setCell ⟨w2.heap.size, 1, none⟩ (.int .i64 q.b)).setCell ⟨w2.heap.size, 2, none⟩ (.int .i64 q.c)).setCell ⟨w2.heap.size, 3, none⟩ (.int .i64 q.d)) = V at *
    clear zg0 f0 c0_0 c0_1 c0_2 c0_3 zg1 f1 c1_0 c1_1 c1_2 c1_3
    have y0 := lt_of_block Hv0.out
    have y1 := lt_of_block Hv1.out
    obtain ⟨d0, d1, d2, d3⟩ := blk_cells Hv1.out
    have hne : V.heap.size ≠ (w.heap.size + 1) := by omega
    have Hd := Lib.hid ((CurAt.drew Hvc.out).own (own_alloc (own_refl V.heap.size V.drew) (.cells #[.int .i64 0, .int .i64 1, .int .i64 2, .int .i64 3, .int .i64 8, .int .i64 60, .int .i64 61, .int .i64 64, .int .i64 120, .int .i64 121, .int .i64 (-1)] 3)) hvs)
    have Hl := Lib.hid (dlist3_at V.drew)
    have Hw0 := Lib.hid (alloc_blk (.cells #[.int .i64 0, .int .i64 1, .int .i64 2, .int .i64 3, .int .i64 8, .int .i64 60, .int .i64 61, .int .i64 64, .int .i64 120, .int .i64 121, .int .i64 (-1)] 3) (show V.drew.heap[w.heap.size]? = some (.cells #[.int .i64 0, .int .i64 0, .int .i64 0, .int .i64 0] 25 (0, 0)) from Hv0.out))
    have Hw1 := Lib.hid (alloc_blk (.cells #[.int .i64 0, .int .i64 1, .int .i64 2, .int .i64 3, .int .i64 8, .int .i64 60, .int .i64 61, .int .i64 64, .int .i64 120, .int .i64 121, .int .i64 (-1)] 3) (show V.drew.heap[w2.heap.size]? = some (.cells #[.int .i64 q.a, .int .i64 q.b, .int .i64 q.c, .int .i64 q.d] 25 (0, 0)) from Hv1.out))
    have Hwb := Lib.hid ((Hvb.out.drew).alloc Hvb.out.size (.cells #[.int .i64 0, .int .i64 1, .int .i64 2, .int .i64 3, .int .i64 8, .int .i64 60, .int .i64 61, .int .i64 64, .int .i64 120, .int .i64 121, .int .i64 (-1)] 3))
    go_region_with (first | (go_at_call 43; refine (pickB (w.heap.size + 1) V.heap.size 11 _ dlist3 _ Hd.out Hl.out hne (by omega) (by omega) rfl (-1) 121 (by decide)).mono ?_; rintro e wR ⟨⟨v, v0, v1, rfl⟩, hcR, hoR⟩; have hr0 := own_blk hoR hn0 Hw0.out; have hr1 := own_blk hoR hn1 Hw1.out; have Hr0 := Lib.hid hr0; have HbR := Lib.hid (below_own Hwb.out hoR (Nat.le_succ _) Hwb.out.size); obtain ⟨g0, g1, g2, g3⟩ := blk_cells hr0; have gf := fun o => free_at hr0 o; obtain ⟨i0, i1, i2, i3⟩ := blk_cells hr1; clear hcR hoR hr0 hr1))
    all_goals go_wp2_with fail
    all_goals
      obtain ⟨k0, k1, k2, k3⟩ := blk_cells (set4_at (u0 := .int .i64 q.a) (u1 := .int .i64 q.b) (u2 := .int .i64 q.c) (u3 := .int .i64 q.d) Hr0.out)
      refine bodyPost_ret (v := .tuple #[(.agg #[.int .i64 q.a, .int .i64 q.b, .int .i64 q.c, .int .i64 q.d]), .int .i64 v]) (by simp only [results, Try.results15]; simp [go_sem, k0, k1, k2, k3]) rfl ⟨ziret q v v0 v1, ?_⟩
      have := HbR.out
      go_grown
end Go.Proofs.Ytiemnhejonepfaa
