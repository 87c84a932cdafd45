/- Repeated products by the root of 2, of the program and of its model; the larger of two. -/
import Derived.Test.YtckfklpgnneodaaGreatBaseB13
import Derived.Test.YtckfklpgnneodaaGreatZwB
namespace Go.Proofs.YtckfklpgnneodaaGreat
open Go.RowKit
attribute [local irreducible] World.cell?
theorem up_step {j : Nat} {m : Zw} (h : mulB m rootE = true) : mulV m rootE = m.root ∧ upB (j + 1) m = upB j m.root ∧ rootN (j + 1) m = rootN j m.root := by
  refine ⟨?_, by rw [upB, h]; rfl, rfl⟩
  obtain ⟨h1, h2, h3⟩ := mulB_iff.1 h
  rw [mulV, if_pos ⟨h1, h2, h3⟩, mul_rootE]
theorem up_stop {j : Nat} {m : Zw} (h : mulB m rootE = false) : upB (j + 1) m = false := by rw [upB, h]; rfl
theorem upV_end {k : Nat} {n : Zw} (h : upB k n = true) : upV k n = rootN k n := upV_of h
theorem upV_no {k : Nat} {n : Zw} (h : upB k n = false) : upV k n = .zero := if_neg (by simp [h])
set_option maxRecDepth 100000 in
set_option maxHeartbeats 3200000 in
theorem iup_any (x : Zw) (k0 : Nat) (hk : k0 ≤ 120) (w : World) :
    Calls Tryz.prog 133 #[(.agg #[.int .i64 x.a, .int .i64 x.b, .int .i64 x.c, .int .i64 x.d]), .int .i64 k0] w fun e w' => e = .returned (.tuple #[(.agg #[.int .i64 (upV k0 x).a, .int .i64 (upV k0 x).b, .int .i64 (upV k0 x).c, .int .i64 (upV k0 x).d]), .bool (upB k0 x)]) ∧ Below w.heap.size w w' := by
  have Hr0 := Lib.hid (alloc_blk (.cells #[.int .i64 rootE.a, .int .i64 rootE.b, .int .i64 rootE.c, .int .i64 rootE.d] 81) (alloc_blk (.cells #[.int .i64 0, .int .i64 0, .int .i64 0, .int .i64 0] 81) (heap_alloc_new w (.cells #[.int .i64 x.a, .int .i64 x.b, .int .i64 x.c, .int .i64 x.d] 81))))
  have Hr1 := Lib.hid (alloc_blk (.cells #[.int .i64 rootE.a, .int .i64 rootE.b, .int .i64 rootE.c, .int .i64 rootE.d] 81) (show ((w.alloc (.cells #[.int .i64 x.a, .int .i64 x.b, .int .i64 x.c, .int .i64 x.d] 81)).alloc (.cells #[.int .i64 0, .int .i64 0, .int .i64 0, .int .i64 0] 81)).heap[w.heap.size + 1]? = some (.cells #[.int .i64 0, .int .i64 0, .int .i64 0, .int .i64 0] 81 (0, 0)) from by simpa using heap_alloc_new (w.alloc (.cells #[.int .i64 x.a, .int .i64 x.b, .int .i64 x.c, .int .i64 x.d] 81)) (.cells #[.int .i64 0, .int .i64 0, .int .i64 0, .int .i64 0] 81)))
  have Hr2 := Lib.hid (show (((w.alloc (.cells #[.int .i64 x.a, .int .i64 x.b, .int .i64 x.c, .int .i64 x.d] 81)).alloc (.cells #[.int .i64 0, .int .i64 0, .int .i64 0, .int .i64 0] 81)).alloc (.cells #[.int .i64 rootE.a, .int .i64 rootE.b, .int .i64 rootE.c, .int .i64 rootE.d] 81)).heap[w.heap.size + 2]? = some (.cells #[.int .i64 rootE.a, .int .i64 rootE.b, .int .i64 rootE.c, .int .i64 rootE.d] 81 (0, 0)) from by simpa using heap_alloc_new ((w.alloc (.cells #[.int .i64 x.a, .int .i64 x.b, .int .i64 x.c, .int .i64 x.d] 81)).alloc (.cells #[.int .i64 0, .int .i64 0, .int .i64 0, .int .i64 0] 81)) (.cells #[.int .i64 rootE.a, .int .i64 rootE.b, .int .i64 rootE.c, .int .i64 rootE.d] 81))
  go_enter Tryz.func133, Tryz.ntmps133
  go_wp2_with fail
  go_loopw [11] (fun s11 wr => ∃ (n : Zw) (i : Nat), s11 = .int .i64 i ∧ i ≤ k0 ∧ upB (k0 - i) n = upB k0 x ∧ rootN (k0 - i) n = rootN k0 x ∧ wr.heap[w.heap.size]? = some (.cells #[.int .i64 n.a, .int .i64 n.b, .int .i64 n.c, .int .i64 n.d] 81 (0, 0)) ∧ wr.heap[w.heap.size + 1]? = some (.cells #[.int .i64 0, .int .i64 0, .int .i64 0, .int .i64 0] 81 (0, 0)) ∧ wr.heap[w.heap.size + 2]? = some (.cells #[.int .i64 rootE.a, .int .i64 rootE.b, .int .i64 rootE.c, .int .i64 rootE.d] 81 (0, 0)) ∧ Below w.heap.size w wr) (fun s11 _ => k0 - (intOf s11).toNat)
  case atStart => exact ⟨x, 0, rfl, Nat.zero_le _, rfl, rfl, Hr0.out, Hr1.out, Hr2.out, by go_grown⟩
  case round =>
    obtain ⟨n, i, rfl, hii, hB, hV, hb0, hb1, hb2, hbl⟩ := hrel
    have zg0 := lt_of_block hb0
    have zg1 := lt_of_block hb1
    have zg2 := lt_of_block hb2
    obtain ⟨c0, c1, c2, c3⟩ := blk_cells hb0
    have f0 := fun o => free_at hb0 o
    obtain ⟨d0, d1, d2, d3⟩ := blk_cells hb1
    have f1 := fun o => free_at hb1 o
    obtain ⟨e0, e1, e2, e3⟩ := blk_cells hb2
    have Hb0 := Lib.hid hb0
    have Hb1 := Lib.hid hb1
    have Hb2 := Lib.hid hb2
    have Hbl := Lib.hid hbl
    have HB := Lib.hid hB
    have HV := Lib.hid hV
    clear hb0 hb1 hb2 hbl hB hV
    by_cases hlt : i < k0
    · have hd : decide ((i : Int) < (k0 : Int)) = true := decide_eq_true (by omega)
      have hj : k0 - i = (k0 - (i + 1)) + 1 := by omega
      have Hm := Lib.hid (imul_any n rootE)
      have Hs := Lib.hid (fun h => @up_step (k0 - (i + 1)) n h)
      have Hn := Lib.hid (fun h => @up_stop (k0 - (i + 1)) n h)
      have HB' := Lib.hid ((congrArg (fun z => upB z n) hj).symm.trans HB.out)
      have HV' := Lib.hid ((congrArg (fun z => rootN z n) hj).symm.trans HV.out)
      clear hj
      generalize mulV n rootE = q at *
      generalize mulB n rootE = t at *
      go_wp2_with fail
      refine (Hm.out _).mono ?_
      rintro e w1 ⟨rfl, hb⟩
      have Hb01 := Lib.hid (below_blk hb zg0 Hb0.out)
      have Hb11 := Lib.hid (below_blk hb zg1 Hb1.out)
      have Hb21 := Lib.hid (below_blk hb zg2 Hb2.out)
      have Hbl1 := Lib.hid (below_nx Hbl.out hb)
      clear c0 c1 c2 c3 f0 d0 d1 d2 d3 f1 e0 e1 e2 e3 zg0 zg1 zg2 hb
      have zg0 := lt_of_block Hb01.out
      have zg1 := lt_of_block Hb11.out
      obtain ⟨c0, c1, c2, c3⟩ := blk_cells Hb01.out
      have f0 := fun o => free_at Hb01.out o
      obtain ⟨d0, d1, d2, d3⟩ := blk_cells Hb11.out
      have f1 := fun o => free_at Hb11.out o
      cases t
      · have Hu := Lib.hid (HB'.out.symm.trans (Hn.out rfl))
        go_wp2_with fail
        obtain ⟨k0, k1, k2, k3⟩ := blk_cells (alloc_blk (.cells #[.int .i64 q.a, .int .i64 q.b, .int .i64 q.c, .int .i64 q.d] 81) (set4_at (u0 := .int .i64 0) (u1 := .int .i64 0) (u2 := .int .i64 0) (u3 := .int .i64 0) Hb11.out))
        refine bodyPost_ret (v := .tuple #[(.agg #[.int .i64 Zw.zero.a, .int .i64 Zw.zero.b, .int .i64 Zw.zero.c, .int .i64 Zw.zero.d]), .bool false]) (by simp only [results, Tryz.results133]; simp [go_sem, k0, k1, k2, k3, Zw.zero]) rfl ⟨by rw [upV_no Hu.out, Hu.out], ?_⟩
        have := Hbl1.out
        go_grown
      · obtain ⟨rfl, h1, h2⟩ := Hs.out rfl
        have H1 := Lib.hid h1
        have H2 := Lib.hid h2
        clear h1 h2
        go_wp2_with fail
        go_roundw
        case rel => exact ⟨n.root, i + 1, by go_num, by omega, H1.out.symm.trans HB'.out, H2.out.symm.trans HV'.out, alloc_blk _ (set4_at Hb01.out), alloc_blk _ (set4_blk (by omega) Hb11.out), alloc_blk _ (set4_blk (by omega) Hb21.out), by have := Hbl1.out; go_grown⟩
        case measure => simp [intOf]; omega
    · obtain rfl : i = k0 := by omega
      have hd : decide ((i : Int) < (i : Int)) = false := decide_eq_false (by omega)
      have Hu := Lib.hid (show upB i x = true from HB.out.symm.trans (by rw [Nat.sub_self]; rfl))
      have Hw := Lib.hid (show rootN i x = n from HV.out.symm.trans (by rw [Nat.sub_self]; rfl))
      go_wp2_with fail
      obtain ⟨k0, k1, k2, k3⟩ := blk_cells (set4_at (u0 := .int .i64 n.a) (u1 := .int .i64 n.b) (u2 := .int .i64 n.c) (u3 := .int .i64 n.d) Hb1.out)
      refine bodyPost_ret (v := .tuple #[(.agg #[.int .i64 n.a, .int .i64 n.b, .int .i64 n.c, .int .i64 n.d]), .bool true]) (by simp only [results, Tryz.results133]; simp [go_sem, k0, k1, k2, k3]) rfl ⟨by rw [upV_end Hu.out, Hu.out, Hw.out], ?_⟩
      have := Hbl.out
      go_grown
set_option maxRecDepth 100000 in
set_option maxHeartbeats 3200000 in
theorem sup_any (x : Zw) (k0 : Nat) (hk : k0 ≤ 120) (w : World) :
    Calls Tryz.prog 97 #[(.agg #[.int .i64 x.a, .int .i64 x.b, .int .i64 x.c, .int .i64 x.d]), .int .i64 k0] w fun e w' => e = .returned (.tuple #[(.agg #[.int .i64 (upV k0 x).a, .int .i64 (upV k0 x).b, .int .i64 (upV k0 x).c, .int .i64 (upV k0 x).d]), .bool (upB k0 x)]) ∧ Below w.heap.size w w' := by
  have Hr0 := Lib.hid (alloc_blk (.cells #[.int .i64 0, .int .i64 0, .int .i64 0, .int .i64 0] 81) (heap_alloc_new w (.cells #[.int .i64 x.a, .int .i64 x.b, .int .i64 x.c, .int .i64 x.d] 81)))
  have Hr1 := Lib.hid (show ((w.alloc (.cells #[.int .i64 x.a, .int .i64 x.b, .int .i64 x.c, .int .i64 x.d] 81)).alloc (.cells #[.int .i64 0, .int .i64 0, .int .i64 0, .int .i64 0] 81)).heap[w.heap.size + 1]? = some (.cells #[.int .i64 0, .int .i64 0, .int .i64 0, .int .i64 0] 81 (0, 0)) from by simpa using heap_alloc_new (w.alloc (.cells #[.int .i64 x.a, .int .i64 x.b, .int .i64 x.c, .int .i64 x.d] 81)) (.cells #[.int .i64 0, .int .i64 0, .int .i64 0, .int .i64 0] 81))
  go_enter Tryz.func97, Tryz.ntmps97
  go_wp2_with fail
  go_loopw [6] (fun s6 wr => ∃ (n : Zw) (i : Nat), s6 = .int .i64 i ∧ i ≤ k0 ∧ upB (k0 - i) n = upB k0 x ∧ rootN (k0 - i) n = rootN k0 x ∧ wr.heap[w.heap.size]? = some (.cells #[.int .i64 n.a, .int .i64 n.b, .int .i64 n.c, .int .i64 n.d] 81 (0, 0)) ∧ wr.heap[w.heap.size + 1]? = some (.cells #[.int .i64 0, .int .i64 0, .int .i64 0, .int .i64 0] 81 (0, 0)) ∧ Below w.heap.size w wr) (fun s6 _ => k0 - (intOf s6).toNat)
  case atStart => exact ⟨x, 0, rfl, Nat.zero_le _, rfl, rfl, Hr0.out, Hr1.out, by go_grown⟩
  case round =>
    obtain ⟨n, i, rfl, hii, hB, hV, hb0, hb1, hbl⟩ := hrel
    have zg0 := lt_of_block hb0
    have zg1 := lt_of_block hb1
    obtain ⟨c0, c1, c2, c3⟩ := blk_cells hb0
    have f0 := fun o => free_at hb0 o
    obtain ⟨d0, d1, d2, d3⟩ := blk_cells hb1
    have f1 := fun o => free_at hb1 o
    have Hb0 := Lib.hid hb0
    have Hb1 := Lib.hid hb1
    have Hbl := Lib.hid hbl
    have HB := Lib.hid hB
    have HV := Lib.hid hV
    clear hb0 hb1 hbl hB hV
    by_cases hlt : i < k0
    · have hd : decide ((i : Int) < (k0 : Int)) = true := decide_eq_true (by omega)
      have hj : k0 - i = (k0 - (i + 1)) + 1 := by omega
      have Hm := Lib.hid (smul_any n rootE)
      have Hs := Lib.hid (fun h => @up_step (k0 - (i + 1)) n h)
      have Hn := Lib.hid (fun h => @up_stop (k0 - (i + 1)) n h)
      have HB' := Lib.hid ((congrArg (fun z => upB z n) hj).symm.trans HB.out)
      have HV' := Lib.hid ((congrArg (fun z => rootN z n) hj).symm.trans HV.out)
      clear hj
      generalize mulV n rootE = q at *
      generalize mulB n rootE = t at *
      go_wp2_with fail
      refine (Hm.out _).mono ?_
      rintro e w1 ⟨rfl, hb⟩
      have Hb01 := Lib.hid (below_blk hb zg0 Hb0.out)
      have Hb11 := Lib.hid (below_blk hb zg1 Hb1.out)
      have Hbl1 := Lib.hid (below_nx Hbl.out hb)
      clear c0 c1 c2 c3 f0 d0 d1 d2 d3 f1 zg0 zg1 hb
      have zg0 := lt_of_block Hb01.out
      have zg1 := lt_of_block Hb11.out
      obtain ⟨c0, c1, c2, c3⟩ := blk_cells Hb01.out
      have f0 := fun o => free_at Hb01.out o
      obtain ⟨d0, d1, d2, d3⟩ := blk_cells Hb11.out
      have f1 := fun o => free_at Hb11.out o
      cases t
      · have Hu := Lib.hid (HB'.out.symm.trans (Hn.out rfl))
        go_wp2_with fail
        obtain ⟨k0, k1, k2, k3⟩ := blk_cells (alloc_blk (.cells #[.int .i64 q.a, .int .i64 q.b, .int .i64 q.c, .int .i64 q.d] 81) (set4_at (u0 := .int .i64 0) (u1 := .int .i64 0) (u2 := .int .i64 0) (u3 := .int .i64 0) Hb11.out))
        refine bodyPost_ret (v := .tuple #[(.agg #[.int .i64 Zw.zero.a, .int .i64 Zw.zero.b, .int .i64 Zw.zero.c, .int .i64 Zw.zero.d]), .bool false]) (by simp only [results, Tryz.results97]; simp [go_sem, k0, k1, k2, k3, Zw.zero]) rfl ⟨by rw [upV_no Hu.out, Hu.out], ?_⟩
        have := Hbl1.out
        go_grown
      · obtain ⟨rfl, h1, h2⟩ := Hs.out rfl
        have H1 := Lib.hid h1
        have H2 := Lib.hid h2
        clear h1 h2
        go_wp2_with fail
        go_roundw
        case rel => exact ⟨n.root, i + 1, by go_num, by omega, H1.out.symm.trans HB'.out, H2.out.symm.trans HV'.out, alloc_blk _ (set4_at Hb01.out), alloc_blk _ (set4_blk (by omega) Hb11.out), by have := Hbl1.out; go_grown⟩
        case measure => simp [intOf]; omega
    · obtain rfl : i = k0 := by omega
      have hd : decide ((i : Int) < (i : Int)) = false := decide_eq_false (by omega)
      have Hu := Lib.hid (show upB i x = true from HB.out.symm.trans (by rw [Nat.sub_self]; rfl))
      have Hw := Lib.hid (show rootN i x = n from HV.out.symm.trans (by rw [Nat.sub_self]; rfl))
      go_wp2_with fail
      obtain ⟨k0, k1, k2, k3⟩ := blk_cells (set4_at (u0 := .int .i64 n.a) (u1 := .int .i64 n.b) (u2 := .int .i64 n.c) (u3 := .int .i64 n.d) Hb1.out)
      refine bodyPost_ret (v := .tuple #[(.agg #[.int .i64 n.a, .int .i64 n.b, .int .i64 n.c, .int .i64 n.d]), .bool true]) (by simp only [results, Tryz.results97]; simp [go_sem, k0, k1, k2, k3]) rfl ⟨by rw [upV_end Hu.out, Hu.out, Hw.out], ?_⟩
      have := Hbl.out
      go_grown
set_option maxRecDepth 100000 in
set_option maxHeartbeats 400000 in
theorem max_any (a b : Int) (w : World) :
    Calls Tryz.prog 31 #[.int .i64 a, .int .i64 b] w fun e w' => e = .returned (.int .i64 (if b < a then a else b)) ∧ w = w' := by
  by_cases h : b < a
  · rw [if_pos h]
    go_enter Tryz.func31, Tryz.ntmps31
    go_wp2_with fail
    go_ret
    exact ⟨rfl, rfl⟩
  · rw [if_neg h]
    go_enter Tryz.func31, Tryz.ntmps31
    go_wp2_with fail
    go_ret
    exact ⟨rfl, rfl⟩
end Go.Proofs.YtckfklpgnneodaaGreat
