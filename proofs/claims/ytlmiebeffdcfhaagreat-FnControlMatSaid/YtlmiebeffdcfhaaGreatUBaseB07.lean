/- BaseB07: several of our texts in one: DwY DwU PhM. -/
import Derived.Test.YtlmiebeffdcfhaaGreatUDwX
import Derived.Test.YtlmiebeffdcfhaaGreatUBaseB05
import Derived.Test.YtlmiebeffdcfhaaGreatUZwB
import Derived.Test.YtlmiebeffdcfhaaGreatUBaseC08
namespace Go.Proofs.YtlmiebeffdcfhaaGreat
open Go.RowKit
attribute [local irreducible] World.cell?
def okD (x : Dw) : Bool := decide x.ok
theorem okD_true {x : Dw} : okD x = true ↔ x.ok := by simp [okD]
theorem okD_false {x : Dw} : okD x = false ↔ ¬ x.ok := by simp [okD]
theorem okD_self (x : Dw) : okD x = (newB x.n x.e && eqDB (newV x.n x.e) x) := by
  rw [Bool.eq_iff_iff, Bool.and_eq_true, okD_true]
  refine ⟨fun h => ⟨(newV_self h).1, eqDB_iff.2 (newV_self h).2⟩, ?_⟩
  rintro ⟨h1, h2⟩
  have := newV_ok h1
  rw [eqDB_iff.1 h2] at this
  exact this
theorem okD_parts (x : Dw) : okD x = (okB x.n && (decide (0 ≤ x.e ∧ x.e ≤ 60) && (!divB x.n || decide (x.e = 0)))) := by
  rw [Bool.eq_iff_iff, okD_true]
  simp only [Bool.and_eq_true, Bool.or_eq_true, Bool.not_eq_true', decide_eq_true_eq, okB_true, Dw.ok]
  constructor
  · rintro ⟨h1, h2, h3, h4⟩; exact ⟨h1, ⟨h2, h3⟩, h4.symm⟩
  · rintro ⟨h1, ⟨h2, h3⟩, h4⟩; exact ⟨h1, h2, h3, h4.symm⟩
set_option maxRecDepth 100000 in
set_option maxHeartbeats 1600000 in
theorem ivalidD (x : Dw) (w : World) (h0 : -9223372036854775808 ≤ x.e) (h1 : x.e ≤ 9223372036854775807) :
    Calls Tryz.prog 112 #[(.agg #[.int .i64 x.n.a, .int .i64 x.n.b, .int .i64 x.n.c, .int .i64 x.n.d, .int .i64 x.e])] w fun e w' => e = .returned (.bool (okD x)) ∧ Below w.heap.size w w' := by
  have Hn := Lib.hid (fun w => inew_any x.n x.e w h0 h1)
  rw [okD_self]
  have Heq := eqD (newV x.n x.e) x
  have Hr0 := Lib.hid (heap_alloc_new w (.cells #[.int .i64 x.n.a, .int .i64 x.n.b, .int .i64 x.n.c, .int .i64 x.n.d, .int .i64 x.e] 70))
  generalize eqDB (newV x.n x.e) x = b at *
  generalize newV x.n x.e = r at *
  generalize newB x.n x.e = t at *
  go_enter Tryz.func112, Tryz.ntmps112
  go_wp2_with fail
  refine (Hn.out _).mono ?_
  rintro e w1 ⟨rfl, hb1⟩
  have hr0 := below_blk hb1 (by simp) Hr0.out
  have zg1 := lt_of_block hr0
  obtain ⟨c0, c1, c2, c3, c4⟩ := blk_cells5 hr0
  have Hb1 := Lib.hid (below_up (B := w.heap.size) (w := w) (by go_grown) hb1 (by simp))
  clear hb1 hr0
  cases t
  · clear Heq
    go_wp2_with fail
    go_returns
    exact ⟨rfl, by have := Hb1.out; go_grown⟩
  · go_wp2_with fail
    go_returns
    exact ⟨rfl, by have := Hb1.out; go_grown⟩
set_option maxRecDepth 100000 in
set_option maxHeartbeats 1600000 in
theorem svalidD (x : Dw) (w : World) :
    Calls Tryz.prog 101 #[(.agg #[.int .i64 x.n.a, .int .i64 x.n.b, .int .i64 x.n.c, .int .i64 x.n.d, .int .i64 x.e])] w fun e w' => e = .returned (.bool (okD x)) ∧ Below w.heap.size w w' := by
  have Hd := Lib.hid (sdiv_any x.n)
  have Hv := Lib.hid (fun w => svalid_any x.n (okB x.n) w rfl)
  have Hi := Lib.hid (fun w => lin_any x.e 0 60 (decide (0 ≤ x.e ∧ x.e ≤ 60)) w rfl)
  rw [okD_parts]
  have Hr0 := Lib.hid (heap_alloc_new w (.cells #[.int .i64 x.n.a, .int .i64 x.n.b, .int .i64 x.n.c, .int .i64 x.n.d, .int .i64 x.e] 70))
  generalize divV x.n = q at *
  generalize divB x.n = t at *
  generalize okB x.n = u at *
  generalize decide (0 ≤ x.e ∧ x.e ≤ 60) = v at *
  go_enter Tryz.func101, Tryz.ntmps101
  go_wp2_with fail
  refine (Hd.out _).mono ?_
  rintro e w1 ⟨rfl, hb1⟩
  have hr1 := below_blk hb1 (by simp) Hr0.out
  have zg1 := lt_of_block hr1
  have Hr1 := Lib.hid (alloc_blk (.cells #[.int .i64 q.a, .int .i64 q.b, .int .i64 q.c, .int .i64 q.d] 68) hr1)
  obtain ⟨c0, c1, c2, c3, c4⟩ := blk_cells5 hr1
  have hb1' := below_up (B := w.heap.size) (w := w) (by go_grown) hb1 (by simp)
  have Hb1 := Lib.hid (hb1'.alloc hb1'.size (.cells #[.int .i64 q.a, .int .i64 q.b, .int .i64 q.c, .int .i64 q.d] 68))
  clear hb1 hr1 hb1'
  go_wp2_with fail
  refine (Hv.out _).mono ?_
  rintro e w2 ⟨rfl, hb2⟩
  have hr2 := below_blk hb2 (lt_of_block Hr1.out) Hr1.out
  have zg2 := lt_of_block hr2
  clear c0 c1 c2 c3 c4 zg1
  obtain ⟨c0, c1, c2, c3, c4⟩ := blk_cells5 hr2
  have Hb2 := Lib.hid (below_nx Hb1.out hb2)
  clear hb2 hr2
  cases u
  · go_wp2_with fail
    go_returns
    exact ⟨rfl, by have := Hb2.out; go_grown⟩
  · go_wp2_with fail
    refine (Hi.out _).mono ?_
    rintro e w3 ⟨rfl, rfl⟩
    cases v
    · go_wp2_with fail
      go_returns
      exact ⟨rfl, by have := Hb2.out; go_grown⟩
    · cases t
      · go_wp2_with fail
        go_returns
        exact ⟨rfl, by have := Hb2.out; go_grown⟩
      · go_wp2_with fail
        go_returns
        exact ⟨rfl, by have := Hb2.out; go_grown⟩
end Go.Proofs.YtlmiebeffdcfhaaGreat
namespace Go.Proofs.YtlmiebeffdcfhaaGreat
open Go.RowKit
attribute [local irreducible] World.cell?
theorem up_step {j : Nat} {m : Zw} (h : mulB m rootE = true) : mulV m rootE = m.root ∧ upB (j + 1) m = upB j m.root ∧ rootN (j + 1) m = rootN j m.root := by
  refine ⟨?_, by rw [upB, h]; rfl, rfl⟩
  obtain ⟨h1, h2, h3⟩ := mulB_iff.1 h
  rw [mulV, if_pos ⟨h1, h2, h3⟩, mul_rootE]
theorem up_stop {j : Nat} {m : Zw} (h : mulB m rootE = false) : upB (j + 1) m = false := by rw [upB, h]; rfl
theorem upV_end {k : Nat} {n : Zw} (h : upB k n = true) : upV k n = rootN k n := upV_of h
theorem upV_no {k : Nat} {n : Zw} (h : upB k n = false) : upV k n = .zero := if_neg (by simp [h])
set_option maxRecDepth 100000 in
set_option maxHeartbeats 3200000 in
theorem iup_any (x : Zw) (k0 : Nat) (hk : k0 ≤ 120) (w : World) :
    Calls Tryz.prog 152 #[(.agg #[.int .i64 x.a, .int .i64 x.b, .int .i64 x.c, .int .i64 x.d]), .int .i64 k0] w fun e w' => e = .returned (.tuple #[(.agg #[.int .i64 (upV k0 x).a, .int .i64 (upV k0 x).b, .int .i64 (upV k0 x).c, .int .i64 (upV k0 x).d]), .bool (upB k0 x)]) ∧ Below w.heap.size w w' := by
  have Hr0 := Lib.hid (alloc_blk (.cells #[.int .i64 rootE.a, .int .i64 rootE.b, .int .i64 rootE.c, .int .i64 rootE.d] 68) (alloc_blk (.cells #[.int .i64 0, .int .i64 0, .int .i64 0, .int .i64 0] 68) (heap_alloc_new w (.cells #[.int .i64 x.a, .int .i64 x.b, .int .i64 x.c, .int .i64 x.d] 68))))
  have Hr1 := Lib.hid (alloc_blk (.cells #[.int .i64 rootE.a, .int .i64 rootE.b, .int .i64 rootE.c, .int .i64 rootE.d] 68) (show ((w.alloc (.cells #[.int .i64 x.a, .int .i64 x.b, .int .i64 x.c, .int .i64 x.d] 68)).alloc (.cells #[.int .i64 0, .int .i64 0, .int .i64 0, .int .i64 0] 68)).heap[w.heap.size + 1]? = some (.cells #[.int .i64 0, .int .i64 0, .int .i64 0, .int .i64 0] 68 (0, 0)) from by simpa using heap_alloc_new (w.alloc (.cells #[.int .i64 x.a, .int .i64 x.b, .int .i64 x.c, .int .i64 x.d] 68)) (.cells #[.int .i64 0, .int .i64 0, .int .i64 0, .int .i64 0] 68)))
  have Hr2 := Lib.hid (show (((w.alloc (.cells #[.int .i64 x.a, .int .i64 x.b, .int .i64 x.c, .int .i64 x.d] 68)).alloc (.cells #[.int .i64 0, .int .i64 0, .int .i64 0, .int .i64 0] 68)).alloc (.cells #[.int .i64 rootE.a, .int .i64 rootE.b, .int .i64 rootE.c, .int .i64 rootE.d] 68)).heap[w.heap.size + 2]? = some (.cells #[.int .i64 rootE.a, .int .i64 rootE.b, .int .i64 rootE.c, .int .i64 rootE.d] 68 (0, 0)) from by simpa using heap_alloc_new ((w.alloc (.cells #[.int .i64 x.a, .int .i64 x.b, .int .i64 x.c, .int .i64 x.d] 68)).alloc (.cells #[.int .i64 0, .int .i64 0, .int .i64 0, .int .i64 0] 68)) (.cells #[.int .i64 rootE.a, .int .i64 rootE.b, .int .i64 rootE.c, .int .i64 rootE.d] 68))
  go_enter Tryz.func152, Tryz.ntmps152
  go_wp2_with fail
  go_loopw [11] (fun s11 wr => ∃ (n : Zw) (i : Nat), s11 = .int .i64 i ∧ i ≤ k0 ∧ upB (k0 - i) n = upB k0 x ∧ rootN (k0 - i) n = rootN k0 x ∧ wr.heap[w.heap.size]? = some (.cells #[.int .i64 n.a, .int .i64 n.b, .int .i64 n.c, .int .i64 n.d] 68 (0, 0)) ∧ wr.heap[w.heap.size + 1]? = some (.cells #[.int .i64 0, .int .i64 0, .int .i64 0, .int .i64 0] 68 (0, 0)) ∧ wr.heap[w.heap.size + 2]? = some (.cells #[.int .i64 rootE.a, .int .i64 rootE.b, .int .i64 rootE.c, .int .i64 rootE.d] 68 (0, 0)) ∧ Below w.heap.size w wr) (fun s11 _ => k0 - (intOf s11).toNat)
  case atStart => exact ⟨x, 0, rfl, Nat.zero_le _, rfl, rfl, Hr0.out, Hr1.out, Hr2.out, by go_grown⟩
  case round =>
    obtain ⟨n, i, rfl, hii, hB, hV, hb0, hb1, hb2, hbl⟩ := hrel
    have zg0 := lt_of_block hb0
    have zg1 := lt_of_block hb1
    have zg2 := lt_of_block hb2
    obtain ⟨c0, c1, c2, c3⟩ := blk_cells hb0
    have f0 := fun o => free_at hb0 o
    obtain ⟨d0, d1, d2, d3⟩ := blk_cells hb1
    have f1 := fun o => free_at hb1 o
    obtain ⟨e0, e1, e2, e3⟩ := blk_cells hb2
    have Hb0 := Lib.hid hb0
    have Hb1 := Lib.hid hb1
    have Hb2 := Lib.hid hb2
    have Hbl := Lib.hid hbl
    have HB := Lib.hid hB
    have HV := Lib.hid hV
    clear hb0 hb1 hb2 hbl hB hV
    by_cases hlt : i < k0
    · have hd : decide ((i : Int) < (k0 : Int)) = true := decide_eq_true (by omega)
      have hj : k0 - i = (k0 - (i + 1)) + 1 := by omega
      have Hm := Lib.hid (imul_any n rootE)
      have Hs := Lib.hid (fun h => @up_step (k0 - (i + 1)) n h)
      have Hn := Lib.hid (fun h => @up_stop (k0 - (i + 1)) n h)
      have HB' := Lib.hid ((congrArg (fun z => upB z n) hj).symm.trans HB.out)
      have HV' := Lib.hid ((congrArg (fun z => rootN z n) hj).symm.trans HV.out)
      clear hj
      generalize mulV n rootE = q at *
      generalize mulB n rootE = t at *
      go_wp2_with fail
      refine (Hm.out _).mono ?_
      rintro e w1 ⟨rfl, hb⟩
      have Hb01 := Lib.hid (below_blk hb zg0 Hb0.out)
      have Hb11 := Lib.hid (below_blk hb zg1 Hb1.out)
      have Hb21 := Lib.hid (below_blk hb zg2 Hb2.out)
      have Hbl1 := Lib.hid (below_nx Hbl.out hb)
      clear c0 c1 c2 c3 f0 d0 d1 d2 d3 f1 e0 e1 e2 e3 zg0 zg1 zg2 hb
      have zg0 := lt_of_block Hb01.out
      have zg1 := lt_of_block Hb11.out
      obtain ⟨c0, c1, c2, c3⟩ := blk_cells Hb01.out
      have f0 := fun o => free_at Hb01.out o
      obtain ⟨d0, d1, d2, d3⟩ := blk_cells Hb11.out
      have f1 := fun o => free_at Hb11.out o
      cases t
      · have Hu := Lib.hid (HB'.out.symm.trans (Hn.out rfl))
        go_wp2_with fail
        obtain ⟨k0, k1, k2, k3⟩ := blk_cells (alloc_blk (.cells #[.int .i64 q.a, .int .i64 q.b, .int .i64 q.c, .int .i64 q.d] 68) (set4_at (u0 := .int .i64 0) (u1 := .int .i64 0) (u2 := .int .i64 0) (u3 := .int .i64 0) Hb11.out))
        refine bodyPost_ret (v := .tuple #[(.agg #[.int .i64 Zw.zero.a, .int .i64 Zw.zero.b, .int .i64 Zw.zero.c, .int .i64 Zw.zero.d]), .bool false]) (by simp only [results, Tryz.results152]; simp [go_sem, k0, k1, k2, k3, Zw.zero]) rfl ⟨by rw [upV_no Hu.out, Hu.out], ?_⟩
        have := Hbl1.out
        go_grown
      · obtain ⟨rfl, h1, h2⟩ := Hs.out rfl
        have H1 := Lib.hid h1
        have H2 := Lib.hid h2
        clear h1 h2
        go_wp2_with fail
        go_roundw
        case rel => exact ⟨n.root, i + 1, by go_num, by omega, H1.out.symm.trans HB'.out, H2.out.symm.trans HV'.out, alloc_blk _ (set4_at Hb01.out), alloc_blk _ (set4_blk (by omega) Hb11.out), alloc_blk _ (set4_blk (by omega) Hb21.out), by have := Hbl1.out; go_grown⟩
        case measure => simp [intOf]; omega
    · obtain rfl : i = k0 := by omega
      have hd : decide ((i : Int) < (i : Int)) = false := decide_eq_false (by omega)
      have Hu := Lib.hid (show upB i x = true from HB.out.symm.trans (by rw [Nat.sub_self]; rfl))
      have Hw := Lib.hid (show rootN i x = n from HV.out.symm.trans (by rw [Nat.sub_self]; rfl))
      go_wp2_with fail
      obtain ⟨k0, k1, k2, k3⟩ := blk_cells (set4_at (u0 := .int .i64 n.a) (u1 := .int .i64 n.b) (u2 := .int .i64 n.c) (u3 := .int .i64 n.d) Hb1.out)
      refine bodyPost_ret (v := .tuple #[(.agg #[.int .i64 n.a, .int .i64 n.b, .int .i64 n.c, .int .i64 n.d]), .bool true]) (by simp only [results, Tryz.results152]; simp [go_sem, k0, k1, k2, k3]) rfl ⟨by rw [upV_end Hu.out, Hu.out, Hw.out], ?_⟩
      have := Hbl.out
      go_grown
set_option maxRecDepth 100000 in
set_option maxHeartbeats 3200000 in
theorem sup_any (x : Zw) (k0 : Nat) (hk : k0 ≤ 120) (w : World) :
    Calls Tryz.prog 110 #[(.agg #[.int .i64 x.a, .int .i64 x.b, .int .i64 x.c, .int .i64 x.d]), .int .i64 k0] w fun e w' => e = .returned (.tuple #[(.agg #[.int .i64 (upV k0 x).a, .int .i64 (upV k0 x).b, .int .i64 (upV k0 x).c, .int .i64 (upV k0 x).d]), .bool (upB k0 x)]) ∧ Below w.heap.size w w' := by
  have Hr0 := Lib.hid (alloc_blk (.cells #[.int .i64 0, .int .i64 0, .int .i64 0, .int .i64 0] 68) (heap_alloc_new w (.cells #[.int .i64 x.a, .int .i64 x.b, .int .i64 x.c, .int .i64 x.d] 68)))
  have Hr1 := Lib.hid (show ((w.alloc (.cells #[.int .i64 x.a, .int .i64 x.b, .int .i64 x.c, .int .i64 x.d] 68)).alloc (.cells #[.int .i64 0, .int .i64 0, .int .i64 0, .int .i64 0] 68)).heap[w.heap.size + 1]? = some (.cells #[.int .i64 0, .int .i64 0, .int .i64 0, .int .i64 0] 68 (0, 0)) from by simpa using heap_alloc_new (w.alloc (.cells #[.int .i64 x.a, .int .i64 x.b, .int .i64 x.c, .int .i64 x.d] 68)) (.cells #[.int .i64 0, .int .i64 0, .int .i64 0, .int .i64 0] 68))
  go_enter Tryz.func110, Tryz.ntmps110
  go_wp2_with fail
  go_loopw [6] (fun s6 wr => ∃ (n : Zw) (i : Nat), s6 = .int .i64 i ∧ i ≤ k0 ∧ upB (k0 - i) n = upB k0 x ∧ rootN (k0 - i) n = rootN k0 x ∧ wr.heap[w.heap.size]? = some (.cells #[.int .i64 n.a, .int .i64 n.b, .int .i64 n.c, .int .i64 n.d] 68 (0, 0)) ∧ wr.heap[w.heap.size + 1]? = some (.cells #[.int .i64 0, .int .i64 0, .int .i64 0, .int .i64 0] 68 (0, 0)) ∧ Below w.heap.size w wr) (fun s6 _ => k0 - (intOf s6).toNat)
  case atStart => exact ⟨x, 0, rfl, Nat.zero_le _, rfl, rfl, Hr0.out, Hr1.out, by go_grown⟩
  case round =>
    obtain ⟨n, i, rfl, hii, hB, hV, hb0, hb1, hbl⟩ := hrel
    have zg0 := lt_of_block hb0
    have zg1 := lt_of_block hb1
    obtain ⟨c0, c1, c2, c3⟩ := blk_cells hb0
    have f0 := fun o => free_at hb0 o
    obtain ⟨d0, d1, d2, d3⟩ := blk_cells hb1
    have f1 := fun o => free_at hb1 o
    have Hb0 := Lib.hid hb0
    have Hb1 := Lib.hid hb1
    have Hbl := Lib.hid hbl
    have HB := Lib.hid hB
    have HV := Lib.hid hV
    clear hb0 hb1 hbl hB hV
    by_cases hlt : i < k0
    · have hd : decide ((i : Int) < (k0 : Int)) = true := decide_eq_true (by omega)
      have hj : k0 - i = (k0 - (i + 1)) + 1 := by omega
      have Hm := Lib.hid (smul_any n rootE)
      have Hs := Lib.hid (fun h => @up_step (k0 - (i + 1)) n h)
      have Hn := Lib.hid (fun h => @up_stop (k0 - (i + 1)) n h)
      have HB' := Lib.hid ((congrArg (fun z => upB z n) hj).symm.trans HB.out)
      have HV' := Lib.hid ((congrArg (fun z => rootN z n) hj).symm.trans HV.out)
      clear hj
      generalize mulV n rootE = q at *
      generalize mulB n rootE = t at *
      go_wp2_with fail
      refine (Hm.out _).mono ?_
      rintro e w1 ⟨rfl, hb⟩
      have Hb01 := Lib.hid (below_blk hb zg0 Hb0.out)
      have Hb11 := Lib.hid (below_blk hb zg1 Hb1.out)
      have Hbl1 := Lib.hid (below_nx Hbl.out hb)
      clear c0 c1 c2 c3 f0 d0 d1 d2 d3 f1 zg0 zg1 hb
      have zg0 := lt_of_block Hb01.out
      have zg1 := lt_of_block Hb11.out
      obtain ⟨c0, c1, c2, c3⟩ := blk_cells Hb01.out
      have f0 := fun o => free_at Hb01.out o
      obtain ⟨d0, d1, d2, d3⟩ := blk_cells Hb11.out
      have f1 := fun o => free_at Hb11.out o
      cases t
      · have Hu := Lib.hid (HB'.out.symm.trans (Hn.out rfl))
        go_wp2_with fail
        obtain ⟨k0, k1, k2, k3⟩ := blk_cells (alloc_blk (.cells #[.int .i64 q.a, .int .i64 q.b, .int .i64 q.c, .int .i64 q.d] 68) (set4_at (u0 := .int .i64 0) (u1 := .int .i64 0) (u2 := .int .i64 0) (u3 := .int .i64 0) Hb11.out))
        refine bodyPost_ret (v := .tuple #[(.agg #[.int .i64 Zw.zero.a, .int .i64 Zw.zero.b, .int .i64 Zw.zero.c, .int .i64 Zw.zero.d]), .bool false]) (by simp only [results, Tryz.results110]; simp [go_sem, k0, k1, k2, k3, Zw.zero]) rfl ⟨by rw [upV_no Hu.out, Hu.out], ?_⟩
        have := Hbl1.out
        go_grown
      · obtain ⟨rfl, h1, h2⟩ := Hs.out rfl
        have H1 := Lib.hid h1
        have H2 := Lib.hid h2
        clear h1 h2
        go_wp2_with fail
        go_roundw
        case rel => exact ⟨n.root, i + 1, by go_num, by omega, H1.out.symm.trans HB'.out, H2.out.symm.trans HV'.out, alloc_blk _ (set4_at Hb01.out), alloc_blk _ (set4_blk (by omega) Hb11.out), by have := Hbl1.out; go_grown⟩
        case measure => simp [intOf]; omega
    · obtain rfl : i = k0 := by omega
      have hd : decide ((i : Int) < (i : Int)) = false := decide_eq_false (by omega)
      have Hu := Lib.hid (show upB i x = true from HB.out.symm.trans (by rw [Nat.sub_self]; rfl))
      have Hw := Lib.hid (show rootN i x = n from HV.out.symm.trans (by rw [Nat.sub_self]; rfl))
      go_wp2_with fail
      obtain ⟨k0, k1, k2, k3⟩ := blk_cells (set4_at (u0 := .int .i64 n.a) (u1 := .int .i64 n.b) (u2 := .int .i64 n.c) (u3 := .int .i64 n.d) Hb1.out)
      refine bodyPost_ret (v := .tuple #[(.agg #[.int .i64 n.a, .int .i64 n.b, .int .i64 n.c, .int .i64 n.d]), .bool true]) (by simp only [results, Tryz.results110]; simp [go_sem, k0, k1, k2, k3]) rfl ⟨by rw [upV_end Hu.out, Hu.out, Hw.out], ?_⟩
      have := Hbl.out
      go_grown
set_option maxRecDepth 100000 in
set_option maxHeartbeats 400000 in
theorem max_any (a b : Int) (w : World) :
    Calls Tryz.prog 109 #[.int .i64 a, .int .i64 b] w fun e w' => e = .returned (.int .i64 (if b < a then a else b)) ∧ w = w' := by
  by_cases h : b < a
  · rw [if_pos h]
    go_enter Tryz.func109, Tryz.ntmps109
    go_wp2_with fail
    go_ret
    exact ⟨rfl, rfl⟩
  · rw [if_neg h]
    go_enter Tryz.func109, Tryz.ntmps109
    go_wp2_with fail
    go_ret
    exact ⟨rfl, rfl⟩
end Go.Proofs.YtlmiebeffdcfhaaGreat
namespace Go.Proofs.YtlmiebeffdcfhaaGreat
/-- Powers of omega. -/
def phL : List Zw := [⟨1, 0, 0, 0⟩, ⟨0, 1, 0, 0⟩, ⟨0, 0, 1, 0⟩, ⟨0, 0, 0, 1⟩, ⟨-1, 0, 0, 0⟩, ⟨0, -1, 0, 0⟩, ⟨0, 0, -1, 0⟩, ⟨0, 0, 0, -1⟩]
def phN (n : Nat) : Zw := phL.getD n .zero
def dPh (i : Int) : Dw := ⟨phN (i % 8).toNat, 0⟩
instance : DecidableEq Zw := fun x y => decidable_of_iff (x.a = y.a ∧ x.b = y.b ∧ x.c = y.c ∧ x.d = y.d) ⟨fun ⟨h1, h2, h3, h4⟩ => by cases x; cases y; simp_all, fun h => by subst h; exact ⟨rfl, rfl, rfl, rfl⟩⟩
theorem res8 (i : Int) : (i % 8).toNat < 8 := by omega
end Go.Proofs.YtlmiebeffdcfhaaGreat
