/- NewDOmega of the model. -/
import Derived.Test.YtlmiebeffdcfhaaGreatUBaseB05
namespace Go.Proofs.YtlmiebeffdcfhaaGreat
open Go.RowKit
attribute [local irreducible] World.cell?
set_option maxRecDepth 100000 in
set_option maxHeartbeats 3200000 in
theorem snew_go (x : Zw) (k0 : Nat) (w : World) (h : x.ok) (h1 : k0 ≤ 120) :
    Calls Tryz.prog 108 #[(.agg #[.int .i64 x.a, .int .i64 x.b, .int .i64 x.c, .int .i64 x.d]), .int .i64 k0] w fun e w' => (∃ (r : Dw) (t : Bool), e = .returned (.tuple #[(.agg #[.int .i64 r.n.a, .int .i64 r.n.b, .int .i64 r.n.c, .int .i64 r.n.d, .int .i64 r.e]), .bool t]) ∧ ((red k0 x).2 ≤ 60 → r = ⟨(red k0 x).1, (red k0 x).2⟩ ∧ t = true) ∧ (60 < (red k0 x).2 → r = .zero ∧ t = false)) ∧ Below w.heap.size w w' := by
  have Hv := Lib.hid (okB_true.2 h)
  have Hin := Lib.hid (lin_yes (k0 : Int) 0 120 · (by omega) (by omega))
  have Hr0 := Lib.hid (alloc_blk (.cells #[.int .i64 0, .int .i64 0, .int .i64 0, .int .i64 0, .int .i64 0] 70) (heap_alloc_new w (.cells #[.int .i64 x.a, .int .i64 x.b, .int .i64 x.c, .int .i64 x.d] 68)))
  have Hr1 := Lib.hid (show ((w.alloc (.cells #[.int .i64 x.a, .int .i64 x.b, .int .i64 x.c, .int .i64 x.d] 68)).alloc (.cells #[.int .i64 0, .int .i64 0, .int .i64 0, .int .i64 0, .int .i64 0] 70)).heap[w.heap.size + 1]? = some (.cells #[.int .i64 0, .int .i64 0, .int .i64 0, .int .i64 0, .int .i64 0] 70 (0, 0)) from by simpa using heap_alloc_new (w.alloc (.cells #[.int .i64 x.a, .int .i64 x.b, .int .i64 x.c, .int .i64 x.d] 68)) (.cells #[.int .i64 0, .int .i64 0, .int .i64 0, .int .i64 0, .int .i64 0] 70))
  go_enter Tryz.func108, Tryz.ntmps108
  go_wp2_with fail
  refine (svalid_any x true _ Hv.out).mono ?_
  rintro e w1 ⟨rfl, hb1⟩
  have hs1 := hb1.size
  simp at hs1
  have Hr01 := Lib.hid (below_blk hb1 (by simp; omega) Hr0.out)
  have Hr11 := Lib.hid (below_blk hb1 (by simp) Hr1.out)
  have Hb1 := Lib.hid (below_up (B := w.heap.size) (w := w) (by go_grown) hb1 (by simp; omega))
  clear hb1
  go_wp2_with fail
  refine (Hin.out _).mono ?_
  rintro e w2 ⟨rfl, rfl⟩
  go_wp2_with fail
  go_loopw [1] (fun s1 wr => ∃ (n : Zw) (k : Nat), s1 = .int .i64 k ∧ k ≤ k0 ∧ red k n = red k0 x ∧ wr.heap[w.heap.size]? = some (.cells #[.int .i64 n.a, .int .i64 n.b, .int .i64 n.c, .int .i64 n.d] 68 (0, 0)) ∧ wr.heap[w.heap.size + 1]? = some (.cells #[.int .i64 0, .int .i64 0, .int .i64 0, .int .i64 0, .int .i64 0] 70 (0, 0)) ∧ Below w.heap.size w wr) (fun s1 _ => (intOf s1).toNat)
  case atStart => exact ⟨x, k0, rfl, Nat.le_refl _, rfl, Hr01.out, Hr11.out, Hb1.out⟩
  case round =>
    obtain ⟨n, k, rfl, hkk, hred, hb0, hb1, hbl⟩ := hrel
    have zg0 := lt_of_block hb0
    have zg1 := lt_of_block hb1
    obtain ⟨c0, c1, c2, c3⟩ := blk_cells hb0
    have f0 := fun o => free_at hb0 o
    obtain ⟨d0, d1, d2, d3, d4⟩ := blk_cells5 hb1
    have f1 := fun o => free_at hb1 o
    have Hb0 := Lib.hid hb0
    have Hb1 := Lib.hid hb1
    have Hbl := Lib.hid hbl
    have Hred := Lib.hid hred
    clear hb0 hb1 hbl hred
    cases k with
    | zero =>
      go_wp2_with fail
      obtain ⟨k0, k1, k2, k3, k4⟩ := blk_cells5 (set5_at (u0 := .int .i64 n.a) (u1 := .int .i64 n.b) (u2 := .int .i64 n.c) (u3 := .int .i64 n.d) (u4 := .int .i64 0) Hb1.out)
      refine bodyPost_ret (v := .tuple #[(.agg #[.int .i64 (Dw.mk n 0).n.a, .int .i64 (Dw.mk n 0).n.b, .int .i64 (Dw.mk n 0).n.c, .int .i64 (Dw.mk n 0).n.d, .int .i64 (Dw.mk n 0).e]), .bool true]) (by simp only [results, Tryz.results108]; simp [go_sem, k0, k1, k2, k3, k4]) rfl ⟨⟨⟨n, 0⟩, true, rfl, by rw [← Hred.out]; exact ⟨fun _ => ⟨rfl, rfl⟩, fun h => absurd h (by simp [red])⟩⟩, ?_⟩
      have := Hbl.out
      go_grown
    | succ k =>
      have Hi := Lib.hid (sdiv_any n)
      have Hy := Lib.hid (show divB n = true → red (k + 1) n = red k (divV n) from fun h => by rw [red, if_pos h])
      have Hn := Lib.hid (show divB n = false → red (k + 1) n = (n, k + 1) from fun h => by rw [red, if_neg (by simp [h])])
      generalize divV n = q at *
      generalize divB n = t at *
      go_wp2_with fail
      refine (Hi.out _).mono ?_
      rintro e w1 ⟨rfl, hb⟩
      have hs1 := hb.size
      obtain ⟨hc1, hf1, hz1⟩ := bgrow hb
      have zg10 := hz1 _ zg0
      have zg11 := hz1 _ zg1
      have Hb01 := Lib.hid (below_blk hb zg0 Hb0.out)
      have Hb11 := Lib.hid (below_blk hb zg1 Hb1.out)
      have Hbl1 := Lib.hid (below_nx Hbl.out hb)
      clear hb
      cases t
      · have hn := Hn.out rfl
        have hn2 := (congrArg Prod.snd (Hred.out.symm.trans hn) : (red k0 x).2 = k + 1)
        have hn1 := (congrArg Prod.fst (Hred.out.symm.trans hn) : (red k0 x).1 = n)
        have Hn1 := Lib.hid hn1
        have Hn2 := Lib.hid hn2
        clear hn hn1 hn2
        by_cases hjj : 60 < k + 1
        · have hd : decide ((60 : Int) < (k : Int) + 1) = true := decide_eq_true (by omega)
          go_wp2_with fail
          obtain ⟨k0, k1, k2, k3, k4⟩ := blk_cells5 (alloc_blk (.cells #[.int .i64 q.a, .int .i64 q.b, .int .i64 q.c, .int .i64 q.d] 68) (set5_at (u0 := .int .i64 0) (u1 := .int .i64 0) (u2 := .int .i64 0) (u3 := .int .i64 0) (u4 := .int .i64 0) Hb11.out))
          refine bodyPost_ret (v := .tuple #[(.agg #[.int .i64 Dw.zero.n.a, .int .i64 Dw.zero.n.b, .int .i64 Dw.zero.n.c, .int .i64 Dw.zero.n.d, .int .i64 Dw.zero.e]), .bool false]) (by simp only [results, Tryz.results108]; simp [go_sem, k0, k1, k2, k3, k4, Dw.zero, Zw.zero]) rfl ⟨⟨.zero, false, rfl, fun h => absurd h (by have := Hn2.out; omega), fun _ => ⟨rfl, rfl⟩⟩, ?_⟩
          have := Hbl1.out
          go_grown
        · have hd : decide ((60 : Int) < (k : Int) + 1) = false := decide_eq_false (by omega)
          go_wp2_with fail
          obtain ⟨k0, k1, k2, k3, k4⟩ := blk_cells5 (alloc_blk (.cells #[.int .i64 q.a, .int .i64 q.b, .int .i64 q.c, .int .i64 q.d] 68) (set5_at (u0 := .int .i64 n.a) (u1 := .int .i64 n.b) (u2 := .int .i64 n.c) (u3 := .int .i64 n.d) (u4 := .int .i64 ((k : Int) + 1)) Hb11.out))
          refine bodyPost_ret (v := .tuple #[(.agg #[.int .i64 (Dw.mk n ((k + 1 : Nat) : Int)).n.a, .int .i64 (Dw.mk n ((k + 1 : Nat) : Int)).n.b, .int .i64 (Dw.mk n ((k + 1 : Nat) : Int)).n.c, .int .i64 (Dw.mk n ((k + 1 : Nat) : Int)).n.d, .int .i64 (Dw.mk n ((k + 1 : Nat) : Int)).e]), .bool true]) (by simp only [results, Tryz.results108]; simp [go_sem, k0, k1, k2, k3, k4]) rfl ⟨⟨⟨n, ((k + 1 : Nat) : Int)⟩, true, rfl, fun _ => ⟨by rw [Hn1.out, Hn2.out], rfl⟩, fun h => absurd h (by have := Hn2.out; omega)⟩, ?_⟩
          have := Hbl1.out
          go_grown
      · have hn := Hy.out rfl
        go_wp2_with fail
        go_roundw
        case rel => exact ⟨q, k, by go_num, by omega, by rw [← hn]; exact Hred.out, alloc_blk _ (set4_at Hb01.out), alloc_blk _ (set4_blk (by omega) Hb11.out), by have := Hbl1.out; go_grown⟩
        case measure => simp [intOf]
set_option maxRecDepth 100000 in
set_option maxHeartbeats 1600000 in
theorem snew_bad (x : Zw) (k : Int) (w : World) (h0 : -9223372036854775808 ≤ k) (h1 : k ≤ 9223372036854775807) (h : ¬ (x.ok ∧ 0 ≤ k ∧ k ≤ 120)) :
    Calls Tryz.prog 108 #[(.agg #[.int .i64 x.a, .int .i64 x.b, .int .i64 x.c, .int .i64 x.d]), .int .i64 k] w fun e w' => e = .returned (.tuple #[(.agg #[.int .i64 Dw.zero.n.a, .int .i64 Dw.zero.n.b, .int .i64 Dw.zero.n.c, .int .i64 Dw.zero.n.d, .int .i64 Dw.zero.e]), .bool false]) ∧ Below w.heap.size w w' := by
  have Hr1 := Lib.hid (show ((w.alloc (.cells #[.int .i64 x.a, .int .i64 x.b, .int .i64 x.c, .int .i64 x.d] 68)).alloc (.cells #[.int .i64 0, .int .i64 0, .int .i64 0, .int .i64 0, .int .i64 0] 70)).heap[w.heap.size + 1]? = some (.cells #[.int .i64 0, .int .i64 0, .int .i64 0, .int .i64 0, .int .i64 0] 70 (0, 0)) from by simpa using heap_alloc_new (w.alloc (.cells #[.int .i64 x.a, .int .i64 x.b, .int .i64 x.c, .int .i64 x.d] 68)) (.cells #[.int .i64 0, .int .i64 0, .int .i64 0, .int .i64 0, .int .i64 0] 70))
  have hk : okB x = true → k < 0 ∨ 120 < k := fun hx => by
    have hx := okB_true.1 hx
    by_cases h2 : k < 0
    · exact .inl h2
    · exact .inr (by have : ¬ k ≤ 120 := fun h3 => h ⟨hx, by omega, h3⟩; omega)
  have Hi := Lib.hid (fun w => svalid_any x (okB x) w rfl)
  clear h
  generalize okB x = b at *
  go_enter Tryz.func108, Tryz.ntmps108
  go_wp2_with fail
  refine (Hi.out _).mono ?_
  rintro e w1 ⟨rfl, hb1⟩
  have hr1 := below_blk hb1 (by simp) Hr1.out
  obtain ⟨e0, e1, e2, e3, e4⟩ := blk_cells5 hr1
  have f1 := fun o => free_at hr1 o
  have Hr11 := Lib.hid hr1
  have Hb1 := Lib.hid (below_up (B := w.heap.size) (w := w) (by go_grown) hb1 (by simp; omega))
  clear hb1 hr1
  cases b
  · clear hk
    go_wp2_with fail
    obtain ⟨k0, k1, k2, k3, k4⟩ := blk_cells5 (set5_at (u0 := .int .i64 0) (u1 := .int .i64 0) (u2 := .int .i64 0) (u3 := .int .i64 0) (u4 := .int .i64 0) Hr11.out)
    refine bodyPost_ret (v := .tuple #[(.agg #[.int .i64 Dw.zero.n.a, .int .i64 Dw.zero.n.b, .int .i64 Dw.zero.n.c, .int .i64 Dw.zero.n.d, .int .i64 Dw.zero.e]), .bool false]) (by simp only [results, Tryz.results108]; simp [go_sem, k0, k1, k2, k3, k4, Dw.zero, Zw.zero]) rfl ⟨rfl, ?_⟩
    have := Hb1.out
    go_grown
  · rcases hk rfl with hk | hk
    · have Hin := Lib.hid (lin_no k 0 120 · (by omega))
      clear hk
      go_wp2_with fail
      refine (Hin.out _).mono ?_
      rintro e w2 ⟨rfl, rfl⟩
      go_wp2_with fail
      obtain ⟨k0, k1, k2, k3, k4⟩ := blk_cells5 (set5_at (u0 := .int .i64 0) (u1 := .int .i64 0) (u2 := .int .i64 0) (u3 := .int .i64 0) (u4 := .int .i64 0) Hr11.out)
      refine bodyPost_ret (v := .tuple #[(.agg #[.int .i64 Dw.zero.n.a, .int .i64 Dw.zero.n.b, .int .i64 Dw.zero.n.c, .int .i64 Dw.zero.n.d, .int .i64 Dw.zero.e]), .bool false]) (by simp only [results, Tryz.results108]; simp [go_sem, k0, k1, k2, k3, k4, Dw.zero, Zw.zero]) rfl ⟨rfl, ?_⟩
      have := Hb1.out
      go_grown
    · have Hin := Lib.hid (lin_no k 0 120 · (by omega))
      clear hk
      go_wp2_with fail
      refine (Hin.out _).mono ?_
      rintro e w2 ⟨rfl, rfl⟩
      go_wp2_with fail
      obtain ⟨k0, k1, k2, k3, k4⟩ := blk_cells5 (set5_at (u0 := .int .i64 0) (u1 := .int .i64 0) (u2 := .int .i64 0) (u3 := .int .i64 0) (u4 := .int .i64 0) Hr11.out)
      refine bodyPost_ret (v := .tuple #[(.agg #[.int .i64 Dw.zero.n.a, .int .i64 Dw.zero.n.b, .int .i64 Dw.zero.n.c, .int .i64 Dw.zero.n.d, .int .i64 Dw.zero.e]), .bool false]) (by simp only [results, Tryz.results108]; simp [go_sem, k0, k1, k2, k3, k4, Dw.zero, Zw.zero]) rfl ⟨rfl, ?_⟩
      have := Hb1.out
      go_grown
theorem snew_any (x : Zw) (k : Int) (w : World) (h0 : -9223372036854775808 ≤ k) (h1 : k ≤ 9223372036854775807) :
    Calls Tryz.prog 108 #[(.agg #[.int .i64 x.a, .int .i64 x.b, .int .i64 x.c, .int .i64 x.d]), .int .i64 k] w fun e w' => e = .returned (.tuple #[(.agg #[.int .i64 (newV x k).n.a, .int .i64 (newV x k).n.b, .int .i64 (newV x k).n.c, .int .i64 (newV x k).n.d, .int .i64 (newV x k).e]), .bool (newB x k)]) ∧ Below w.heap.size w w' := by
  by_cases h : x.ok ∧ 0 ≤ k ∧ k ≤ 120
  · obtain ⟨hx, h2, h3⟩ := h
    obtain ⟨n, rfl⟩ := Int.eq_ofNat_of_zero_le h2
    refine (snew_go x n w hx (by omega)).mono ?_
    rintro e w' ⟨⟨r, t, rfl, hy, hn⟩, hb⟩
    refine ⟨?_, hb⟩
    by_cases hj : (red n x).2 ≤ 60
    · obtain ⟨rfl, rfl⟩ := hy hj
      have hb : newB x n = true := newB_iff.2 ⟨hx, h2, h3, by simpa using hj⟩
      rw [newV_of hb, hb]; simp
    · obtain ⟨rfl, rfl⟩ := hn (by omega)
      have hb : newB x n = false := by
        rw [Bool.eq_false_iff]; intro hb; have := (newB_iff.1 hb).2.2.2; simp at this; omega
      rw [newV, hb]; rfl
  · have hb : newB x k = false := by
      rw [Bool.eq_false_iff]; intro hb; have := newB_iff.1 hb; exact h ⟨this.1, this.2.1, this.2.2.1⟩
    rw [newV, hb]
    exact snew_bad x k w h0 h1 h
end Go.Proofs.YtlmiebeffdcfhaaGreat
