/- BaseB05: several of our texts in one: DwV DwW DsR DwE DwO. -/
import Derived.Test.YtlmiebeffdcfhaaGreatUBaseB22
import Derived.Test.YtlmiebeffdcfhaaGreatUBaseC08
import Derived.Laws.StructEq
import Derived.Test.YtlmiebeffdcfhaaGreatRows
import Derived.Lib.SmallJoins
import Derived.OpenShut
namespace Go.Proofs.YtlmiebeffdcfhaaGreat
open Go.RowKit
attribute [local irreducible] World.cell?
set_option maxRecDepth 100000 in
set_option maxHeartbeats 3200000 in
theorem icancel (x : Zw) (k0 : Nat) (hk : k0 ≤ 120) (w : World) :
    Calls Tryz.prog 142 #[(.agg #[.int .i64 x.a, .int .i64 x.b, .int .i64 x.c, .int .i64 x.d]), .int .i64 k0] w fun e w' => e = .returned (.tuple #[(.agg #[.int .i64 ((red k0 x).1).a, .int .i64 ((red k0 x).1).b, .int .i64 ((red k0 x).1).c, .int .i64 ((red k0 x).1).d]), .int .i64 (red k0 x).2]) ∧ Below w.heap.size w w' := by
  have Hr0 := Lib.hid (alloc_blk (.cells #[.int .i64 0, .int .i64 0, .int .i64 0, .int .i64 0] 68) (heap_alloc_new w (.cells #[.int .i64 x.a, .int .i64 x.b, .int .i64 x.c, .int .i64 x.d] 68)))
  have Hr1 := Lib.hid (heap_alloc_new (w.alloc (.cells #[.int .i64 x.a, .int .i64 x.b, .int .i64 x.c, .int .i64 x.d] 68)) (.cells #[.int .i64 0, .int .i64 0, .int .i64 0, .int .i64 0] 68))
  go_enter Tryz.func142, Tryz.ntmps142
  go_wp2_with fail
  go_loopw [1] (fun s1 wr => ∃ (n : Zw) (k : Nat), s1 = .int .i64 k ∧ k ≤ k0 ∧ red k n = red k0 x ∧ wr.heap[w.heap.size]? = some (.cells #[.int .i64 n.a, .int .i64 n.b, .int .i64 n.c, .int .i64 n.d] 68 (0, 0)) ∧ wr.heap[w.heap.size + 1]? = some (.cells #[.int .i64 0, .int .i64 0, .int .i64 0, .int .i64 0] 68 (0, 0)) ∧ Below w.heap.size w wr) (fun s1 _ => (intOf s1).toNat)
  case atStart => exact ⟨x, k0, rfl, Nat.le_refl _, rfl, Hr0.out, by simpa using Hr1.out, by go_grown⟩
  case round =>
    obtain ⟨n, k, rfl, hkk, hred, hb0, hb1, hbl⟩ := hrel
    have zg0 := lt_of_block hb0
    have zg1 := lt_of_block hb1
    obtain ⟨c0, c1, c2, c3⟩ := blk_cells hb0
    have f0 := fun o => free_at hb0 o
    obtain ⟨d0, d1, d2, d3⟩ := blk_cells hb1
    have f1 := fun o => free_at hb1 o
    have Hb0 := Lib.hid hb0
    have Hb1 := Lib.hid hb1
    have Hbl := Lib.hid hbl
    have Hred := Lib.hid hred
    clear hb0 hb1 hbl hred
    cases k with
    | zero =>
      go_wp2_with fail
      obtain ⟨k0, k1, k2, k3⟩ := blk_cells (set4_at (u0 := .int .i64 n.a) (u1 := .int .i64 n.b) (u2 := .int .i64 n.c) (u3 := .int .i64 n.d) Hb1.out)
      refine bodyPost_ret (v := .tuple #[(.agg #[.int .i64 n.a, .int .i64 n.b, .int .i64 n.c, .int .i64 n.d]), .int .i64 0]) (by simp only [results, Tryz.results142]; simp [go_sem, k0, k1, k2, k3]) rfl ⟨by rw [← Hred.out]; rfl, ?_⟩
      have := Hbl.out
      go_grown
    | succ k =>
      have Hi := Lib.hid (idiv_any n)
      have Hy := Lib.hid (show divB n = true → red (k + 1) n = red k (divV n) from fun h => by rw [red, if_pos h])
      have Hn := Lib.hid (show divB n = false → red (k + 1) n = (n, k + 1) from fun h => by rw [red, if_neg (by simp [h])])
      generalize divV n = q at *
      generalize divB n = t at *
      go_wp2_with fail
      refine (Hi.out _).mono ?_
      rintro e w1 ⟨rfl, hb⟩
      have hs1 := hb.size
      obtain ⟨hc1, hf1, hz1⟩ := bgrow hb
      have zg10 := hz1 _ zg0
      have zg11 := hz1 _ zg1
      have Hb01 := Lib.hid (below_blk hb zg0 Hb0.out)
      have Hb11 := Lib.hid (below_blk hb zg1 Hb1.out)
      have Hbl1 := Lib.hid (below_nx Hbl.out hb)
      clear hb
      cases t
      · have hn := Hn.out rfl
        go_wp2_with fail
        obtain ⟨k0, k1, k2, k3⟩ := blk_cells (alloc_blk (.cells #[.int .i64 q.a, .int .i64 q.b, .int .i64 q.c, .int .i64 q.d] 68) (set4_at (u0 := .int .i64 n.a) (u1 := .int .i64 n.b) (u2 := .int .i64 n.c) (u3 := .int .i64 n.d) Hb11.out))
        refine bodyPost_ret (v := .tuple #[(.agg #[.int .i64 n.a, .int .i64 n.b, .int .i64 n.c, .int .i64 n.d]), .int .i64 ((k + 1 : Nat) : Int)]) (by simp only [results, Tryz.results142]; simp [go_sem, k0, k1, k2, k3]) rfl ⟨by rw [← Hred.out, hn], ?_⟩
        have := Hbl1.out
        go_grown
      · have hn := Hy.out rfl
        go_wp2_with fail
        go_roundw
        case rel => exact ⟨q, k, by go_num, by omega, by rw [← hn]; exact Hred.out, alloc_blk _ (set4_at Hb01.out), alloc_blk _ (set4_blk (by omega) Hb11.out), by have := Hbl1.out; go_grown⟩
        case measure => simp [intOf]
end Go.Proofs.YtlmiebeffdcfhaaGreat
namespace Go.Proofs.YtlmiebeffdcfhaaGreat
open Go.RowKit
attribute [local irreducible] World.cell?
theorem set5_blk {g b : Nat} {W : World} {o : Obj} {u0 u1 u2 u3 u4 : Value} (hn : b ≠ g) (h : W.heap[b]? = some o) :
    (((((W.setCell ⟨g, 0, none⟩ u0).setCell ⟨g, 1, none⟩ u1).setCell ⟨g, 2, none⟩ u2).setCell ⟨g, 3, none⟩ u3).setCell ⟨g, 4, none⟩ u4).heap[b]? = some o := by
  rw [Below.heap_setCell _ _ _ _ (by simpa using hn)]
  exact set4_blk hn h
theorem set5_at {g : Nat} {W : World} {t : TypeId} {z0 z1 z2 z3 z4 u0 u1 u2 u3 u4 : Value} (h : W.heap[g]? = some (.cells #[z0, z1, z2, z3, z4] t (0, 0))) :
    (((((W.setCell ⟨g, 0, none⟩ u0).setCell ⟨g, 1, none⟩ u1).setCell ⟨g, 2, none⟩ u2).setCell ⟨g, 3, none⟩ u3).setCell ⟨g, 4, none⟩ u4).heap[g]? = some (.cells #[u0, u1, u2, u3, u4] t (0, 0)) :=
  heap_set (heap_set (heap_set (heap_set (heap_set h 0 u0) 1 u1) 2 u2) 3 u3) 4 u4
theorem blk_cells5 {g : Nat} {W : World} {t : TypeId} {z0 z1 z2 z3 z4 : Value} (h : W.heap[g]? = some (.cells #[z0, z1, z2, z3, z4] t (0, 0))) :
    W.cell? ⟨g, 0, none⟩ = some z0 ∧ W.cell? ⟨g, 1, none⟩ = some z1 ∧ W.cell? ⟨g, 2, none⟩ = some z2 ∧ W.cell? ⟨g, 3, none⟩ = some z3 ∧ W.cell? ⟨g, 4, none⟩ = some z4 :=
  ⟨cell_at h 0 _ rfl, cell_at h 1 _ rfl, cell_at h 2 _ rfl, cell_at h 3 _ rfl, cell_at h 4 _ rfl⟩
set_option maxRecDepth 100000 in
set_option maxHeartbeats 400000 in
theorem lin_yes (x lo hi : Int) (w : World) (h0 : lo ≤ x) (h1 : x ≤ hi) :
    Calls Tryz.prog 31 #[.int .i64 x, .int .i64 lo, .int .i64 hi] w fun e w' => e = .returned (.bool true) ∧ w = w' := by
  go_enter Tryz.func31, Tryz.ntmps31
  go_wp2_with fail
  go_ret
  exact ⟨rfl, rfl⟩
set_option maxRecDepth 100000 in
set_option maxHeartbeats 400000 in
theorem lin_no (x lo hi : Int) (w : World) (h : ¬ (lo ≤ x ∧ x ≤ hi)) :
    Calls Tryz.prog 31 #[.int .i64 x, .int .i64 lo, .int .i64 hi] w fun e w' => e = .returned (.bool false) ∧ w = w' := by
  have h' : x < lo ∨ hi < x := by omega
  clear h
  rcases h' with h | h
  · have hd : decide (lo ≤ x) = false := by simpa using h
    go_enter Tryz.func31, Tryz.ntmps31
    go_wp2_with fail
    go_ret
    exact ⟨rfl, rfl⟩
  · by_cases h0 : lo ≤ x
    · have hd : decide (x ≤ hi) = false := by simpa using h
      go_enter Tryz.func31, Tryz.ntmps31
      go_wp2_with fail
      go_ret
      exact ⟨rfl, rfl⟩
    · have hd : decide (lo ≤ x) = false := by simpa using h0
      clear h0
      go_enter Tryz.func31, Tryz.ntmps31
      go_wp2_with fail
      go_ret
      exact ⟨rfl, rfl⟩
theorem lin_any (x lo hi : Int) (b : Bool) (w : World) (h : decide (lo ≤ x ∧ x ≤ hi) = b) :
    Calls Tryz.prog 31 #[.int .i64 x, .int .i64 lo, .int .i64 hi] w fun e w' => e = .returned (.bool b) ∧ w = w' := by
  cases b
  · exact lin_no x lo hi w (by simpa using h)
  · have := of_decide_eq_true h
    exact lin_yes x lo hi w this.1 this.2
set_option maxRecDepth 100000 in
set_option maxHeartbeats 1600000 in
theorem inew_go (x : Zw) (k : Nat) (r : Dw) (t : Bool) (w : World) (h : x.ok) (h1 : k ≤ 120)
    (hy : (red k x).2 ≤ 60 → r = ⟨(red k x).1, (red k x).2⟩ ∧ t = true) (hn : 60 < (red k x).2 → r = .zero ∧ t = false) :
    Calls Tryz.prog 133 #[(.agg #[.int .i64 x.a, .int .i64 x.b, .int .i64 x.c, .int .i64 x.d]), .int .i64 k] w fun e w' => e = .returned (.tuple #[(.agg #[.int .i64 r.n.a, .int .i64 r.n.b, .int .i64 r.n.c, .int .i64 r.n.d, .int .i64 r.e]), .bool t]) ∧ Below w.heap.size w w' := by
  have Hv := Lib.hid (okB_true.2 h)
  have Hc := Lib.hid (icancel x k h1)
  have Hr0 := Lib.hid (alloc_blk (.cells #[.int .i64 0, .int .i64 0, .int .i64 0, .int .i64 0, .int .i64 0] 70) (heap_alloc_new w (.cells #[.int .i64 x.a, .int .i64 x.b, .int .i64 x.c, .int .i64 x.d] 68)))
  have Hr1 := Lib.hid (show ((w.alloc (.cells #[.int .i64 x.a, .int .i64 x.b, .int .i64 x.c, .int .i64 x.d] 68)).alloc (.cells #[.int .i64 0, .int .i64 0, .int .i64 0, .int .i64 0, .int .i64 0] 70)).heap[w.heap.size + 1]? = some (.cells #[.int .i64 0, .int .i64 0, .int .i64 0, .int .i64 0, .int .i64 0] 70 (0, 0)) from by simpa using heap_alloc_new (w.alloc (.cells #[.int .i64 x.a, .int .i64 x.b, .int .i64 x.c, .int .i64 x.d] 68)) (.cells #[.int .i64 0, .int .i64 0, .int .i64 0, .int .i64 0, .int .i64 0] 70))
  have hj := red_le k x
  generalize (red k x).1 = m at *
  generalize (red k x).2 = j at *
  go_enter Tryz.func133, Tryz.ntmps133
  go_wp2_with fail
  refine (ivalid_any x true _ Hv.out).mono ?_
  rintro e w1 ⟨rfl, hb1⟩
  have hs1 := hb1.size
  simp at hs1
  have zg0 : w.heap.size < w1.heap.size := by omega
  have zg1 : w.heap.size + 1 < w1.heap.size := by omega
  have Hr01 := Lib.hid (below_blk hb1 (by simp; omega) Hr0.out)
  have Hr11 := Lib.hid (below_blk hb1 (by simp) Hr1.out)
  obtain ⟨c0, c1, c2, c3⟩ := blk_cells Hr01.out
  have Hb1 := Lib.hid (below_up (B := w.heap.size) (w := w) (by go_grown) hb1 (by simp; omega))
  clear hb1
  go_wp2_with fail
  refine (Hc.out _).mono ?_
  rintro e w2 ⟨rfl, hb2⟩
  have hs2 := hb2.size
  have zg20 : w.heap.size < w2.heap.size := by omega
  have zg21 : w.heap.size + 1 < w2.heap.size := by omega
  have hr0 := below_blk hb2 zg0 Hr01.out
  have hr1 := below_blk hb2 zg1 Hr11.out
  obtain ⟨d0, d1, d2, d3⟩ := blk_cells hr0
  have f0 := fun o => free_at hr0 o
  obtain ⟨e0, e1, e2, e3, e4⟩ := blk_cells5 hr1
  have f1 := fun o => free_at hr1 o
  have Hr02 := Lib.hid hr0
  have Hr12 := Lib.hid hr1
  have Hb2 := Lib.hid (below_up Hb1.out hb2 (by omega))
  clear hb2 hr0 hr1 c0 c1 c2 c3
  by_cases hjj : 60 < j
  · obtain ⟨rfl, rfl⟩ := hn hjj
    have hd : decide ((60 : Int) < (j : Int)) = true := decide_eq_true (by omega)
    go_wp2_with fail
    obtain ⟨k0, k1, k2, k3, k4⟩ := blk_cells5 (set5_at (u0 := .int .i64 0) (u1 := .int .i64 0) (u2 := .int .i64 0) (u3 := .int .i64 0) (u4 := .int .i64 0) (set4_blk (u0 := .int .i64 m.a) (u1 := .int .i64 m.b) (u2 := .int .i64 m.c) (u3 := .int .i64 m.d) (g := w.heap.size) (by omega) Hr12.out))
    refine bodyPost_ret (v := .tuple #[(.agg #[.int .i64 Dw.zero.n.a, .int .i64 Dw.zero.n.b, .int .i64 Dw.zero.n.c, .int .i64 Dw.zero.n.d, .int .i64 Dw.zero.e]), .bool false]) (by simp only [results, Tryz.results133]; simp [go_sem, k0, k1, k2, k3, k4, Dw.zero, Zw.zero]) rfl ⟨rfl, ?_⟩
    have := Hb2.out
    go_grown
  · obtain ⟨rfl, rfl⟩ := hy (by omega)
    have hd : decide ((60 : Int) < (j : Int)) = false := decide_eq_false (by omega)
    go_wp2_with fail
    obtain ⟨k0, k1, k2, k3, k4⟩ := blk_cells5 (set5_at (u0 := .int .i64 m.a) (u1 := .int .i64 m.b) (u2 := .int .i64 m.c) (u3 := .int .i64 m.d) (u4 := .int .i64 j) (set4_blk (u0 := .int .i64 m.a) (u1 := .int .i64 m.b) (u2 := .int .i64 m.c) (u3 := .int .i64 m.d) (g := w.heap.size) (by omega) Hr12.out))
    refine bodyPost_ret (v := .tuple #[(.agg #[.int .i64 (Dw.mk m (j : Int)).n.a, .int .i64 (Dw.mk m (j : Int)).n.b, .int .i64 (Dw.mk m (j : Int)).n.c, .int .i64 (Dw.mk m (j : Int)).n.d, .int .i64 (Dw.mk m (j : Int)).e]), .bool true]) (by simp only [results, Tryz.results133]; simp [go_sem, k0, k1, k2, k3, k4]) rfl ⟨rfl, ?_⟩
    have := Hb2.out
    go_grown
set_option maxRecDepth 100000 in
set_option maxHeartbeats 1600000 in
theorem inew_bad (x : Zw) (k : Int) (w : World) (h0 : -9223372036854775808 ≤ k) (h1 : k ≤ 9223372036854775807) (h : ¬ (x.ok ∧ 0 ≤ k ∧ k ≤ 120)) :
    Calls Tryz.prog 133 #[(.agg #[.int .i64 x.a, .int .i64 x.b, .int .i64 x.c, .int .i64 x.d]), .int .i64 k] w fun e w' => e = .returned (.tuple #[(.agg #[.int .i64 Dw.zero.n.a, .int .i64 Dw.zero.n.b, .int .i64 Dw.zero.n.c, .int .i64 Dw.zero.n.d, .int .i64 Dw.zero.e]), .bool false]) ∧ Below w.heap.size w w' := by
  have Hr1 := Lib.hid (show ((w.alloc (.cells #[.int .i64 x.a, .int .i64 x.b, .int .i64 x.c, .int .i64 x.d] 68)).alloc (.cells #[.int .i64 0, .int .i64 0, .int .i64 0, .int .i64 0, .int .i64 0] 70)).heap[w.heap.size + 1]? = some (.cells #[.int .i64 0, .int .i64 0, .int .i64 0, .int .i64 0, .int .i64 0] 70 (0, 0)) from by simpa using heap_alloc_new (w.alloc (.cells #[.int .i64 x.a, .int .i64 x.b, .int .i64 x.c, .int .i64 x.d] 68)) (.cells #[.int .i64 0, .int .i64 0, .int .i64 0, .int .i64 0, .int .i64 0] 70))
  have hk : okB x = true → k < 0 ∨ 120 < k := fun hx => by
    have hx := okB_true.1 hx
    by_cases h2 : k < 0
    · exact .inl h2
    · exact .inr (by have : ¬ k ≤ 120 := fun h3 => h ⟨hx, by omega, h3⟩; omega)
  have Hi := Lib.hid (fun w => ivalid_any x (okB x) w rfl)
  clear h
  generalize okB x = b at *
  go_enter Tryz.func133, Tryz.ntmps133
  go_wp2_with fail
  refine (Hi.out _).mono ?_
  rintro e w1 ⟨rfl, hb1⟩
  have hr1 := below_blk hb1 (by simp) Hr1.out
  obtain ⟨e0, e1, e2, e3, e4⟩ := blk_cells5 hr1
  have f1 := fun o => free_at hr1 o
  have Hr11 := Lib.hid hr1
  have Hb1 := Lib.hid (below_up (B := w.heap.size) (w := w) (by go_grown) hb1 (by simp; omega))
  clear hb1 hr1
  cases b
  · clear hk
    go_wp2_with fail
    obtain ⟨k0, k1, k2, k3, k4⟩ := blk_cells5 (set5_at (u0 := .int .i64 0) (u1 := .int .i64 0) (u2 := .int .i64 0) (u3 := .int .i64 0) (u4 := .int .i64 0) Hr11.out)
    refine bodyPost_ret (v := .tuple #[(.agg #[.int .i64 Dw.zero.n.a, .int .i64 Dw.zero.n.b, .int .i64 Dw.zero.n.c, .int .i64 Dw.zero.n.d, .int .i64 Dw.zero.e]), .bool false]) (by simp only [results, Tryz.results133]; simp [go_sem, k0, k1, k2, k3, k4, Dw.zero, Zw.zero]) rfl ⟨rfl, ?_⟩
    have := Hb1.out
    go_grown
  · rcases hk rfl with hk | hk
    · go_wp2_with fail
      obtain ⟨k0, k1, k2, k3, k4⟩ := blk_cells5 (set5_at (u0 := .int .i64 0) (u1 := .int .i64 0) (u2 := .int .i64 0) (u3 := .int .i64 0) (u4 := .int .i64 0) Hr11.out)
      refine bodyPost_ret (v := .tuple #[(.agg #[.int .i64 Dw.zero.n.a, .int .i64 Dw.zero.n.b, .int .i64 Dw.zero.n.c, .int .i64 Dw.zero.n.d, .int .i64 Dw.zero.e]), .bool false]) (by simp only [results, Tryz.results133]; simp [go_sem, k0, k1, k2, k3, k4, Dw.zero, Zw.zero]) rfl ⟨rfl, ?_⟩
      have := Hb1.out
      go_grown
    · have hk0 : ¬ k < 0 := by omega
      go_wp2_with fail
      obtain ⟨k0, k1, k2, k3, k4⟩ := blk_cells5 (set5_at (u0 := .int .i64 0) (u1 := .int .i64 0) (u2 := .int .i64 0) (u3 := .int .i64 0) (u4 := .int .i64 0) Hr11.out)
      refine bodyPost_ret (v := .tuple #[(.agg #[.int .i64 Dw.zero.n.a, .int .i64 Dw.zero.n.b, .int .i64 Dw.zero.n.c, .int .i64 Dw.zero.n.d, .int .i64 Dw.zero.e]), .bool false]) (by simp only [results, Tryz.results133]; simp [go_sem, k0, k1, k2, k3, k4, Dw.zero, Zw.zero]) rfl ⟨rfl, ?_⟩
      have := Hb1.out
      go_grown
theorem inew_any (x : Zw) (k : Int) (w : World) (h0 : -9223372036854775808 ≤ k) (h1 : k ≤ 9223372036854775807) :
    Calls Tryz.prog 133 #[(.agg #[.int .i64 x.a, .int .i64 x.b, .int .i64 x.c, .int .i64 x.d]), .int .i64 k] w fun e w' => e = .returned (.tuple #[(.agg #[.int .i64 (newV x k).n.a, .int .i64 (newV x k).n.b, .int .i64 (newV x k).n.c, .int .i64 (newV x k).n.d, .int .i64 (newV x k).e]), .bool (newB x k)]) ∧ Below w.heap.size w w' := by
  by_cases h : x.ok ∧ 0 ≤ k ∧ k ≤ 120
  · obtain ⟨hx, h2, h3⟩ := h
    obtain ⟨n, rfl⟩ := Int.eq_ofNat_of_zero_le h2
    refine inew_go x n _ _ w hx (by omega) (fun hj => ?_) (fun hj => ?_)
    · have hb : newB x n = true := newB_iff.2 ⟨hx, h2, h3, by simpa using hj⟩
      exact ⟨by rw [newV_of hb]; simp, hb⟩
    · have hb : newB x n = false := by
        rw [Bool.eq_false_iff]; intro hb; have := (newB_iff.1 hb).2.2.2; simp at this; omega
      exact ⟨by rw [newV, hb]; rfl, hb⟩
  · have hb : newB x k = false := by
      rw [Bool.eq_false_iff]; intro hb; have := newB_iff.1 hb; exact h ⟨this.1, this.2.1, this.2.2.1⟩
    rw [newV, hb]
    exact inew_bad x k w h0 h1 h
end Go.Proofs.YtlmiebeffdcfhaaGreat
namespace Go.Proofs.YtlmiebeffdcfhaaGreat
open Go.RowKit
/-- The cells of a fraction. -/
def fl (x : Dw) : List Value := [.int .i64 x.n.a, .int .i64 x.n.b, .int .i64 x.n.c, .int .i64 x.n.d, .int .i64 x.e]
/-- The cells of a row. -/
def flat : List Dw → List Value
  | [] => []
  | x :: l => fl x ++ flat l
theorem flat_len : ∀ l : List Dw, (flat l).length = l.length * 5
  | [] => rfl
  | x :: l => by rw [flat, List.length_append, flat_len l, List.length_cons]; simp only [fl, List.length_cons, List.length_nil]; omega
theorem flat_app : ∀ l m : List Dw, flat (l ++ m) = flat l ++ flat m
  | [], m => rfl
  | x :: l, m => by rw [List.cons_append, flat, flat, flat_app l m, List.append_assoc]
theorem flat_at : ∀ {l : List Dw} {j : Nat} {x : Dw}, l[j]? = some x → ∀ k, k < 5 → (flat l)[j * 5 + k]? = (fl x)[k]?
  | [], j, x, h, k, hk => by simp at h
  | y :: l, 0, x, h, k, hk => by
    obtain rfl : y = x := by simpa using h
    rw [flat, List.getElem?_append_left (by simp [fl]; omega)]
    simp
  | y :: l, j + 1, x, h, k, hk => by
    rw [flat, List.getElem?_append_right (by simp [fl]; omega)]
    rw [show (j + 1) * 5 + k - (fl y).length = j * 5 + k by simp [fl]; omega]
    exact flat_at (by simpa using h) k hk
/-- Five cells written. -/
def put5 (l : List Value) (o : Nat) (y : Dw) : List Value := ((((l.set o (.int .i64 y.n.a)).set (o + 1) (.int .i64 y.n.b)).set (o + 2) (.int .i64 y.n.c)).set (o + 3) (.int .i64 y.n.d)).set (o + 4) (.int .i64 y.e)
theorem put5_right (l m : List Value) (o : Nat) (y : Dw) (h : l.length ≤ o) : put5 (l ++ m) o y = l ++ put5 m (o - l.length) y := by
  unfold put5
  rw [List.set_append_right _ _ h, List.set_append_right _ _ (by omega), List.set_append_right _ _ (by omega), List.set_append_right _ _ (by omega), List.set_append_right _ _ (by omega)]
  rw [show o + 1 - l.length = o - l.length + 1 by omega, show o + 2 - l.length = o - l.length + 2 by omega, show o + 3 - l.length = o - l.length + 3 by omega, show o + 4 - l.length = o - l.length + 4 by omega]
theorem flat_set : ∀ (l : List Dw) (j : Nat) (y : Dw), j < l.length → put5 (flat l) (j * 5) y = flat (l.set j y)
  | [], j, y, h => by simp at h
  | x :: l, 0, y, h => by
    simp [put5, flat, fl]
  | x :: l, j + 1, y, h => by
    rw [flat, put5_right _ _ _ _ (by simp [fl]; omega), show (j + 1) * 5 - (fl x).length = j * 5 by simp [fl]; omega, flat_set l j y (by simpa using h)]
    rfl
/-- A row at the head of block g. -/
def DRow (w : World) (g : Nat) (l : List Dw) : Prop := ∃ cs : Array Value, w.heap[g]? = some (.cells cs 70 (0, 0)) ∧ cs.toList.take (l.length * 5) = flat l
theorem DRow.at {w : World} {g : Nat} {l : List Dw} (h : DRow w g l) {j : Nat} {x : Dw} (hx : l[j]? = some x) (k : Nat) (hk : k < 5) : ∃ v, (fl x)[k]? = some v ∧ w.cell? ⟨g, j * 5 + k, none⟩ = some v := by
  obtain ⟨cs, h1, h2⟩ := h
  have hj : j < l.length := by
    rcases Nat.lt_or_ge j l.length with h' | h'
    · exact h'
    · rw [List.getElem?_eq_none h'] at hx; cases hx
  have e := flat_at hx k hk
  have hv : ∃ v, (fl x)[k]? = some v := ⟨(fl x)[k]'(by simp [fl]; omega), List.getElem?_eq_getElem _⟩
  obtain ⟨v, hv⟩ := hv
  refine ⟨v, hv, cell_at h1 _ _ ?_⟩
  rw [← h2, List.getElem?_take, if_pos (by omega), hv] at e
  rw [← Array.getElem?_toList]; exact e
theorem DRow.cells {w : World} {g : Nat} {l : List Dw} (h : DRow w g l) {j : Nat} {x : Dw} (hx : l[j]? = some x) :
    w.cell? ⟨g, j * 5, none⟩ = some (.int .i64 x.n.a) ∧ w.cell? ⟨g, j * 5 + 1, none⟩ = some (.int .i64 x.n.b) ∧ w.cell? ⟨g, j * 5 + 2, none⟩ = some (.int .i64 x.n.c) ∧ w.cell? ⟨g, j * 5 + 3, none⟩ = some (.int .i64 x.n.d) ∧ w.cell? ⟨g, j * 5 + 4, none⟩ = some (.int .i64 x.e) := by
  obtain ⟨_, h0, c0⟩ := h.at hx 0 (by omega)
  obtain ⟨_, h1, c1⟩ := h.at hx 1 (by omega)
  obtain ⟨_, h2, c2⟩ := h.at hx 2 (by omega)
  obtain ⟨_, h3, c3⟩ := h.at hx 3 (by omega)
  obtain ⟨_, h4, c4⟩ := h.at hx 4 (by omega)
  cases h0; cases h1; cases h2; cases h3; cases h4
  exact ⟨c0, c1, c2, c3, c4⟩
theorem DRow.free {w : World} {g : Nat} {l : List Dw} (h : DRow w g l) (o : Nat) : w.frozen? ⟨g, o, none⟩ = false := by obtain ⟨cs, h1, _⟩ := h; exact free_at h1 o
theorem DRow.lt {w : World} {g : Nat} {l : List Dw} (h : DRow w g l) : g < w.heap.size := by obtain ⟨cs, h1, _⟩ := h; exact lt_of_block h1
theorem DRow.block {w w' : World} {g : Nat} {l : List Dw} (h : DRow w g l) (hb : w'.heap[g]? = w.heap[g]?) : DRow w' g l := by obtain ⟨cs, h1, h2⟩ := h; exact ⟨cs, hb.trans h1, h2⟩
theorem DRow.below {w w' : World} {g B : Nat} {l : List Dw} (h : DRow w g l) (hb : Below B w w') (hB : g < B) : DRow w' g l := h.block (hb.block g hB)
theorem DRow.alloc {w : World} {g : Nat} {l : List Dw} (h : DRow w g l) (o : Obj) : DRow (w.alloc o) g l := h.block (Below.heap_alloc _ _ _ h.lt)
theorem DRow.own {w w' : World} {g B : Nat} {l : List Dw} (h : DRow w g l) (hb : Own B w w') (hB : g ≠ B) : DRow w' g l :=
  h.block (hb.block g h.lt (by intro e; injection e with e; exact hB e))
theorem DRow.put {w : World} {g : Nat} {l : List Dw} (h : DRow w g l) (j : Nat) (hj : j < l.length) (y : Dw) :
    DRow (((((w.setCell ⟨g, j * 5, none⟩ (.int .i64 y.n.a)).setCell ⟨g, j * 5 + 1, none⟩ (.int .i64 y.n.b)).setCell ⟨g, j * 5 + 2, none⟩ (.int .i64 y.n.c)).setCell ⟨g, j * 5 + 3, none⟩ (.int .i64 y.n.d)).setCell ⟨g, j * 5 + 4, none⟩ (.int .i64 y.e)) g (l.set j y) := by
  obtain ⟨cs, h1, h2⟩ := h
  refine ⟨_, heap_set (heap_set (heap_set (heap_set (heap_set h1 _ _) _ _) _ _) _ _) _ _, ?_⟩
  rw [← flat_set l j y hj, ← h2, List.length_set]
  simp only [put5, Array.toList_setIfInBounds, List.take_set]
/-- The row with one of its integers written. -/
theorem DRow.put1 {w : World} {g : Nat} {l l' : List Dw} (h : DRow w g l) (o : Nat) (v : Value) (hl : l'.length = l.length) (hs : (flat l).set o v = flat l') : DRow (w.setCell ⟨g, o, none⟩ v) g l' := by
  obtain ⟨cs, h1, h2⟩ := h
  refine ⟨_, heap_set h1 _ _, ?_⟩
  rw [hl, ← hs, ← h2, Array.toList_setIfInBounds, List.take_set]
/-- A slice of fractions whose row, if it has one, lies at B or behind. -/
def DSl (w : World) (B : Nat) (v : Value) (l : List Dw) : Prop :=
  ∃ a cap, v = .slice a l.length cap ∧ l.length ≤ cap ∧ (0 < l.length → ∃ g, a = some ⟨g, 0, none⟩ ∧ B ≤ g ∧ DRow w g l)
theorem DSl.block {w w' : World} {B : Nat} {v : Value} {l : List Dw} (h : DSl w B v l) (hb : ∀ g, B ≤ g → g < w.heap.size → w'.heap[g]? = w.heap[g]?) : DSl w' B v l := by
  obtain ⟨a, cap, h1, h2, h3⟩ := h
  exact ⟨a, cap, h1, h2, fun hl => by obtain ⟨g, e, hB, hr⟩ := h3 hl; exact ⟨g, e, hB, hr.block (hb g hB hr.lt)⟩⟩
theorem DSl.below {w w' : World} {B : Nat} {v : Value} {l : List Dw} (h : DSl w B v l) (hb : Below w.heap.size w w') : DSl w' B v l := h.block fun g _ hg => hb.block g hg
theorem DSl.mono {w : World} {B C : Nat} {v : Value} {l : List Dw} (h : DSl w B v l) (hc : C ≤ B) : DSl w C v l := by
  obtain ⟨a, cap, h1, h2, h3⟩ := h
  exact ⟨a, cap, h1, h2, fun hl => by obtain ⟨g, e, hB, hr⟩ := h3 hl; exact ⟨g, e, Nat.le_trans hc hB, hr⟩⟩
theorem DSl.of_own {w : World} {B : Nat} {v : Value} {l : List Dw} (h : w.ownsRow B 70 5 v l.length (flat l)) : DSl w B v l := by
  rcases h.2 with ⟨rfl, h2⟩ | ⟨g, cap, cur, hv, hb, hg, hn, hc, hs, ht⟩
  · exact ⟨none, 0, by rw [h2], by omega, fun h => absurd h (by omega)⟩
  · exact ⟨_, cap, hv, hn, fun _ => ⟨g, rfl, hb, cur, hg, ht⟩⟩
theorem DSl.mk {w : World} {B g n cap : Nat} {l : List Dw} (hn : n = l.length) (hc : n ≤ cap) (hB : B ≤ g) (hr : DRow w g l) : DSl w B (.slice (some ⟨g, 0, none⟩) n cap) l := by
  subst hn; exact ⟨_, _, rfl, hc, fun _ => ⟨g, rfl, hB, hr⟩⟩
theorem DSl.nil {w : World} {B cap : Nat} {a : Option Addr} : DSl w B (.slice a 0 cap) [] := ⟨_, _, rfl, Nat.zero_le _, fun h => absurd h (by simp)⟩
end Go.Proofs.YtlmiebeffdcfhaaGreat
namespace Go.Proofs.YtlmiebeffdcfhaaGreat
open Go.RowKit
theorem dw_ext {x y : Dw} (h0 : x.n.a = y.n.a) (h1 : x.n.b = y.n.b) (h2 : x.n.c = y.n.c) (h3 : x.n.d = y.n.d) (h4 : x.e = y.e) : x = y := by
  obtain ⟨⟨a, b, c, d⟩, e⟩ := x
  obtain ⟨⟨p, q, r, s⟩, t⟩ := y
  simp only [] at h0 h1 h2 h3 h4
  subst h0 h1 h2 h3 h4
  rfl
/-- Two fractions are the same, field by field. -/
def eqDB (x y : Dw) : Bool := x.n.a == y.n.a && (x.n.b == y.n.b && (x.n.c == y.n.c && (x.n.d == y.n.d && x.e == y.e)))
theorem eqDB_iff {x y : Dw} : eqDB x y = true ↔ x = y := by
  simp only [eqDB, Bool.and_eq_true, beq_iff_eq]
  exact ⟨fun ⟨h0, h1, h2, h3, h4⟩ => dw_ext h0 h1 h2 h3 h4, fun h => by subst h; exact ⟨rfl, rfl, rfl, rfl, rfl⟩⟩
theorem eqDB_no {x y : Dw} (h : x ≠ y) : eqDB x y = false := by
  rw [Bool.eq_false_iff]; exact fun k => h (eqDB_iff.1 k)
theorem ite5 (p q r s t : Prop) [Decidable p] [Decidable q] [Decidable r] [Decidable s] [Decidable t] (w : World) :
    (if p then if q then if r then if s then if t then Result.ok (Value.bool true) w else Result.ok (Value.bool false) w else Result.ok (Value.bool false) w else Result.ok (Value.bool false) w else Result.ok (Value.bool false) w else Result.ok (Value.bool false) w) =
    Result.ok (Value.bool (decide p && (decide q && (decide r && (decide s && decide t))))) w := by
  by_cases p <;> by_cases q <;> by_cases r <;> by_cases s <;> by_cases t <;> simp [*]
set_option maxRecDepth 100000 in
set_option maxHeartbeats 1600000 in
theorem eqD (x y : Dw) (w : World) : (binOp .eql 70 (.agg #[.int .i64 x.n.a, .int .i64 x.n.b, .int .i64 x.n.c, .int .i64 x.n.d, .int .i64 x.e]) (.agg #[.int .i64 y.n.a, .int .i64 y.n.b, .int .i64 y.n.c, .int .i64 y.n.d, .int .i64 y.e])).run Tryz.prog w = .ok (.bool (eqDB x y)) w := by
  rw [run_eql_struct, run_equalIn_struct _ 9999 _ _ _ (by kernel_rfl) (by kernel_rfl)]
  simp [go_sem]
  rw [ite5]
  rfl
set_option maxRecDepth 100000 in
set_option maxHeartbeats 1600000 in
theorem neD (x y : Dw) (w : World) : (binOp .neq 70 (.agg #[.int .i64 x.n.a, .int .i64 x.n.b, .int .i64 x.n.c, .int .i64 x.n.d, .int .i64 x.e]) (.agg #[.int .i64 y.n.a, .int .i64 y.n.b, .int .i64 y.n.c, .int .i64 y.n.d, .int .i64 y.e])).run Tryz.prog w = .ok (.bool (!eqDB x y)) w := by
  rw [run_neq_struct]
  have h := eqD x y w
  rw [run_eql_struct] at h
  generalize (Op.equalIn 10000 70 (.agg #[.int .i64 x.n.a, .int .i64 x.n.b, .int .i64 x.n.c, .int .i64 x.n.d, .int .i64 x.e]) (.agg #[.int .i64 y.n.a, .int .i64 y.n.b, .int .i64 y.n.c, .int .i64 y.n.d, .int .i64 y.e])).run Tryz.prog w = r at *
  cases r with
  | ok b w1 => simp only [Result.andThen_ok, Result.ok.injEq, Value.bool.injEq] at h ⊢; exact ⟨by rw [h.1], h.2⟩
  | halt a w1 => simp [Result.andThen] at h
end Go.Proofs.YtlmiebeffdcfhaaGreat
namespace Go.Proofs.YtlmiebeffdcfhaaGreat
open Go.ChangeShapes Go.WideShapes Go.ChangeAt Go.RowKit Go.Lib Go.Joins
end Go.Proofs.YtlmiebeffdcfhaaGreat
