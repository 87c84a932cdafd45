/- NewDOmega and IsValidDOmega of the program. -/
import Derived.Test.YtkcpemkahkkcmaaGreatBaseB04
import Derived.Laws.StructEq
namespace Go.Proofs.YtkcpemkahkkcmaaGreat
open Go.RowKit
attribute [local irreducible] World.cell?
theorem set5_blk {g b : Nat} {W : World} {o : Obj} {u0 u1 u2 u3 u4 : Value} (hn : b ≠ g) (h : W.heap[b]? = some o) :
    (((((W.setCell ⟨g, 0, none⟩ u0).setCell ⟨g, 1, none⟩ u1).setCell ⟨g, 2, none⟩ u2).setCell ⟨g, 3, none⟩ u3).setCell ⟨g, 4, none⟩ u4).heap[b]? = some o := by
  rw [Below.heap_setCell _ _ _ _ (by simpa using hn)]
  exact set4_blk hn h
theorem set5_at {g : Nat} {W : World} {t : TypeId} {z0 z1 z2 z3 z4 u0 u1 u2 u3 u4 : Value} (h : W.heap[g]? = some (.cells #[z0, z1, z2, z3, z4] t (0, 0))) :
    (((((W.setCell ⟨g, 0, none⟩ u0).setCell ⟨g, 1, none⟩ u1).setCell ⟨g, 2, none⟩ u2).setCell ⟨g, 3, none⟩ u3).setCell ⟨g, 4, none⟩ u4).heap[g]? = some (.cells #[u0, u1, u2, u3, u4] t (0, 0)) :=
  heap_set (heap_set (heap_set (heap_set (heap_set h 0 u0) 1 u1) 2 u2) 3 u3) 4 u4
theorem blk_cells5 {g : Nat} {W : World} {t : TypeId} {z0 z1 z2 z3 z4 : Value} (h : W.heap[g]? = some (.cells #[z0, z1, z2, z3, z4] t (0, 0))) :
    W.cell? ⟨g, 0, none⟩ = some z0 ∧ W.cell? ⟨g, 1, none⟩ = some z1 ∧ W.cell? ⟨g, 2, none⟩ = some z2 ∧ W.cell? ⟨g, 3, none⟩ = some z3 ∧ W.cell? ⟨g, 4, none⟩ = some z4 :=
  ⟨cell_at h 0 _ rfl, cell_at h 1 _ rfl, cell_at h 2 _ rfl, cell_at h 3 _ rfl, cell_at h 4 _ rfl⟩
set_option maxRecDepth 100000 in
set_option maxHeartbeats 400000 in
theorem lin_yes (x lo hi : Int) (w : World) (h0 : lo ≤ x) (h1 : x ≤ hi) :
    Calls Tryz.prog 56 #[.int .i64 x, .int .i64 lo, .int .i64 hi] w fun e w' => e = .returned (.bool true) ∧ w = w' := by
  go_enter Tryz.func56, Tryz.ntmps56
  go_wp2_with fail
  go_ret
  exact ⟨rfl, rfl⟩
set_option maxRecDepth 100000 in
set_option maxHeartbeats 400000 in
theorem lin_no (x lo hi : Int) (w : World) (h : ¬ (lo ≤ x ∧ x ≤ hi)) :
    Calls Tryz.prog 56 #[.int .i64 x, .int .i64 lo, .int .i64 hi] w fun e w' => e = .returned (.bool false) ∧ w = w' := by
  have h' : x < lo ∨ hi < x := by omega
  clear h
  rcases h' with h | h
  · have hd : decide (lo ≤ x) = false := by simpa using h
    go_enter Tryz.func56, Tryz.ntmps56
    go_wp2_with fail
    go_ret
    exact ⟨rfl, rfl⟩
  · by_cases h0 : lo ≤ x
    · have hd : decide (x ≤ hi) = false := by simpa using h
      go_enter Tryz.func56, Tryz.ntmps56
      go_wp2_with fail
      go_ret
      exact ⟨rfl, rfl⟩
    · have hd : decide (lo ≤ x) = false := by simpa using h0
      clear h0
      go_enter Tryz.func56, Tryz.ntmps56
      go_wp2_with fail
      go_ret
      exact ⟨rfl, rfl⟩
theorem lin_any (x lo hi : Int) (b : Bool) (w : World) (h : decide (lo ≤ x ∧ x ≤ hi) = b) :
    Calls Tryz.prog 56 #[.int .i64 x, .int .i64 lo, .int .i64 hi] w fun e w' => e = .returned (.bool b) ∧ w = w' := by
  cases b
  · exact lin_no x lo hi w (by simpa using h)
  · have := of_decide_eq_true h
    exact lin_yes x lo hi w this.1 this.2
set_option maxRecDepth 100000 in
set_option maxHeartbeats 1600000 in
theorem inew_go (x : Zw) (k : Nat) (r : Dw) (t : Bool) (w : World) (h : x.ok) (h1 : k ≤ 120)
    (hy : (red k x).2 ≤ 60 → r = ⟨(red k x).1, (red k x).2⟩ ∧ t = true) (hn : 60 < (red k x).2 → r = .zero ∧ t = false) :
    Calls Tryz.prog 76 #[(.agg #[.int .i64 x.a, .int .i64 x.b, .int .i64 x.c, .int .i64 x.d]), .int .i64 k] w fun e w' => e = .returned (.tuple #[(.agg #[.int .i64 r.n.a, .int .i64 r.n.b, .int .i64 r.n.c, .int .i64 r.n.d, .int .i64 r.e]), .bool t]) ∧ Below w.heap.size w w' := by
  have Hv := Lib.hid (okB_true.2 h)
  have Hc := Lib.hid (icancel x k h1)
  have Hr0 := Lib.hid (alloc_blk (.cells #[.int .i64 0, .int .i64 0, .int .i64 0, .int .i64 0, .int .i64 0] 54) (heap_alloc_new w (.cells #[.int .i64 x.a, .int .i64 x.b, .int .i64 x.c, .int .i64 x.d] 52)))
  have Hr1 := Lib.hid (show ((w.alloc (.cells #[.int .i64 x.a, .int .i64 x.b, .int .i64 x.c, .int .i64 x.d] 52)).alloc (.cells #[.int .i64 0, .int .i64 0, .int .i64 0, .int .i64 0, .int .i64 0] 54)).heap[w.heap.size + 1]? = some (.cells #[.int .i64 0, .int .i64 0, .int .i64 0, .int .i64 0, .int .i64 0] 54 (0, 0)) from by simpa using heap_alloc_new (w.alloc (.cells #[.int .i64 x.a, .int .i64 x.b, .int .i64 x.c, .int .i64 x.d] 52)) (.cells #[.int .i64 0, .int .i64 0, .int .i64 0, .int .i64 0, .int .i64 0] 54))
  have hj := red_le k x
  generalize (red k x).1 = m at *
  generalize (red k x).2 = j at *
  go_enter Tryz.func76, Tryz.ntmps76
  go_wp2_with fail
  refine (ivalid_any x true _ Hv.out).mono ?_
  rintro e w1 ⟨rfl, hb1⟩
  have hs1 := hb1.size
  simp at hs1
  have zg0 : w.heap.size < w1.heap.size := by omega
  have zg1 : w.heap.size + 1 < w1.heap.size := by omega
  have Hr01 := Lib.hid (below_blk hb1 (by simp; omega) Hr0.out)
  have Hr11 := Lib.hid (below_blk hb1 (by simp) Hr1.out)
  obtain ⟨c0, c1, c2, c3⟩ := blk_cells Hr01.out
  have Hb1 := Lib.hid (below_up (B := w.heap.size) (w := w) (by go_grown) hb1 (by simp; omega))
  clear hb1
  go_wp2_with fail
  refine (Hc.out _).mono ?_
  rintro e w2 ⟨rfl, hb2⟩
  have hs2 := hb2.size
  have zg20 : w.heap.size < w2.heap.size := by omega
  have zg21 : w.heap.size + 1 < w2.heap.size := by omega
  have hr0 := below_blk hb2 zg0 Hr01.out
  have hr1 := below_blk hb2 zg1 Hr11.out
  obtain ⟨d0, d1, d2, d3⟩ := blk_cells hr0
  have f0 := fun o => free_at hr0 o
  obtain ⟨e0, e1, e2, e3, e4⟩ := blk_cells5 hr1
  have f1 := fun o => free_at hr1 o
  have Hr02 := Lib.hid hr0
  have Hr12 := Lib.hid hr1
  have Hb2 := Lib.hid (below_up Hb1.out hb2 (by omega))
  clear hb2 hr0 hr1 c0 c1 c2 c3
  by_cases hjj : 60 < j
  · obtain ⟨rfl, rfl⟩ := hn hjj
    have hd : decide ((60 : Int) < (j : Int)) = true := decide_eq_true (by omega)
    go_wp2_with fail
    obtain ⟨k0, k1, k2, k3, k4⟩ := blk_cells5 (set5_at (u0 := .int .i64 0) (u1 := .int .i64 0) (u2 := .int .i64 0) (u3 := .int .i64 0) (u4 := .int .i64 0) (set4_blk (u0 := .int .i64 m.a) (u1 := .int .i64 m.b) (u2 := .int .i64 m.c) (u3 := .int .i64 m.d) (g := w.heap.size) (by omega) Hr12.out))
    refine bodyPost_ret (v := .tuple #[(.agg #[.int .i64 Dw.zero.n.a, .int .i64 Dw.zero.n.b, .int .i64 Dw.zero.n.c, .int .i64 Dw.zero.n.d, .int .i64 Dw.zero.e]), .bool false]) (by simp only [results, Tryz.results76]; simp [go_sem, k0, k1, k2, k3, k4, Dw.zero, Zw.zero]) rfl ⟨rfl, ?_⟩
    have := Hb2.out
    go_grown
  · obtain ⟨rfl, rfl⟩ := hy (by omega)
    have hd : decide ((60 : Int) < (j : Int)) = false := decide_eq_false (by omega)
    go_wp2_with fail
    obtain ⟨k0, k1, k2, k3, k4⟩ := blk_cells5 (set5_at (u0 := .int .i64 m.a) (u1 := .int .i64 m.b) (u2 := .int .i64 m.c) (u3 := .int .i64 m.d) (u4 := .int .i64 j) (set4_blk (u0 := .int .i64 m.a) (u1 := .int .i64 m.b) (u2 := .int .i64 m.c) (u3 := .int .i64 m.d) (g := w.heap.size) (by omega) Hr12.out))
    refine bodyPost_ret (v := .tuple #[(.agg #[.int .i64 (Dw.mk m (j : Int)).n.a, .int .i64 (Dw.mk m (j : Int)).n.b, .int .i64 (Dw.mk m (j : Int)).n.c, .int .i64 (Dw.mk m (j : Int)).n.d, .int .i64 (Dw.mk m (j : Int)).e]), .bool true]) (by simp only [results, Tryz.results76]; simp [go_sem, k0, k1, k2, k3, k4]) rfl ⟨rfl, ?_⟩
    have := Hb2.out
    go_grown
set_option maxRecDepth 100000 in
set_option maxHeartbeats 1600000 in
theorem inew_bad (x : Zw) (k : Int) (w : World) (h0 : -9223372036854775808 ≤ k) (h1 : k ≤ 9223372036854775807) (h : ¬ (x.ok ∧ 0 ≤ k ∧ k ≤ 120)) :
    Calls Tryz.prog 76 #[(.agg #[.int .i64 x.a, .int .i64 x.b, .int .i64 x.c, .int .i64 x.d]), .int .i64 k] w fun e w' => e = .returned (.tuple #[(.agg #[.int .i64 Dw.zero.n.a, .int .i64 Dw.zero.n.b, .int .i64 Dw.zero.n.c, .int .i64 Dw.zero.n.d, .int .i64 Dw.zero.e]), .bool false]) ∧ Below w.heap.size w w' := by
  have Hr1 := Lib.hid (show ((w.alloc (.cells #[.int .i64 x.a, .int .i64 x.b, .int .i64 x.c, .int .i64 x.d] 52)).alloc (.cells #[.int .i64 0, .int .i64 0, .int .i64 0, .int .i64 0, .int .i64 0] 54)).heap[w.heap.size + 1]? = some (.cells #[.int .i64 0, .int .i64 0, .int .i64 0, .int .i64 0, .int .i64 0] 54 (0, 0)) from by simpa using heap_alloc_new (w.alloc (.cells #[.int .i64 x.a, .int .i64 x.b, .int .i64 x.c, .int .i64 x.d] 52)) (.cells #[.int .i64 0, .int .i64 0, .int .i64 0, .int .i64 0, .int .i64 0] 54))
  have hk : okB x = true → k < 0 ∨ 120 < k := fun hx => by
    have hx := okB_true.1 hx
    by_cases h2 : k < 0
    · exact .inl h2
    · exact .inr (by have : ¬ k ≤ 120 := fun h3 => h ⟨hx, by omega, h3⟩; omega)
  have Hi := Lib.hid (fun w => ivalid_any x (okB x) w rfl)
  clear h
  generalize okB x = b at *
  go_enter Tryz.func76, Tryz.ntmps76
  go_wp2_with fail
  refine (Hi.out _).mono ?_
  rintro e w1 ⟨rfl, hb1⟩
  have hr1 := below_blk hb1 (by simp) Hr1.out
  obtain ⟨e0, e1, e2, e3, e4⟩ := blk_cells5 hr1
  have f1 := fun o => free_at hr1 o
  have Hr11 := Lib.hid hr1
  have Hb1 := Lib.hid (below_up (B := w.heap.size) (w := w) (by go_grown) hb1 (by simp; omega))
  clear hb1 hr1
  cases b
  · clear hk
    go_wp2_with fail
    obtain ⟨k0, k1, k2, k3, k4⟩ := blk_cells5 (set5_at (u0 := .int .i64 0) (u1 := .int .i64 0) (u2 := .int .i64 0) (u3 := .int .i64 0) (u4 := .int .i64 0) Hr11.out)
    refine bodyPost_ret (v := .tuple #[(.agg #[.int .i64 Dw.zero.n.a, .int .i64 Dw.zero.n.b, .int .i64 Dw.zero.n.c, .int .i64 Dw.zero.n.d, .int .i64 Dw.zero.e]), .bool false]) (by simp only [results, Tryz.results76]; simp [go_sem, k0, k1, k2, k3, k4, Dw.zero, Zw.zero]) rfl ⟨rfl, ?_⟩
    have := Hb1.out
    go_grown
  · rcases hk rfl with hk | hk
    · go_wp2_with fail
      obtain ⟨k0, k1, k2, k3, k4⟩ := blk_cells5 (set5_at (u0 := .int .i64 0) (u1 := .int .i64 0) (u2 := .int .i64 0) (u3 := .int .i64 0) (u4 := .int .i64 0) Hr11.out)
      refine bodyPost_ret (v := .tuple #[(.agg #[.int .i64 Dw.zero.n.a, .int .i64 Dw.zero.n.b, .int .i64 Dw.zero.n.c, .int .i64 Dw.zero.n.d, .int .i64 Dw.zero.e]), .bool false]) (by simp only [results, Tryz.results76]; simp [go_sem, k0, k1, k2, k3, k4, Dw.zero, Zw.zero]) rfl ⟨rfl, ?_⟩
      have := Hb1.out
      go_grown
    · have hk0 : ¬ k < 0 := by omega
      go_wp2_with fail
      obtain ⟨k0, k1, k2, k3, k4⟩ := blk_cells5 (set5_at (u0 := .int .i64 0) (u1 := .int .i64 0) (u2 := .int .i64 0) (u3 := .int .i64 0) (u4 := .int .i64 0) Hr11.out)
      refine bodyPost_ret (v := .tuple #[(.agg #[.int .i64 Dw.zero.n.a, .int .i64 Dw.zero.n.b, .int .i64 Dw.zero.n.c, .int .i64 Dw.zero.n.d, .int .i64 Dw.zero.e]), .bool false]) (by simp only [results, Tryz.results76]; simp [go_sem, k0, k1, k2, k3, k4, Dw.zero, Zw.zero]) rfl ⟨rfl, ?_⟩
      have := Hb1.out
      go_grown
theorem inew_any (x : Zw) (k : Int) (w : World) (h0 : -9223372036854775808 ≤ k) (h1 : k ≤ 9223372036854775807) :
    Calls Tryz.prog 76 #[(.agg #[.int .i64 x.a, .int .i64 x.b, .int .i64 x.c, .int .i64 x.d]), .int .i64 k] w fun e w' => e = .returned (.tuple #[(.agg #[.int .i64 (newV x k).n.a, .int .i64 (newV x k).n.b, .int .i64 (newV x k).n.c, .int .i64 (newV x k).n.d, .int .i64 (newV x k).e]), .bool (newB x k)]) ∧ Below w.heap.size w w' := by
  by_cases h : x.ok ∧ 0 ≤ k ∧ k ≤ 120
  · obtain ⟨hx, h2, h3⟩ := h
    obtain ⟨n, rfl⟩ := Int.eq_ofNat_of_zero_le h2
    refine inew_go x n _ _ w hx (by omega) (fun hj => ?_) (fun hj => ?_)
    · have hb : newB x n = true := newB_iff.2 ⟨hx, h2, h3, by simpa using hj⟩
      exact ⟨by rw [newV_of hb]; simp, hb⟩
    · have hb : newB x n = false := by
        rw [Bool.eq_false_iff]; intro hb; have := (newB_iff.1 hb).2.2.2; simp at this; omega
      exact ⟨by rw [newV, hb]; rfl, hb⟩
  · have hb : newB x k = false := by
      rw [Bool.eq_false_iff]; intro hb; have := newB_iff.1 hb; exact h ⟨this.1, this.2.1, this.2.2.1⟩
    rw [newV, hb]
    exact inew_bad x k w h0 h1 h
end Go.Proofs.YtkcpemkahkkcmaaGreat
