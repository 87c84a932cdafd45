/- ParseDOmega of the model. -/
import Derived.Test.YtggmcahglcnleaaDoorTxF
import Derived.Test.YtggmcahglcnleaaDoorDwN
namespace Go.Proofs.YtggmcahglcnleaaDoor
open Go.RowKit Go.Lib
theorem set1_blk {g b o : Nat} {W : World} {x : Obj} {u : Value} (hn : b ≠ g) (h : W.heap[b]? = some x) : (W.setCell ⟨g, o, none⟩ u).heap[b]? = some x := by
  rw [Below.heap_setCell _ _ _ _ (by simpa using hn)]; exact h
theorem pcs_small (c : UInt8) : ∀ (n : Nat) (s : ByteArray), s.size ≤ n → ∀ p ∈ pcs c s, p.size ≤ s.size := by
  intro n
  induction n with
  | zero =>
    intro s hs p hp
    rw [pcs_miss c s (fun j h => by rw [List.getElem?_eq_none (by simp; omega)] at h; cases h)] at hp
    simp at hp; subst hp; exact Nat.le_refl _
  | succ n ih =>
    intro s hs p hp
    rcases index_spec s.data.toList [c] with ⟨_, hno⟩ | ⟨i, _, hi, ho, hno⟩
    · rw [pcs_miss c s (fun j h => by
        have hj : j < s.data.toList.length := by
          rcases Nat.lt_or_ge j s.data.toList.length with h' | h'
          · exact h'
          · rw [List.getElem?_eq_none h'] at h; cases h
        have := hno j (Nat.le_of_lt hj)
        rw [occ_one, h] at this
        simp at this)] at hp
      simp at hp; subst hp; exact Nat.le_refl _
    · have hget : s.data.toList[i]? = some c := by rw [occ_one] at ho; simpa using ho
      rw [pcs_hit c s i hget (fun j hj h => by
        have := hno j hj
        rw [occ_one, h] at this
        simp at this)] at hp
      rcases List.mem_cons.1 hp with rfl | hp
      · rw [ByteArray.size_extract]; omega
      · have h2 : (s.extract (i + 1) s.size).size ≤ n := by
          rw [ByteArray.size_extract]; omega
        have := ih _ h2 p hp
        rw [ByteArray.size_extract] at this
        omega
theorem no_text {x : Dw} {s p0 p1 : ByteArray} (h2 : pcs 47 s = [p0, p1]) (h : textD x = s) : x.ok := by
  by_cases hx : x.ok
  · exact hx
  · rw [textD_no hx] at h
    rw [← h, pcs_one (by simp)] at h2
    cases h2
attribute [local irreducible] World.cell?
set_option maxRecDepth 100000 in
set_option maxHeartbeats 1600000 in
theorem sparse_bad2 (s : ByteArray) (w : World) (hs : s.size ≤ 1048576) (h : (pcs 47 s).length ≠ 2) :
    Calls Tryd.prog 11 #[.string s] w fun e w' => e = .returned (.tuple #[(.agg #[.int .i64 (parseV s).n.a, .int .i64 (parseV s).n.b, .int .i64 (parseV s).n.c, .int .i64 (parseV s).n.d, .int .i64 (parseV s).e]), .bool (parseB s)]) ∧ Below w.heap.size w w' := by
  rw [(parse_no (none_two h)).1, (parse_no (none_two h)).2]
  obtain ⟨p0, rest, hp⟩ : ∃ p0 rest, pcs 47 s = p0 :: rest := by
    cases hq : pcs 47 s with
    | nil => have := pcs_len 47 s; rw [hq] at this; simp at this
    | cons a b => exact ⟨a, b, rfl⟩
  have hp0 : p0.size ≤ 1048576 := Nat.le_trans (pcs_small 47 _ s (Nat.le_refl _) p0 (by rw [hp]; simp)) hs
  have Hr0 := Lib.hid (heap_alloc_new w (.cells #[.int .i64 0, .int .i64 0, .int .i64 0, .int .i64 0, .int .i64 0] 27))
  have H1 := fun w => ssplit s 47 w hs
  rw [hp] at H1 h
  have H1 := Lib.hid H1
  have H4 := Lib.hid (fun w => ssplit p0 44 w hp0)
  have hl : (rest.length + 1 : Nat) ≠ 2 := by simpa using h
  have hn : ((rest.length + 1 : Nat) : Int) ≠ 2 := by omega
  have hd : (((rest.length + 1 : Nat) : Int) != 2) = true := by simp; omega
  have hd2 : (((rest.length : Int) + 1) != 2) = true := by simp; omega
  have hpos : (0 : Int) < (rest.length : Int) + 1 := by omega
  clear h hs hp hl hn
  generalize (pcs 44 p0).length = n4 at *
  go_enter Tryd.func11, Tryd.ntmps11
  go_wp2_with fail
  refine (H1.out _).mono ?_
  rintro e w1 ⟨⟨g2, cap2, rfl, hg2, cs2, hr2, hc2⟩, hb1⟩
  have hx2 := cell_at hr2 0 _ (hc2 0 (by simp))
  simp at hx2
  have hr0 := below_blk hb1 (lt_of_block Hr0.out) Hr0.out
  have hs1 := hb1.size
  simp at hs1 hg2
  have Hq0 := Lib.hid hr0
  have Hb1 := Lib.hid (below_up (B := w.heap.size) (w := w) (by go_grown) hb1 (by simp))
  clear hb1 hr0 hc2 hr2
  simp only [List.length_cons]
  go_wp2_with fail
  refine (H4.out _).mono ?_
  rintro e w2 ⟨⟨g4, cap4, rfl, hg4, cs4, hr4, hc4⟩, hb2⟩
  have hr0 := below_blk hb2 (lt_of_block Hq0.out) Hq0.out
  obtain ⟨e0, e1, e2, e3, e4⟩ := blk_cells5 hr0
  have f1 := fun o => free_at hr0 o
  have Hq1 := Lib.hid hr0
  have Hb2 := Lib.hid (below_nx Hb1.out hb2)
  clear hb2 hr0 hc4 hr4 hx2
  go_wp2_with fail
  obtain ⟨k0, k1, k2, k3, k4⟩ := blk_cells5 (set5_at (u0 := .int .i64 0) (u1 := .int .i64 0) (u2 := .int .i64 0) (u3 := .int .i64 0) (u4 := .int .i64 0) Hq1.out)
  refine bodyPost_ret (v := .tuple #[(.agg #[.int .i64 Dw.zero.n.a, .int .i64 Dw.zero.n.b, .int .i64 Dw.zero.n.c, .int .i64 Dw.zero.n.d, .int .i64 Dw.zero.e]), .bool false]) (by simp only [results, Tryd.results11]; simp [go_sem, k0, k1, k2, k3, k4, Dw.zero, Zw.zero]) rfl ⟨rfl, ?_⟩
  have := Hb2.out
  go_grown
set_option maxRecDepth 100000 in
set_option maxHeartbeats 1600000 in
theorem sparse_bad4 (s p0 p1 : ByteArray) (w : World) (hs : s.size ≤ 1048576) (h2 : pcs 47 s = [p0, p1]) (h : (pcs 44 p0).length ≠ 4) :
    Calls Tryd.prog 11 #[.string s] w fun e w' => e = .returned (.tuple #[(.agg #[.int .i64 (parseV s).n.a, .int .i64 (parseV s).n.b, .int .i64 (parseV s).n.c, .int .i64 (parseV s).n.d, .int .i64 (parseV s).e]), .bool (parseB s)]) ∧ Below w.heap.size w w' := by
  rw [(parse_no (none_four h2 h)).1, (parse_no (none_four h2 h)).2]
  have hp0 : p0.size ≤ 1048576 := Nat.le_trans (pcs_small 47 _ s (Nat.le_refl _) p0 (by rw [h2]; simp)) hs
  have Hr0 := Lib.hid (heap_alloc_new w (.cells #[.int .i64 0, .int .i64 0, .int .i64 0, .int .i64 0, .int .i64 0] 27))
  have H1 := fun w => ssplit s 47 w hs
  rw [h2] at H1
  have H1 := Lib.hid H1
  have H4 := Lib.hid (fun w => ssplit p0 44 w hp0)
  generalize pcs 44 p0 = l4 at *
  have hd : ((l4.length : Int) != 4) = true := by simp; omega
  clear h hs h2 hp0
  go_enter Tryd.func11, Tryd.ntmps11
  go_wp2_with fail
  refine (H1.out _).mono ?_
  rintro e w1 ⟨⟨g2, cap2, rfl, hg2, cs2, hr2, hc2⟩, hb1⟩
  have hx2 := cell_at hr2 0 _ (hc2 0 (by simp))
  simp at hx2
  have hr0 := below_blk hb1 (lt_of_block Hr0.out) Hr0.out
  have hs1 := hb1.size
  simp at hs1 hg2
  have Hq0 := Lib.hid hr0
  have Hb1 := Lib.hid (below_up (B := w.heap.size) (w := w) (by go_grown) hb1 (by simp))
  clear hb1 hr0 hc2 hr2
  simp only [List.length_cons, List.length_nil]
  go_wp2_with fail
  refine (H4.out _).mono ?_
  rintro e w2 ⟨⟨g4, cap4, rfl, hg4, cs4, hr4, hc4⟩, hb2⟩
  have hr0 := below_blk hb2 (lt_of_block Hq0.out) Hq0.out
  obtain ⟨e0, e1, e2, e3, e4⟩ := blk_cells5 hr0
  have f1 := fun o => free_at hr0 o
  have Hq1 := Lib.hid hr0
  have Hb2 := Lib.hid (below_nx Hb1.out hb2)
  clear hb2 hr0 hc4 hr4 hx2
  go_wp2_with fail
  obtain ⟨k0, k1, k2, k3, k4⟩ := blk_cells5 (set5_at (u0 := .int .i64 0) (u1 := .int .i64 0) (u2 := .int .i64 0) (u3 := .int .i64 0) (u4 := .int .i64 0) Hq1.out)
  refine bodyPost_ret (v := .tuple #[(.agg #[.int .i64 Dw.zero.n.a, .int .i64 Dw.zero.n.b, .int .i64 Dw.zero.n.c, .int .i64 Dw.zero.n.d, .int .i64 Dw.zero.e]), .bool false]) (by simp only [results, Tryd.results11]; simp [go_sem, k0, k1, k2, k3, k4, Dw.zero, Zw.zero]) rfl ⟨rfl, ?_⟩
  have := Hb2.out
  go_grown
set_option maxRecDepth 100000 in
set_option maxHeartbeats 6400000 in
theorem sparse_go (s p0 p1 q0 q1 q2 q3 : ByteArray) (w : World) (hs : s.size ≤ 1048576) (h2 : pcs 47 s = [p0, p1]) (h4 : pcs 44 p0 = [q0, q1, q2, q3]) :
    Calls Tryd.prog 11 #[.string s] w fun e w' => e = .returned (.tuple #[(.agg #[.int .i64 (parseV s).n.a, .int .i64 (parseV s).n.b, .int .i64 (parseV s).n.c, .int .i64 (parseV s).n.d, .int .i64 (parseV s).e]), .bool (parseB s)]) ∧ Below w.heap.size w w' := by
  have hp0 : p0.size ≤ 1048576 := Nat.le_trans (pcs_small 47 _ s (Nat.le_refl _) p0 (by rw [h2]; simp)) hs
  have hp1 : p1.size ≤ 1048576 := Nat.le_trans (pcs_small 47 _ s (Nat.le_refl _) p1 (by rw [h2]; simp)) hs
  have hq0 : q0.size ≤ 1048576 := Nat.le_trans (pcs_small 44 _ p0 (Nat.le_refl _) q0 (by rw [h4]; simp)) hp0
  have hq1 : q1.size ≤ 1048576 := Nat.le_trans (pcs_small 44 _ p0 (Nat.le_refl _) q1 (by rw [h4]; simp)) hp0
  have hq2 : q2.size ≤ 1048576 := Nat.le_trans (pcs_small 44 _ p0 (Nat.le_refl _) q2 (by rw [h4]; simp)) hp0
  have hq3 : q3.size ≤ 1048576 := Nat.le_trans (pcs_small 44 _ p0 (Nat.le_refl _) q3 (by rw [h4]; simp)) hp0
  have Hr0 := Lib.hid (heap_alloc_new w (.cells #[.int .i64 0, .int .i64 0, .int .i64 0, .int .i64 0, .int .i64 0] 27))
  have H1 := fun w => ssplit s 47 w hs
  rw [h2] at H1
  have H1 := Lib.hid H1
  have H4 := fun w => ssplit p0 44 w hp0
  rw [h4] at H4
  have H4 := Lib.hid H4
  have Hi0 := Lib.hid (spint q0 hq0)
  have Hi1 := Lib.hid (spint q1 hq1)
  have Hi2 := Lib.hid (spint q2 hq2)
  have Hi3 := Lib.hid (spint q3 hq3)
  have Hi4 := Lib.hid (spnum p1 hp1)
  have Hcand := Lib.hid (fun (a b c d e : Int) ga gb gc gd ge (x : Dw) (h : Reads s x) => cand (a := a) (b := b) (c := c) (d := d) (e := e) h2 h4 ga gb gc gd ge h)
  have Htext := Lib.hid (fun (x : Dw) (h : textD x = s) => no_text h2 h)
  have Hy := Lib.hid (fun (x : Dw) (h : Reads s x) => parse_yes h)
  have Hn := Lib.hid (fun (h : ∀ x, ¬ Reads s x) => parse_no h)
  clear hs h2 h4 hp0 hp1 hq0 hq1 hq2 hq3
  generalize parseV s = R at *
  generalize parseB s = PB at *
  go_enter Tryd.func11, Tryd.ntmps11
  go_wp2_with fail
  refine (H1.out _).mono ?_
  rintro e w1 ⟨⟨g2, cap2, rfl, hg2, cs2, hr2, hc2⟩, hb1⟩
  have hx2 := cell_at hr2 0 _ (hc2 0 (by simp))
  have hc20 := hc2 1 (by simp)
  simp at hx2 hc20
  have hr0 := below_blk hb1 (lt_of_block Hr0.out) Hr0.out
  have hs1 := hb1.size
  simp at hs1 hg2
  have Hq0 := Lib.hid hr0
  have Hr2 := Lib.hid hr2
  have Hc2 := Lib.hid hc20
  have Hb1 := Lib.hid (below_up (B := w.heap.size) (w := w) (by go_grown) hb1 (by simp))
  clear hb1 hr0 hc2 hr2 hc20
  simp only [List.length_cons, List.length_nil]
  go_wp2_with fail
  refine (H4.out _).mono ?_
  rintro e w2 ⟨⟨g4, cap4, rfl, hg4, cs4, hr4, hc4⟩, hb2⟩
  have hc40 := hc4 0 (by simp)
  have hc41 := hc4 1 (by simp)
  have hc42 := hc4 2 (by simp)
  have hc43 := hc4 3 (by simp)
  simp at hc40 hc41 hc42 hc43
  have hx4 := cell_at hr4 0 _ hc40
  have zz0 := lt_of_block (below_blk hb2 (lt_of_block Hq0.out) Hq0.out)
  have zz2 := lt_of_block (below_blk hb2 (lt_of_block Hr2.out) Hr2.out)
  have zz4 := lt_of_block hr4
  have Hq := Lib.hid (alloc_blk (.cells #[.int .i64 0, .int .i64 0, .int .i64 0, .int .i64 0, .int .i64 0] 27) (below_blk hb2 (lt_of_block Hq0.out) Hq0.out))
  have H2 := Lib.hid (alloc_blk (.cells #[.int .i64 0, .int .i64 0, .int .i64 0, .int .i64 0, .int .i64 0] 27) (below_blk hb2 (lt_of_block Hr2.out) Hr2.out))
  have H4b := Lib.hid (alloc_blk (.cells #[.int .i64 0, .int .i64 0, .int .i64 0, .int .i64 0, .int .i64 0] 27) hr4)
  have H6 := Lib.hid (heap_alloc_new w2 (.cells #[.int .i64 0, .int .i64 0, .int .i64 0, .int .i64 0, .int .i64 0] 27))
  have Hc40 := Lib.hid hc40
  have Hc41 := Lib.hid hc41
  have Hc42 := Lib.hid hc42
  have Hc43 := Lib.hid hc43
  have hb2' := below_nx Hb1.out hb2
  have Hb2 := Lib.hid (hb2'.alloc hb2'.size (.cells #[.int .i64 0, .int .i64 0, .int .i64 0, .int .i64 0, .int .i64 0] 27))
  have Hz := Lib.hid (And.intro zz0 (And.intro zz2 zz4))
  clear hb2 hb2' hc4 hr4 hx2 hc40 hc41 hc42 hc43 zz0 zz2
  simp only [List.length_cons, List.length_nil]
  go_wp2_with fail
  refine (Hi0.out _).mono ?_
  rintro e w3 ⟨⟨a, t0, rfl, ga, a0, a1⟩, hb3⟩
  clear hx4 zz4
  have r0 := below_blk hb3 (lt_of_block Hq.out) Hq.out
  have r2 := below_blk hb3 (lt_of_block H2.out) H2.out
  have r4 := below_blk hb3 (lt_of_block H4b.out) H4b.out
  have r6 := below_blk hb3 (lt_of_block H6.out) H6.out
  obtain ⟨gx0, gx1, gx2, gx3, gx4⟩ := blk_cells5 r6
  have gf := fun o => free_at r6 o
  have zk6 := lt_of_block r6
  have zk4 := lt_of_block r4
  have hx4 := cell_at r4 1 _ Hc41.out
  have hbb := below_nx Hb2.out hb3
  have hsz := hbb.size
  clear Hq H2 H4b H6
  have Hq := Lib.hid (set1_blk (g := w2.heap.size) (o := 0) (u := .int .i64 a) (by have := Hz.out.1; omega) r0)
  have H2 := Lib.hid (set1_blk (g := w2.heap.size) (o := 0) (u := .int .i64 a) (by have := Hz.out.2.1; omega) r2)
  have H4b := Lib.hid (set1_blk (g := w2.heap.size) (o := 0) (u := .int .i64 a) (by have := Hz.out.2.2; omega) r4)
  have H6 := Lib.hid (show (w3.setCell ⟨w2.heap.size, 0, none⟩ (.int .i64 a)).heap[w2.heap.size]? = some (.cells #[.int .i64 a, .int .i64 0, .int .i64 0, .int .i64 0, .int .i64 0] 27 (0, 0)) from heap_set r6 0 (.int .i64 a))
  have Hb3 := Lib.hid (hbb.setCell (p := ⟨w2.heap.size, 0, none⟩) (by have := Hb2.out.size; simp at this; exact Nat.le_trans (Nat.le_of_lt Hz.out.1) (Nat.le_refl _)) (.int .i64 a))
  clear r0 r2 r4 r6 hb3 hbb hsz
  have z24 : g4 ≠ w2.heap.size := by have := Hz.out.2.2; omega
  have z22 : g2 ≠ w2.heap.size := by have := Hz.out.2.1; omega
  go_wp2_with fail
  refine (Hi1.out _).mono ?_
  rintro e w4 ⟨⟨b, t1, rfl, gb, b0, b1⟩, hb4⟩
  clear hx4 gx0 gx1 gx2 gx3 gx4 gf zk4 zk6
  have r0 := below_blk hb4 (lt_of_block Hq.out) Hq.out
  have r2 := below_blk hb4 (lt_of_block H2.out) H2.out
  have r4 := below_blk hb4 (lt_of_block H4b.out) H4b.out
  have r6 := below_blk hb4 (lt_of_block H6.out) H6.out
  obtain ⟨gx0, gx1, gx2, gx3, gx4⟩ := blk_cells5 r6
  have gf := fun o => free_at r6 o
  have zk6 := lt_of_block r6
  have zk4 := lt_of_block r4
  have hx4 := cell_at r4 2 _ Hc42.out
  have hbb := below_nx Hb3.out hb4
  have hsz := hbb.size
  clear Hq H2 H4b H6
  have Hq := Lib.hid (set1_blk (g := w2.heap.size) (o := 1) (u := .int .i64 b) (by have := Hz.out.1; omega) r0)
  have H2 := Lib.hid (set1_blk (g := w2.heap.size) (o := 1) (u := .int .i64 b) (by have := Hz.out.2.1; omega) r2)
  have H4b := Lib.hid (set1_blk (g := w2.heap.size) (o := 1) (u := .int .i64 b) (by have := Hz.out.2.2; omega) r4)
  have H6 := Lib.hid (show (w4.setCell ⟨w2.heap.size, 1, none⟩ (.int .i64 b)).heap[w2.heap.size]? = some (.cells #[.int .i64 a, .int .i64 b, .int .i64 0, .int .i64 0, .int .i64 0] 27 (0, 0)) from heap_set r6 1 (.int .i64 b))
  have Hb4 := Lib.hid (hbb.setCell (p := ⟨w2.heap.size, 1, none⟩) (by have := Hb2.out.size; simp at this; exact Nat.le_trans (Nat.le_of_lt Hz.out.1) (Nat.le_refl _)) (.int .i64 b))
  clear r0 r2 r4 r6 hb4 hbb hsz
  go_wp2_with fail
  refine (Hi2.out _).mono ?_
  rintro e w5 ⟨⟨c, t2, rfl, gc, c0, c1⟩, hb5⟩
  clear hx4 gx0 gx1 gx2 gx3 gx4 gf zk4 zk6
  have r0 := below_blk hb5 (lt_of_block Hq.out) Hq.out
  have r2 := below_blk hb5 (lt_of_block H2.out) H2.out
  have r4 := below_blk hb5 (lt_of_block H4b.out) H4b.out
  have r6 := below_blk hb5 (lt_of_block H6.out) H6.out
  obtain ⟨gx0, gx1, gx2, gx3, gx4⟩ := blk_cells5 r6
  have gf := fun o => free_at r6 o
  have zk6 := lt_of_block r6
  have zk4 := lt_of_block r4
  have hx4 := cell_at r4 3 _ Hc43.out
  have hbb := below_nx Hb4.out hb5
  have hsz := hbb.size
  clear Hq H2 H4b H6
  have Hq := Lib.hid (set1_blk (g := w2.heap.size) (o := 2) (u := .int .i64 c) (by have := Hz.out.1; omega) r0)
  have H2 := Lib.hid (set1_blk (g := w2.heap.size) (o := 2) (u := .int .i64 c) (by have := Hz.out.2.1; omega) r2)
  have H4b := Lib.hid (set1_blk (g := w2.heap.size) (o := 2) (u := .int .i64 c) (by have := Hz.out.2.2; omega) r4)
  have H6 := Lib.hid (show (w5.setCell ⟨w2.heap.size, 2, none⟩ (.int .i64 c)).heap[w2.heap.size]? = some (.cells #[.int .i64 a, .int .i64 b, .int .i64 c, .int .i64 0, .int .i64 0] 27 (0, 0)) from heap_set r6 2 (.int .i64 c))
  have Hb5 := Lib.hid (hbb.setCell (p := ⟨w2.heap.size, 2, none⟩) (by have := Hb2.out.size; simp at this; exact Nat.le_trans (Nat.le_of_lt Hz.out.1) (Nat.le_refl _)) (.int .i64 c))
  clear r0 r2 r4 r6 hb5 hbb hsz
  go_wp2_with fail
  refine (Hi3.out _).mono ?_
  rintro e w6 ⟨⟨d, t3, rfl, gd, d0, d1⟩, hb6⟩
  clear hx4 gx0 gx1 gx2 gx3 gx4 gf zk4 zk6
  have r0 := below_blk hb6 (lt_of_block Hq.out) Hq.out
  have r2 := below_blk hb6 (lt_of_block H2.out) H2.out
  have r4 := below_blk hb6 (lt_of_block H4b.out) H4b.out
  have r6 := below_blk hb6 (lt_of_block H6.out) H6.out
  obtain ⟨gx0, gx1, gx2, gx3, gx4⟩ := blk_cells5 r6
  have gf := fun o => free_at r6 o
  have zk6 := lt_of_block r6
  have zk4 := lt_of_block r2
  have hx2 := cell_at r2 1 _ Hc2.out
  have hbb := below_nx Hb5.out hb6
  have hsz := hbb.size
  clear Hq H2 H4b H6
  have Hq := Lib.hid (set1_blk (g := w2.heap.size) (o := 3) (u := .int .i64 d) (by have := Hz.out.1; omega) r0)
  have H2 := Lib.hid (set1_blk (g := w2.heap.size) (o := 3) (u := .int .i64 d) (by have := Hz.out.2.1; omega) r2)
  have H4b := Lib.hid (set1_blk (g := w2.heap.size) (o := 3) (u := .int .i64 d) (by have := Hz.out.2.2; omega) r4)
  have H6 := Lib.hid (show (w6.setCell ⟨w2.heap.size, 3, none⟩ (.int .i64 d)).heap[w2.heap.size]? = some (.cells #[.int .i64 a, .int .i64 b, .int .i64 c, .int .i64 d, .int .i64 0] 27 (0, 0)) from heap_set r6 3 (.int .i64 d))
  have Hb6 := Lib.hid (hbb.setCell (p := ⟨w2.heap.size, 3, none⟩) (by have := Hb2.out.size; simp at this; exact Nat.le_trans (Nat.le_of_lt Hz.out.1) (Nat.le_refl _)) (.int .i64 d))
  clear r0 r2 r4 r6 hb6 hbb hsz
  go_wp2_with fail
  refine (Hi4.out _).mono ?_
  rintro e w7 ⟨⟨e, t4, rfl, ge, e0, e1⟩, hb7⟩
  clear hx2 gx0 gx1 gx2 gx3 gx4 gf zk4 zk6
  have r0 := below_blk hb7 (lt_of_block Hq.out) Hq.out
  have r2 := below_blk hb7 (lt_of_block H2.out) H2.out
  have r4 := below_blk hb7 (lt_of_block H4b.out) H4b.out
  have r6 := below_blk hb7 (lt_of_block H6.out) H6.out
  obtain ⟨gx0, gx1, gx2, gx3, gx4⟩ := blk_cells5 r6
  have gf := fun o => free_at r6 o
  have zk6 := lt_of_block r6
  have hbb := below_nx Hb6.out hb7
  have hsz := hbb.size
  clear Hq H2 H4b H6
  have Hq := Lib.hid (set1_blk (g := w2.heap.size) (o := 4) (u := .int .i64 e) (by have := Hz.out.1; omega) r0)
  have H2 := Lib.hid (set1_blk (g := w2.heap.size) (o := 4) (u := .int .i64 e) (by have := Hz.out.2.1; omega) r2)
  have H4b := Lib.hid (set1_blk (g := w2.heap.size) (o := 4) (u := .int .i64 e) (by have := Hz.out.2.2; omega) r4)
  have H6 := Lib.hid (show (w7.setCell ⟨w2.heap.size, 4, none⟩ (.int .i64 e)).heap[w2.heap.size]? = some (.cells #[.int .i64 a, .int .i64 b, .int .i64 c, .int .i64 d, .int .i64 e] 27 (0, 0)) from heap_set r6 4 (.int .i64 e))
  have Hb7 := Lib.hid (hbb.setCell (p := ⟨w2.heap.size, 4, none⟩) (by have := Hb2.out.size; simp at this; exact Nat.le_trans (Nat.le_of_lt Hz.out.1) (Nat.le_refl _)) (.int .i64 e))
  clear r0 r2 r4 r6 hb7 hbb hsz
  have Hx := Lib.hid (sformat_any ⟨⟨a, b, c, d⟩, e⟩)
  have Hc := Lib.hid (Hcand.out a b c d e ga gb gc gd ge)
  have Ht := Lib.hid (Htext.out ⟨⟨a, b, c, d⟩, e⟩)
  clear Hcand Htext ga gb gc gd ge
  generalize hT : textD ⟨⟨a, b, c, d⟩, e⟩ = T at *
  have HT := Lib.hid hT
  clear hT
  go_wp2_with fail
  refine (Hx.out _).mono ?_
  rintro e w8 ⟨rfl, hb8⟩
  clear gx0 gx1 gx2 gx3 gx4 gf zk6
  have r0 := below_blk hb8 (lt_of_block Hq.out) Hq.out
  have r6 := below_blk hb8 (lt_of_block H6.out) H6.out
  obtain ⟨gx0, gx1, gx2, gx3, gx4⟩ := blk_cells5 r6
  have gf := fun o => free_at r6 o
  have zk6 := lt_of_block r6
  obtain ⟨e0, e1, e2, e3, e4⟩ := blk_cells5 r0
  have f0 := fun o => free_at r0 o
  have zk0 := lt_of_block r0
  have Hq8 := Lib.hid r0
  have Hb8 := Lib.hid (below_nx Hb7.out hb8)
  clear r0 r6 hb8
  by_cases hTs : T = s
  · subst hTs
    have hok := Ht.out rfl
    obtain ⟨rfl, rfl⟩ := Hy.out _ ⟨hok, (textD_of hok).symm.trans HT.out⟩
    clear hok
    have hbe : (T.toList == T.toList) = true := beq_self_eq_true _
    go_wp2_with fail
    obtain ⟨k0, k1, k2, k3, k4⟩ := blk_cells5 (set5_at (u0 := .int .i64 a) (u1 := .int .i64 b) (u2 := .int .i64 c) (u3 := .int .i64 d) (u4 := .int .i64 e) Hq8.out)
    refine bodyPost_ret (v := .tuple #[(.agg #[.int .i64 (Dw.mk ⟨a, b, c, d⟩ e).n.a, .int .i64 (Dw.mk ⟨a, b, c, d⟩ e).n.b, .int .i64 (Dw.mk ⟨a, b, c, d⟩ e).n.c, .int .i64 (Dw.mk ⟨a, b, c, d⟩ e).n.d, .int .i64 (Dw.mk ⟨a, b, c, d⟩ e).e]), .bool true]) (by simp only [results, Tryd.results11]; simp [go_sem, k0, k1, k2, k3, k4]) rfl ⟨rfl, ?_⟩
    have := Hb8.out
    go_grown
  · have hno : ∀ x, ¬ Reads s x := by
      intro x hx
      have hx2 := Hc.out x hx
      have ht : textD ⟨⟨a, b, c, d⟩, e⟩ = s := by
        rw [← hx2, textD_of hx.1]; exact hx.2
      exact hTs (HT.out.symm.trans ht)
    obtain ⟨rfl, rfl⟩ := Hn.out hno
    clear hno
    have hbe : (T.toList == s.toList) = false := by
      rw [Bool.eq_false_iff]
      intro h
      have h := eq_of_beq h
      rw [ByteArray.toList_eq, ByteArray.toList_eq] at h
      exact hTs (ByteArray.ext (Array.toList_inj.1 h))
    clear hTs
    go_wp2_with fail
    obtain ⟨k0, k1, k2, k3, k4⟩ := blk_cells5 (set5_at (u0 := .int .i64 0) (u1 := .int .i64 0) (u2 := .int .i64 0) (u3 := .int .i64 0) (u4 := .int .i64 0) Hq8.out)
    refine bodyPost_ret (v := .tuple #[(.agg #[.int .i64 Dw.zero.n.a, .int .i64 Dw.zero.n.b, .int .i64 Dw.zero.n.c, .int .i64 Dw.zero.n.d, .int .i64 Dw.zero.e]), .bool false]) (by simp only [results, Tryd.results11]; simp [go_sem, k0, k1, k2, k3, k4, Dw.zero, Zw.zero]) rfl ⟨rfl, ?_⟩
    have := Hb8.out
    go_grown
theorem sparse_any (s : ByteArray) (w : World) (hs : s.size ≤ 1048576) :
    Calls Tryd.prog 11 #[.string s] w fun e w' => e = .returned (.tuple #[(.agg #[.int .i64 (parseV s).n.a, .int .i64 (parseV s).n.b, .int .i64 (parseV s).n.c, .int .i64 (parseV s).n.d, .int .i64 (parseV s).e]), .bool (parseB s)]) ∧ Below w.heap.size w w' := by
  match h2 : pcs 47 s with
  | [p0, p1] =>
    match h4 : pcs 44 p0 with
    | [q0, q1, q2, q3] => exact sparse_go s p0 p1 q0 q1 q2 q3 w hs h2 h4
    | [] | [_] | [_, _] | [_, _, _] | _ :: _ :: _ :: _ :: _ :: _ => exact sparse_bad4 s p0 p1 w hs h2 (by rw [h4]; simp)
  | [] | [_] | _ :: _ :: _ :: _ => exact sparse_bad2 s w hs (by rw [h2]; simp)
end Go.Proofs.YtggmcahglcnleaaDoor
