/- The draws of fractions. -/
import Derived.Test.YtkcpemkahkkcmaaDwU
import Derived.Test.YtkcpemkahkkcmaaBaseB03
namespace Go.Proofs.Ytkcpemkahkkcmaa
open Go.RowKit
theorem own_far5 {B g : Nat} {a w : World} {u0 u1 u2 u3 u4 : Value} (h : Own B a w) (hp : a.heap.size ≤ g) : Own B a (((((w.setCell ⟨g, 0, none⟩ u0).setCell ⟨g, 1, none⟩ u1).setCell ⟨g, 2, none⟩ u2).setCell ⟨g, 3, none⟩ u3).setCell ⟨g, 4, none⟩ u4) :=
  own_far (own_far4 h hp) (p := ⟨g, 4, none⟩) hp _
theorem CurAt.far5 {B g : Nat} {w : World} {u0 u1 u2 u3 u4 : Value} (h : CurAt w B) (hB : B < g) : CurAt (((((w.setCell ⟨g, 0, none⟩ u0).setCell ⟨g, 1, none⟩ u1).setCell ⟨g, 2, none⟩ u2).setCell ⟨g, 3, none⟩ u3).setCell ⟨g, 4, none⟩ u4) B :=
  h.own (own_set (own_set (own_set (own_set (own_set (own_refl g w) 0 u0) 1 u1) 2 u2) 3 u3) 4 u4) hB
theorem CurAt.drew {B : Nat} {w : World} (h : CurAt w B) : CurAt w.drew B := h
attribute [local irreducible] World.cell?
/-- A fraction is returned, its exponent an int. -/
def DRet (e : Ending) : Prop := ∃ x : Dw, e = .returned (.agg #[.int .i64 x.n.a, .int .i64 x.n.b, .int .i64 x.n.c, .int .i64 x.n.d, .int .i64 x.e]) ∧ -9223372036854775808 ≤ x.e ∧ x.e ≤ 9223372036854775807
theorem dret (x : Dw) (h0 : -9223372036854775808 ≤ x.e) (h1 : x.e ≤ 9223372036854775807) : DRet (.returned (.agg #[.int .i64 x.n.a, .int .i64 x.n.b, .int .i64 x.n.c, .int .i64 x.n.d, .int .i64 x.e])) := ⟨x, rfl, h0, h1⟩
theorem newV_e (n : Zw) (k : Int) : 0 ≤ (newV n k).e ∧ (newV n k).e ≤ 60 := by
  cases h : newB n k
  · rw [show newV n k = .zero from if_neg (by simp [h])]; decide
  · have := newV_ok h; exact ⟨this.2.1, this.2.2.1⟩
set_option maxRecDepth 100000 in
set_option maxHeartbeats 800000 in
theorem pickB (B b n cap : Nat) (l : List Int) (w : World) (hcur : CurAt w B) (hl : ListAt w b n (fun j => .int .i64 (l.getD j 0))) (hne : b ≠ B) (h1 : 1 ≤ n) (h2 : n ≤ 1000000) (hn : n = l.length) (lo hi : Int) (hb : ∀ v ∈ l, lo ≤ v ∧ v ≤ hi) :
    Calls Try.prog 121 #[.pointer (some ⟨B, 0, none⟩), .slice (some ⟨b, 0, none⟩) n cap] w fun e w' => (∃ v : Int, lo ≤ v ∧ v ≤ hi ∧ e = .returned (.int .i64 v)) ∧ CurAt w' B ∧ Own B w w' := by
  refine (pickInt_any B b n cap (fun j => l.getD j 0) w hcur hl hne h1 h2).mono ?_
  rintro e w1 ⟨⟨j, hj, rfl⟩, hc, ho⟩
  have hm : l.getD j 0 ∈ l := by rw [List.getD_eq_getElem?_getD, List.getElem?_eq_getElem (by omega)]; exact List.getElem_mem _
  exact ⟨⟨_, (hb _ hm).1, (hb _ hm).2, rfl⟩, hc, ho⟩
def dlist1 : List Int := [0, 1, 59, 60, 61]
theorem dlist1_at (w : World) : ListAt (w.alloc (.cells #[.int .i64 0, .int .i64 1, .int .i64 59, .int .i64 60, .int .i64 61] 3)) w.heap.size 5 (fun j => .int .i64 (dlist1.getD j 0)) := by
  refine zlist_at (heap_alloc_new _ _) 5 _ ?_
  intro j hj
  rcases (show j = 0 ∨ j = 1 ∨ j = 2 ∨ j = 3 ∨ j = 4 by omega) with rfl | rfl | rfl | rfl | rfl <;> rfl
def dlist2 : List Int := [0, 1, 5, 60, 61, -1]
theorem dlist2_at (w : World) : ListAt (w.alloc (.cells #[.int .i64 0, .int .i64 1, .int .i64 5, .int .i64 60, .int .i64 61, .int .i64 (-1)] 3)) w.heap.size 6 (fun j => .int .i64 (dlist2.getD j 0)) := by
  refine zlist_at (heap_alloc_new _ _) 6 _ ?_
  intro j hj
  rcases (show j = 0 ∨ j = 1 ∨ j = 2 ∨ j = 3 ∨ j = 4 ∨ j = 5 by omega) with rfl | rfl | rfl | rfl | rfl | rfl <;> rfl
set_option maxRecDepth 100000 in
set_option maxHeartbeats 1600000 in
theorem dw_any (B : Nat) (w : World) (hcur : CurAt w B) (hB : B < w.heap.size) :
    Calls Try.prog 131 #[.pointer (some ⟨B, 0, none⟩)] w fun e w' => DRet e ∧ CurAt w' B ∧ Own B w w' := by
  have Hr0_0 := Lib.hid (heap_alloc_new w (.cells #[.int .i64 0, .int .i64 0, .int .i64 0, .int .i64 0, .int .i64 0] 86))
  have Hc0 := Lib.hid (hcur.own (own_alloc (own_refl w.heap.size w) (.cells #[.int .i64 0, .int .i64 0, .int .i64 0, .int .i64 0, .int .i64 0] 86)) hB)
  have Ho0 := Lib.hid (own_alloc (own_refl B w) (.cells #[.int .i64 0, .int .i64 0, .int .i64 0, .int .i64 0, .int .i64 0] 86))
  have hB0 : B < (w.alloc (.cells #[.int .i64 0, .int .i64 0, .int .i64 0, .int .i64 0, .int .i64 0] 86)).heap.size := by simp; omega
  clear hcur
  have hn0 : w.heap.size ≠ B := by omega
  go_enter Try.func131, Try.ntmps131
  go_wp2_with fail
  refine (small_any B _ Hc0.out hB0).mono ?_
  rintro e w1 ⟨⟨x, rfl⟩, hc1, ho1⟩
  have hr0 := own_blk ho1 hn0 Hr0_0.out
  have zg0 := lt_of_block hr0
  obtain ⟨c0_0, c0_1, c0_2, c0_3, c0_4⟩ := blk_cells5 hr0
  have f0 := fun o => free_at hr0 o
  have Hq1_0 := Lib.hid hr0
  have Hr1_0 := Lib.hid hr0
  have hBq1 := Nat.lt_of_lt_of_le hB0 ho1.size
  have Hp1 := Lib.hid (own_trans Ho0.out ho1)
  have Hx1 := Lib.hid hc1
  have Hc1 := Lib.hid hc1
  have Ho1 := Lib.hid (own_trans Ho0.out ho1)
  have hB1 := hBq1
  clear hr0
  clear hc1 ho1
  go_wp2_with fail
  refine (below_any B 6 _ Hc1.out (by omega) (by omega)).mono ?_
  rintro e w2 ⟨⟨k, k0, k1, rfl⟩, hc2, ho2⟩
  clear zg0 f0 c0_0 c0_1 c0_2 c0_3 c0_4
  have hr0 := own_blk ho2 hn0 Hr1_0.out
  have zg0 := lt_of_block hr0
  obtain ⟨c0_0, c0_1, c0_2, c0_3, c0_4⟩ := blk_cells5 hr0
  have f0 := fun o => free_at hr0 o
  have Hq2_0 := Lib.hid hr0
  have Hr2_0 := Lib.hid hr0
  have hBq2 := Nat.lt_of_lt_of_le hB1 ho2.size
  have Hp2 := Lib.hid (own_trans Ho1.out ho2)
  have Hx2 := Lib.hid hc2
  have Hc2 := Lib.hid hc2
  have Ho2 := Lib.hid (own_trans Ho1.out ho2)
  have hB2 := hBq2
  clear hr0
  clear hc2 ho2
  have Hn := Lib.hid (fun w => snew_any x k w (by omega) (by omega))
  obtain ⟨e0, e1⟩ := newV_e x k
  generalize newV x k = r at *
  generalize newB x k = t at *
  go_wp2_with fail
  refine (Hn.out _).mono ?_
  rintro e w3 ⟨rfl, hb3⟩
  clear zg0 f0 c0_0 c0_1 c0_2 c0_3 c0_4
  have hr0 := below_blk hb3 (lt_of_block Hr2_0.out) Hr2_0.out
  have zg0 := lt_of_block hr0
  obtain ⟨c0_0, c0_1, c0_2, c0_3, c0_4⟩ := blk_cells5 hr0
  have f0 := fun o => free_at hr0 o
  have Hq3_0 := Lib.hid hr0
  have Hr3_0 := Lib.hid (alloc_blk (.cells #[.int .i64 r.n.a, .int .i64 r.n.b, .int .i64 r.n.c, .int .i64 r.n.d, .int .i64 r.e] 86) hr0)
  have hc3 := Hc2.out.below hb3 hB2
  have ho3 := own_of_below (B := B) hb3
  have hBq3 := Nat.lt_of_lt_of_le hB2 ho3.size
  have Hp3 := Lib.hid (own_trans Ho2.out ho3)
  have Hx3 := Lib.hid hc3
  have Hc3 := Lib.hid (hc3.own (own_alloc (own_refl w3.heap.size w3) (.cells #[.int .i64 r.n.a, .int .i64 r.n.b, .int .i64 r.n.c, .int .i64 r.n.d, .int .i64 r.e] 86)) hBq3)
  have Ho3 := Lib.hid (own_alloc (own_trans Ho2.out ho3) (.cells #[.int .i64 r.n.a, .int .i64 r.n.b, .int .i64 r.n.c, .int .i64 r.n.d, .int .i64 r.e] 86))
  have hB3 : B < (w3.alloc (.cells #[.int .i64 r.n.a, .int .i64 r.n.b, .int .i64 r.n.c, .int .i64 r.n.d, .int .i64 r.e] 86)).heap.size := by simp; omega
  have Hr3_1 := Lib.hid (heap_alloc_new w3 (.cells #[.int .i64 r.n.a, .int .i64 r.n.b, .int .i64 r.n.c, .int .i64 r.n.d, .int .i64 r.e] 86))
  have hn1 : w3.heap.size ≠ B := by omega
  clear hr0
  clear hb3 hc3 ho3
  go_wp2_with fail
  obtain ⟨k0, k1, k2, k3, k4⟩ := blk_cells5 (alloc_blk (.cells #[.int .i64 r.n.a, .int .i64 r.n.b, .int .i64 r.n.c, .int .i64 r.n.d, .int .i64 r.e] 86) (set5_at (u0 := .int .i64 r.n.a) (u1 := .int .i64 r.n.b) (u2 := .int .i64 r.n.c) (u3 := .int .i64 r.n.d) (u4 := .int .i64 r.e) Hq3_0.out))
  refine bodyPost_ret (v := (.agg #[.int .i64 r.n.a, .int .i64 r.n.b, .int .i64 r.n.c, .int .i64 r.n.d, .int .i64 r.e])) (by simp only [results, Try.results131]; simp [go_sem, k0, k1, k2, k3, k4]) rfl ⟨dret r (by omega) (by omega), ((Hx3.out.far5 (by omega)).own (own_alloc (own_refl _ _) (.cells #[.int .i64 r.n.a, .int .i64 r.n.b, .int .i64 r.n.c, .int .i64 r.n.d, .int .i64 r.e] 86)) (by simpa [World.setCell] using hBq3)), (own_alloc (own_far5 Hp3.out (Nat.le_refl _)) (.cells #[.int .i64 r.n.a, .int .i64 r.n.b, .int .i64 r.n.c, .int .i64 r.n.d, .int .i64 r.e] 86))⟩
set_option maxRecDepth 100000 in
set_option maxHeartbeats 3200000 in
theorem bent_any (B : Nat) (w : World) (hcur : CurAt w B) (hB : B < w.heap.size) :
    Calls Try.prog 132 #[.pointer (some ⟨B, 0, none⟩)] w fun e w' => DRet e ∧ CurAt w' B ∧ Own B w w' := by
  have Hr0_0 := Lib.hid (heap_alloc_new w (.cells #[.int .i64 0, .int .i64 0, .int .i64 0, .int .i64 0, .int .i64 0] 86))
  have Hc0 := Lib.hid (hcur.own (own_alloc (own_refl w.heap.size w) (.cells #[.int .i64 0, .int .i64 0, .int .i64 0, .int .i64 0, .int .i64 0] 86)) hB)
  have Ho0 := Lib.hid (own_alloc (own_refl B w) (.cells #[.int .i64 0, .int .i64 0, .int .i64 0, .int .i64 0, .int .i64 0] 86))
  have hB0 : B < (w.alloc (.cells #[.int .i64 0, .int .i64 0, .int .i64 0, .int .i64 0, .int .i64 0] 86)).heap.size := by simp; omega
  clear hcur
  have hn0 : w.heap.size ≠ B := by omega
  go_enter Try.func132, Try.ntmps132
  go_wp2_with fail
  refine (below_any B 6 _ Hc0.out (by omega) (by omega)).mono ?_
  rintro e w1 ⟨⟨m, m0, m1, rfl⟩, hc1, ho1⟩
  have hr0 := own_blk ho1 hn0 Hr0_0.out
  have zg0 := lt_of_block hr0
  obtain ⟨c0_0, c0_1, c0_2, c0_3, c0_4⟩ := blk_cells5 hr0
  have f0 := fun o => free_at hr0 o
  have Hq1_0 := Lib.hid hr0
  have Hr1_0 := Lib.hid hr0
  have hBq1 := Nat.lt_of_lt_of_le hB0 ho1.size
  have Hp1 := Lib.hid (own_trans Ho0.out ho1)
  have Hx1 := Lib.hid hc1
  have Hc1 := Lib.hid hc1
  have Ho1 := Lib.hid (own_trans Ho0.out ho1)
  have hB1 := hBq1
  clear hr0
  clear hc1 ho1
  rcases (show m = 0 ∨ m = 1 ∨ 2 ≤ m by omega) with rfl | rfl | hm
  · go_wp2_with fail
    refine (zw_any B _ Hc1.out hB1).mono ?_
    rintro e w2 ⟨⟨x, rfl⟩, hc2, ho2⟩
    clear zg0 f0 c0_0 c0_1 c0_2 c0_3 c0_4
    have hr0 := own_blk ho2 hn0 Hr1_0.out
    have zg0 := lt_of_block hr0
    obtain ⟨c0_0, c0_1, c0_2, c0_3, c0_4⟩ := blk_cells5 hr0
    have f0 := fun o => free_at hr0 o
    have Hq2_0 := Lib.hid hr0
    have Hr2_0 := Lib.hid (alloc_blk (.cells #[.int .i64 0, .int .i64 1, .int .i64 59, .int .i64 60, .int .i64 61] 3) hr0)
    have hBq2 := Nat.lt_of_lt_of_le hB1 ho2.size
    have Hp2 := Lib.hid (own_trans Ho1.out ho2)
    have Hx2 := Lib.hid hc2
    have Hc2 := Lib.hid (hc2.own (own_alloc (own_refl w2.heap.size w2) (.cells #[.int .i64 0, .int .i64 1, .int .i64 59, .int .i64 60, .int .i64 61] 3)) hBq2)
    have Ho2 := Lib.hid (own_alloc (own_trans Ho1.out ho2) (.cells #[.int .i64 0, .int .i64 1, .int .i64 59, .int .i64 60, .int .i64 61] 3))
    have hB2 : B < (w2.alloc (.cells #[.int .i64 0, .int .i64 1, .int .i64 59, .int .i64 60, .int .i64 61] 3)).heap.size := by simp; omega
    have Zl2 := Lib.hid (dlist1_at w2)
    have hm2 : w2.heap.size ≠ B := by omega
    clear hr0
    clear hc2 ho2
    go_wp2_with fail
    refine (pickB B w2.heap.size 5 _ dlist1 _ Hc2.out Zl2.out hm2 (by omega) (by omega) rfl (-1) 61 (by decide)).mono ?_
    rintro e w3 ⟨⟨k, k0, k1, rfl⟩, hc3, ho3⟩
    clear zg0 f0 c0_0 c0_1 c0_2 c0_3 c0_4
    have hr0 := own_blk ho3 hn0 Hr2_0.out
    have zg0 := lt_of_block hr0
    obtain ⟨c0_0, c0_1, c0_2, c0_3, c0_4⟩ := blk_cells5 hr0
    have f0 := fun o => free_at hr0 o
    have Hq3_0 := Lib.hid hr0
    have Hr3_0 := Lib.hid hr0
    have hBq3 := Nat.lt_of_lt_of_le hB2 ho3.size
    have Hp3 := Lib.hid (own_trans Ho2.out ho3)
    have Hx3 := Lib.hid hc3
    have Hc3 := Lib.hid hc3
    have Ho3 := Lib.hid (own_trans Ho2.out ho3)
    have hB3 := hBq3
    clear hr0
    clear hc3 ho3
    have Hn := Lib.hid (fun w => snew_any x k w (by omega) (by omega))
    obtain ⟨e0, e1⟩ := newV_e x k
    generalize newV x k = r at *
    generalize newB x k = t at *
    go_wp2_with fail
    refine (Hn.out _).mono ?_
    rintro e w4 ⟨rfl, hb4⟩
    clear zg0 f0 c0_0 c0_1 c0_2 c0_3 c0_4
    have hr0 := below_blk hb4 (lt_of_block Hr3_0.out) Hr3_0.out
    have zg0 := lt_of_block hr0
    obtain ⟨c0_0, c0_1, c0_2, c0_3, c0_4⟩ := blk_cells5 hr0
    have f0 := fun o => free_at hr0 o
    have Hq4_0 := Lib.hid hr0
    have Hr4_0 := Lib.hid (alloc_blk (.cells #[.int .i64 r.n.a, .int .i64 r.n.b, .int .i64 r.n.c, .int .i64 r.n.d, .int .i64 r.e] 86) hr0)
    have hc4 := Hc3.out.below hb4 hB3
    have ho4 := own_of_below (B := B) hb4
    have hBq4 := Nat.lt_of_lt_of_le hB3 ho4.size
    have Hp4 := Lib.hid (own_trans Ho3.out ho4)
    have Hx4 := Lib.hid hc4
    have Hc4 := Lib.hid (hc4.own (own_alloc (own_refl w4.heap.size w4) (.cells #[.int .i64 r.n.a, .int .i64 r.n.b, .int .i64 r.n.c, .int .i64 r.n.d, .int .i64 r.e] 86)) hBq4)
    have Ho4 := Lib.hid (own_alloc (own_trans Ho3.out ho4) (.cells #[.int .i64 r.n.a, .int .i64 r.n.b, .int .i64 r.n.c, .int .i64 r.n.d, .int .i64 r.e] 86))
    have hB4 : B < (w4.alloc (.cells #[.int .i64 r.n.a, .int .i64 r.n.b, .int .i64 r.n.c, .int .i64 r.n.d, .int .i64 r.e] 86)).heap.size := by simp; omega
    have Hr4_1 := Lib.hid (heap_alloc_new w4 (.cells #[.int .i64 r.n.a, .int .i64 r.n.b, .int .i64 r.n.c, .int .i64 r.n.d, .int .i64 r.e] 86))
    have hn1 : w4.heap.size ≠ B := by omega
    clear hr0
    clear hb4 hc4 ho4
    go_wp2_with fail
    obtain ⟨k0, k1, k2, k3, k4⟩ := blk_cells5 (alloc_blk (.cells #[.int .i64 r.n.a, .int .i64 r.n.b, .int .i64 r.n.c, .int .i64 r.n.d, .int .i64 r.e] 86) (set5_at (u0 := .int .i64 r.n.a) (u1 := .int .i64 r.n.b) (u2 := .int .i64 r.n.c) (u3 := .int .i64 r.n.d) (u4 := .int .i64 r.e) Hq4_0.out))
    refine bodyPost_ret (v := (.agg #[.int .i64 r.n.a, .int .i64 r.n.b, .int .i64 r.n.c, .int .i64 r.n.d, .int .i64 r.e])) (by simp only [results, Try.results132]; simp [go_sem, k0, k1, k2, k3, k4]) rfl ⟨dret r (by omega) (by omega), ((Hx4.out.far5 (by omega)).own (own_alloc (own_refl _ _) (.cells #[.int .i64 r.n.a, .int .i64 r.n.b, .int .i64 r.n.c, .int .i64 r.n.d, .int .i64 r.e] 86)) (by simpa [World.setCell] using hBq4)), (own_alloc (own_far5 Hp4.out (Nat.le_refl _)) (.cells #[.int .i64 r.n.a, .int .i64 r.n.b, .int .i64 r.n.c, .int .i64 r.n.d, .int .i64 r.e] 86))⟩
  · go_wp2_with fail
    refine (zw_any B _ Hc1.out hB1).mono ?_
    rintro e w2 ⟨⟨x, rfl⟩, hc2, ho2⟩
    clear zg0 f0 c0_0 c0_1 c0_2 c0_3 c0_4
    have hr0 := own_blk ho2 hn0 Hr1_0.out
    have zg0 := lt_of_block hr0
    obtain ⟨c0_0, c0_1, c0_2, c0_3, c0_4⟩ := blk_cells5 hr0
    have f0 := fun o => free_at hr0 o
    have Hq2_0 := Lib.hid hr0
    have Hr2_0 := Lib.hid (alloc_blk (.cells #[.int .i64 0, .int .i64 1, .int .i64 5, .int .i64 60, .int .i64 61, .int .i64 (-1)] 3) hr0)
    have hBq2 := Nat.lt_of_lt_of_le hB1 ho2.size
    have Hp2 := Lib.hid (own_trans Ho1.out ho2)
    have Hx2 := Lib.hid hc2
    have Hc2 := Lib.hid (hc2.own (own_alloc (own_refl w2.heap.size w2) (.cells #[.int .i64 0, .int .i64 1, .int .i64 5, .int .i64 60, .int .i64 61, .int .i64 (-1)] 3)) hBq2)
    have Ho2 := Lib.hid (own_alloc (own_trans Ho1.out ho2) (.cells #[.int .i64 0, .int .i64 1, .int .i64 5, .int .i64 60, .int .i64 61, .int .i64 (-1)] 3))
    have hB2 : B < (w2.alloc (.cells #[.int .i64 0, .int .i64 1, .int .i64 5, .int .i64 60, .int .i64 61, .int .i64 (-1)] 3)).heap.size := by simp; omega
    have Zl2 := Lib.hid (dlist2_at w2)
    have hm2 : w2.heap.size ≠ B := by omega
    clear hr0
    clear hc2 ho2
    go_wp2_with fail
    refine (pickB B w2.heap.size 6 _ dlist2 _ Hc2.out Zl2.out hm2 (by omega) (by omega) rfl (-1) 61 (by decide)).mono ?_
    rintro e w3 ⟨⟨k, k0, k1, rfl⟩, hc3, ho3⟩
    clear zg0 f0 c0_0 c0_1 c0_2 c0_3 c0_4
    have hr0 := own_blk ho3 hn0 Hr2_0.out
    have zg0 := lt_of_block hr0
    obtain ⟨c0_0, c0_1, c0_2, c0_3, c0_4⟩ := blk_cells5 hr0
    have f0 := fun o => free_at hr0 o
    have Hq3_0 := Lib.hid hr0
    have Hr3_0 := Lib.hid hr0
    have hBq3 := Nat.lt_of_lt_of_le hB2 ho3.size
    have Hp3 := Lib.hid (own_trans Ho2.out ho3)
    have Hx3 := Lib.hid hc3
    have Hc3 := Lib.hid hc3
    have Ho3 := Lib.hid (own_trans Ho2.out ho3)
    have hB3 := hBq3
    clear hr0
    clear hc3 ho3
    go_wp2_with fail
    obtain ⟨k0, k1, k2, k3, k4⟩ := blk_cells5 (set5_at (u0 := .int .i64 x.a) (u1 := .int .i64 x.b) (u2 := .int .i64 x.c) (u3 := .int .i64 x.d) (u4 := .int .i64 k) Hq3_0.out)
    refine bodyPost_ret (v := (.agg #[.int .i64 (Dw.mk x k).n.a, .int .i64 (Dw.mk x k).n.b, .int .i64 (Dw.mk x k).n.c, .int .i64 (Dw.mk x k).n.d, .int .i64 (Dw.mk x k).e])) (by simp only [results, Try.results132]; simp [go_sem, k0, k1, k2, k3, k4]) rfl ⟨dret ⟨x, k⟩ (show -9223372036854775808 ≤ k by omega) (show k ≤ 9223372036854775807 by omega), (Hx3.out.far5 (by omega)), (own_far5 Hp3.out (Nat.le_refl _))⟩
  · have hm0 : (m == 0) = false := by simp; omega
    have hm1 : (m == 1) = false := by simp; omega
    have hm2 : decide (m = 0) = false := by simp; omega
    have hm3 : decide (m = 1) = false := by simp; omega
    go_wp2_with fail
    refine (dw_any B _ Hc1.out hB1).mono ?_
    rintro e w2 ⟨⟨r, rfl, e0, e1⟩, hc2, ho2⟩
    clear zg0 f0 c0_0 c0_1 c0_2 c0_3 c0_4
    have hr0 := own_blk ho2 hn0 Hr1_0.out
    have zg0 := lt_of_block hr0
    obtain ⟨c0_0, c0_1, c0_2, c0_3, c0_4⟩ := blk_cells5 hr0
    have f0 := fun o => free_at hr0 o
    have Hq2_0 := Lib.hid hr0
    have Hr2_0 := Lib.hid hr0
    have hBq2 := Nat.lt_of_lt_of_le hB1 ho2.size
    have Hp2 := Lib.hid (own_trans Ho1.out ho2)
    have Hx2 := Lib.hid hc2
    have Hc2 := Lib.hid hc2
    have Ho2 := Lib.hid (own_trans Ho1.out ho2)
    have hB2 := hBq2
    clear hr0
    clear hc2 ho2
    go_wp2_with fail
    obtain ⟨k0, k1, k2, k3, k4⟩ := blk_cells5 (set5_at (u0 := .int .i64 r.n.a) (u1 := .int .i64 r.n.b) (u2 := .int .i64 r.n.c) (u3 := .int .i64 r.n.d) (u4 := .int .i64 r.e) Hq2_0.out)
    refine bodyPost_ret (v := (.agg #[.int .i64 r.n.a, .int .i64 r.n.b, .int .i64 r.n.c, .int .i64 r.n.d, .int .i64 r.e])) (by simp only [results, Try.results132]; simp [go_sem, k0, k1, k2, k3, k4]) rfl ⟨dret r e0 e1, (Hx2.out.far5 (by omega)), (own_far5 Hp2.out (Nat.le_refl _))⟩
end Go.Proofs.Ytkcpemkahkkcmaa
