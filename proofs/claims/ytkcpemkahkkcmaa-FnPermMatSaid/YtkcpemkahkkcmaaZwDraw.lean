/- The draws of elements. -/
import Derived.Test.YtkcpemkahkkcmaaZwF
import Derived.Test.YtkcpemkahkkcmaaZwB
import Derived.Test.YtkcpemkahkkcmaaZwS
import Derived.Test.YtkcpemkahkkcmaaBaseB02
namespace Go.Proofs.Ytkcpemkahkkcmaa
open Go.RowKit
attribute [local irreducible] World.cell?
/-- What a call leaves that writes into block B alone and makes memory: cells, marks and blocks of before. -/
theorem ogrow {B : Nat} {W w1 : World} (h : Own B W w1) : (∀ b o, b < W.heap.size → b ≠ B → w1.cell? ⟨b, o, none⟩ = W.cell? ⟨b, o, none⟩) ∧ (∀ b o, b < W.heap.size → b ≠ B → w1.frozen? ⟨b, o, none⟩ = W.frozen? ⟨b, o, none⟩) ∧ (∀ b, b < W.heap.size → b < w1.heap.size) := by
  refine ⟨fun b o hb hn => ?_, fun b o hb hn => ?_, fun b hb => Nat.lt_of_lt_of_le hb h.size⟩
  · exact World.cell?_of_block (w := W) (h.block b hb (by intro e; injection e with e; exact hn e))
  · have := h.block b hb (by intro e; injection e with e; exact hn e)
    simp only [World.frozen?, this]
theorem own_far {B : Nat} {a w : World} (h : Own B a w) {p : Addr} (hp : a.heap.size ≤ p.block) (u : Value) : Own B a (w.setCell p u) :=
  ⟨h.os, h.tape, h.output, by simpa [World.setCell] using h.size, fun k hk hn => (Below.heap_setCell _ _ _ _ (by omega)).trans (h.block k hk hn)⟩
theorem own_far4 {B g : Nat} {a w : World} {u0 u1 u2 u3 : Value} (h : Own B a w) (hp : a.heap.size ≤ g) : Own B a ((((w.setCell ⟨g, 0, none⟩ u0).setCell ⟨g, 1, none⟩ u1).setCell ⟨g, 2, none⟩ u2).setCell ⟨g, 3, none⟩ u3) :=
  own_far (own_far (own_far (own_far h (p := ⟨g, 0, none⟩) hp _) (p := ⟨g, 1, none⟩) hp _) (p := ⟨g, 2, none⟩) hp _) (p := ⟨g, 3, none⟩) hp _
theorem CurAt.far4 {B g : Nat} {w : World} {u0 u1 u2 u3 : Value} (h : CurAt w B) (hB : B < g) : CurAt ((((w.setCell ⟨g, 0, none⟩ u0).setCell ⟨g, 1, none⟩ u1).setCell ⟨g, 2, none⟩ u2).setCell ⟨g, 3, none⟩ u3) B :=
  h.own (own_set (own_set (own_set (own_set (own_refl g w) 0 u0) 1 u1) 2 u2) 3 u3) hB
theorem own_blk {B g : Nat} {W w1 : World} {o : Obj} (h : Own B W w1) (hn : g ≠ B) (hk : W.heap[g]? = some o) : w1.heap[g]? = some o := by
  rw [h.block g (lt_of_block hk) (by intro e; injection e with e; exact hn e)]; exact hk
theorem alloc_blk {g : Nat} {W : World} {o : Obj} (p : Obj) (hk : W.heap[g]? = some o) : (W.alloc p).heap[g]? = some o := by
  rw [Below.heap_alloc _ _ _ (lt_of_block hk)]; exact hk
theorem set4_cells {g : Nat} {W : World} {t : TypeId} {z0 z1 z2 z3 u0 u1 u2 u3 : Value} (h : W.heap[g]? = some (.cells #[z0, z1, z2, z3] t (0, 0))) :
    ((((W.setCell ⟨g, 0, none⟩ u0).setCell ⟨g, 1, none⟩ u1).setCell ⟨g, 2, none⟩ u2).setCell ⟨g, 3, none⟩ u3).cell? ⟨g, 0, none⟩ = some u0 ∧
    ((((W.setCell ⟨g, 0, none⟩ u0).setCell ⟨g, 1, none⟩ u1).setCell ⟨g, 2, none⟩ u2).setCell ⟨g, 3, none⟩ u3).cell? ⟨g, 1, none⟩ = some u1 ∧
    ((((W.setCell ⟨g, 0, none⟩ u0).setCell ⟨g, 1, none⟩ u1).setCell ⟨g, 2, none⟩ u2).setCell ⟨g, 3, none⟩ u3).cell? ⟨g, 2, none⟩ = some u2 ∧
    ((((W.setCell ⟨g, 0, none⟩ u0).setCell ⟨g, 1, none⟩ u1).setCell ⟨g, 2, none⟩ u2).setCell ⟨g, 3, none⟩ u3).cell? ⟨g, 3, none⟩ = some u3 := by
  have h4 := heap_set (heap_set (heap_set (heap_set h 0 u0) 1 u1) 2 u2) 3 u3
  exact ⟨cell_at h4 0 _ rfl, cell_at h4 1 _ rfl, cell_at h4 2 _ rfl, cell_at h4 3 _ rfl⟩
/-- An element is returned. -/
def ZRet (e : Ending) : Prop := ∃ x : Zw, e = .returned (.agg #[.int .i64 x.a, .int .i64 x.b, .int .i64 x.c, .int .i64 x.d])
theorem zret (a b c d : Int) : ZRet (.returned (.agg #[.int .i64 a, .int .i64 b, .int .i64 c, .int .i64 d])) := ⟨⟨a, b, c, d⟩, rfl⟩
/-- The cells of a block read as a list. -/
theorem zlist_at {w : World} {b : Nat} {cs : Array Value} {t : TypeId} (h : w.heap[b]? = some (.cells cs t (0, 0))) (n : Nat) (f : Nat → Value) (hf : ∀ j, j < n → cs[j]? = some (f j)) : ListAt w b n f := fun j hj => cell_at h j _ (hf j hj)
set_option maxRecDepth 100000 in
set_option maxHeartbeats 800000 in
theorem small_any (B : Nat) (w : World) (hcur : CurAt w B) (hB : B < w.heap.size) :
    Calls Try.prog 170 #[.pointer (some ⟨B, 0, none⟩)] w fun e w' => ZRet e ∧ CurAt w' B ∧ Own B w w' := by
  have hne : w.heap.size ≠ B := by omega
  have Hc0 := Lib.hid (hcur.own (own_alloc (own_refl w.heap.size w) (.cells #[.int .i64 0, .int .i64 0, .int .i64 0, .int .i64 0] 84)) hB)
  have Ho0 := Lib.hid (own_alloc (own_refl B w) (.cells #[.int .i64 0, .int .i64 0, .int .i64 0, .int .i64 0] 84))
  have zg0 : w.heap.size < (w.alloc (.cells #[.int .i64 0, .int .i64 0, .int .i64 0, .int .i64 0] 84)).heap.size := by simp
  have hB0 : B < (w.alloc (.cells #[.int .i64 0, .int .i64 0, .int .i64 0, .int .i64 0] 84)).heap.size := by simp; omega
  have Hr0 := Lib.hid (heap_alloc_new w (.cells #[.int .i64 0, .int .i64 0, .int .i64 0, .int .i64 0] 84))
  clear hcur
  go_enter Try.func170, Try.ntmps170
  go_wp2_with fail
  refine (below_any B 7 _ Hc0.out (by omega) (by omega)).mono ?_
  rintro e w1 ⟨⟨x1, x10, x11, rfl⟩, hc1, ho1⟩
  have Hc1 := Lib.hid hc1
  obtain ⟨hk1, hf1, hz1⟩ := ogrow ho1
  have zg1 := hz1 _ zg0
  have hB1 := hz1 _ hB0
  have Ho1 := Lib.hid (own_trans Ho0.out ho1)
  have Hr1 := Lib.hid (own_blk ho1 hne Hr0.out)
  clear hc1 ho1
  go_wp2_with fail
  refine (below_any B 7 _ Hc1.out (by omega) (by omega)).mono ?_
  rintro e w2 ⟨⟨x2, x20, x21, rfl⟩, hc2, ho2⟩
  have Hc2 := Lib.hid hc2
  obtain ⟨hk2, hf2, hz2⟩ := ogrow ho2
  have zg2 := hz2 _ zg1
  have hB2 := hz2 _ hB1
  have Ho2 := Lib.hid (own_trans Ho1.out ho2)
  have Hr2 := Lib.hid (own_blk ho2 hne Hr1.out)
  clear hc2 ho2
  go_wp2_with fail
  refine (below_any B 7 _ Hc2.out (by omega) (by omega)).mono ?_
  rintro e w3 ⟨⟨x3, x30, x31, rfl⟩, hc3, ho3⟩
  have Hc3 := Lib.hid hc3
  obtain ⟨hk3, hf3, hz3⟩ := ogrow ho3
  have zg3 := hz3 _ zg2
  have hB3 := hz3 _ hB2
  have Ho3 := Lib.hid (own_trans Ho2.out ho3)
  have Hr3 := Lib.hid (own_blk ho3 hne Hr2.out)
  clear hc3 ho3
  go_wp2_with fail
  refine (below_any B 7 _ Hc3.out (by omega) (by omega)).mono ?_
  rintro e w4 ⟨⟨x4, x40, x41, rfl⟩, hc4, ho4⟩
  have Hc4 := Lib.hid hc4
  obtain ⟨hk4, hf4, hz4⟩ := ogrow ho4
  have zg4 := hz4 _ zg3
  have hB4 := hz4 _ hB3
  have Ho4 := Lib.hid (own_trans Ho3.out ho4)
  have Hr4 := Lib.hid (own_blk ho4 hne Hr3.out)
  clear hc4 ho4
  go_wp2_with fail
  obtain ⟨k0, k1, k2, k3⟩ := set4_cells (u0 := .int .i64 (x1 - 3)) (u1 := .int .i64 (x2 - 3)) (u2 := .int .i64 (x3 - 3)) (u3 := .int .i64 (x4 - 3)) Hr4.out
  refine bodyPost_ret (v := .agg #[.int .i64 (x1 - 3), .int .i64 (x2 - 3), .int .i64 (x3 - 3), .int .i64 (x4 - 3)]) (by simp only [results, Try.results170]; simp [go_sem, k0, k1, k2, k3]) rfl ⟨zret _ _ _ _, Hc4.out.far4 (by omega), own_far4 Ho4.out (Nat.le_refl _)⟩
/-- The lists of l2Zw. -/
def zlist1 : List Int := [0, 1, -1, 1073741824, -1073741824, 1073741825, 32768, 9223372036854775807, -9223372036854775808]
def zlist2 : List Int := [0, 1, 1073741824, 32768]
set_option maxRecDepth 100000 in
set_option maxHeartbeats 800000 in
theorem zw_any (B : Nat) (w : World) (hcur : CurAt w B) (hB : B < w.heap.size) :
    Calls Try.prog 171 #[.pointer (some ⟨B, 0, none⟩)] w fun e w' => ZRet e ∧ CurAt w' B ∧ Own B w w' := by
  have hne : w.heap.size ≠ B := by omega
  have Hc0 := Lib.hid (hcur.own (own_alloc (own_refl w.heap.size w) (.cells #[.int .i64 0, .int .i64 0, .int .i64 0, .int .i64 0] 84)) hB)
  have Ho0 := Lib.hid (own_alloc (own_refl B w) (.cells #[.int .i64 0, .int .i64 0, .int .i64 0, .int .i64 0] 84))
  have zg0 : w.heap.size < (w.alloc (.cells #[.int .i64 0, .int .i64 0, .int .i64 0, .int .i64 0] 84)).heap.size := by simp
  have hB0 : B < (w.alloc (.cells #[.int .i64 0, .int .i64 0, .int .i64 0, .int .i64 0] 84)).heap.size := by simp; omega
  have Hr0 := Lib.hid (heap_alloc_new w (.cells #[.int .i64 0, .int .i64 0, .int .i64 0, .int .i64 0] 84))
  clear hcur
  go_enter Try.func171, Try.ntmps171
  go_wp2_with fail
  refine (below_any B 4 _ Hc0.out (by omega) (by omega)).mono ?_
  rintro e w1 ⟨⟨x1, x10, x11, rfl⟩, hc1, ho1⟩
  have Hc1 := Lib.hid hc1
  obtain ⟨hk1, hf1, hz1⟩ := ogrow ho1
  have zg1 := hz1 _ zg0
  have hB1 := hz1 _ hB0
  have Ho1 := Lib.hid (own_trans Ho0.out ho1)
  have Hr1 := Lib.hid (own_blk ho1 hne Hr0.out)
  clear hc1 ho1
  rcases (show x1 = 0 ∨ x1 = 1 ∨ x1 = 2 ∨ x1 = 3 by omega) with rfl | rfl | rfl | rfl
  · go_wp2_with fail
    refine (small_any B _ Hc1.out hB1).mono ?_
    rintro e w2 ⟨⟨y, rfl⟩, hc2, ho2⟩
    have Hc2 := Lib.hid hc2
    obtain ⟨hk2, hf2, hz2⟩ := ogrow ho2
    have zg2 := hz2 _ zg1
    have hB2 := hz2 _ hB1
    have Ho2 := Lib.hid (own_trans Ho1.out ho2)
    have Hr2 := Lib.hid (own_blk ho2 hne Hr1.out)
    clear hc2 ho2
    go_wp2_with fail
    obtain ⟨k0, k1, k2, k3⟩ := set4_cells (u0 := .int .i64 y.a) (u1 := .int .i64 y.b) (u2 := .int .i64 y.c) (u3 := .int .i64 y.d) Hr2.out
    refine bodyPost_ret (v := .agg #[.int .i64 y.a, .int .i64 y.b, .int .i64 y.c, .int .i64 y.d]) (by simp only [results, Try.results171]; simp [go_sem, k0, k1, k2, k3]) rfl ⟨zret _ _ _ _, Hc2.out.far4 (by omega), own_far4 Ho2.out (Nat.le_refl _)⟩
  · go_wp2_with fail
    have zl2 : ListAt (w1.alloc (.cells #[.int .i64 0, .int .i64 1, .int .i64 (-1), .int .i64 1073741824, .int .i64 (-1073741824), .int .i64 1073741825, .int .i64 32768, .int .i64 9223372036854775807, .int .i64 (-9223372036854775808)] 3)) w1.heap.size 9 (fun j => .int .i64 (zlist1.getD j 0)) := by
      refine zlist_at (heap_alloc_new _ _) 9 _ ?_
      intro j hj
      rcases (show j = 0 ∨ j = 1 ∨ j = 2 ∨ j = 3 ∨ j = 4 ∨ j = 5 ∨ j = 6 ∨ j = 7 ∨ j = 8 by omega) with rfl | rfl | rfl | rfl | rfl | rfl | rfl | rfl | rfl <;> rfl
    have Zl2 := Lib.hid zl2
    clear zl2
    have Hd2 := Lib.hid (Hc1.out.own (own_alloc (own_refl w1.heap.size w1) (.cells #[.int .i64 0, .int .i64 1, .int .i64 (-1), .int .i64 1073741824, .int .i64 (-1073741824), .int .i64 1073741825, .int .i64 32768, .int .i64 9223372036854775807, .int .i64 (-9223372036854775808)] 3)) hB1)
    have Ho1x := Lib.hid (own_alloc Ho1.out (.cells #[.int .i64 0, .int .i64 1, .int .i64 (-1), .int .i64 1073741824, .int .i64 (-1073741824), .int .i64 1073741825, .int .i64 32768, .int .i64 9223372036854775807, .int .i64 (-9223372036854775808)] 3))
    have Hr1x := Lib.hid (alloc_blk (.cells #[.int .i64 0, .int .i64 1, .int .i64 (-1), .int .i64 1073741824, .int .i64 (-1073741824), .int .i64 1073741825, .int .i64 32768, .int .i64 9223372036854775807, .int .i64 (-9223372036854775808)] 3) Hr1.out)
    have zg1x : w.heap.size < (w1.alloc (.cells #[.int .i64 0, .int .i64 1, .int .i64 (-1), .int .i64 1073741824, .int .i64 (-1073741824), .int .i64 1073741825, .int .i64 32768, .int .i64 9223372036854775807, .int .i64 (-9223372036854775808)] 3)).heap.size := by simp; omega
    have hB1x : B < (w1.alloc (.cells #[.int .i64 0, .int .i64 1, .int .i64 (-1), .int .i64 1073741824, .int .i64 (-1073741824), .int .i64 1073741825, .int .i64 32768, .int .i64 9223372036854775807, .int .i64 (-9223372036854775808)] 3)).heap.size := by simp; omega
    refine (pickInt_any B w1.heap.size 9 _ (fun j => zlist1.getD j 0) _ Hd2.out Zl2.out (by omega) (by omega) (by omega)).mono ?_
    rintro e w2 ⟨⟨j2, x21, rfl⟩, hc2, ho2⟩
    have Hc2 := Lib.hid hc2
    obtain ⟨hk2, hf2, hz2⟩ := ogrow ho2
    have zg2 := hz2 _ zg1x
    have hB2 := hz2 _ hB1x
    have Ho2 := Lib.hid (own_trans Ho1x.out ho2)
    have Hr2 := Lib.hid (own_blk ho2 hne Hr1x.out)
    clear hc2 ho2
    go_wp2_with fail
    have zl3 : ListAt (w2.alloc (.cells #[.int .i64 0, .int .i64 1, .int .i64 1073741824, .int .i64 32768] 3)) w2.heap.size 4 (fun j => .int .i64 (zlist2.getD j 0)) := by
      refine zlist_at (heap_alloc_new _ _) 4 _ ?_
      intro j hj
      rcases (show j = 0 ∨ j = 1 ∨ j = 2 ∨ j = 3 by omega) with rfl | rfl | rfl | rfl <;> rfl
    have Zl3 := Lib.hid zl3
    clear zl3
    have Hd3 := Lib.hid (Hc2.out.own (own_alloc (own_refl w2.heap.size w2) (.cells #[.int .i64 0, .int .i64 1, .int .i64 1073741824, .int .i64 32768] 3)) hB2)
    have Ho2x := Lib.hid (own_alloc Ho2.out (.cells #[.int .i64 0, .int .i64 1, .int .i64 1073741824, .int .i64 32768] 3))
    have Hr2x := Lib.hid (alloc_blk (.cells #[.int .i64 0, .int .i64 1, .int .i64 1073741824, .int .i64 32768] 3) Hr2.out)
    have zg2x : w.heap.size < (w2.alloc (.cells #[.int .i64 0, .int .i64 1, .int .i64 1073741824, .int .i64 32768] 3)).heap.size := by simp; omega
    have hB2x : B < (w2.alloc (.cells #[.int .i64 0, .int .i64 1, .int .i64 1073741824, .int .i64 32768] 3)).heap.size := by simp; omega
    refine (pickInt_any B w2.heap.size 4 _ (fun j => zlist2.getD j 0) _ Hd3.out Zl3.out (by omega) (by omega) (by omega)).mono ?_
    rintro e w3 ⟨⟨j3, x31, rfl⟩, hc3, ho3⟩
    have Hc3 := Lib.hid hc3
    obtain ⟨hk3, hf3, hz3⟩ := ogrow ho3
    have zg3 := hz3 _ zg2x
    have hB3 := hz3 _ hB2x
    have Ho3 := Lib.hid (own_trans Ho2x.out ho3)
    have Hr3 := Lib.hid (own_blk ho3 hne Hr2x.out)
    clear hc3 ho3
    go_wp2_with fail
    refine (below_any B 3 _ Hc3.out (by omega) (by omega)).mono ?_
    rintro e w4 ⟨⟨x4, x40, x41, rfl⟩, hc4, ho4⟩
    have Hc4 := Lib.hid hc4
    obtain ⟨hk4, hf4, hz4⟩ := ogrow ho4
    have zg4 := hz4 _ zg3
    have hB4 := hz4 _ hB3
    have Ho4 := Lib.hid (own_trans Ho3.out ho4)
    have Hr4 := Lib.hid (own_blk ho4 hne Hr3.out)
    clear hc4 ho4
    go_wp2_with fail
    obtain ⟨k0, k1, k2, k3⟩ := set4_cells (u0 := .int .i64 (zlist1[j2]?.getD 0)) (u1 := .int .i64 (zlist2[j3]?.getD 0)) (u2 := .int .i64 0) (u3 := .int .i64 x4) Hr4.out
    refine bodyPost_ret (v := .agg #[.int .i64 (zlist1[j2]?.getD 0), .int .i64 (zlist2[j3]?.getD 0), .int .i64 0, .int .i64 x4]) (by simp only [results, Try.results171]; simp [go_sem, k0, k1, k2, k3]) rfl ⟨zret _ _ _ _, Hc4.out.far4 (by omega), own_far4 Ho4.out (Nat.le_refl _)⟩
  · go_wp2_with fail
    refine (below_any B 60000 _ Hc1.out (by omega) (by omega)).mono ?_
    rintro e w2 ⟨⟨x2, x20, x21, rfl⟩, hc2, ho2⟩
    have Hc2 := Lib.hid hc2
    obtain ⟨hk2, hf2, hz2⟩ := ogrow ho2
    have zg2 := hz2 _ zg1
    have hB2 := hz2 _ hB1
    have Ho2 := Lib.hid (own_trans Ho1.out ho2)
    have Hr2 := Lib.hid (own_blk ho2 hne Hr1.out)
    clear hc2 ho2
    go_wp2_with fail
    refine (below_any B 60000 _ Hc2.out (by omega) (by omega)).mono ?_
    rintro e w3 ⟨⟨x3, x30, x31, rfl⟩, hc3, ho3⟩
    have Hc3 := Lib.hid hc3
    obtain ⟨hk3, hf3, hz3⟩ := ogrow ho3
    have zg3 := hz3 _ zg2
    have hB3 := hz3 _ hB2
    have Ho3 := Lib.hid (own_trans Ho2.out ho3)
    have Hr3 := Lib.hid (own_blk ho3 hne Hr2.out)
    clear hc3 ho3
    go_wp2_with fail
    refine (below_any B 300 _ Hc3.out (by omega) (by omega)).mono ?_
    rintro e w4 ⟨⟨x4, x40, x41, rfl⟩, hc4, ho4⟩
    have Hc4 := Lib.hid hc4
    obtain ⟨hk4, hf4, hz4⟩ := ogrow ho4
    have zg4 := hz4 _ zg3
    have hB4 := hz4 _ hB3
    have Ho4 := Lib.hid (own_trans Ho3.out ho4)
    have Hr4 := Lib.hid (own_blk ho4 hne Hr3.out)
    clear hc4 ho4
    go_wp2_with fail
    refine (below_any B 300 _ Hc4.out (by omega) (by omega)).mono ?_
    rintro e w5 ⟨⟨x5, x50, x51, rfl⟩, hc5, ho5⟩
    have Hc5 := Lib.hid hc5
    obtain ⟨hk5, hf5, hz5⟩ := ogrow ho5
    have zg5 := hz5 _ zg4
    have hB5 := hz5 _ hB4
    have Ho5 := Lib.hid (own_trans Ho4.out ho5)
    have Hr5 := Lib.hid (own_blk ho5 hne Hr4.out)
    clear hc5 ho5
    go_wp2_with fail
    obtain ⟨k0, k1, k2, k3⟩ := set4_cells (u0 := .int .i64 (x2 - 30000)) (u1 := .int .i64 (x3 - 30000)) (u2 := .int .i64 (x4 - 150)) (u3 := .int .i64 (x5 - 150)) Hr5.out
    refine bodyPost_ret (v := .agg #[.int .i64 (x2 - 30000), .int .i64 (x3 - 30000), .int .i64 (x4 - 150), .int .i64 (x5 - 150)]) (by simp only [results, Try.results171]; simp [go_sem, k0, k1, k2, k3]) rfl ⟨zret _ _ _ _, Hc5.out.far4 (by omega), own_far4 Ho5.out (Nat.le_refl _)⟩
  · go_wp2_with fail
    refine (below_any B 60000 _ Hc1.out (by omega) (by omega)).mono ?_
    rintro e w2 ⟨⟨x2, x20, x21, rfl⟩, hc2, ho2⟩
    have Hc2 := Lib.hid hc2
    obtain ⟨hk2, hf2, hz2⟩ := ogrow ho2
    have zg2 := hz2 _ zg1
    have hB2 := hz2 _ hB1
    have Ho2 := Lib.hid (own_trans Ho1.out ho2)
    have Hr2 := Lib.hid (own_blk ho2 hne Hr1.out)
    clear hc2 ho2
    go_wp2_with fail
    refine (below_any B 60000 _ Hc2.out (by omega) (by omega)).mono ?_
    rintro e w3 ⟨⟨x3, x30, x31, rfl⟩, hc3, ho3⟩
    have Hc3 := Lib.hid hc3
    obtain ⟨hk3, hf3, hz3⟩ := ogrow ho3
    have zg3 := hz3 _ zg2
    have hB3 := hz3 _ hB2
    have Ho3 := Lib.hid (own_trans Ho2.out ho3)
    have Hr3 := Lib.hid (own_blk ho3 hne Hr2.out)
    clear hc3 ho3
    go_wp2_with fail
    refine (below_any B 300 _ Hc3.out (by omega) (by omega)).mono ?_
    rintro e w4 ⟨⟨x4, x40, x41, rfl⟩, hc4, ho4⟩
    have Hc4 := Lib.hid hc4
    obtain ⟨hk4, hf4, hz4⟩ := ogrow ho4
    have zg4 := hz4 _ zg3
    have hB4 := hz4 _ hB3
    have Ho4 := Lib.hid (own_trans Ho3.out ho4)
    have Hr4 := Lib.hid (own_blk ho4 hne Hr3.out)
    clear hc4 ho4
    go_wp2_with fail
    refine (below_any B 300 _ Hc4.out (by omega) (by omega)).mono ?_
    rintro e w5 ⟨⟨x5, x50, x51, rfl⟩, hc5, ho5⟩
    have Hc5 := Lib.hid hc5
    obtain ⟨hk5, hf5, hz5⟩ := ogrow ho5
    have zg5 := hz5 _ zg4
    have hB5 := hz5 _ hB4
    have Ho5 := Lib.hid (own_trans Ho4.out ho5)
    have Hr5 := Lib.hid (own_blk ho5 hne Hr4.out)
    clear hc5 ho5
    go_wp2_with fail
    obtain ⟨k0, k1, k2, k3⟩ := set4_cells (u0 := .int .i64 (x2 - 30000)) (u1 := .int .i64 (x3 - 30000)) (u2 := .int .i64 (x4 - 150)) (u3 := .int .i64 (x5 - 150)) Hr5.out
    refine bodyPost_ret (v := .agg #[.int .i64 (x2 - 30000), .int .i64 (x3 - 30000), .int .i64 (x4 - 150), .int .i64 (x5 - 150)]) (by simp only [results, Try.results171]; simp [go_sem, k0, k1, k2, k3]) rfl ⟨zret _ _ _ _, Hc5.out.far4 (by omega), own_far4 Ho5.out (Nat.le_refl _)⟩
end Go.Proofs.Ytkcpemkahkkcmaa
