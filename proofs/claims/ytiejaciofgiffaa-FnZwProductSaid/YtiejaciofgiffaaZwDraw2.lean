/- The draws of the chapter's laws. -/
import Derived.Test.YtiejaciofgiffaaZwDraw
namespace Go.Proofs.Ytiejaciofgiffaa
open Go.RowKit
theorem below_blk {B g : Nat} {W w1 : World} {o : Obj} (h : Below B W w1) (hg : g < B) (hk : W.heap[g]? = some o) : w1.heap[g]? = some o := by
  rw [h.block g hg]; exact hk
theorem set4_blk {g b : Nat} {W : World} {o : Obj} {u0 u1 u2 u3 : Value} (hn : b ≠ g) (h : W.heap[b]? = some o) :
    ((((W.setCell ⟨g, 0, none⟩ u0).setCell ⟨g, 1, none⟩ u1).setCell ⟨g, 2, none⟩ u2).setCell ⟨g, 3, none⟩ u3).heap[b]? = some o := by
  rw [Below.heap_setCell _ _ _ _ (by simpa using hn), Below.heap_setCell _ _ _ _ (by simpa using hn), Below.heap_setCell _ _ _ _ (by simpa using hn), Below.heap_setCell _ _ _ _ (by simpa using hn)]
  exact h
theorem set4_at {g : Nat} {W : World} {t : TypeId} {z0 z1 z2 z3 u0 u1 u2 u3 : Value} (h : W.heap[g]? = some (.cells #[z0, z1, z2, z3] t (0, 0))) :
    ((((W.setCell ⟨g, 0, none⟩ u0).setCell ⟨g, 1, none⟩ u1).setCell ⟨g, 2, none⟩ u2).setCell ⟨g, 3, none⟩ u3).heap[g]? = some (.cells #[u0, u1, u2, u3] t (0, 0)) :=
  heap_set (heap_set (heap_set (heap_set h 0 u0) 1 u1) 2 u2) 3 u3
theorem blk_cells {g : Nat} {W : World} {t : TypeId} {z0 z1 z2 z3 : Value} (h : W.heap[g]? = some (.cells #[z0, z1, z2, z3] t (0, 0))) :
    W.cell? ⟨g, 0, none⟩ = some z0 ∧ W.cell? ⟨g, 1, none⟩ = some z1 ∧ W.cell? ⟨g, 2, none⟩ = some z2 ∧ W.cell? ⟨g, 3, none⟩ = some z3 :=
  ⟨cell_at h 0 _ rfl, cell_at h 1 _ rfl, cell_at h 2 _ rfl, cell_at h 3 _ rfl⟩
theorem z2ret (a b c d p q r s : Int) : Z2Ret (.returned (.tuple #[.agg #[.int .i64 a, .int .i64 b, .int .i64 c, .int .i64 d], .agg #[.int .i64 p, .int .i64 q, .int .i64 r, .int .i64 s]])) := ⟨⟨a, b, c, d⟩, ⟨p, q, r, s⟩, rfl⟩
theorem size2 (w : World) (p q : Obj) : ((w.alloc p).alloc q).heap.size = w.heap.size + 1 + 1 := by simp
set_option maxRecDepth 100000 in
set_option maxHeartbeats 800000 in
theorem drawAdd_any (a0 : Option Addr) (len cap : Nat) (w : World) (hcode : CodeAt w w.heap.size a0 len) :
    Calls Try.prog 15 #[.slice a0 len cap] w fun e w' => Z2Ret e ∧ Below w.heap.size w w' := by
  have hb0 : Below w.heap.size w ((w.alloc (.cells #[.int .i64 0, .int .i64 0, .int .i64 0, .int .i64 0] 25)).alloc (.cells #[.int .i64 0, .int .i64 0, .int .i64 0, .int .i64 0] 25)) := by go_grown
  have hr0 := alloc_blk (.cells #[.int .i64 0, .int .i64 0, .int .i64 0, .int .i64 0] 25) (heap_alloc_new w (.cells #[.int .i64 0, .int .i64 0, .int .i64 0, .int .i64 0] 25))
  have hr1 := heap_alloc_new (w.alloc (.cells #[.int .i64 0, .int .i64 0, .int .i64 0, .int .i64 0] 25)) (.cells #[.int .i64 0, .int .i64 0, .int .i64 0, .int .i64 0] 25)
  have Hc := Lib.hid ((hcode.below hb0).mono hb0.size)
  have Hr0 := Lib.hid hr0
  have Hr1 := Lib.hid hr1
  have Hb0 := Lib.hid hb0
  clear hcode hb0 hr0 hr1
  go_enter Try.func15, Try.ntmps15
  go_wp2_with fail
  refine (new_any a0 len cap _ Hc.out).mono ?_
  rintro e w1 ⟨rfl, hc1, hb1, hB1⟩
  rw [size2] at hc1 hB1
  have Hc1 := Lib.hid hc1
  have Hb1 := Lib.hid (below_nx Hb0.out hb1)
  have Hr01 := Lib.hid (below_blk (g := w.heap.size) hb1 (by simp; omega) Hr0.out)
  have Hr11 := Lib.hid (below_blk (g := w.heap.size + 1) hb1 (by simp) (by simpa using Hr1.out))
  have zg1 : w.heap.size < w1.heap.size := by omega
  have zh1 : w.heap.size + 1 < w1.heap.size := by omega
  clear hc1 hb1
  go_wp2_with fail
  refine (zw_any _ _ Hc1.out hB1).mono ?_
  rintro e w2 ⟨⟨x, rfl⟩, hc2, ho2⟩
  have Hc2 := Lib.hid hc2
  have Hr02 := Lib.hid (own_blk ho2 (by omega) Hr01.out)
  have Hr12 := Lib.hid (own_blk ho2 (by omega) Hr11.out)
  have Hb2 := Lib.hid (below_own Hb1.out ho2 (by omega) (by omega))
  have hs2 := ho2.size
  obtain ⟨hk2, hf2, hz2⟩ := ogrow ho2
  have zg2 := hz2 _ zg1
  have zh2 := hz2 _ zh1
  clear hc2 ho2
  go_wp2_with fail
  refine (zw_any _ _ Hc2.out (by omega)).mono ?_
  rintro e w3 ⟨⟨y, rfl⟩, hc3, ho3⟩
  have hr03 := own_blk ho3 (by omega) Hr02.out
  have hr13 := own_blk ho3 (by omega) Hr12.out
  have Hb3 := Lib.hid (below_own Hb2.out ho3 (by omega) (by omega))
  have Hr03 := Lib.hid hr03
  have Hr13 := Lib.hid hr13
  obtain ⟨c0, c1, c2, c3⟩ := blk_cells hr03
  obtain ⟨d0, d1, d2, d3⟩ := blk_cells hr13
  have f0 := fun o => free_at hr03 o
  have f1 := fun o => free_at hr13 o
  clear hc3 ho3 hk2 hf2 hz2 zg1 zh1 hr03 hr13
  go_wp2_with fail
  obtain ⟨k0, k1, k2, k3⟩ := blk_cells (set4_blk (u0 := .int .i64 y.a) (u1 := .int .i64 y.b) (u2 := .int .i64 y.c) (u3 := .int .i64 y.d) (g := w.heap.size + 1) (by omega) (set4_at (u0 := .int .i64 x.a) (u1 := .int .i64 x.b) (u2 := .int .i64 x.c) (u3 := .int .i64 x.d) Hr03.out))
  obtain ⟨l0, l1, l2, l3⟩ := blk_cells (set4_at (u0 := .int .i64 y.a) (u1 := .int .i64 y.b) (u2 := .int .i64 y.c) (u3 := .int .i64 y.d) (set4_blk (u0 := .int .i64 x.a) (u1 := .int .i64 x.b) (u2 := .int .i64 x.c) (u3 := .int .i64 x.d) (g := w.heap.size) (by omega) Hr13.out))
  refine bodyPost_ret (v := .tuple #[(.agg #[.int .i64 x.a, .int .i64 x.b, .int .i64 x.c, .int .i64 x.d]), (.agg #[.int .i64 y.a, .int .i64 y.b, .int .i64 y.c, .int .i64 y.d])]) (by simp only [results, Try.results15]; simp [go_sem, k0, k1, k2, k3, l0, l1, l2, l3]) rfl ⟨z2ret _ _ _ _ _ _ _ _, ?_⟩
  have := Hb3.out
  go_grown
end Go.Proofs.Ytiejaciofgiffaa
