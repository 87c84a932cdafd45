/- The draws of the chapter's laws. -/
import Derived.Test.YtgknokaibgckkaaDoorZwDraw
namespace Go.Proofs.YtgknokaibgckkaaDoor
open Go.RowKit
attribute [local irreducible] World.cell?
theorem below_blk {B g : Nat} {W w1 : World} {o : Obj} (h : Below B W w1) (hg : g < B) (hk : W.heap[g]? = some o) : w1.heap[g]? = some o := by
  rw [h.block g hg]; exact hk
theorem set4_blk {g b : Nat} {W : World} {o : Obj} {u0 u1 u2 u3 : Value} (hn : b ≠ g) (h : W.heap[b]? = some o) :
    ((((W.setCell ⟨g, 0, none⟩ u0).setCell ⟨g, 1, none⟩ u1).setCell ⟨g, 2, none⟩ u2).setCell ⟨g, 3, none⟩ u3).heap[b]? = some o := by
  rw [Below.heap_setCell _ _ _ _ (by simpa using hn), Below.heap_setCell _ _ _ _ (by simpa using hn), Below.heap_setCell _ _ _ _ (by simpa using hn), Below.heap_setCell _ _ _ _ (by simpa using hn)]
  exact h
theorem set4_at {g : Nat} {W : World} {t : TypeId} {z0 z1 z2 z3 u0 u1 u2 u3 : Value} (h : W.heap[g]? = some (.cells #[z0, z1, z2, z3] t (0, 0))) :
    ((((W.setCell ⟨g, 0, none⟩ u0).setCell ⟨g, 1, none⟩ u1).setCell ⟨g, 2, none⟩ u2).setCell ⟨g, 3, none⟩ u3).heap[g]? = some (.cells #[u0, u1, u2, u3] t (0, 0)) :=
  heap_set (heap_set (heap_set (heap_set h 0 u0) 1 u1) 2 u2) 3 u3
theorem blk_cells {g : Nat} {W : World} {t : TypeId} {z0 z1 z2 z3 : Value} (h : W.heap[g]? = some (.cells #[z0, z1, z2, z3] t (0, 0))) :
    W.cell? ⟨g, 0, none⟩ = some z0 ∧ W.cell? ⟨g, 1, none⟩ = some z1 ∧ W.cell? ⟨g, 2, none⟩ = some z2 ∧ W.cell? ⟨g, 3, none⟩ = some z3 :=
  ⟨cell_at h 0 _ rfl, cell_at h 1 _ rfl, cell_at h 2 _ rfl, cell_at h 3 _ rfl⟩
theorem z2ret (a b c d p q r s : Int) : Z2Ret (.returned (.tuple #[.agg #[.int .i64 a, .int .i64 b, .int .i64 c, .int .i64 d], .agg #[.int .i64 p, .int .i64 q, .int .i64 r, .int .i64 s]])) := ⟨⟨a, b, c, d⟩, ⟨p, q, r, s⟩, rfl⟩
theorem size2 (w : World) (p q : Obj) : ((w.alloc p).alloc q).heap.size = w.heap.size + 1 + 1 := by simp
end Go.Proofs.YtgknokaibgckkaaDoor
