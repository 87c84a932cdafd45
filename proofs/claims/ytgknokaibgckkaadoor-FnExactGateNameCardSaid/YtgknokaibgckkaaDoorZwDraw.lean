/- The draws of elements. -/
import Derived.Test.YtgknokaibgckkaaDoorZwF
import Derived.Test.YtgknokaibgckkaaDoorZwB
import Derived.Test.YtgknokaibgckkaaDoorZwS
import Derived.Test.YtgknokaibgckkaaDoorDraw1
namespace Go.Proofs.YtgknokaibgckkaaDoor
open Go.RowKit
attribute [local irreducible] World.cell?
/-- What a call leaves that writes into block B alone and makes memory: cells, marks and blocks of before. -/
theorem ogrow {B : Nat} {W w1 : World} (h : Own B W w1) : (∀ b o, b < W.heap.size → b ≠ B → w1.cell? ⟨b, o, none⟩ = W.cell? ⟨b, o, none⟩) ∧ (∀ b o, b < W.heap.size → b ≠ B → w1.frozen? ⟨b, o, none⟩ = W.frozen? ⟨b, o, none⟩) ∧ (∀ b, b < W.heap.size → b < w1.heap.size) := by
  refine ⟨fun b o hb hn => ?_, fun b o hb hn => ?_, fun b hb => Nat.lt_of_lt_of_le hb h.size⟩
  · exact World.cell?_of_block (w := W) (h.block b hb (by intro e; injection e with e; exact hn e))
  · have := h.block b hb (by intro e; injection e with e; exact hn e)
    simp only [World.frozen?, this]
theorem own_far {B : Nat} {a w : World} (h : Own B a w) {p : Addr} (hp : a.heap.size ≤ p.block) (u : Value) : Own B a (w.setCell p u) :=
  ⟨h.os, h.tape, h.output, by simpa [World.setCell] using h.size, fun k hk hn => (Below.heap_setCell _ _ _ _ (by omega)).trans (h.block k hk hn)⟩
theorem own_far4 {B g : Nat} {a w : World} {u0 u1 u2 u3 : Value} (h : Own B a w) (hp : a.heap.size ≤ g) : Own B a ((((w.setCell ⟨g, 0, none⟩ u0).setCell ⟨g, 1, none⟩ u1).setCell ⟨g, 2, none⟩ u2).setCell ⟨g, 3, none⟩ u3) :=
  own_far (own_far (own_far (own_far h (p := ⟨g, 0, none⟩) hp _) (p := ⟨g, 1, none⟩) hp _) (p := ⟨g, 2, none⟩) hp _) (p := ⟨g, 3, none⟩) hp _
theorem own_blk {B g : Nat} {W w1 : World} {o : Obj} (h : Own B W w1) (hn : g ≠ B) (hk : W.heap[g]? = some o) : w1.heap[g]? = some o := by
  rw [h.block g (lt_of_block hk) (by intro e; injection e with e; exact hn e)]; exact hk
theorem alloc_blk {g : Nat} {W : World} {o : Obj} (p : Obj) (hk : W.heap[g]? = some o) : (W.alloc p).heap[g]? = some o := by
  rw [Below.heap_alloc _ _ _ (lt_of_block hk)]; exact hk
theorem set4_cells {g : Nat} {W : World} {t : TypeId} {z0 z1 z2 z3 u0 u1 u2 u3 : Value} (h : W.heap[g]? = some (.cells #[z0, z1, z2, z3] t (0, 0))) :
    ((((W.setCell ⟨g, 0, none⟩ u0).setCell ⟨g, 1, none⟩ u1).setCell ⟨g, 2, none⟩ u2).setCell ⟨g, 3, none⟩ u3).cell? ⟨g, 0, none⟩ = some u0 ∧
    ((((W.setCell ⟨g, 0, none⟩ u0).setCell ⟨g, 1, none⟩ u1).setCell ⟨g, 2, none⟩ u2).setCell ⟨g, 3, none⟩ u3).cell? ⟨g, 1, none⟩ = some u1 ∧
    ((((W.setCell ⟨g, 0, none⟩ u0).setCell ⟨g, 1, none⟩ u1).setCell ⟨g, 2, none⟩ u2).setCell ⟨g, 3, none⟩ u3).cell? ⟨g, 2, none⟩ = some u2 ∧
    ((((W.setCell ⟨g, 0, none⟩ u0).setCell ⟨g, 1, none⟩ u1).setCell ⟨g, 2, none⟩ u2).setCell ⟨g, 3, none⟩ u3).cell? ⟨g, 3, none⟩ = some u3 := by
  have h4 := heap_set (heap_set (heap_set (heap_set h 0 u0) 1 u1) 2 u2) 3 u3
  exact ⟨cell_at h4 0 _ rfl, cell_at h4 1 _ rfl, cell_at h4 2 _ rfl, cell_at h4 3 _ rfl⟩
/-- An element is returned. -/
def ZRet (e : Ending) : Prop := ∃ x : Zw, e = .returned (.agg #[.int .i64 x.a, .int .i64 x.b, .int .i64 x.c, .int .i64 x.d])
theorem zret (a b c d : Int) : ZRet (.returned (.agg #[.int .i64 a, .int .i64 b, .int .i64 c, .int .i64 d])) := ⟨⟨a, b, c, d⟩, rfl⟩
def Z2Ret (e : Ending) : Prop := ∃ x y : Zw, e = .returned (.tuple #[(.agg #[.int .i64 x.a, .int .i64 x.b, .int .i64 x.c, .int .i64 x.d]), (.agg #[.int .i64 y.a, .int .i64 y.b, .int .i64 y.c, .int .i64 y.d])])
/-- The cells of a block read as a list. -/
theorem zlist_at {w : World} {b : Nat} {cs : Array Value} {t : TypeId} (h : w.heap[b]? = some (.cells cs t (0, 0))) (n : Nat) (f : Nat → Value) (hf : ∀ j, j < n → cs[j]? = some (f j)) : ListAt w b n f := fun j hj => cell_at h j _ (hf j hj)
/-- The lists of l2Zw. -/
def zlist1 : List Int := [0, 1, -1, 1073741824, -1073741824, 1073741825, 32768, 9223372036854775807, -9223372036854775808]
def zlist2 : List Int := [0, 1, 1073741824, 32768]
end Go.Proofs.YtgknokaibgckkaaDoor
