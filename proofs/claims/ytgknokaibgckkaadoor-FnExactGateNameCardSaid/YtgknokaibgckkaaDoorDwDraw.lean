/- The draws of fractions. -/
import Derived.Test.YtgknokaibgckkaaDoorDwU
import Derived.Test.YtgknokaibgckkaaDoorZwDraw2
namespace Go.Proofs.YtgknokaibgckkaaDoor
open Go.RowKit
theorem own_far5 {B g : Nat} {a w : World} {u0 u1 u2 u3 u4 : Value} (h : Own B a w) (hp : a.heap.size ≤ g) : Own B a (((((w.setCell ⟨g, 0, none⟩ u0).setCell ⟨g, 1, none⟩ u1).setCell ⟨g, 2, none⟩ u2).setCell ⟨g, 3, none⟩ u3).setCell ⟨g, 4, none⟩ u4) :=
  own_far (own_far4 h hp) (p := ⟨g, 4, none⟩) hp _
/-- A fraction is returned, its exponent an int. -/
def DRet (e : Ending) : Prop := ∃ x : Dw, e = .returned (.agg #[.int .i64 x.n.a, .int .i64 x.n.b, .int .i64 x.n.c, .int .i64 x.n.d, .int .i64 x.e]) ∧ -9223372036854775808 ≤ x.e ∧ x.e ≤ 9223372036854775807
theorem dret (x : Dw) (h0 : -9223372036854775808 ≤ x.e) (h1 : x.e ≤ 9223372036854775807) : DRet (.returned (.agg #[.int .i64 x.n.a, .int .i64 x.n.b, .int .i64 x.n.c, .int .i64 x.n.d, .int .i64 x.e])) := ⟨x, rfl, h0, h1⟩
theorem newV_e (n : Zw) (k : Int) : 0 ≤ (newV n k).e ∧ (newV n k).e ≤ 60 := by
  cases h : newB n k
  · rw [show newV n k = .zero from if_neg (by simp [h])]; decide
  · have := newV_ok h; exact ⟨this.2.1, this.2.2.1⟩
def dlist1 : List Int := [0, 1, 59, 60, 61]
theorem dlist1_at (w : World) : ListAt (w.alloc (.cells #[.int .i64 0, .int .i64 1, .int .i64 59, .int .i64 60, .int .i64 61] 3)) w.heap.size 5 (fun j => .int .i64 (dlist1.getD j 0)) := by
  refine zlist_at (heap_alloc_new _ _) 5 _ ?_
  intro j hj
  rcases (show j = 0 ∨ j = 1 ∨ j = 2 ∨ j = 3 ∨ j = 4 by omega) with rfl | rfl | rfl | rfl | rfl <;> rfl
def dlist2 : List Int := [0, 1, 5, 60, 61, -1]
theorem dlist2_at (w : World) : ListAt (w.alloc (.cells #[.int .i64 0, .int .i64 1, .int .i64 5, .int .i64 60, .int .i64 61, .int .i64 (-1)] 3)) w.heap.size 6 (fun j => .int .i64 (dlist2.getD j 0)) := by
  refine zlist_at (heap_alloc_new _ _) 6 _ ?_
  intro j hj
  rcases (show j = 0 ∨ j = 1 ∨ j = 2 ∨ j = 3 ∨ j = 4 ∨ j = 5 by omega) with rfl | rfl | rfl | rfl | rfl | rfl <;> rfl
def dlist3 : List Int := [0, 1, 2, 3, 8, 60, 61, 64, 120, 121, -1]
theorem dlist3_at (w : World) : ListAt (w.alloc (.cells #[.int .i64 0, .int .i64 1, .int .i64 2, .int .i64 3, .int .i64 8, .int .i64 60, .int .i64 61, .int .i64 64, .int .i64 120, .int .i64 121, .int .i64 (-1)] 3)) w.heap.size 11 (fun j => .int .i64 (dlist3.getD j 0)) := by
  refine zlist_at (heap_alloc_new _ _) 11 _ ?_
  intro j hj
  rcases (show j = 0 ∨ j = 1 ∨ j = 2 ∨ j = 3 ∨ j = 4 ∨ j = 5 ∨ j = 6 ∨ j = 7 ∨ j = 8 ∨ j = 9 ∨ j = 10 by omega) with rfl | rfl | rfl | rfl | rfl | rfl | rfl | rfl | rfl | rfl | rfl <;> rfl
end Go.Proofs.YtgknokaibgckkaaDoor
