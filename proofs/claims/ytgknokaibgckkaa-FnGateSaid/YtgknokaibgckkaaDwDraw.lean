/- The draws of fractions. -/
import Derived.Test.YtgknokaibgckkaaDwU
import Derived.Test.YtgknokaibgckkaaZwDraw2
namespace Go.Proofs.Ytgknokaibgckkaa
open Go.RowKit
theorem own_far5 {B g : Nat} {a w : World} {u0 u1 u2 u3 u4 : Value} (h : Own B a w) (hp : a.heap.size ≤ g) : Own B a (((((w.setCell ⟨g, 0, none⟩ u0).setCell ⟨g, 1, none⟩ u1).setCell ⟨g, 2, none⟩ u2).setCell ⟨g, 3, none⟩ u3).setCell ⟨g, 4, none⟩ u4) :=
  own_far (own_far4 h hp) (p := ⟨g, 4, none⟩) hp _
theorem CurAt.far5 {B g : Nat} {w : World} {u0 u1 u2 u3 u4 : Value} (h : CurAt w B) (hB : B < g) : CurAt (((((w.setCell ⟨g, 0, none⟩ u0).setCell ⟨g, 1, none⟩ u1).setCell ⟨g, 2, none⟩ u2).setCell ⟨g, 3, none⟩ u3).setCell ⟨g, 4, none⟩ u4) B :=
  h.own (own_set (own_set (own_set (own_set (own_set (own_refl g w) 0 u0) 1 u1) 2 u2) 3 u3) 4 u4) hB
theorem CurAt.drew {B : Nat} {w : World} (h : CurAt w B) : CurAt w.drew B := h
/-- A block of the call's own may be written: no code lies in it. -/
theorem CurAt.set4 {B g : Nat} {W : World} {z0 z1 z2 z3 : Int} {T : TypeId} {u0 u1 u2 u3 : Value} (h : CurAt W B) (hn : g ≠ B) (hk : W.heap[g]? = some (.cells #[.int .i64 z0, .int .i64 z1, .int .i64 z2, .int .i64 z3] T (0, 0))) :
    CurAt ((((W.setCell ⟨g, 0, none⟩ u0).setCell ⟨g, 1, none⟩ u1).setCell ⟨g, 2, none⟩ u2).setCell ⟨g, 3, none⟩ u3) B := by
  obtain ⟨a0, len, cap, i, x, h1, h2, h3⟩ := h
  refine ⟨a0, len, cap, i, x, set4_blk (Ne.symm hn) h1, h2, h3.1, fun h0 => ?_⟩
  obtain ⟨b, off, e, hlt, hc⟩ := h3.2 h0
  have hbg : b ≠ g := by
    rintro rfl
    obtain ⟨v, _, _, hv⟩ := hc 0 h0
    simp only [World.cell?, hk, Nat.add_zero] at hv
    match off, hv with
    | 0, hv => simp at hv
    | 1, hv => simp at hv
    | 2, hv => simp at hv
    | 3, hv => simp at hv
    | n + 4, hv => simp at hv
  refine ⟨b, off, e, hlt, fun j hj => ?_⟩
  obtain ⟨v, v0, v1, hv⟩ := hc j hj
  refine ⟨v, v0, v1, ?_⟩
  rw [World.cell?_of_block (w := W)]
  · exact hv
  · have hs := World.block_lt_of_cell? _ _ hv
    have hx : W.heap[b]? = some W.heap[b] := Array.getElem?_eq_getElem hs
    rw [set4_blk hbg hx, hx]
attribute [local irreducible] World.cell?
/-- A fraction is returned, its exponent an int. -/
def DRet (e : Ending) : Prop := ∃ x : Dw, e = .returned (.agg #[.int .i64 x.n.a, .int .i64 x.n.b, .int .i64 x.n.c, .int .i64 x.n.d, .int .i64 x.e]) ∧ -9223372036854775808 ≤ x.e ∧ x.e ≤ 9223372036854775807
theorem dret (x : Dw) (h0 : -9223372036854775808 ≤ x.e) (h1 : x.e ≤ 9223372036854775807) : DRet (.returned (.agg #[.int .i64 x.n.a, .int .i64 x.n.b, .int .i64 x.n.c, .int .i64 x.n.d, .int .i64 x.e])) := ⟨x, rfl, h0, h1⟩
theorem newV_e (n : Zw) (k : Int) : 0 ≤ (newV n k).e ∧ (newV n k).e ≤ 60 := by
  cases h : newB n k
  · rw [show newV n k = .zero from if_neg (by simp [h])]; decide
  · have := newV_ok h; exact ⟨this.2.1, this.2.2.1⟩
set_option maxRecDepth 100000 in
set_option maxHeartbeats 800000 in
theorem pickB (B b n cap : Nat) (l : List Int) (w : World) (hcur : CurAt w B) (hl : ListAt w b n (fun j => .int .i64 (l.getD j 0))) (hne : b ≠ B) (h1 : 1 ≤ n) (h2 : n ≤ 1000000) (hn : n = l.length) (lo hi : Int) (hb : ∀ v ∈ l, lo ≤ v ∧ v ≤ hi) :
    Calls Try.prog 34 #[.pointer (some ⟨B, 0, none⟩), .slice (some ⟨b, 0, none⟩) n cap] w fun e w' => (∃ v : Int, lo ≤ v ∧ v ≤ hi ∧ e = .returned (.int .i64 v)) ∧ CurAt w' B ∧ Own B w w' := by
  refine (pickInt_any B b n cap (fun j => l.getD j 0) w hcur hl hne h1 h2).mono ?_
  rintro e w1 ⟨⟨j, hj, rfl⟩, hc, ho⟩
  have hm : l.getD j 0 ∈ l := by rw [List.getD_eq_getElem?_getD, List.getElem?_eq_getElem (by omega)]; exact List.getElem_mem _
  exact ⟨⟨_, (hb _ hm).1, (hb _ hm).2, rfl⟩, hc, ho⟩
def dlist1 : List Int := [0, 1, 59, 60, 61]
theorem dlist1_at (w : World) : ListAt (w.alloc (.cells #[.int .i64 0, .int .i64 1, .int .i64 59, .int .i64 60, .int .i64 61] 3)) w.heap.size 5 (fun j => .int .i64 (dlist1.getD j 0)) := by
  refine zlist_at (heap_alloc_new _ _) 5 _ ?_
  intro j hj
  rcases (show j = 0 ∨ j = 1 ∨ j = 2 ∨ j = 3 ∨ j = 4 by omega) with rfl | rfl | rfl | rfl | rfl <;> rfl
def dlist2 : List Int := [0, 1, 5, 60, 61, -1]
theorem dlist2_at (w : World) : ListAt (w.alloc (.cells #[.int .i64 0, .int .i64 1, .int .i64 5, .int .i64 60, .int .i64 61, .int .i64 (-1)] 3)) w.heap.size 6 (fun j => .int .i64 (dlist2.getD j 0)) := by
  refine zlist_at (heap_alloc_new _ _) 6 _ ?_
  intro j hj
  rcases (show j = 0 ∨ j = 1 ∨ j = 2 ∨ j = 3 ∨ j = 4 ∨ j = 5 by omega) with rfl | rfl | rfl | rfl | rfl | rfl <;> rfl
def dlist3 : List Int := [0, 1, 2, 3, 8, 60, 61, 64, 120, 121, -1]
theorem dlist3_at (w : World) : ListAt (w.alloc (.cells #[.int .i64 0, .int .i64 1, .int .i64 2, .int .i64 3, .int .i64 8, .int .i64 60, .int .i64 61, .int .i64 64, .int .i64 120, .int .i64 121, .int .i64 (-1)] 3)) w.heap.size 11 (fun j => .int .i64 (dlist3.getD j 0)) := by
  refine zlist_at (heap_alloc_new _ _) 11 _ ?_
  intro j hj
  rcases (show j = 0 ∨ j = 1 ∨ j = 2 ∨ j = 3 ∨ j = 4 ∨ j = 5 ∨ j = 6 ∨ j = 7 ∨ j = 8 ∨ j = 9 ∨ j = 10 by omega) with rfl | rfl | rfl | rfl | rfl | rfl | rfl | rfl | rfl | rfl | rfl <;> rfl
end Go.Proofs.Ytgknokaibgckkaa
