/- The negative and the conjugate in D[omega], of the program and of its model; one; the laws' own helpers. -/
import Derived.Test.YtggmcahglcnleaaDwY
import Derived.Test.YtggmcahglcnleaaZwF
namespace Go.Proofs.Ytggmcahglcnleaa
open Go.RowKit
attribute [local irreducible] World.cell?
theorem dNeg_of {x : Dw} (h : x.ok) : dNegV x = ⟨negV x.n, x.e⟩ := by rw [dNegV, if_pos h, negV, if_pos h.1]; rfl
theorem dConj_of {x : Dw} (h : x.ok) : dConjV x = ⟨conjV x.n, x.e⟩ := by rw [dConjV, if_pos h, conjV, if_pos h.1]; rfl
theorem dNeg_no {x : Dw} (h : ¬ x.ok) : dNegV x = .zero := if_neg h
theorem dConj_no {x : Dw} (h : ¬ x.ok) : dConjV x = .zero := if_neg h
set_option maxRecDepth 100000 in
set_option maxHeartbeats 800000 in
theorem eqDw (x : Dw) (w : World) :
    Calls Try.prog 6 #[(.agg #[.int .i64 x.n.a, .int .i64 x.n.b, .int .i64 x.n.c, .int .i64 x.n.d, .int .i64 x.e]), (.agg #[.int .i64 x.n.a, .int .i64 x.n.b, .int .i64 x.n.c, .int .i64 x.n.d, .int .i64 x.e])] w fun e w' => e = .returned (.bool true) ∧ Below w.heap.size w w' := by
  have Hz := Lib.hid (eqZ x.n)
  have Hr0_0 := Lib.hid (alloc_blk (.cells #[.int .i64 x.n.a, .int .i64 x.n.b, .int .i64 x.n.c, .int .i64 x.n.d, .int .i64 x.e] 25) (heap_alloc_new w (.cells #[.int .i64 x.n.a, .int .i64 x.n.b, .int .i64 x.n.c, .int .i64 x.n.d, .int .i64 x.e] 25)))
  have Hr0_1 := Lib.hid (show ((w.alloc (.cells #[.int .i64 x.n.a, .int .i64 x.n.b, .int .i64 x.n.c, .int .i64 x.n.d, .int .i64 x.e] 25)).alloc (.cells #[.int .i64 x.n.a, .int .i64 x.n.b, .int .i64 x.n.c, .int .i64 x.n.d, .int .i64 x.e] 25)).heap[w.heap.size + 1]? = some (.cells #[.int .i64 x.n.a, .int .i64 x.n.b, .int .i64 x.n.c, .int .i64 x.n.d, .int .i64 x.e] 25 (0, 0)) from by simpa using heap_alloc_new (w.alloc (.cells #[.int .i64 x.n.a, .int .i64 x.n.b, .int .i64 x.n.c, .int .i64 x.n.d, .int .i64 x.e] 25)) (.cells #[.int .i64 x.n.a, .int .i64 x.n.b, .int .i64 x.n.c, .int .i64 x.n.d, .int .i64 x.e] 25))
  go_enter Try.func6, Try.ntmps6
  go_wp2_with fail
  refine (Hz.out _).mono ?_
  rintro e w1 ⟨rfl, hb1⟩
  have hr0 := below_blk hb1 (lt_of_block Hr0_0.out) Hr0_0.out
  have zg0 := lt_of_block hr0
  obtain ⟨c0_0, c0_1, c0_2, c0_3, c0_4⟩ := blk_cells5 hr0
  have Hr1_0 := Lib.hid hr0
  have hr1 := below_blk hb1 (lt_of_block Hr0_1.out) Hr0_1.out
  have zg1 := lt_of_block hr1
  obtain ⟨c1_0, c1_1, c1_2, c1_3, c1_4⟩ := blk_cells5 hr1
  have Hr1_1 := Lib.hid hr1
  have hb1 := below_up (B := w.heap.size) (w := w) (by go_grown) hb1 (by simp <;> omega)
  have Hp1 := Lib.hid hb1
  have Hb1 := Lib.hid hb1
  clear hr0 hr1
  clear hb1
  go_wp2_with fail
  go_returns
  exact ⟨rfl, by have := Hp1.out; go_grown⟩
end Go.Proofs.Ytggmcahglcnleaa
