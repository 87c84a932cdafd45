/- The squared norm and the powers of the root of one half, of the model; a byte of the code. -/
import Derived.Test.YtnbmjbnmkbgmaaaPhS
import Derived.Test.YtnbmjbnmkbgmaaaZwDraw3
import Derived.Test.YtnbmjbnmkbgmaaaIv
import Derived.Test.YtnbmjbnmkbgmaaaAt0
namespace Go.Proofs.Ytnbmjbnmkbgmaaa
open Go.RowKit
attribute [local irreducible] World.cell?
set_option maxRecDepth 100000 in
set_option maxHeartbeats 3200000 in
theorem snorm (x : Dw) (w : World) :
    Calls Try.prog 19 #[(.agg #[.int .i64 x.n.a, .int .i64 x.n.b, .int .i64 x.n.c, .int .i64 x.n.d, .int .i64 x.e])] w fun e w' => e = .returned (.tuple #[(.agg #[.int .i64 (nsV x).n.a, .int .i64 (nsV x).n.b, .int .i64 (nsV x).n.c, .int .i64 (nsV x).n.d, .int .i64 (nsV x).e]), .bool (nsB x)]) ∧ Below w.heap.size w w' := by
  have Hc := Lib.hid (sconjD_any x)
  have Hm := Lib.hid (smulD_any x (dConjV x))
  unfold nsV nsB
  generalize dMulV x (dConjV x) = R at *
  generalize dMulB x (dConjV x) = T at *
  generalize dConjV x = c at *
  have Hr0_0 := Lib.hid (alloc_blk (.cells #[.int .i64 0, .int .i64 0, .int .i64 0, .int .i64 0, .int .i64 0] 29) (heap_alloc_new w (.cells #[.int .i64 x.n.a, .int .i64 x.n.b, .int .i64 x.n.c, .int .i64 x.n.d, .int .i64 x.e] 29)))
  have Hr0_1 := Lib.hid (show ((w.alloc (.cells #[.int .i64 x.n.a, .int .i64 x.n.b, .int .i64 x.n.c, .int .i64 x.n.d, .int .i64 x.e] 29)).alloc (.cells #[.int .i64 0, .int .i64 0, .int .i64 0, .int .i64 0, .int .i64 0] 29)).heap[w.heap.size + 1]? = some (.cells #[.int .i64 0, .int .i64 0, .int .i64 0, .int .i64 0, .int .i64 0] 29 (0, 0)) from by simpa using heap_alloc_new (w.alloc (.cells #[.int .i64 x.n.a, .int .i64 x.n.b, .int .i64 x.n.c, .int .i64 x.n.d, .int .i64 x.e] 29)) (.cells #[.int .i64 0, .int .i64 0, .int .i64 0, .int .i64 0, .int .i64 0] 29))
  have HbE := Lib.hid (show Below w.heap.size w ((w.alloc (.cells #[.int .i64 x.n.a, .int .i64 x.n.b, .int .i64 x.n.c, .int .i64 x.n.d, .int .i64 x.e] 29)).alloc (.cells #[.int .i64 0, .int .i64 0, .int .i64 0, .int .i64 0, .int .i64 0] 29)) by go_grown)
  go_enter Try.func19, Try.ntmps19
  go_upto_region 1 with fail
  go_region_with (first | (go_at_call 35; refine (Hc.out _).mono ?_; rintro e w1 ⟨rfl, hb1⟩; have hr0 := below_blk hb1 (lt_of_block Hr0_0.out) Hr0_0.out; have hr1 := below_blk hb1 (lt_of_block Hr0_1.out) Hr0_1.out; have zg10 := lt_of_block hr0; have zg11 := lt_of_block hr1; obtain ⟨c10, c11, c12, c13, c14⟩ := blk_cells5 hr0; obtain ⟨d10, d11, d12, d13, d14⟩ := blk_cells5 hr1; have f1 := fun o => free_at hr1 o; have Hr1_0 := Lib.hid hr0; have Hr1_1 := Lib.hid hr1; have Hb1 := Lib.hid (below_nx HbE.out.drew hb1); clear hb1 hr0 hr1) | (go_at_call 34; refine (Hm.out _).mono ?_; rintro e w2 ⟨rfl, hb2⟩; have hr0 := below_blk hb2 (lt_of_block Hr1_0.out) Hr1_0.out; have hr1 := below_blk hb2 (lt_of_block Hr1_1.out) Hr1_1.out; have zg20 := lt_of_block hr0; have zg21 := lt_of_block hr1; obtain ⟨c20, c21, c22, c23, c24⟩ := blk_cells5 hr0; obtain ⟨d20, d21, d22, d23, d24⟩ := blk_cells5 hr1; have f2 := fun o => free_at hr1 o; have Hr2_0 := Lib.hid hr0; have Hr2_1 := Lib.hid hr1; have Hb2 := Lib.hid (below_nx Hb1.out hb2); clear hb2 hr0 hr1))
  all_goals go_wp2_with fail
  all_goals
    obtain ⟨k0, k1, k2, k3, k4⟩ := blk_cells5 (set5_at (u0 := .int .i64 R.n.a) (u1 := .int .i64 R.n.b) (u2 := .int .i64 R.n.c) (u3 := .int .i64 R.n.d) (u4 := .int .i64 R.e) Hr2_1.out)
    refine bodyPost_ret (v := .tuple #[(.agg #[.int .i64 R.n.a, .int .i64 R.n.b, .int .i64 R.n.c, .int .i64 R.n.d, .int .i64 R.e]), .bool T]) (by simp only [results, Try.results19]; simp [go_sem, k0, k1, k2, k3, k4]) rfl ⟨rfl, ?_⟩
    have := Hb2.out
    go_grown
end Go.Proofs.Ytnbmjbnmkbgmaaa
