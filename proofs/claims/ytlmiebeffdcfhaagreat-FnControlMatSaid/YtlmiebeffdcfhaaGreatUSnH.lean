/- Where a Hadamard gate sends an amplitude. -/
import Derived.Test.YtlmiebeffdcfhaaGreatUSnG
namespace Go.Proofs.YtlmiebeffdcfhaaGreat
open Go.RowKit
attribute [local irreducible] World.cell?
set_option maxRecDepth 100000 in
set_option maxHeartbeats 1600000 in
theorem sgoes4 (A B C i : Nat) (w : World) (hA : A < 4) (hB : B < 4) (_ : C < 4) (hi : i < 16) :
    Calls Tryz.prog 72 #[(.agg #[.int .i64 ((Gt.mk 4 A B C)).k, .int .i64 ((Gt.mk 4 A B C)).a, .int .i64 ((Gt.mk 4 A B C)).b, .int .i64 ((Gt.mk 4 A B C)).c]), .int .i64 i] w fun e w' => ∃ v, e = .returned v ∧ sentE.Sl w' w.heap.size v (goesL 4 A B C i) ∧ Below w.heap.size w w' := by
  have Hb0 := Lib.hid (show Below w.heap.size w (w.alloc (.cells #[.int .i64 ((Gt.mk 4 A B C)).k, .int .i64 ((Gt.mk 4 A B C)).a, .int .i64 ((Gt.mk 4 A B C)).b, .int .i64 ((Gt.mk 4 A B C)).c] 25)) by go_grown)
  have ba := bit_bits hi hA
  have bb := bit_bits hi hB
  have H := Lib.hid (fun W => sinv 1 W)
  have HN := Lib.hid (fun W => snegD_any (isV 1) W)
  obtain ⟨f1, f2⟩ := low_bits hi hA
  rw [show goesL 4 A B C i = [(lowN i A, isV 1), (flipN (lowN i A) A, if bitN i A then dNegV (isV 1) else isV 1)] from rfl]
  generalize bitN i A = a at *
  generalize bitN i B = b at *
  generalize flipN (lowN i A) A = j at *
  generalize lowN i A = l at *
  generalize dNegV (isV 1) = N at *
  generalize isV 1 = h at *
  have Hr0 := Lib.hid (heap_alloc_new w (.cells #[.int .i64 ((Gt.mk 4 A B C)).k, .int .i64 ((Gt.mk 4 A B C)).a, .int .i64 ((Gt.mk 4 A B C)).b, .int .i64 ((Gt.mk 4 A B C)).c] 25))
  cases a
  · simp only [Bool.false_eq_true, if_false]
    go_enter Tryz.func72, Tryz.ntmps72
    go_wp2_with fail
    refine (H.out _).mono ?_
    rintro e w1 ⟨rfl, hb1⟩
    have hr1 := below_blk hb1 (lt_of_block Hr0.out) Hr0.out
    have Hb1 := Lib.hid (below_nx Hb0.out hb1)
    have hs1 := Hb1.out.size
    have zg := lt_of_block hr1
    obtain ⟨c0, c1, c2, c3⟩ := blk_cells hr1
    clear hb1 hr1
    go_wp2_with fail
    have h2 := new_sent2 ((w1.alloc (.cells #[.int .i64 h.n.a, .int .i64 h.n.b, .int .i64 h.n.c, .int .i64 h.n.d, .int .i64 h.e] 70)).alloc (.cells #[.int .i64 h.n.a, .int .i64 h.n.b, .int .i64 h.n.c, .int .i64 h.n.d, .int .i64 h.e] 70)) l j h h
    rw [size2] at h2
    go_ret
    exact ⟨_, rfl, h2.mono (by omega), by have := Hb1.out; go_grown⟩
  · simp only [if_true]
    have Hq0 := Lib.hid (fun (W : World) => alloc_blk (.cells #[.int .i64 h.n.a, .int .i64 h.n.b, .int .i64 h.n.c, .int .i64 h.n.d, .int .i64 h.e] 70) (heap_alloc_new W (.cells #[.int .i64 h.n.a, .int .i64 h.n.b, .int .i64 h.n.c, .int .i64 h.n.d, .int .i64 h.e] 70)))
    go_enter Tryz.func72, Tryz.ntmps72
    go_wp2_with fail
    refine (H.out _).mono ?_
    rintro e w1 ⟨rfl, hb1⟩
    have hr1 := below_blk hb1 (lt_of_block Hr0.out) Hr0.out
    have Hb1 := Lib.hid (below_nx Hb0.out hb1)
    have hs1 := Hb1.out.size
    have zg := lt_of_block hr1
    obtain ⟨c0, c1, c2, c3⟩ := blk_cells hr1
    have HR1 := Lib.hid hr1
    have HbT := Lib.hid (show Below w.heap.size w ((w1.alloc (.cells #[.int .i64 h.n.a, .int .i64 h.n.b, .int .i64 h.n.c, .int .i64 h.n.d, .int .i64 h.e] 70)).alloc (.cells #[.int .i64 h.n.a, .int .i64 h.n.b, .int .i64 h.n.c, .int .i64 h.n.d, .int .i64 h.e] 70)) by have := Hb1.out; go_grown)
    have HQ9 := Lib.hid (Hq0.out w1)
    have HQ10 := Lib.hid (show ((w1.alloc (.cells #[.int .i64 h.n.a, .int .i64 h.n.b, .int .i64 h.n.c, .int .i64 h.n.d, .int .i64 h.e] 70)).alloc (.cells #[.int .i64 h.n.a, .int .i64 h.n.b, .int .i64 h.n.c, .int .i64 h.n.d, .int .i64 h.e] 70)).heap[w1.heap.size + 1]? = some (.cells #[.int .i64 h.n.a, .int .i64 h.n.b, .int .i64 h.n.c, .int .i64 h.n.d, .int .i64 h.e] 70 (0, 0)) from by simpa using heap_alloc_new (w1.alloc (.cells #[.int .i64 h.n.a, .int .i64 h.n.b, .int .i64 h.n.c, .int .i64 h.n.d, .int .i64 h.e] 70)) (.cells #[.int .i64 h.n.a, .int .i64 h.n.b, .int .i64 h.n.c, .int .i64 h.n.d, .int .i64 h.e] 70))
    clear hb1 hr1
    go_wp2_with fail
    refine (HN.out _).mono ?_
    rintro e w2 ⟨rfl, hb2⟩
    have hr2 := below_blk hb2 (by simp; omega) (alloc_blk (.cells #[.int .i64 h.n.a, .int .i64 h.n.b, .int .i64 h.n.c, .int .i64 h.n.d, .int .i64 h.e] 70) (alloc_blk (.cells #[.int .i64 h.n.a, .int .i64 h.n.b, .int .i64 h.n.c, .int .i64 h.n.d, .int .i64 h.e] 70) HR1.out))
    have hq9 := below_blk hb2 (by simp; omega) HQ9.out
    have hq10 := below_blk hb2 (by simp) HQ10.out
    have Hb2 := Lib.hid (below_nx HbT.out hb2)
    have hs2 := hb2.size
    simp at hs2
    have zr := lt_of_block hr2
    have z9 := lt_of_block hq9
    have z10 := lt_of_block hq10
    obtain ⟨c0, c1, c2, c3⟩ := blk_cells hr2
    obtain ⟨d0, d1, d2, d3, d4⟩ := blk_cells5 hq9
    obtain ⟨e0, e1, e2, e3, e4⟩ := blk_cells5 hq10
    have f10 := fun o => free_at hq10 o
    clear hb2 hr2 hq9 hq10
    have h3 := new_sent2 (((((w2.setCell ⟨w1.heap.size + 1, 0, none⟩ (.int .i64 N.n.a)).setCell ⟨w1.heap.size + 1, 1, none⟩ (.int .i64 N.n.b)).setCell ⟨w1.heap.size + 1, 2, none⟩ (.int .i64 N.n.c)).setCell ⟨w1.heap.size + 1, 3, none⟩ (.int .i64 N.n.d)).setCell ⟨w1.heap.size + 1, 4, none⟩ (.int .i64 N.e)) l j h N
    rw [show (((((w2.setCell ⟨w1.heap.size + 1, 0, none⟩ (.int .i64 N.n.a)).setCell ⟨w1.heap.size + 1, 1, none⟩ (.int .i64 N.n.b)).setCell ⟨w1.heap.size + 1, 2, none⟩ (.int .i64 N.n.c)).setCell ⟨w1.heap.size + 1, 3, none⟩ (.int .i64 N.n.d)).setCell ⟨w1.heap.size + 1, 4, none⟩ (.int .i64 N.e)).heap.size = w2.heap.size by simp [World.setCell]] at h3
    have H3 := Lib.hid h3
    clear h3
    go_wp2_with fail
    go_ret
    exact ⟨_, rfl, H3.out.mono (by omega), by have := Hb2.out; go_grown⟩
theorem sgoes (k : Int) (A B C i : Nat) (w : World) (k0 : 1 ≤ k) (k1 : k ≤ 12) (hA : A < 4) (hB : B < 4) (hC : C < 4) (hi : i < 16) :
    Calls Tryz.prog 72 #[(.agg #[.int .i64 ((Gt.mk k A B C)).k, .int .i64 ((Gt.mk k A B C)).a, .int .i64 ((Gt.mk k A B C)).b, .int .i64 ((Gt.mk k A B C)).c]), .int .i64 i] w fun e w' => ∃ v, e = .returned v ∧ sentE.Sl w' w.heap.size v (goesL k A B C i) ∧ Below w.heap.size w w' := by
  rcases (show k = 1 ∨ k = 2 ∨ k = 3 ∨ k = 4 ∨ k = 5 ∨ k = 6 ∨ k = 7 ∨ k = 8 ∨ k = 9 ∨ k = 10 ∨ k = 11 ∨ k = 12 by omega) with rfl | rfl | rfl | rfl | rfl | rfl | rfl | rfl | rfl | rfl | rfl | rfl
  · exact sgoes1 A B C i w hA hB hC hi
  · exact sgoes2 A B C i w hA hB hC hi
  · exact sgoes3 A B C i w hA hB hC hi
  · exact sgoes4 A B C i w hA hB hC hi
  · exact sgoes5 A B C i w hA hB hC hi
  · exact sgoes6 A B C i w hA hB hC hi
  · exact sgoes7 A B C i w hA hB hC hi
  · exact sgoes8 A B C i w hA hB hC hi
  · exact sgoes9 A B C i w hA hB hC hi
  · exact sgoes10 A B C i w hA hB hC hi
  · exact sgoes11 A B C i w hA hB hC hi
  · exact sgoes12 A B C i w hA hB hC hi
end Go.Proofs.YtlmiebeffdcfhaaGreat
