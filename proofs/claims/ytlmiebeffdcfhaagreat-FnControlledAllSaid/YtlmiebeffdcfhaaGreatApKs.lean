/- The program's spread: the two contributions of GateH. -/
import Derived.Test.YtlmiebeffdcfhaaGreatBaseC05
namespace Go.Proofs.YtlmiebeffdcfhaaGreat
open Go.RowKit
theorem or_all : ∀ i : Fin 16, ∀ q : Fin 4, bits .andNot .i64 ((i.val : Nat) : Int) (wrap64 (2 ^ q.val)) = ((lowN i.val q.val : Nat) : Int) ∧ bits .or .i64 ((i.val : Nat) : Int) (wrap64 (2 ^ q.val)) = ((flipN (lowN i.val q.val) q.val : Nat) : Int) := by decide +kernel
theorem drew_blk {w : World} {g : Nat} {o : Obj} (h : w.heap[g]? = some o) : w.drew.heap[g]? = some o := h
theorem blk_cells6 {w : World} {g : Nat} {u0 u1 u2 u3 u4 u5 : Value} {T : TypeId} (h : w.heap[g]? = some (.cells #[u0, u1, u2, u3, u4, u5] T (0, 0))) :
    w.cell? ⟨g, 0, none⟩ = some u0 ∧ w.cell? ⟨g, 1, none⟩ = some u1 ∧ w.cell? ⟨g, 2, none⟩ = some u2 ∧ w.cell? ⟨g, 3, none⟩ = some u3 ∧ w.cell? ⟨g, 4, none⟩ = some u4 ∧ w.cell? ⟨g, 5, none⟩ = some u5 :=
  ⟨cell_at h 0 _ rfl, cell_at h 1 _ rfl, cell_at h 2 _ rfl, cell_at h 3 _ rfl, cell_at h 4 _ rfl, cell_at h 5 _ rfl⟩
attribute [local irreducible] World.cell?
set_option maxRecDepth 100000 in
set_option maxHeartbeats 6400000 in
theorem ispread (k : Int) (A B C i : Nat) (w : World) (hA : A < 4) (hi : i < 16) :
    Calls Tryz.prog 146 #[(.agg #[.int .i64 ((Gt.mk k A B C)).k, .int .i64 ((Gt.mk k A B C)).a, .int .i64 ((Gt.mk k A B C)).b, .int .i64 ((Gt.mk k A B C)).c]), .int .i64 i] w fun e w' => ∃ v, e = .returned v ∧ contE.Sl w' w.heap.size v [(lowN i A, isV 1), (flipN (lowN i A) A, if bitN i A then dNegV (isV 1) else isV 1)] ∧ Below w.heap.size w w' := by
  have HX := Lib.hid (heap_alloc_new w (.cells #[.int .i64 ((Gt.mk k A B C)).k, .int .i64 ((Gt.mk k A B C)).a, .int .i64 ((Gt.mk k A B C)).b, .int .i64 ((Gt.mk k A B C)).c] 25))
  obtain ⟨c0, c1, c2, c3⟩ := blk_cells HX.out
  have Hb0 := Lib.hid (show Below w.heap.size w (w.alloc (.cells #[.int .i64 ((Gt.mk k A B C)).k, .int .i64 ((Gt.mk k A B C)).a, .int .i64 ((Gt.mk k A B C)).b, .int .i64 ((Gt.mk k A B C)).c] 25)) by go_grown)
  have H := Lib.hid (fun W => iinv 1 W (by decide) (by decide))
  have HN := Lib.hid (fun W => inegD_any (isV 1) W (by decide) (by decide))
  have HB := Lib.hid (fun W => ibit (i := i) (q := A) hi hA rfl W)
  obtain ⟨f1, f2⟩ := or_all ⟨i, hi⟩ ⟨A, hA⟩
  simp only [] at f1 f2
  obtain ⟨R, hR⟩ : ∃ R, R = (if bitN i A = true then dNegV (isV 1) else isV 1) := ⟨_, rfl⟩
  rw [← hR]
  have HQ := Lib.hid hR
  clear hR
  generalize isV 1 = h at *
  generalize dNegV h = N at *
  go_enter Tryz.func146, Tryz.ntmps146
  go_wp2_with fail
  refine (H.out _).mono ?_
  rintro e w1 ⟨rfl, hb1⟩
  have hr1 := below_blk hb1 (lt_of_block HX.out) HX.out
  have Hb1 := Lib.hid (below_nx Hb0.out hb1)
  clear c0 c1 c2 c3
  have hp1 := heap_alloc_new w1 (.cells #[.int .i64 h.n.a, .int .i64 h.n.b, .int .i64 h.n.c, .int .i64 h.n.d, .int .i64 h.e] 70)
  have hr1 := alloc_blk (.cells #[.int .i64 h.n.a, .int .i64 h.n.b, .int .i64 h.n.c, .int .i64 h.n.d, .int .i64 h.e] 70) hr1
  obtain ⟨c0, c1, c2, c3⟩ := blk_cells hr1
  obtain ⟨d0, d1, d2, d3, d4⟩ := blk_cells5 hp1
  have HR := Lib.hid hr1
  have HP := Lib.hid hp1
  have zr := lt_of_block hr1
  have zp := lt_of_block hp1
  have zr1 : w.heap.size < w1.heap.size := by have h1 := Hb1.out.size; have h2 := hb1.size; simp at h2; omega
  clear hb1 hr1 hp1
  go_upto_region 2 with fail
  go_region
  have HR2 := Lib.hid (drew_blk (alloc_blk (.cells #[.int .i64 ((lowN i A : Nat) : Int), .int .i64 h.n.a, .int .i64 h.n.b, .int .i64 h.n.c, .int .i64 h.n.d, .int .i64 h.e] 149) HR.out))
  have HP2 := Lib.hid (drew_blk (alloc_blk (.cells #[.int .i64 ((lowN i A : Nat) : Int), .int .i64 h.n.a, .int .i64 h.n.b, .int .i64 h.n.c, .int .i64 h.n.d, .int .i64 h.e] 149) HP.out))
  have hc2 := drew_blk (heap_alloc_new (w1.alloc (.cells #[.int .i64 h.n.a, .int .i64 h.n.b, .int .i64 h.n.c, .int .i64 h.n.d, .int .i64 h.e] 70)) (.cells #[.int .i64 ((lowN i A : Nat) : Int), .int .i64 h.n.a, .int .i64 h.n.b, .int .i64 h.n.c, .int .i64 h.n.d, .int .i64 h.e] 149))
  have Hb2 := Lib.hid (show Below w.heap.size w (((w1.alloc (.cells #[.int .i64 h.n.a, .int .i64 h.n.b, .int .i64 h.n.c, .int .i64 h.n.d, .int .i64 h.e] 70)).alloc (.cells #[.int .i64 ((lowN i A : Nat) : Int), .int .i64 h.n.a, .int .i64 h.n.b, .int .i64 h.n.c, .int .i64 h.n.d, .int .i64 h.e] 149)).drew) by have := Hb1.out; go_grown)
  rw [show (w1.alloc (.cells #[.int .i64 h.n.a, .int .i64 h.n.b, .int .i64 h.n.c, .int .i64 h.n.d, .int .i64 h.e] 70)).heap.size = w1.heap.size + 1 by simp] at hc2
  have HC2 := Lib.hid hc2
  have hs2 : (((w1.alloc (.cells #[.int .i64 h.n.a, .int .i64 h.n.b, .int .i64 h.n.c, .int .i64 h.n.d, .int .i64 h.e] 70)).alloc (.cells #[.int .i64 ((lowN i A : Nat) : Int), .int .i64 h.n.a, .int .i64 h.n.b, .int .i64 h.n.c, .int .i64 h.n.d, .int .i64 h.e] 149)).drew).heap.size = w1.heap.size + 2 := by simp [World.drew]
  clear c0 c1 c2 c3 d0 d1 d2 d3 d4 zr zp hc2
  have Hs2 := Lib.hid hs2
  clear hs2
  generalize (((w1.alloc (.cells #[.int .i64 h.n.a, .int .i64 h.n.b, .int .i64 h.n.c, .int .i64 h.n.d, .int .i64 h.e] 70)).alloc (.cells #[.int .i64 ((lowN i A : Nat) : Int), .int .i64 h.n.a, .int .i64 h.n.b, .int .i64 h.n.c, .int .i64 h.n.d, .int .i64 h.e] 149)).drew) = w2 at *
  obtain ⟨c0, c1, c2, c3⟩ := blk_cells HR2.out
  obtain ⟨d0, d1, d2, d3, d4⟩ := blk_cells5 HP2.out
  have zr := lt_of_block HR2.out
  have zp := lt_of_block HP2.out
  go_upto_region 3 with fail
  go_region
  have HR3 := Lib.hid (drew_blk (alloc_blk (.cells #[.int .i64 ((flipN (lowN i A) A : Nat) : Int), .int .i64 h.n.a, .int .i64 h.n.b, .int .i64 h.n.c, .int .i64 h.n.d, .int .i64 h.e] 149) HR2.out))
  have HP3 := Lib.hid (drew_blk (alloc_blk (.cells #[.int .i64 ((flipN (lowN i A) A : Nat) : Int), .int .i64 h.n.a, .int .i64 h.n.b, .int .i64 h.n.c, .int .i64 h.n.d, .int .i64 h.e] 149) HP2.out))
  have HC3 := Lib.hid (drew_blk (alloc_blk (.cells #[.int .i64 ((flipN (lowN i A) A : Nat) : Int), .int .i64 h.n.a, .int .i64 h.n.b, .int .i64 h.n.c, .int .i64 h.n.d, .int .i64 h.e] 149) HC2.out))
  have HS3 := Lib.hid (drew_blk (heap_alloc_new w2 (.cells #[.int .i64 ((flipN (lowN i A) A : Nat) : Int), .int .i64 h.n.a, .int .i64 h.n.b, .int .i64 h.n.c, .int .i64 h.n.d, .int .i64 h.e] 149)))
  have Hb3 := Lib.hid (show Below w.heap.size w (w2.alloc (.cells #[.int .i64 ((flipN (lowN i A) A : Nat) : Int), .int .i64 h.n.a, .int .i64 h.n.b, .int .i64 h.n.c, .int .i64 h.n.d, .int .i64 h.e] 149)).drew by have := Hb2.out; go_grown)
  have hs3 : (w2.alloc (.cells #[.int .i64 ((flipN (lowN i A) A : Nat) : Int), .int .i64 h.n.a, .int .i64 h.n.b, .int .i64 h.n.c, .int .i64 h.n.d, .int .i64 h.e] 149)).drew.heap.size = w2.heap.size + 1 := by simp [World.drew]
  rw [Hs2.out] at HS3 hs3 ⊢
  have Hs3 := Lib.hid hs3
  clear hs3
  clear c0 c1 c2 c3 d0 d1 d2 d3 d4 zr zp
  generalize (w2.alloc (.cells #[.int .i64 ((flipN (lowN i A) A : Nat) : Int), .int .i64 h.n.a, .int .i64 h.n.b, .int .i64 h.n.c, .int .i64 h.n.d, .int .i64 h.e] 149)).drew = w3 at *
  obtain ⟨c0, c1, c2, c3⟩ := blk_cells HR3.out
  have zr := lt_of_block HR3.out
  generalize bitN i A = bb at *
  cases bb with
  | false =>
    obtain rfl : R = h := HQ.out
    have HB0 := Lib.hid (show ∀ W, Calls Tryz.prog 42 #[.int .i64 (i : Int), .int .i64 (A : Int)] W fun e w' => e = .returned (.int .i64 0) ∧ W = w' from HB.out)
    have Hn := Lib.hid (new_cont2 w3 (lowN i A) (flipN (lowN i A) A) R R)
    obtain ⟨d0, d1, d2, d3, d4, d5⟩ := blk_cells6 HC3.out
    obtain ⟨e0, e1, e2, e3, e4, e5⟩ := blk_cells6 HS3.out
    clear HB
    go_wp2_with fail
    refine (HB0.out _).mono ?_
    rintro e wx ⟨rfl, rfl⟩
    go_wp2_with fail
    go_ret
    exact ⟨_, rfl, Hn.out.mono Hb3.out.size, by have := Hb3.out; have := Hb3.out.size; go_grown⟩
  | true =>
    obtain rfl : R = N := HQ.out
    have HB0 := Lib.hid (show ∀ W, Calls Tryz.prog 42 #[.int .i64 (i : Int), .int .i64 (A : Int)] W fun e w' => e = .returned (.int .i64 1) ∧ W = w' from HB.out)
    obtain ⟨d0, d1, d2, d3, d4⟩ := blk_cells5 HP3.out
    clear HB
    go_wp2_with fail
    refine (HB0.out _).mono ?_
    rintro e wx ⟨rfl, rfl⟩
    go_wp2_with fail
    refine (HN.out _).mono ?_
    rintro e w4 ⟨rfl, hb4⟩
    have hc4 := below_blk hb4 (lt_of_block HC3.out) HC3.out
    have hs4 := below_blk hb4 (lt_of_block HS3.out) HS3.out
    have Hb4 := Lib.hid (below_nx Hb3.out hb4)
    have zc := lt_of_block hc4
    have zs := lt_of_block hs4
    clear c0 c1 c2 c3 d0 d1 d2 d3 d4 zr
    obtain ⟨d0, d1, d2, d3, d4, d5⟩ := blk_cells6 hc4
    obtain ⟨e0, e1, e2, e3, e4, e5⟩ := blk_cells6 hs4
    have f4 := fun o => free_at hs4 o
    have h5 := new_cont2 (((((w4.setCell ⟨w1.heap.size + 2, 1, none⟩ (.int .i64 R.n.a)).setCell ⟨w1.heap.size + 2, 2, none⟩ (.int .i64 R.n.b)).setCell ⟨w1.heap.size + 2, 3, none⟩ (.int .i64 R.n.c)).setCell ⟨w1.heap.size + 2, 4, none⟩ (.int .i64 R.n.d)).setCell ⟨w1.heap.size + 2, 5, none⟩ (.int .i64 R.e)) (lowN i A) (flipN (lowN i A) A) h R
    rw [show (((((w4.setCell ⟨w1.heap.size + 2, 1, none⟩ (.int .i64 R.n.a)).setCell ⟨w1.heap.size + 2, 2, none⟩ (.int .i64 R.n.b)).setCell ⟨w1.heap.size + 2, 3, none⟩ (.int .i64 R.n.c)).setCell ⟨w1.heap.size + 2, 4, none⟩ (.int .i64 R.n.d)).setCell ⟨w1.heap.size + 2, 5, none⟩ (.int .i64 R.e)).heap.size = w4.heap.size by simp [World.setCell]] at h5
    have H5 := Lib.hid h5
    clear hb4 hc4 hs4 h5
    go_wp2_with fail
    go_ret
    exact ⟨_, rfl, H5.out.mono Hb4.out.size, by have := Hb4.out; have := Hb4.out.size; go_grown⟩
end Go.Proofs.YtlmiebeffdcfhaaGreat
