/- Draws of gates of the model that may be invalid. -/
import Derived.Test.YtlmiebeffdcfhaaGreatBaseB10
import Derived.Test.YtlmiebeffdcfhaaGreatBaseB11
namespace Go.Proofs.YtlmiebeffdcfhaaGreat
open Go.RowKit
/-- The kind of a gate is a machine integer. -/
def GtI (g : Gt) : Prop := -9223372036854775808 ≤ g.k ∧ g.k ≤ 9223372036854775807
theorem GtBd.i {g : Gt} (h : GtBd g) : GtI g := by have := h.1; unfold GtI; omega
attribute [local irreducible] World.cell?
set_option maxRecDepth 100000 in
set_option maxHeartbeats 6400000 in
theorem bentG (B n : Nat) (w : World) (hcur : CurAt w B) (hB : B < w.heap.size) (h1 : 1 ≤ n) (h4 : n ≤ 4) :
    Calls Tryz.prog 25 #[.pointer (some ⟨B, 0, none⟩), .int .i64 n] w fun e w' => (∃ g, e = .returned (.agg #[.int .i64 g.k, .int .i64 g.a, .int .i64 g.b, .int .i64 g.c]) ∧ GtI g) ∧ CurAt w' B ∧ Own B w w' := by
  have HR := Lib.hid (heap_alloc_new w (.cells #[.int .i64 0, .int .i64 0, .int .i64 0, .int .i64 0] 25))
  have hne : w.heap.size ≠ B := by omega
  have Hb0 := Lib.hid (show Below w.heap.size w (w.alloc (.cells #[.int .i64 0, .int .i64 0, .int .i64 0, .int .i64 0] 25)) by go_grown)
  have Hc0 := Lib.hid (hcur.below Hb0.out hB)
  have Ho0 := Lib.hid (show Own B w _ from own_of_below Hb0.out)
  clear hcur
  go_enter Tryz.func25, Tryz.ntmps25
  go_wp2_with fail
  refine (gate_any B n _ Hc0.out (by simp; omega) h1 h4).mono ?_
  rintro e w1 ⟨⟨g, rfl, hgb⟩, hc1, ho1⟩
  have hs1 := ho1.size
  simp at hs1
  have Hc1 := Lib.hid (hc1.below (w' := w1.alloc (.cells #[.int .i64 g.k, .int .i64 g.a, .int .i64 g.b, .int .i64 g.c] 25)) (C := w1.heap.size) (by go_grown) (by omega))
  have HR1 := Lib.hid (alloc_blk (.cells #[.int .i64 g.k, .int .i64 g.a, .int .i64 g.b, .int .i64 g.c] 25) (own_blk ho1 hne HR.out))
  have HG1 := Lib.hid (heap_alloc_new w1 (.cells #[.int .i64 g.k, .int .i64 g.a, .int .i64 g.b, .int .i64 g.c] 25))
  have Ho1 := Lib.hid (own_alloc (own_trans Ho0.out ho1) (.cells #[.int .i64 g.k, .int .i64 g.a, .int .i64 g.b, .int .i64 g.c] 25))
  have hgi := hgb.i
  clear hc1 ho1 Hc0 HR hgb
  go_wp2_with fail
  refine (below_any B 10 _ Hc1.out (by omega) (by omega)).mono ?_
  rintro e w2 ⟨⟨y, y0, y1, rfl⟩, hc2, ho2⟩
  have hs2 := ho2.size
  simp at hs2
  have Hc2 := Lib.hid hc2
  have HR2 := Lib.hid (own_blk ho2 hne HR1.out)
  have HG2 := Lib.hid (own_blk (g := w1.heap.size) ho2 (by omega) HG1.out)
  have Ho2 := Lib.hid (own_trans Ho1.out ho2)
  have hgw : w.heap.size ≤ w1.heap.size := by omega
  have hgl := lt_of_block HG2.out
  clear hc2 ho2 Hc1 HR1 HG1 Ho1
  by_cases q0 : y = 0
  · subst q0
    go_wp2_with fail
    refine (below_any B 15 _ Hc2.out (by omega) (by omega)).mono ?_
    rintro e w3 ⟨⟨z, z0, z1, rfl⟩, hc3, ho3⟩
    have hs3 := ho3.size
    have HR3 := own_blk ho3 hne HR2.out
    have HG3 := own_blk (g := w1.heap.size) ho3 (by omega) HG2.out
    have hgl3 := lt_of_block HG3
    obtain ⟨a0, a1, a2, a3⟩ := blk_cells HG3
    have fG := fun o => free_at HG3 o
    have HRf := Lib.hid (set1_blk (o := 0) (u := .int .i64 (z - 1)) (show w.heap.size ≠ w1.heap.size by omega) HR3)
    have Hcf := Lib.hid (hc3.own (C := w1.heap.size) (own_set (own_refl _ w3) 0 (.int .i64 (z - 1))) (by omega))
    have Hof := Lib.hid (own_dn (own_trans Ho2.out ho3) 0 (.int .i64 (z - 1)) hgw)
    have hi2 : -9223372036854775808 ≤ z - 1 ∧ z - 1 ≤ 9223372036854775807 := by omega
    obtain ⟨r0, r1, r2, r3⟩ := blk_cells HR3
    have fR := fun o => free_at HR3 o
    have hRl := lt_of_block HR3
    clear hc3 ho3 Hc2 HR2 HG2 Ho2 HR3 HG3 hgi
    go_wp2_with fail
    obtain ⟨k0', k1', k2', k3'⟩ := blk_cells (set4_at (u0 := .int .i64 (z - 1)) (u1 := .int .i64 g.a) (u2 := .int .i64 g.b) (u3 := .int .i64 g.c) HRf.out)
    refine bodyPost_ret (v := (.agg #[.int .i64 (z - 1), .int .i64 g.a, .int .i64 g.b, .int .i64 g.c])) (by simp only [results, Tryz.results25]; simp [go_sem, k0', k1', k2', k3']) rfl ⟨⟨⟨(z - 1), g.a, g.b, g.c⟩, rfl, hi2⟩, ?_, ?_⟩
    · exact Hcf.out.own (C := w.heap.size) (own_set (own_set (own_set (own_set (own_refl _ _) _ _) _ _) _ _) _ _) hB
    · exact own_dn (own_dn (own_dn (own_dn Hof.out _ _ (Nat.le_refl _)) _ _ (Nat.le_refl _)) _ _ (Nat.le_refl _)) _ _ (Nat.le_refl _)
  by_cases q1 : y = 1
  · subst q1
    obtain ⟨a0, a1, a2, a3⟩ := blk_cells HG2.out
    have Hc3 := Lib.hid (Hc2.out.below (w' := w2.alloc (.cells #[.int .i64 0, .int .i64 n, .int .i64 (-1), .int .i64 g.b] 3)) (C := w2.heap.size) (by go_grown) (by omega))
    have Hl3 := Lib.hid (show ListAt (w2.alloc (.cells #[.int .i64 0, .int .i64 n, .int .i64 (-1), .int .i64 g.b] 3)) w2.heap.size 4 (fun j => .int .i64 (([0, (n : Int), -1, g.b] : List Int).getD j 0)) from fun j hj => by
      have hb := heap_alloc_new w2 (.cells #[.int .i64 0, .int .i64 n, .int .i64 (-1), .int .i64 g.b] 3)
      rcases (show j = 0 ∨ j = 1 ∨ j = 2 ∨ j = 3 by omega) with rfl | rfl | rfl | rfl <;> exact cell_at hb _ _ rfl)
    have HR3 := Lib.hid (alloc_blk (.cells #[.int .i64 0, .int .i64 n, .int .i64 (-1), .int .i64 g.b] 3) HR2.out)
    have HG3 := Lib.hid (alloc_blk (.cells #[.int .i64 0, .int .i64 n, .int .i64 (-1), .int .i64 g.b] 3) HG2.out)
    have Ho3 := Lib.hid (own_alloc Ho2.out (.cells #[.int .i64 0, .int .i64 n, .int .i64 (-1), .int .i64 g.b] 3))
    clear Hc2 HR2 HG2 Ho2
    go_wp2_with fail
    refine (pickInt_any B w2.heap.size 4 _ (fun j => ([0, (n : Int), -1, g.b] : List Int).getD j 0) _ Hc3.out Hl3.out (by omega) (by omega) (by omega)).mono ?_
    rintro e w4 ⟨⟨q, hq, rfl⟩, hc4, ho4⟩
    clear a0 a1 a2 a3
    obtain ⟨z, hz⟩ : ∃ z, ([0, (n : Int), -1, g.b] : List Int).getD q 0 = z := ⟨_, rfl⟩
    simp only [hz]
    have HR4 := own_blk ho4 hne HR3.out
    have HG4 := own_blk (g := w1.heap.size) ho4 (by omega) HG3.out
    have hgl4 := lt_of_block HG4
    obtain ⟨a0, a1, a2, a3⟩ := blk_cells HG4
    have fG := fun o => free_at HG4 o
    have HRf := Lib.hid (set1_blk (o := 1) (u := .int .i64 z) (show w.heap.size ≠ w1.heap.size by omega) HR4)
    have Hcf := Lib.hid (hc4.own (C := w1.heap.size) (own_set (own_refl _ w4) 1 (.int .i64 z)) (by omega))
    have Hof := Lib.hid (own_dn (own_trans Ho3.out ho4) 1 (.int .i64 z) hgw)
    obtain ⟨r0, r1, r2, r3⟩ := blk_cells HR4
    have fR := fun o => free_at HR4 o
    have hRl := lt_of_block HR4
    clear hc4 ho4 Hc3 HR3 HG3 Ho3 HR4 HG4 Hl3 hz
    go_wp2_with fail
    obtain ⟨k0', k1', k2', k3'⟩ := blk_cells (set4_at (u0 := .int .i64 g.k) (u1 := .int .i64 z) (u2 := .int .i64 g.b) (u3 := .int .i64 g.c) HRf.out)
    refine bodyPost_ret (v := (.agg #[.int .i64 g.k, .int .i64 z, .int .i64 g.b, .int .i64 g.c])) (by simp only [results, Tryz.results25]; simp [go_sem, k0', k1', k2', k3']) rfl ⟨⟨⟨g.k, z, g.b, g.c⟩, rfl, hgi⟩, ?_, ?_⟩
    · exact Hcf.out.own (C := w.heap.size) (own_set (own_set (own_set (own_set (own_refl _ _) _ _) _ _) _ _) _ _) hB
    · exact own_dn (own_dn (own_dn (own_dn Hof.out _ _ (Nat.le_refl _)) _ _ (Nat.le_refl _)) _ _ (Nat.le_refl _)) _ _ (Nat.le_refl _)
  by_cases q2 : y = 2
  · subst q2
    obtain ⟨a0, a1, a2, a3⟩ := blk_cells HG2.out
    have Hc3 := Lib.hid (Hc2.out.below (w' := w2.alloc (.cells #[.int .i64 0, .int .i64 n, .int .i64 (-1), .int .i64 g.a] 3)) (C := w2.heap.size) (by go_grown) (by omega))
    have Hl3 := Lib.hid (show ListAt (w2.alloc (.cells #[.int .i64 0, .int .i64 n, .int .i64 (-1), .int .i64 g.a] 3)) w2.heap.size 4 (fun j => .int .i64 (([0, (n : Int), -1, g.a] : List Int).getD j 0)) from fun j hj => by
      have hb := heap_alloc_new w2 (.cells #[.int .i64 0, .int .i64 n, .int .i64 (-1), .int .i64 g.a] 3)
      rcases (show j = 0 ∨ j = 1 ∨ j = 2 ∨ j = 3 by omega) with rfl | rfl | rfl | rfl <;> exact cell_at hb _ _ rfl)
    have HR3 := Lib.hid (alloc_blk (.cells #[.int .i64 0, .int .i64 n, .int .i64 (-1), .int .i64 g.a] 3) HR2.out)
    have HG3 := Lib.hid (alloc_blk (.cells #[.int .i64 0, .int .i64 n, .int .i64 (-1), .int .i64 g.a] 3) HG2.out)
    have Ho3 := Lib.hid (own_alloc Ho2.out (.cells #[.int .i64 0, .int .i64 n, .int .i64 (-1), .int .i64 g.a] 3))
    clear Hc2 HR2 HG2 Ho2
    go_wp2_with fail
    refine (pickInt_any B w2.heap.size 4 _ (fun j => ([0, (n : Int), -1, g.a] : List Int).getD j 0) _ Hc3.out Hl3.out (by omega) (by omega) (by omega)).mono ?_
    rintro e w4 ⟨⟨q, hq, rfl⟩, hc4, ho4⟩
    clear a0 a1 a2 a3
    obtain ⟨z, hz⟩ : ∃ z, ([0, (n : Int), -1, g.a] : List Int).getD q 0 = z := ⟨_, rfl⟩
    simp only [hz]
    have HR4 := own_blk ho4 hne HR3.out
    have HG4 := own_blk (g := w1.heap.size) ho4 (by omega) HG3.out
    have hgl4 := lt_of_block HG4
    obtain ⟨a0, a1, a2, a3⟩ := blk_cells HG4
    have fG := fun o => free_at HG4 o
    have HRf := Lib.hid (set1_blk (o := 2) (u := .int .i64 z) (show w.heap.size ≠ w1.heap.size by omega) HR4)
    have Hcf := Lib.hid (hc4.own (C := w1.heap.size) (own_set (own_refl _ w4) 2 (.int .i64 z)) (by omega))
    have Hof := Lib.hid (own_dn (own_trans Ho3.out ho4) 2 (.int .i64 z) hgw)
    obtain ⟨r0, r1, r2, r3⟩ := blk_cells HR4
    have fR := fun o => free_at HR4 o
    have hRl := lt_of_block HR4
    clear hc4 ho4 Hc3 HR3 HG3 Ho3 HR4 HG4 Hl3 hz
    go_wp2_with fail
    obtain ⟨k0', k1', k2', k3'⟩ := blk_cells (set4_at (u0 := .int .i64 g.k) (u1 := .int .i64 g.a) (u2 := .int .i64 z) (u3 := .int .i64 g.c) HRf.out)
    refine bodyPost_ret (v := (.agg #[.int .i64 g.k, .int .i64 g.a, .int .i64 z, .int .i64 g.c])) (by simp only [results, Tryz.results25]; simp [go_sem, k0', k1', k2', k3']) rfl ⟨⟨⟨g.k, g.a, z, g.c⟩, rfl, hgi⟩, ?_, ?_⟩
    · exact Hcf.out.own (C := w.heap.size) (own_set (own_set (own_set (own_set (own_refl _ _) _ _) _ _) _ _) _ _) hB
    · exact own_dn (own_dn (own_dn (own_dn Hof.out _ _ (Nat.le_refl _)) _ _ (Nat.le_refl _)) _ _ (Nat.le_refl _)) _ _ (Nat.le_refl _)
  by_cases q3 : y = 3
  · subst q3
    obtain ⟨a0, a1, a2, a3⟩ := blk_cells HG2.out
    have Hc3 := Lib.hid (Hc2.out.below (w' := w2.alloc (.cells #[.int .i64 0, .int .i64 1, .int .i64 n, .int .i64 (-1)] 3)) (C := w2.heap.size) (by go_grown) (by omega))
    have Hl3 := Lib.hid (show ListAt (w2.alloc (.cells #[.int .i64 0, .int .i64 1, .int .i64 n, .int .i64 (-1)] 3)) w2.heap.size 4 (fun j => .int .i64 (([0, 1, (n : Int), -1] : List Int).getD j 0)) from fun j hj => by
      have hb := heap_alloc_new w2 (.cells #[.int .i64 0, .int .i64 1, .int .i64 n, .int .i64 (-1)] 3)
      rcases (show j = 0 ∨ j = 1 ∨ j = 2 ∨ j = 3 by omega) with rfl | rfl | rfl | rfl <;> exact cell_at hb _ _ rfl)
    have HR3 := Lib.hid (alloc_blk (.cells #[.int .i64 0, .int .i64 1, .int .i64 n, .int .i64 (-1)] 3) HR2.out)
    have HG3 := Lib.hid (alloc_blk (.cells #[.int .i64 0, .int .i64 1, .int .i64 n, .int .i64 (-1)] 3) HG2.out)
    have Ho3 := Lib.hid (own_alloc Ho2.out (.cells #[.int .i64 0, .int .i64 1, .int .i64 n, .int .i64 (-1)] 3))
    clear Hc2 HR2 HG2 Ho2
    go_wp2_with fail
    refine (pickInt_any B w2.heap.size 4 _ (fun j => ([0, 1, (n : Int), -1] : List Int).getD j 0) _ Hc3.out Hl3.out (by omega) (by omega) (by omega)).mono ?_
    rintro e w4 ⟨⟨q, hq, rfl⟩, hc4, ho4⟩
    clear a0 a1 a2 a3
    obtain ⟨z, hz⟩ : ∃ z, ([0, 1, (n : Int), -1] : List Int).getD q 0 = z := ⟨_, rfl⟩
    simp only [hz]
    have HR4 := own_blk ho4 hne HR3.out
    have HG4 := own_blk (g := w1.heap.size) ho4 (by omega) HG3.out
    have hgl4 := lt_of_block HG4
    obtain ⟨a0, a1, a2, a3⟩ := blk_cells HG4
    have fG := fun o => free_at HG4 o
    have HRf := Lib.hid (set1_blk (o := 3) (u := .int .i64 z) (show w.heap.size ≠ w1.heap.size by omega) HR4)
    have Hcf := Lib.hid (hc4.own (C := w1.heap.size) (own_set (own_refl _ w4) 3 (.int .i64 z)) (by omega))
    have Hof := Lib.hid (own_dn (own_trans Ho3.out ho4) 3 (.int .i64 z) hgw)
    obtain ⟨r0, r1, r2, r3⟩ := blk_cells HR4
    have fR := fun o => free_at HR4 o
    have hRl := lt_of_block HR4
    clear hc4 ho4 Hc3 HR3 HG3 Ho3 HR4 HG4 Hl3 hz
    go_wp2_with fail
    obtain ⟨k0', k1', k2', k3'⟩ := blk_cells (set4_at (u0 := .int .i64 g.k) (u1 := .int .i64 g.a) (u2 := .int .i64 g.b) (u3 := .int .i64 z) HRf.out)
    refine bodyPost_ret (v := (.agg #[.int .i64 g.k, .int .i64 g.a, .int .i64 g.b, .int .i64 z])) (by simp only [results, Tryz.results25]; simp [go_sem, k0', k1', k2', k3']) rfl ⟨⟨⟨g.k, g.a, g.b, z⟩, rfl, hgi⟩, ?_, ?_⟩
    · exact Hcf.out.own (C := w.heap.size) (own_set (own_set (own_set (own_set (own_refl _ _) _ _) _ _) _ _) _ _) hB
    · exact own_dn (own_dn (own_dn (own_dn Hof.out _ _ (Nat.le_refl _)) _ _ (Nat.le_refl _)) _ _ (Nat.le_refl _)) _ _ (Nat.le_refl _)
  have e0 : (y == 0) = false := by simpa using q0
  have e1 : (y == 1) = false := by simpa using q1
  have e2 : (y == 2) = false := by simpa using q2
  have e3 : (y == 3) = false := by simpa using q3
  obtain ⟨a0, a1, a2, a3⟩ := blk_cells HG2.out
  have HRf := HR2
  have Hcf := Hc2
  have Hof := Ho2
  obtain ⟨r0, r1, r2, r3⟩ := blk_cells HR2.out
  have fR := fun o => free_at HR2.out o
  have hRl := lt_of_block HR2.out
  clear Hc2 HR2 HG2 Ho2
  go_wp2_with fail
  obtain ⟨k0', k1', k2', k3'⟩ := blk_cells (set4_at (u0 := .int .i64 g.k) (u1 := .int .i64 g.a) (u2 := .int .i64 g.b) (u3 := .int .i64 g.c) HRf.out)
  refine bodyPost_ret (v := (.agg #[.int .i64 g.k, .int .i64 g.a, .int .i64 g.b, .int .i64 g.c])) (by simp only [results, Tryz.results25]; simp [go_sem, k0', k1', k2', k3']) rfl ⟨⟨⟨g.k, g.a, g.b, g.c⟩, rfl, hgi⟩, ?_, ?_⟩
  · exact Hcf.out.own (C := w.heap.size) (own_set (own_set (own_set (own_set (own_refl _ _) _ _) _ _) _ _) _ _) hB
  · exact own_dn (own_dn (own_dn (own_dn Hof.out _ _ (Nat.le_refl _)) _ _ (Nat.le_refl _)) _ _ (Nat.le_refl _)) _ _ (Nat.le_refl _)
end Go.Proofs.YtlmiebeffdcfhaaGreat
