/- The program's controlledBy and the function that it answers with, a kind at a time. -/
import Derived.Test.YtlmiebeffdcfhaaGreatCtKw
import Derived.Test.YtlmiebeffdcfhaaGreatCtKt
import Derived.Test.YtlmiebeffdcfhaaGreatBaseC02
import Derived.Test.YtlmiebeffdcfhaaGreatBaseB12
namespace Go.Proofs.YtlmiebeffdcfhaaGreat
open Go.RowKit
/-- What lies in memory when the closure has made its three boxes. -/
theorem box3 {w : World} {q k a b c : Int} {Bq : Nat} (hq : w.heap[Bq]? = some (.cells #[.int .i64 q] 3 (0, 0))) (n : Nat) :
    ((w.alloc (.cells #[.int .i64 k, .int .i64 a, .int .i64 b, .int .i64 c] 25)).drewN n).heap[Bq]? = some (.cells #[.int .i64 q] 3 (0, 0)) ∧ ((w.alloc (.cells #[.int .i64 k, .int .i64 a, .int .i64 b, .int .i64 c] 25)).drewN n).heap[w.heap.size]? = some (.cells #[.int .i64 k, .int .i64 a, .int .i64 b, .int .i64 c] 25 (0, 0)) ∧ ((w.alloc (.cells #[.int .i64 k, .int .i64 a, .int .i64 b, .int .i64 c] 25)).drewN n).heap.size = w.heap.size + 1 ∧ Below w.heap.size w ((w.alloc (.cells #[.int .i64 k, .int .i64 a, .int .i64 b, .int .i64 c] 25)).drewN n) :=
  ⟨alloc_blk _ hq, heap_alloc_new w _, by show (w.alloc _).heap.size = _; simp, below_dn ((Below.refl _ _).alloc (Nat.le_refl _) _) n⟩
attribute [local irreducible] World.cell?
set_option maxRecDepth 100000 in
set_option maxHeartbeats 3200000 in
theorem ctq_1 (q a b c : Int) (Bq : Nat) (w : World) (hq : w.heap[Bq]? = some (.cells #[.int .i64 q] 3 (0, 0))) :
    Calls Tryz.prog 66 #[.agg #[.int .i64 1, .int .i64 a, .int .i64 b, .int .i64 c], .pointer (some ⟨Bq, 0, none⟩)] w fun e w' => ∃ v, e = .returned v ∧ gtE.Sl w' w.heap.size v [⟨9, q, a, 0⟩] ∧ Below w.heap.size w w' := by
  have H3 := Lib.hid (fun n => box3 (k := 1) (a := a) (b := b) (c := c) hq n)
  have HX := Lib.hid (heap_alloc_new w (.cells #[.int .i64 1, .int .i64 a, .int .i64 b, .int .i64 c] 25))
  obtain ⟨c0, c1, c2, c3⟩ := blk_cells HX.out
  have hxl := lt_of_block HX.out
  clear hq
  go_enter Tryz.func66, Tryz.ntmps66
  go_upto_region 1 with fail
  go_quiet (fail)
  generalize hn : World.drewN _ _ = W0
  obtain ⟨hQ, hX, hz, hb⟩ := hn ▸ H3.out _
  clear hn c0 c1 c2 c3 hxl HX H3
  have HQ := Lib.hid hQ
  have HX := Lib.hid hX
  have Hb := Lib.hid hb
  have HCX := Lib.hid (alloc_blk (.cells #[.int .i64 12, .int .i64 q, .int .i64 a, .int .i64 b] 25) (heap_alloc_new W0 (.cells #[.int .i64 9, .int .i64 q, .int .i64 a, .int .i64 0] 25)))
  have hz1 : (W0.alloc (.cells #[.int .i64 9, .int .i64 q, .int .i64 a, .int .i64 0] 25)).heap.size = w.heap.size + 2 := by simp [hz]
  have HCC := Lib.hid (show ((W0.alloc (.cells #[.int .i64 9, .int .i64 q, .int .i64 a, .int .i64 0] 25)).alloc (.cells #[.int .i64 12, .int .i64 q, .int .i64 a, .int .i64 b] 25)).heap[w.heap.size + 2]? = some (.cells #[.int .i64 12, .int .i64 q, .int .i64 a, .int .i64 b] 25 (0, 0)) by rw [← hz1]; exact heap_alloc_new (W0.alloc (.cells #[.int .i64 9, .int .i64 q, .int .i64 a, .int .i64 0] 25)) (.cells #[.int .i64 12, .int .i64 q, .int .i64 a, .int .i64 b] 25))
  rw [hz] at HCX
  have HX3 := Lib.hid (alloc_blk (.cells #[.int .i64 12, .int .i64 q, .int .i64 a, .int .i64 b] 25) (alloc_blk (.cells #[.int .i64 9, .int .i64 q, .int .i64 a, .int .i64 0] 25) HX.out))
  have HQ2 := Lib.hid (alloc_blk (.cells #[.int .i64 9, .int .i64 q, .int .i64 a, .int .i64 0] 25) HQ.out)
  have HQ3 := Lib.hid (alloc_blk (.cells #[.int .i64 12, .int .i64 q, .int .i64 a, .int .i64 b] 25) HQ2.out)
  have Hb3 := Lib.hid ((Hb.out.alloc (by omega) (.cells #[.int .i64 9, .int .i64 q, .int .i64 a, .int .i64 0] 25)).alloc (by omega) (.cells #[.int .i64 12, .int .i64 q, .int .i64 a, .int .i64 b] 25))
  have q0 := cell_at HQ.out 0 _ rfl
  have hql := lt_of_block HQ.out
  have q2 := cell_at HQ2.out 0 _ rfl
  have hql2 := lt_of_block HQ2.out
  have q3 := cell_at HQ3.out 0 _ rfl
  obtain ⟨x0, x1, x2, x3⟩ := blk_cells HX3.out
  obtain ⟨y0, y1, y2, y3⟩ := blk_cells HCX.out
  obtain ⟨z0, z1, z2, z3⟩ := blk_cells HCC.out
  have h1 : (((W0.alloc (.cells #[.int .i64 9, .int .i64 q, .int .i64 a, .int .i64 0] 25)).alloc (.cells #[.int .i64 12, .int .i64 q, .int .i64 a, .int .i64 b] 25)).alloc (.cells #[.int .i64 9, .int .i64 q, .int .i64 a, .int .i64 0] 25)).heap[w.heap.size + 2 + 1]? = some (.cells #[.int .i64 9, .int .i64 q, .int .i64 a, .int .i64 0] 25 (0, 0)) := by
    have h := heap_alloc_new ((W0.alloc (.cells #[.int .i64 9, .int .i64 q, .int .i64 a, .int .i64 0] 25)).alloc (.cells #[.int .i64 12, .int .i64 q, .int .i64 a, .int .i64 b] 25)) (.cells #[.int .i64 9, .int .i64 q, .int .i64 a, .int .i64 0] 25)
    rw [show ((W0.alloc (.cells #[.int .i64 9, .int .i64 q, .int .i64 a, .int .i64 0] 25)).alloc (.cells #[.int .i64 12, .int .i64 q, .int .i64 a, .int .i64 b] 25)).heap.size = w.heap.size + 2 + 1 by simp [hz]] at h
    exact h
  have H1 := Lib.hid h1
  clear h1
  go_wp2_with fail
  go_ret
  exact ⟨_, rfl, Enc.Sl.mk (E := gtE) (l := [⟨9, q, a, 0⟩]) rfl (Nat.le_refl _) (by omega) ⟨_, H1.out, rfl⟩, Hb3.out.alloc (by simp; omega) _⟩
set_option maxRecDepth 100000 in
set_option maxHeartbeats 3200000 in
theorem ctq_2 (q a b c : Int) (Bq : Nat) (w : World) (hq : w.heap[Bq]? = some (.cells #[.int .i64 q] 3 (0, 0))) :
    Calls Tryz.prog 66 #[.agg #[.int .i64 2, .int .i64 a, .int .i64 b, .int .i64 c], .pointer (some ⟨Bq, 0, none⟩)] w fun e w' => ∃ v, e = .returned v ∧ gtE.Sl w' w.heap.size v [⟨6, a, 0, 0⟩, ⟨9, q, a, 0⟩, ⟨5, a, 0, 0⟩] ∧ Below w.heap.size w w' := by
  have H3 := Lib.hid (fun n => box3 (k := 2) (a := a) (b := b) (c := c) hq n)
  have HX := Lib.hid (heap_alloc_new w (.cells #[.int .i64 2, .int .i64 a, .int .i64 b, .int .i64 c] 25))
  obtain ⟨c0, c1, c2, c3⟩ := blk_cells HX.out
  have hxl := lt_of_block HX.out
  clear hq
  go_enter Tryz.func66, Tryz.ntmps66
  go_upto_region 1 with fail
  go_quiet (fail)
  generalize hn : World.drewN _ _ = W0
  obtain ⟨hQ, hX, hz, hb⟩ := hn ▸ H3.out _
  clear hn c0 c1 c2 c3 hxl HX H3
  have HQ := Lib.hid hQ
  have HX := Lib.hid hX
  have Hb := Lib.hid hb
  have HCX := Lib.hid (alloc_blk (.cells #[.int .i64 12, .int .i64 q, .int .i64 a, .int .i64 b] 25) (heap_alloc_new W0 (.cells #[.int .i64 9, .int .i64 q, .int .i64 a, .int .i64 0] 25)))
  have hz1 : (W0.alloc (.cells #[.int .i64 9, .int .i64 q, .int .i64 a, .int .i64 0] 25)).heap.size = w.heap.size + 2 := by simp [hz]
  have HCC := Lib.hid (show ((W0.alloc (.cells #[.int .i64 9, .int .i64 q, .int .i64 a, .int .i64 0] 25)).alloc (.cells #[.int .i64 12, .int .i64 q, .int .i64 a, .int .i64 b] 25)).heap[w.heap.size + 2]? = some (.cells #[.int .i64 12, .int .i64 q, .int .i64 a, .int .i64 b] 25 (0, 0)) by rw [← hz1]; exact heap_alloc_new (W0.alloc (.cells #[.int .i64 9, .int .i64 q, .int .i64 a, .int .i64 0] 25)) (.cells #[.int .i64 12, .int .i64 q, .int .i64 a, .int .i64 b] 25))
  rw [hz] at HCX
  have HX3 := Lib.hid (alloc_blk (.cells #[.int .i64 12, .int .i64 q, .int .i64 a, .int .i64 b] 25) (alloc_blk (.cells #[.int .i64 9, .int .i64 q, .int .i64 a, .int .i64 0] 25) HX.out))
  have HQ2 := Lib.hid (alloc_blk (.cells #[.int .i64 9, .int .i64 q, .int .i64 a, .int .i64 0] 25) HQ.out)
  have HQ3 := Lib.hid (alloc_blk (.cells #[.int .i64 12, .int .i64 q, .int .i64 a, .int .i64 b] 25) HQ2.out)
  have Hb3 := Lib.hid ((Hb.out.alloc (by omega) (.cells #[.int .i64 9, .int .i64 q, .int .i64 a, .int .i64 0] 25)).alloc (by omega) (.cells #[.int .i64 12, .int .i64 q, .int .i64 a, .int .i64 b] 25))
  have q0 := cell_at HQ.out 0 _ rfl
  have hql := lt_of_block HQ.out
  have q2 := cell_at HQ2.out 0 _ rfl
  have hql2 := lt_of_block HQ2.out
  have q3 := cell_at HQ3.out 0 _ rfl
  obtain ⟨x0, x1, x2, x3⟩ := blk_cells HX3.out
  obtain ⟨y0, y1, y2, y3⟩ := blk_cells HCX.out
  obtain ⟨z0, z1, z2, z3⟩ := blk_cells HCC.out
  have h1 : (((W0.alloc (.cells #[.int .i64 9, .int .i64 q, .int .i64 a, .int .i64 0] 25)).alloc (.cells #[.int .i64 12, .int .i64 q, .int .i64 a, .int .i64 b] 25)).alloc (.cells #[.int .i64 6, .int .i64 a, .int .i64 0, .int .i64 0] 25)).heap[w.heap.size + 2 + 1]? = some (.cells #[.int .i64 6, .int .i64 a, .int .i64 0, .int .i64 0] 25 (0, 0)) := by
    have h := heap_alloc_new ((W0.alloc (.cells #[.int .i64 9, .int .i64 q, .int .i64 a, .int .i64 0] 25)).alloc (.cells #[.int .i64 12, .int .i64 q, .int .i64 a, .int .i64 b] 25)) (.cells #[.int .i64 6, .int .i64 a, .int .i64 0, .int .i64 0] 25)
    rw [show ((W0.alloc (.cells #[.int .i64 9, .int .i64 q, .int .i64 a, .int .i64 0] 25)).alloc (.cells #[.int .i64 12, .int .i64 q, .int .i64 a, .int .i64 b] 25)).heap.size = w.heap.size + 2 + 1 by simp [hz]] at h
    exact h
  have HN := Lib.hid (show gtE.Sl _ (w.heap.size + 2 + 1) (.slice (some ⟨w.heap.size + 2 + 1, 0, none⟩) 1 1) [⟨6, a, 0, 0⟩] from Enc.Sl.mk (E := gtE) (l := [⟨6, a, 0, 0⟩]) rfl (Nat.le_refl _) (Nat.le_refl _) ⟨_, h1, rfl⟩)
  have Hb4 := Lib.hid (Hb3.out.alloc (show w.heap.size ≤ ((W0.alloc (.cells #[.int .i64 9, .int .i64 q, .int .i64 a, .int .i64 0] 25)).alloc (.cells #[.int .i64 12, .int .i64 q, .int .i64 a, .int .i64 b] 25)).heap.size by simp; omega) (.cells #[.int .i64 6, .int .i64 a, .int .i64 0, .int .i64 0] 25))
  have hl : [⟨6, a, 0, 0⟩] ++ (⟨9, q, a, 0⟩ : Gt) :: invL [⟨6, a, 0, 0⟩] = [⟨6, a, 0, 0⟩, ⟨9, q, a, 0⟩, ⟨5, a, 0, 0⟩] := by simp [invL, invG, invK]
  have Hl := Lib.hid hl
  clear h1 hl
  go_wp2_with fail
  refine (iwithin _ ⟨9, q, a, 0⟩ _ _ _ HN.out (by simp)).mono ?_
  rintro e w5 ⟨r, rfl, hr, hb5⟩
  rw [Hl.out] at hr
  have Hr := Lib.hid hr
  have Hb5 := Lib.hid (below_nx Hb4.out hb5)
  have hs4 := Hb4.out.size
  obtain ⟨pr, cr, rfl, -, -⟩ := hr
  clear hb5
  go_wp2_with fail
  go_ret
  exact ⟨_, rfl, Hr.out.mono hs4, Hb5.out⟩
set_option maxRecDepth 100000 in
set_option maxHeartbeats 3200000 in
theorem ctq_3 (q a b c : Int) (Bq : Nat) (w : World) (hq : w.heap[Bq]? = some (.cells #[.int .i64 q] 3 (0, 0))) :
    Calls Tryz.prog 66 #[.agg #[.int .i64 3, .int .i64 a, .int .i64 b, .int .i64 c], .pointer (some ⟨Bq, 0, none⟩)] w fun e w' => ∃ v, e = .returned v ∧ gtE.Sl w' w.heap.size v [⟨10, q, a, 0⟩] ∧ Below w.heap.size w w' := by
  have H3 := Lib.hid (fun n => box3 (k := 3) (a := a) (b := b) (c := c) hq n)
  have HX := Lib.hid (heap_alloc_new w (.cells #[.int .i64 3, .int .i64 a, .int .i64 b, .int .i64 c] 25))
  obtain ⟨c0, c1, c2, c3⟩ := blk_cells HX.out
  have hxl := lt_of_block HX.out
  clear hq
  go_enter Tryz.func66, Tryz.ntmps66
  go_upto_region 1 with fail
  go_quiet (fail)
  generalize hn : World.drewN _ _ = W0
  obtain ⟨hQ, hX, hz, hb⟩ := hn ▸ H3.out _
  clear hn c0 c1 c2 c3 hxl HX H3
  have HQ := Lib.hid hQ
  have HX := Lib.hid hX
  have Hb := Lib.hid hb
  have HCX := Lib.hid (alloc_blk (.cells #[.int .i64 12, .int .i64 q, .int .i64 a, .int .i64 b] 25) (heap_alloc_new W0 (.cells #[.int .i64 9, .int .i64 q, .int .i64 a, .int .i64 0] 25)))
  have hz1 : (W0.alloc (.cells #[.int .i64 9, .int .i64 q, .int .i64 a, .int .i64 0] 25)).heap.size = w.heap.size + 2 := by simp [hz]
  have HCC := Lib.hid (show ((W0.alloc (.cells #[.int .i64 9, .int .i64 q, .int .i64 a, .int .i64 0] 25)).alloc (.cells #[.int .i64 12, .int .i64 q, .int .i64 a, .int .i64 b] 25)).heap[w.heap.size + 2]? = some (.cells #[.int .i64 12, .int .i64 q, .int .i64 a, .int .i64 b] 25 (0, 0)) by rw [← hz1]; exact heap_alloc_new (W0.alloc (.cells #[.int .i64 9, .int .i64 q, .int .i64 a, .int .i64 0] 25)) (.cells #[.int .i64 12, .int .i64 q, .int .i64 a, .int .i64 b] 25))
  rw [hz] at HCX
  have HX3 := Lib.hid (alloc_blk (.cells #[.int .i64 12, .int .i64 q, .int .i64 a, .int .i64 b] 25) (alloc_blk (.cells #[.int .i64 9, .int .i64 q, .int .i64 a, .int .i64 0] 25) HX.out))
  have HQ2 := Lib.hid (alloc_blk (.cells #[.int .i64 9, .int .i64 q, .int .i64 a, .int .i64 0] 25) HQ.out)
  have HQ3 := Lib.hid (alloc_blk (.cells #[.int .i64 12, .int .i64 q, .int .i64 a, .int .i64 b] 25) HQ2.out)
  have Hb3 := Lib.hid ((Hb.out.alloc (by omega) (.cells #[.int .i64 9, .int .i64 q, .int .i64 a, .int .i64 0] 25)).alloc (by omega) (.cells #[.int .i64 12, .int .i64 q, .int .i64 a, .int .i64 b] 25))
  have q0 := cell_at HQ.out 0 _ rfl
  have hql := lt_of_block HQ.out
  have q2 := cell_at HQ2.out 0 _ rfl
  have hql2 := lt_of_block HQ2.out
  have q3 := cell_at HQ3.out 0 _ rfl
  obtain ⟨x0, x1, x2, x3⟩ := blk_cells HX3.out
  obtain ⟨y0, y1, y2, y3⟩ := blk_cells HCX.out
  obtain ⟨z0, z1, z2, z3⟩ := blk_cells HCC.out
  have h1 : (((W0.alloc (.cells #[.int .i64 9, .int .i64 q, .int .i64 a, .int .i64 0] 25)).alloc (.cells #[.int .i64 12, .int .i64 q, .int .i64 a, .int .i64 b] 25)).alloc (.cells #[.int .i64 10, .int .i64 q, .int .i64 a, .int .i64 0] 25)).heap[w.heap.size + 2 + 1]? = some (.cells #[.int .i64 10, .int .i64 q, .int .i64 a, .int .i64 0] 25 (0, 0)) := by
    have h := heap_alloc_new ((W0.alloc (.cells #[.int .i64 9, .int .i64 q, .int .i64 a, .int .i64 0] 25)).alloc (.cells #[.int .i64 12, .int .i64 q, .int .i64 a, .int .i64 b] 25)) (.cells #[.int .i64 10, .int .i64 q, .int .i64 a, .int .i64 0] 25)
    rw [show ((W0.alloc (.cells #[.int .i64 9, .int .i64 q, .int .i64 a, .int .i64 0] 25)).alloc (.cells #[.int .i64 12, .int .i64 q, .int .i64 a, .int .i64 b] 25)).heap.size = w.heap.size + 2 + 1 by simp [hz]] at h
    exact h
  have H1 := Lib.hid h1
  clear h1
  go_wp2_with fail
  go_ret
  exact ⟨_, rfl, Enc.Sl.mk (E := gtE) (l := [⟨10, q, a, 0⟩]) rfl (Nat.le_refl _) (by omega) ⟨_, H1.out, rfl⟩, Hb3.out.alloc (by simp; omega) _⟩
set_option maxRecDepth 100000 in
set_option maxHeartbeats 3200000 in
theorem ctq_4 (q a b c : Int) (Bq : Nat) (w : World) (hq : w.heap[Bq]? = some (.cells #[.int .i64 q] 3 (0, 0))) :
    Calls Tryz.prog 66 #[.agg #[.int .i64 4, .int .i64 a, .int .i64 b, .int .i64 c], .pointer (some ⟨Bq, 0, none⟩)] w fun e w' => ∃ v, e = .returned v ∧ gtE.Sl w' w.heap.size v [⟨6, a, 0, 0⟩, ⟨4, a, 0, 0⟩, ⟨8, a, 0, 0⟩, ⟨9, q, a, 0⟩, ⟨7, a, 0, 0⟩, ⟨4, a, 0, 0⟩, ⟨5, a, 0, 0⟩] ∧ Below w.heap.size w w' := by
  have H3 := Lib.hid (fun n => box3 (k := 4) (a := a) (b := b) (c := c) hq n)
  have HX := Lib.hid (heap_alloc_new w (.cells #[.int .i64 4, .int .i64 a, .int .i64 b, .int .i64 c] 25))
  obtain ⟨c0, c1, c2, c3⟩ := blk_cells HX.out
  have hxl := lt_of_block HX.out
  clear hq
  go_enter Tryz.func66, Tryz.ntmps66
  go_upto_region 1 with fail
  go_quiet (fail)
  generalize hn : World.drewN _ _ = W0
  obtain ⟨hQ, hX, hz, hb⟩ := hn ▸ H3.out _
  clear hn c0 c1 c2 c3 hxl HX H3
  have HQ := Lib.hid hQ
  have HX := Lib.hid hX
  have Hb := Lib.hid hb
  have HCX := Lib.hid (alloc_blk (.cells #[.int .i64 12, .int .i64 q, .int .i64 a, .int .i64 b] 25) (heap_alloc_new W0 (.cells #[.int .i64 9, .int .i64 q, .int .i64 a, .int .i64 0] 25)))
  have hz1 : (W0.alloc (.cells #[.int .i64 9, .int .i64 q, .int .i64 a, .int .i64 0] 25)).heap.size = w.heap.size + 2 := by simp [hz]
  have HCC := Lib.hid (show ((W0.alloc (.cells #[.int .i64 9, .int .i64 q, .int .i64 a, .int .i64 0] 25)).alloc (.cells #[.int .i64 12, .int .i64 q, .int .i64 a, .int .i64 b] 25)).heap[w.heap.size + 2]? = some (.cells #[.int .i64 12, .int .i64 q, .int .i64 a, .int .i64 b] 25 (0, 0)) by rw [← hz1]; exact heap_alloc_new (W0.alloc (.cells #[.int .i64 9, .int .i64 q, .int .i64 a, .int .i64 0] 25)) (.cells #[.int .i64 12, .int .i64 q, .int .i64 a, .int .i64 b] 25))
  rw [hz] at HCX
  have HX3 := Lib.hid (alloc_blk (.cells #[.int .i64 12, .int .i64 q, .int .i64 a, .int .i64 b] 25) (alloc_blk (.cells #[.int .i64 9, .int .i64 q, .int .i64 a, .int .i64 0] 25) HX.out))
  have HQ2 := Lib.hid (alloc_blk (.cells #[.int .i64 9, .int .i64 q, .int .i64 a, .int .i64 0] 25) HQ.out)
  have HQ3 := Lib.hid (alloc_blk (.cells #[.int .i64 12, .int .i64 q, .int .i64 a, .int .i64 b] 25) HQ2.out)
  have Hb3 := Lib.hid ((Hb.out.alloc (by omega) (.cells #[.int .i64 9, .int .i64 q, .int .i64 a, .int .i64 0] 25)).alloc (by omega) (.cells #[.int .i64 12, .int .i64 q, .int .i64 a, .int .i64 b] 25))
  have q0 := cell_at HQ.out 0 _ rfl
  have hql := lt_of_block HQ.out
  have q2 := cell_at HQ2.out 0 _ rfl
  have hql2 := lt_of_block HQ2.out
  have q3 := cell_at HQ3.out 0 _ rfl
  obtain ⟨x0, x1, x2, x3⟩ := blk_cells HX3.out
  obtain ⟨y0, y1, y2, y3⟩ := blk_cells HCX.out
  obtain ⟨z0, z1, z2, z3⟩ := blk_cells HCC.out
  have h1 : (((W0.alloc (.cells #[.int .i64 9, .int .i64 q, .int .i64 a, .int .i64 0] 25)).alloc (.cells #[.int .i64 12, .int .i64 q, .int .i64 a, .int .i64 b] 25)).alloc (.cells #[.int .i64 6, .int .i64 a, .int .i64 0, .int .i64 0, .int .i64 4, .int .i64 a, .int .i64 0, .int .i64 0, .int .i64 8, .int .i64 a, .int .i64 0, .int .i64 0] 25)).heap[w.heap.size + 2 + 1]? = some (.cells #[.int .i64 6, .int .i64 a, .int .i64 0, .int .i64 0, .int .i64 4, .int .i64 a, .int .i64 0, .int .i64 0, .int .i64 8, .int .i64 a, .int .i64 0, .int .i64 0] 25 (0, 0)) := by
    have h := heap_alloc_new ((W0.alloc (.cells #[.int .i64 9, .int .i64 q, .int .i64 a, .int .i64 0] 25)).alloc (.cells #[.int .i64 12, .int .i64 q, .int .i64 a, .int .i64 b] 25)) (.cells #[.int .i64 6, .int .i64 a, .int .i64 0, .int .i64 0, .int .i64 4, .int .i64 a, .int .i64 0, .int .i64 0, .int .i64 8, .int .i64 a, .int .i64 0, .int .i64 0] 25)
    rw [show ((W0.alloc (.cells #[.int .i64 9, .int .i64 q, .int .i64 a, .int .i64 0] 25)).alloc (.cells #[.int .i64 12, .int .i64 q, .int .i64 a, .int .i64 b] 25)).heap.size = w.heap.size + 2 + 1 by simp [hz]] at h
    exact h
  have HN := Lib.hid (show gtE.Sl _ (w.heap.size + 2 + 1) (.slice (some ⟨w.heap.size + 2 + 1, 0, none⟩) 3 3) [⟨6, a, 0, 0⟩, ⟨4, a, 0, 0⟩, ⟨8, a, 0, 0⟩] from Enc.Sl.mk (E := gtE) (l := [⟨6, a, 0, 0⟩, ⟨4, a, 0, 0⟩, ⟨8, a, 0, 0⟩]) rfl (Nat.le_refl _) (Nat.le_refl _) ⟨_, h1, rfl⟩)
  have Hb4 := Lib.hid (Hb3.out.alloc (show w.heap.size ≤ ((W0.alloc (.cells #[.int .i64 9, .int .i64 q, .int .i64 a, .int .i64 0] 25)).alloc (.cells #[.int .i64 12, .int .i64 q, .int .i64 a, .int .i64 b] 25)).heap.size by simp; omega) (.cells #[.int .i64 6, .int .i64 a, .int .i64 0, .int .i64 0, .int .i64 4, .int .i64 a, .int .i64 0, .int .i64 0, .int .i64 8, .int .i64 a, .int .i64 0, .int .i64 0] 25))
  have hl : [⟨6, a, 0, 0⟩, ⟨4, a, 0, 0⟩, ⟨8, a, 0, 0⟩] ++ (⟨9, q, a, 0⟩ : Gt) :: invL [⟨6, a, 0, 0⟩, ⟨4, a, 0, 0⟩, ⟨8, a, 0, 0⟩] = [⟨6, a, 0, 0⟩, ⟨4, a, 0, 0⟩, ⟨8, a, 0, 0⟩, ⟨9, q, a, 0⟩, ⟨7, a, 0, 0⟩, ⟨4, a, 0, 0⟩, ⟨5, a, 0, 0⟩] := by simp [invL, invG, invK]
  have Hl := Lib.hid hl
  clear h1 hl
  go_wp2_with fail
  refine (iwithin _ ⟨9, q, a, 0⟩ _ _ _ HN.out (by simp)).mono ?_
  rintro e w5 ⟨r, rfl, hr, hb5⟩
  rw [Hl.out] at hr
  have Hr := Lib.hid hr
  have Hb5 := Lib.hid (below_nx Hb4.out hb5)
  have hs4 := Hb4.out.size
  obtain ⟨pr, cr, rfl, -, -⟩ := hr
  clear hb5
  go_wp2_with fail
  go_ret
  exact ⟨_, rfl, Hr.out.mono hs4, Hb5.out⟩
set_option maxRecDepth 100000 in
set_option maxHeartbeats 3200000 in
theorem ctq_5 (q a b c : Int) (Bq : Nat) (w : World) (hq : w.heap[Bq]? = some (.cells #[.int .i64 q] 3 (0, 0))) :
    Calls Tryz.prog 66 #[.agg #[.int .i64 5, .int .i64 a, .int .i64 b, .int .i64 c], .pointer (some ⟨Bq, 0, none⟩)] w fun e w' => ∃ v, e = .returned v ∧ gtE.Sl w' w.heap.size v [⟨7, q, 0, 0⟩, ⟨7, a, 0, 0⟩, ⟨9, q, a, 0⟩, ⟨8, a, 0, 0⟩, ⟨9, q, a, 0⟩] ∧ Below w.heap.size w w' := by
  have H3 := Lib.hid (fun n => box3 (k := 5) (a := a) (b := b) (c := c) hq n)
  have HX := Lib.hid (heap_alloc_new w (.cells #[.int .i64 5, .int .i64 a, .int .i64 b, .int .i64 c] 25))
  obtain ⟨c0, c1, c2, c3⟩ := blk_cells HX.out
  have hxl := lt_of_block HX.out
  clear hq
  go_enter Tryz.func66, Tryz.ntmps66
  go_upto_region 1 with fail
  go_quiet (fail)
  generalize hn : World.drewN _ _ = W0
  obtain ⟨hQ, hX, hz, hb⟩ := hn ▸ H3.out _
  clear hn c0 c1 c2 c3 hxl HX H3
  have HQ := Lib.hid hQ
  have HX := Lib.hid hX
  have Hb := Lib.hid hb
  have HCX := Lib.hid (alloc_blk (.cells #[.int .i64 12, .int .i64 q, .int .i64 a, .int .i64 b] 25) (heap_alloc_new W0 (.cells #[.int .i64 9, .int .i64 q, .int .i64 a, .int .i64 0] 25)))
  have hz1 : (W0.alloc (.cells #[.int .i64 9, .int .i64 q, .int .i64 a, .int .i64 0] 25)).heap.size = w.heap.size + 2 := by simp [hz]
  have HCC := Lib.hid (show ((W0.alloc (.cells #[.int .i64 9, .int .i64 q, .int .i64 a, .int .i64 0] 25)).alloc (.cells #[.int .i64 12, .int .i64 q, .int .i64 a, .int .i64 b] 25)).heap[w.heap.size + 2]? = some (.cells #[.int .i64 12, .int .i64 q, .int .i64 a, .int .i64 b] 25 (0, 0)) by rw [← hz1]; exact heap_alloc_new (W0.alloc (.cells #[.int .i64 9, .int .i64 q, .int .i64 a, .int .i64 0] 25)) (.cells #[.int .i64 12, .int .i64 q, .int .i64 a, .int .i64 b] 25))
  rw [hz] at HCX
  have HX3 := Lib.hid (alloc_blk (.cells #[.int .i64 12, .int .i64 q, .int .i64 a, .int .i64 b] 25) (alloc_blk (.cells #[.int .i64 9, .int .i64 q, .int .i64 a, .int .i64 0] 25) HX.out))
  have HQ2 := Lib.hid (alloc_blk (.cells #[.int .i64 9, .int .i64 q, .int .i64 a, .int .i64 0] 25) HQ.out)
  have HQ3 := Lib.hid (alloc_blk (.cells #[.int .i64 12, .int .i64 q, .int .i64 a, .int .i64 b] 25) HQ2.out)
  have Hb3 := Lib.hid ((Hb.out.alloc (by omega) (.cells #[.int .i64 9, .int .i64 q, .int .i64 a, .int .i64 0] 25)).alloc (by omega) (.cells #[.int .i64 12, .int .i64 q, .int .i64 a, .int .i64 b] 25))
  have q0 := cell_at HQ.out 0 _ rfl
  have hql := lt_of_block HQ.out
  have q2 := cell_at HQ2.out 0 _ rfl
  have hql2 := lt_of_block HQ2.out
  have q3 := cell_at HQ3.out 0 _ rfl
  obtain ⟨x0, x1, x2, x3⟩ := blk_cells HX3.out
  obtain ⟨y0, y1, y2, y3⟩ := blk_cells HCX.out
  obtain ⟨z0, z1, z2, z3⟩ := blk_cells HCC.out
  have Ht := Lib.hid (fun W => iturn 7 q a W)
  rw [show invK 7 = 8 from rfl] at Ht
  have hs4 := Hb3.out.size
  go_wp2_with fail
  refine (Ht.out _).mono ?_
  rintro e w5 ⟨r, rfl, hr, hb5⟩
  have Hr := Lib.hid hr
  have Hb5 := Lib.hid (below_nx Hb3.out hb5)
  obtain ⟨pr, cr, rfl, -, -⟩ := hr
  clear hb5
  go_wp2_with fail
  go_ret
  exact ⟨_, rfl, Hr.out.mono hs4, Hb5.out⟩
set_option maxRecDepth 100000 in
set_option maxHeartbeats 3200000 in
theorem ctq_6 (q a b c : Int) (Bq : Nat) (w : World) (hq : w.heap[Bq]? = some (.cells #[.int .i64 q] 3 (0, 0))) :
    Calls Tryz.prog 66 #[.agg #[.int .i64 6, .int .i64 a, .int .i64 b, .int .i64 c], .pointer (some ⟨Bq, 0, none⟩)] w fun e w' => ∃ v, e = .returned v ∧ gtE.Sl w' w.heap.size v [⟨8, q, 0, 0⟩, ⟨8, a, 0, 0⟩, ⟨9, q, a, 0⟩, ⟨7, a, 0, 0⟩, ⟨9, q, a, 0⟩] ∧ Below w.heap.size w w' := by
  have H3 := Lib.hid (fun n => box3 (k := 6) (a := a) (b := b) (c := c) hq n)
  have HX := Lib.hid (heap_alloc_new w (.cells #[.int .i64 6, .int .i64 a, .int .i64 b, .int .i64 c] 25))
  obtain ⟨c0, c1, c2, c3⟩ := blk_cells HX.out
  have hxl := lt_of_block HX.out
  clear hq
  go_enter Tryz.func66, Tryz.ntmps66
  go_upto_region 1 with fail
  go_quiet (fail)
  generalize hn : World.drewN _ _ = W0
  obtain ⟨hQ, hX, hz, hb⟩ := hn ▸ H3.out _
  clear hn c0 c1 c2 c3 hxl HX H3
  have HQ := Lib.hid hQ
  have HX := Lib.hid hX
  have Hb := Lib.hid hb
  have HCX := Lib.hid (alloc_blk (.cells #[.int .i64 12, .int .i64 q, .int .i64 a, .int .i64 b] 25) (heap_alloc_new W0 (.cells #[.int .i64 9, .int .i64 q, .int .i64 a, .int .i64 0] 25)))
  have hz1 : (W0.alloc (.cells #[.int .i64 9, .int .i64 q, .int .i64 a, .int .i64 0] 25)).heap.size = w.heap.size + 2 := by simp [hz]
  have HCC := Lib.hid (show ((W0.alloc (.cells #[.int .i64 9, .int .i64 q, .int .i64 a, .int .i64 0] 25)).alloc (.cells #[.int .i64 12, .int .i64 q, .int .i64 a, .int .i64 b] 25)).heap[w.heap.size + 2]? = some (.cells #[.int .i64 12, .int .i64 q, .int .i64 a, .int .i64 b] 25 (0, 0)) by rw [← hz1]; exact heap_alloc_new (W0.alloc (.cells #[.int .i64 9, .int .i64 q, .int .i64 a, .int .i64 0] 25)) (.cells #[.int .i64 12, .int .i64 q, .int .i64 a, .int .i64 b] 25))
  rw [hz] at HCX
  have HX3 := Lib.hid (alloc_blk (.cells #[.int .i64 12, .int .i64 q, .int .i64 a, .int .i64 b] 25) (alloc_blk (.cells #[.int .i64 9, .int .i64 q, .int .i64 a, .int .i64 0] 25) HX.out))
  have HQ2 := Lib.hid (alloc_blk (.cells #[.int .i64 9, .int .i64 q, .int .i64 a, .int .i64 0] 25) HQ.out)
  have HQ3 := Lib.hid (alloc_blk (.cells #[.int .i64 12, .int .i64 q, .int .i64 a, .int .i64 b] 25) HQ2.out)
  have Hb3 := Lib.hid ((Hb.out.alloc (by omega) (.cells #[.int .i64 9, .int .i64 q, .int .i64 a, .int .i64 0] 25)).alloc (by omega) (.cells #[.int .i64 12, .int .i64 q, .int .i64 a, .int .i64 b] 25))
  have q0 := cell_at HQ.out 0 _ rfl
  have hql := lt_of_block HQ.out
  have q2 := cell_at HQ2.out 0 _ rfl
  have hql2 := lt_of_block HQ2.out
  have q3 := cell_at HQ3.out 0 _ rfl
  obtain ⟨x0, x1, x2, x3⟩ := blk_cells HX3.out
  obtain ⟨y0, y1, y2, y3⟩ := blk_cells HCX.out
  obtain ⟨z0, z1, z2, z3⟩ := blk_cells HCC.out
  have Ht := Lib.hid (fun W => iturn 8 q a W)
  rw [show invK 8 = 7 from rfl] at Ht
  have hs4 := Hb3.out.size
  go_wp2_with fail
  refine (Ht.out _).mono ?_
  rintro e w5 ⟨r, rfl, hr, hb5⟩
  have Hr := Lib.hid hr
  have Hb5 := Lib.hid (below_nx Hb3.out hb5)
  obtain ⟨pr, cr, rfl, -, -⟩ := hr
  clear hb5
  go_wp2_with fail
  go_ret
  exact ⟨_, rfl, Hr.out.mono hs4, Hb5.out⟩
set_option maxRecDepth 100000 in
set_option maxHeartbeats 3200000 in
theorem ctq_9 (q a b c : Int) (Bq : Nat) (w : World) (hq : w.heap[Bq]? = some (.cells #[.int .i64 q] 3 (0, 0))) :
    Calls Tryz.prog 66 #[.agg #[.int .i64 9, .int .i64 a, .int .i64 b, .int .i64 c], .pointer (some ⟨Bq, 0, none⟩)] w fun e w' => ∃ v, e = .returned v ∧ gtE.Sl w' w.heap.size v [⟨12, q, a, b⟩] ∧ Below w.heap.size w w' := by
  have H3 := Lib.hid (fun n => box3 (k := 9) (a := a) (b := b) (c := c) hq n)
  have HX := Lib.hid (heap_alloc_new w (.cells #[.int .i64 9, .int .i64 a, .int .i64 b, .int .i64 c] 25))
  obtain ⟨c0, c1, c2, c3⟩ := blk_cells HX.out
  have hxl := lt_of_block HX.out
  clear hq
  go_enter Tryz.func66, Tryz.ntmps66
  go_upto_region 1 with fail
  go_quiet (fail)
  generalize hn : World.drewN _ _ = W0
  obtain ⟨hQ, hX, hz, hb⟩ := hn ▸ H3.out _
  clear hn c0 c1 c2 c3 hxl HX H3
  have HQ := Lib.hid hQ
  have HX := Lib.hid hX
  have Hb := Lib.hid hb
  have HCX := Lib.hid (alloc_blk (.cells #[.int .i64 12, .int .i64 q, .int .i64 a, .int .i64 b] 25) (heap_alloc_new W0 (.cells #[.int .i64 9, .int .i64 q, .int .i64 a, .int .i64 0] 25)))
  have hz1 : (W0.alloc (.cells #[.int .i64 9, .int .i64 q, .int .i64 a, .int .i64 0] 25)).heap.size = w.heap.size + 2 := by simp [hz]
  have HCC := Lib.hid (show ((W0.alloc (.cells #[.int .i64 9, .int .i64 q, .int .i64 a, .int .i64 0] 25)).alloc (.cells #[.int .i64 12, .int .i64 q, .int .i64 a, .int .i64 b] 25)).heap[w.heap.size + 2]? = some (.cells #[.int .i64 12, .int .i64 q, .int .i64 a, .int .i64 b] 25 (0, 0)) by rw [← hz1]; exact heap_alloc_new (W0.alloc (.cells #[.int .i64 9, .int .i64 q, .int .i64 a, .int .i64 0] 25)) (.cells #[.int .i64 12, .int .i64 q, .int .i64 a, .int .i64 b] 25))
  rw [hz] at HCX
  have HX3 := Lib.hid (alloc_blk (.cells #[.int .i64 12, .int .i64 q, .int .i64 a, .int .i64 b] 25) (alloc_blk (.cells #[.int .i64 9, .int .i64 q, .int .i64 a, .int .i64 0] 25) HX.out))
  have HQ2 := Lib.hid (alloc_blk (.cells #[.int .i64 9, .int .i64 q, .int .i64 a, .int .i64 0] 25) HQ.out)
  have HQ3 := Lib.hid (alloc_blk (.cells #[.int .i64 12, .int .i64 q, .int .i64 a, .int .i64 b] 25) HQ2.out)
  have Hb3 := Lib.hid ((Hb.out.alloc (by omega) (.cells #[.int .i64 9, .int .i64 q, .int .i64 a, .int .i64 0] 25)).alloc (by omega) (.cells #[.int .i64 12, .int .i64 q, .int .i64 a, .int .i64 b] 25))
  have q0 := cell_at HQ.out 0 _ rfl
  have hql := lt_of_block HQ.out
  have q2 := cell_at HQ2.out 0 _ rfl
  have hql2 := lt_of_block HQ2.out
  have q3 := cell_at HQ3.out 0 _ rfl
  obtain ⟨x0, x1, x2, x3⟩ := blk_cells HX3.out
  obtain ⟨y0, y1, y2, y3⟩ := blk_cells HCX.out
  obtain ⟨z0, z1, z2, z3⟩ := blk_cells HCC.out
  have h1 : (((W0.alloc (.cells #[.int .i64 9, .int .i64 q, .int .i64 a, .int .i64 0] 25)).alloc (.cells #[.int .i64 12, .int .i64 q, .int .i64 a, .int .i64 b] 25)).alloc (.cells #[.int .i64 12, .int .i64 q, .int .i64 a, .int .i64 b] 25)).heap[w.heap.size + 2 + 1]? = some (.cells #[.int .i64 12, .int .i64 q, .int .i64 a, .int .i64 b] 25 (0, 0)) := by
    have h := heap_alloc_new ((W0.alloc (.cells #[.int .i64 9, .int .i64 q, .int .i64 a, .int .i64 0] 25)).alloc (.cells #[.int .i64 12, .int .i64 q, .int .i64 a, .int .i64 b] 25)) (.cells #[.int .i64 12, .int .i64 q, .int .i64 a, .int .i64 b] 25)
    rw [show ((W0.alloc (.cells #[.int .i64 9, .int .i64 q, .int .i64 a, .int .i64 0] 25)).alloc (.cells #[.int .i64 12, .int .i64 q, .int .i64 a, .int .i64 b] 25)).heap.size = w.heap.size + 2 + 1 by simp [hz]] at h
    exact h
  have H1 := Lib.hid h1
  clear h1
  go_wp2_with fail
  go_ret
  exact ⟨_, rfl, Enc.Sl.mk (E := gtE) (l := [⟨12, q, a, b⟩]) rfl (Nat.le_refl _) (by omega) ⟨_, H1.out, rfl⟩, Hb3.out.alloc (by simp; omega) _⟩
set_option maxRecDepth 100000 in
set_option maxHeartbeats 3200000 in
theorem ctq_10 (q a b c : Int) (Bq : Nat) (w : World) (hq : w.heap[Bq]? = some (.cells #[.int .i64 q] 3 (0, 0))) :
    Calls Tryz.prog 66 #[.agg #[.int .i64 10, .int .i64 a, .int .i64 b, .int .i64 c], .pointer (some ⟨Bq, 0, none⟩)] w fun e w' => ∃ v, e = .returned v ∧ gtE.Sl w' w.heap.size v [⟨4, b, 0, 0⟩, ⟨12, q, a, b⟩, ⟨4, b, 0, 0⟩] ∧ Below w.heap.size w w' := by
  have H3 := Lib.hid (fun n => box3 (k := 10) (a := a) (b := b) (c := c) hq n)
  have HX := Lib.hid (heap_alloc_new w (.cells #[.int .i64 10, .int .i64 a, .int .i64 b, .int .i64 c] 25))
  obtain ⟨c0, c1, c2, c3⟩ := blk_cells HX.out
  have hxl := lt_of_block HX.out
  clear hq
  go_enter Tryz.func66, Tryz.ntmps66
  go_upto_region 1 with fail
  go_quiet (fail)
  generalize hn : World.drewN _ _ = W0
  obtain ⟨hQ, hX, hz, hb⟩ := hn ▸ H3.out _
  clear hn c0 c1 c2 c3 hxl HX H3
  have HQ := Lib.hid hQ
  have HX := Lib.hid hX
  have Hb := Lib.hid hb
  have HCX := Lib.hid (alloc_blk (.cells #[.int .i64 12, .int .i64 q, .int .i64 a, .int .i64 b] 25) (heap_alloc_new W0 (.cells #[.int .i64 9, .int .i64 q, .int .i64 a, .int .i64 0] 25)))
  have hz1 : (W0.alloc (.cells #[.int .i64 9, .int .i64 q, .int .i64 a, .int .i64 0] 25)).heap.size = w.heap.size + 2 := by simp [hz]
  have HCC := Lib.hid (show ((W0.alloc (.cells #[.int .i64 9, .int .i64 q, .int .i64 a, .int .i64 0] 25)).alloc (.cells #[.int .i64 12, .int .i64 q, .int .i64 a, .int .i64 b] 25)).heap[w.heap.size + 2]? = some (.cells #[.int .i64 12, .int .i64 q, .int .i64 a, .int .i64 b] 25 (0, 0)) by rw [← hz1]; exact heap_alloc_new (W0.alloc (.cells #[.int .i64 9, .int .i64 q, .int .i64 a, .int .i64 0] 25)) (.cells #[.int .i64 12, .int .i64 q, .int .i64 a, .int .i64 b] 25))
  rw [hz] at HCX
  have HX3 := Lib.hid (alloc_blk (.cells #[.int .i64 12, .int .i64 q, .int .i64 a, .int .i64 b] 25) (alloc_blk (.cells #[.int .i64 9, .int .i64 q, .int .i64 a, .int .i64 0] 25) HX.out))
  have HQ2 := Lib.hid (alloc_blk (.cells #[.int .i64 9, .int .i64 q, .int .i64 a, .int .i64 0] 25) HQ.out)
  have HQ3 := Lib.hid (alloc_blk (.cells #[.int .i64 12, .int .i64 q, .int .i64 a, .int .i64 b] 25) HQ2.out)
  have Hb3 := Lib.hid ((Hb.out.alloc (by omega) (.cells #[.int .i64 9, .int .i64 q, .int .i64 a, .int .i64 0] 25)).alloc (by omega) (.cells #[.int .i64 12, .int .i64 q, .int .i64 a, .int .i64 b] 25))
  have q0 := cell_at HQ.out 0 _ rfl
  have hql := lt_of_block HQ.out
  have q2 := cell_at HQ2.out 0 _ rfl
  have hql2 := lt_of_block HQ2.out
  have q3 := cell_at HQ3.out 0 _ rfl
  obtain ⟨x0, x1, x2, x3⟩ := blk_cells HX3.out
  obtain ⟨y0, y1, y2, y3⟩ := blk_cells HCX.out
  obtain ⟨z0, z1, z2, z3⟩ := blk_cells HCC.out
  have h1 : (((W0.alloc (.cells #[.int .i64 9, .int .i64 q, .int .i64 a, .int .i64 0] 25)).alloc (.cells #[.int .i64 12, .int .i64 q, .int .i64 a, .int .i64 b] 25)).alloc (.cells #[.int .i64 4, .int .i64 b, .int .i64 0, .int .i64 0] 25)).heap[w.heap.size + 2 + 1]? = some (.cells #[.int .i64 4, .int .i64 b, .int .i64 0, .int .i64 0] 25 (0, 0)) := by
    have h := heap_alloc_new ((W0.alloc (.cells #[.int .i64 9, .int .i64 q, .int .i64 a, .int .i64 0] 25)).alloc (.cells #[.int .i64 12, .int .i64 q, .int .i64 a, .int .i64 b] 25)) (.cells #[.int .i64 4, .int .i64 b, .int .i64 0, .int .i64 0] 25)
    rw [show ((W0.alloc (.cells #[.int .i64 9, .int .i64 q, .int .i64 a, .int .i64 0] 25)).alloc (.cells #[.int .i64 12, .int .i64 q, .int .i64 a, .int .i64 b] 25)).heap.size = w.heap.size + 2 + 1 by simp [hz]] at h
    exact h
  have HN := Lib.hid (show gtE.Sl _ (w.heap.size + 2 + 1) (.slice (some ⟨w.heap.size + 2 + 1, 0, none⟩) 1 1) [⟨4, b, 0, 0⟩] from Enc.Sl.mk (E := gtE) (l := [⟨4, b, 0, 0⟩]) rfl (Nat.le_refl _) (Nat.le_refl _) ⟨_, h1, rfl⟩)
  have Hb4 := Lib.hid (Hb3.out.alloc (show w.heap.size ≤ ((W0.alloc (.cells #[.int .i64 9, .int .i64 q, .int .i64 a, .int .i64 0] 25)).alloc (.cells #[.int .i64 12, .int .i64 q, .int .i64 a, .int .i64 b] 25)).heap.size by simp; omega) (.cells #[.int .i64 4, .int .i64 b, .int .i64 0, .int .i64 0] 25))
  have hl : [⟨4, b, 0, 0⟩] ++ (⟨12, q, a, b⟩ : Gt) :: invL [⟨4, b, 0, 0⟩] = [⟨4, b, 0, 0⟩, ⟨12, q, a, b⟩, ⟨4, b, 0, 0⟩] := by simp [invL, invG, invK]
  have Hl := Lib.hid hl
  clear h1 hl
  go_wp2_with fail
  refine (iwithin _ ⟨12, q, a, b⟩ _ _ _ HN.out (by simp)).mono ?_
  rintro e w5 ⟨r, rfl, hr, hb5⟩
  rw [Hl.out] at hr
  have Hr := Lib.hid hr
  have Hb5 := Lib.hid (below_nx Hb4.out hb5)
  have hs4 := Hb4.out.size
  obtain ⟨pr, cr, rfl, -, -⟩ := hr
  clear hb5
  go_wp2_with fail
  go_ret
  exact ⟨_, rfl, Hr.out.mono hs4, Hb5.out⟩
set_option maxRecDepth 100000 in
set_option maxHeartbeats 3200000 in
theorem ctq_11 (q a b c : Int) (Bq : Nat) (w : World) (hq : w.heap[Bq]? = some (.cells #[.int .i64 q] 3 (0, 0))) :
    Calls Tryz.prog 66 #[.agg #[.int .i64 11, .int .i64 a, .int .i64 b, .int .i64 c], .pointer (some ⟨Bq, 0, none⟩)] w fun e w' => ∃ v, e = .returned v ∧ gtE.Sl w' w.heap.size v [⟨9, b, a, 0⟩, ⟨12, q, a, b⟩, ⟨9, b, a, 0⟩] ∧ Below w.heap.size w w' := by
  have H3 := Lib.hid (fun n => box3 (k := 11) (a := a) (b := b) (c := c) hq n)
  have HX := Lib.hid (heap_alloc_new w (.cells #[.int .i64 11, .int .i64 a, .int .i64 b, .int .i64 c] 25))
  obtain ⟨c0, c1, c2, c3⟩ := blk_cells HX.out
  have hxl := lt_of_block HX.out
  clear hq
  go_enter Tryz.func66, Tryz.ntmps66
  go_upto_region 1 with fail
  go_quiet (fail)
  generalize hn : World.drewN _ _ = W0
  obtain ⟨hQ, hX, hz, hb⟩ := hn ▸ H3.out _
  clear hn c0 c1 c2 c3 hxl HX H3
  have HQ := Lib.hid hQ
  have HX := Lib.hid hX
  have Hb := Lib.hid hb
  have HCX := Lib.hid (alloc_blk (.cells #[.int .i64 12, .int .i64 q, .int .i64 a, .int .i64 b] 25) (heap_alloc_new W0 (.cells #[.int .i64 9, .int .i64 q, .int .i64 a, .int .i64 0] 25)))
  have hz1 : (W0.alloc (.cells #[.int .i64 9, .int .i64 q, .int .i64 a, .int .i64 0] 25)).heap.size = w.heap.size + 2 := by simp [hz]
  have HCC := Lib.hid (show ((W0.alloc (.cells #[.int .i64 9, .int .i64 q, .int .i64 a, .int .i64 0] 25)).alloc (.cells #[.int .i64 12, .int .i64 q, .int .i64 a, .int .i64 b] 25)).heap[w.heap.size + 2]? = some (.cells #[.int .i64 12, .int .i64 q, .int .i64 a, .int .i64 b] 25 (0, 0)) by rw [← hz1]; exact heap_alloc_new (W0.alloc (.cells #[.int .i64 9, .int .i64 q, .int .i64 a, .int .i64 0] 25)) (.cells #[.int .i64 12, .int .i64 q, .int .i64 a, .int .i64 b] 25))
  rw [hz] at HCX
  have HX3 := Lib.hid (alloc_blk (.cells #[.int .i64 12, .int .i64 q, .int .i64 a, .int .i64 b] 25) (alloc_blk (.cells #[.int .i64 9, .int .i64 q, .int .i64 a, .int .i64 0] 25) HX.out))
  have HQ2 := Lib.hid (alloc_blk (.cells #[.int .i64 9, .int .i64 q, .int .i64 a, .int .i64 0] 25) HQ.out)
  have HQ3 := Lib.hid (alloc_blk (.cells #[.int .i64 12, .int .i64 q, .int .i64 a, .int .i64 b] 25) HQ2.out)
  have Hb3 := Lib.hid ((Hb.out.alloc (by omega) (.cells #[.int .i64 9, .int .i64 q, .int .i64 a, .int .i64 0] 25)).alloc (by omega) (.cells #[.int .i64 12, .int .i64 q, .int .i64 a, .int .i64 b] 25))
  have q0 := cell_at HQ.out 0 _ rfl
  have hql := lt_of_block HQ.out
  have q2 := cell_at HQ2.out 0 _ rfl
  have hql2 := lt_of_block HQ2.out
  have q3 := cell_at HQ3.out 0 _ rfl
  obtain ⟨x0, x1, x2, x3⟩ := blk_cells HX3.out
  obtain ⟨y0, y1, y2, y3⟩ := blk_cells HCX.out
  obtain ⟨z0, z1, z2, z3⟩ := blk_cells HCC.out
  have h1 : (((W0.alloc (.cells #[.int .i64 9, .int .i64 q, .int .i64 a, .int .i64 0] 25)).alloc (.cells #[.int .i64 12, .int .i64 q, .int .i64 a, .int .i64 b] 25)).alloc (.cells #[.int .i64 9, .int .i64 b, .int .i64 a, .int .i64 0] 25)).heap[w.heap.size + 2 + 1]? = some (.cells #[.int .i64 9, .int .i64 b, .int .i64 a, .int .i64 0] 25 (0, 0)) := by
    have h := heap_alloc_new ((W0.alloc (.cells #[.int .i64 9, .int .i64 q, .int .i64 a, .int .i64 0] 25)).alloc (.cells #[.int .i64 12, .int .i64 q, .int .i64 a, .int .i64 b] 25)) (.cells #[.int .i64 9, .int .i64 b, .int .i64 a, .int .i64 0] 25)
    rw [show ((W0.alloc (.cells #[.int .i64 9, .int .i64 q, .int .i64 a, .int .i64 0] 25)).alloc (.cells #[.int .i64 12, .int .i64 q, .int .i64 a, .int .i64 b] 25)).heap.size = w.heap.size + 2 + 1 by simp [hz]] at h
    exact h
  have HN := Lib.hid (show gtE.Sl _ (w.heap.size + 2 + 1) (.slice (some ⟨w.heap.size + 2 + 1, 0, none⟩) 1 1) [⟨9, b, a, 0⟩] from Enc.Sl.mk (E := gtE) (l := [⟨9, b, a, 0⟩]) rfl (Nat.le_refl _) (Nat.le_refl _) ⟨_, h1, rfl⟩)
  have Hb4 := Lib.hid (Hb3.out.alloc (show w.heap.size ≤ ((W0.alloc (.cells #[.int .i64 9, .int .i64 q, .int .i64 a, .int .i64 0] 25)).alloc (.cells #[.int .i64 12, .int .i64 q, .int .i64 a, .int .i64 b] 25)).heap.size by simp; omega) (.cells #[.int .i64 9, .int .i64 b, .int .i64 a, .int .i64 0] 25))
  have hl : [⟨9, b, a, 0⟩] ++ (⟨12, q, a, b⟩ : Gt) :: invL [⟨9, b, a, 0⟩] = [⟨9, b, a, 0⟩, ⟨12, q, a, b⟩, ⟨9, b, a, 0⟩] := by simp [invL, invG, invK]
  have Hl := Lib.hid hl
  clear h1 hl
  go_wp2_with fail
  refine (iwithin _ ⟨12, q, a, b⟩ _ _ _ HN.out (by simp)).mono ?_
  rintro e w5 ⟨r, rfl, hr, hb5⟩
  rw [Hl.out] at hr
  have Hr := Lib.hid hr
  have Hb5 := Lib.hid (below_nx Hb4.out hb5)
  have hs4 := Hb4.out.size
  obtain ⟨pr, cr, rfl, -, -⟩ := hr
  clear hb5
  go_wp2_with fail
  go_ret
  exact ⟨_, rfl, Hr.out.mono hs4, Hb5.out⟩
set_option maxRecDepth 100000 in
set_option maxHeartbeats 3200000 in
theorem ctq_7 (q a b c : Int) (Bq : Nat) (w : World) (hq : w.heap[Bq]? = some (.cells #[.int .i64 q] 3 (0, 0))) :
    Calls Tryz.prog 66 #[.agg #[.int .i64 7, .int .i64 a, .int .i64 b, .int .i64 c], .pointer (some ⟨Bq, 0, none⟩)] w fun e w' => e = .returned (.slice none 0 0) ∧ Below w.heap.size w w' := by
  have H3 := Lib.hid (fun n => box3 (k := 7) (a := a) (b := b) (c := c) hq n)
  have HX := Lib.hid (heap_alloc_new w (.cells #[.int .i64 7, .int .i64 a, .int .i64 b, .int .i64 c] 25))
  obtain ⟨c0, c1, c2, c3⟩ := blk_cells HX.out
  have hxl := lt_of_block HX.out
  clear hq
  go_enter Tryz.func66, Tryz.ntmps66
  go_upto_region 1 with fail
  go_quiet (fail)
  generalize hn : World.drewN _ _ = W0
  obtain ⟨hQ, hX, hz, hb⟩ := hn ▸ H3.out _
  clear hn c0 c1 c2 c3 hxl HX H3
  have HQ := Lib.hid hQ
  have HX := Lib.hid hX
  have Hb := Lib.hid hb
  have HCX := Lib.hid (alloc_blk (.cells #[.int .i64 12, .int .i64 q, .int .i64 a, .int .i64 b] 25) (heap_alloc_new W0 (.cells #[.int .i64 9, .int .i64 q, .int .i64 a, .int .i64 0] 25)))
  have hz1 : (W0.alloc (.cells #[.int .i64 9, .int .i64 q, .int .i64 a, .int .i64 0] 25)).heap.size = w.heap.size + 2 := by simp [hz]
  have HCC := Lib.hid (show ((W0.alloc (.cells #[.int .i64 9, .int .i64 q, .int .i64 a, .int .i64 0] 25)).alloc (.cells #[.int .i64 12, .int .i64 q, .int .i64 a, .int .i64 b] 25)).heap[w.heap.size + 2]? = some (.cells #[.int .i64 12, .int .i64 q, .int .i64 a, .int .i64 b] 25 (0, 0)) by rw [← hz1]; exact heap_alloc_new (W0.alloc (.cells #[.int .i64 9, .int .i64 q, .int .i64 a, .int .i64 0] 25)) (.cells #[.int .i64 12, .int .i64 q, .int .i64 a, .int .i64 b] 25))
  rw [hz] at HCX
  have HX3 := Lib.hid (alloc_blk (.cells #[.int .i64 12, .int .i64 q, .int .i64 a, .int .i64 b] 25) (alloc_blk (.cells #[.int .i64 9, .int .i64 q, .int .i64 a, .int .i64 0] 25) HX.out))
  have HQ2 := Lib.hid (alloc_blk (.cells #[.int .i64 9, .int .i64 q, .int .i64 a, .int .i64 0] 25) HQ.out)
  have HQ3 := Lib.hid (alloc_blk (.cells #[.int .i64 12, .int .i64 q, .int .i64 a, .int .i64 b] 25) HQ2.out)
  have Hb3 := Lib.hid ((Hb.out.alloc (by omega) (.cells #[.int .i64 9, .int .i64 q, .int .i64 a, .int .i64 0] 25)).alloc (by omega) (.cells #[.int .i64 12, .int .i64 q, .int .i64 a, .int .i64 b] 25))
  have q0 := cell_at HQ.out 0 _ rfl
  have hql := lt_of_block HQ.out
  have q2 := cell_at HQ2.out 0 _ rfl
  have hql2 := lt_of_block HQ2.out
  have q3 := cell_at HQ3.out 0 _ rfl
  obtain ⟨x0, x1, x2, x3⟩ := blk_cells HX3.out
  obtain ⟨y0, y1, y2, y3⟩ := blk_cells HCX.out
  obtain ⟨z0, z1, z2, z3⟩ := blk_cells HCC.out
  go_wp2_with fail
  go_ret
  exact ⟨rfl, Hb3.out⟩
set_option maxRecDepth 100000 in
set_option maxHeartbeats 3200000 in
theorem ctq_8 (q a b c : Int) (Bq : Nat) (w : World) (hq : w.heap[Bq]? = some (.cells #[.int .i64 q] 3 (0, 0))) :
    Calls Tryz.prog 66 #[.agg #[.int .i64 8, .int .i64 a, .int .i64 b, .int .i64 c], .pointer (some ⟨Bq, 0, none⟩)] w fun e w' => e = .returned (.slice none 0 0) ∧ Below w.heap.size w w' := by
  have H3 := Lib.hid (fun n => box3 (k := 8) (a := a) (b := b) (c := c) hq n)
  have HX := Lib.hid (heap_alloc_new w (.cells #[.int .i64 8, .int .i64 a, .int .i64 b, .int .i64 c] 25))
  obtain ⟨c0, c1, c2, c3⟩ := blk_cells HX.out
  have hxl := lt_of_block HX.out
  clear hq
  go_enter Tryz.func66, Tryz.ntmps66
  go_upto_region 1 with fail
  go_quiet (fail)
  generalize hn : World.drewN _ _ = W0
  obtain ⟨hQ, hX, hz, hb⟩ := hn ▸ H3.out _
  clear hn c0 c1 c2 c3 hxl HX H3
  have HQ := Lib.hid hQ
  have HX := Lib.hid hX
  have Hb := Lib.hid hb
  have HCX := Lib.hid (alloc_blk (.cells #[.int .i64 12, .int .i64 q, .int .i64 a, .int .i64 b] 25) (heap_alloc_new W0 (.cells #[.int .i64 9, .int .i64 q, .int .i64 a, .int .i64 0] 25)))
  have hz1 : (W0.alloc (.cells #[.int .i64 9, .int .i64 q, .int .i64 a, .int .i64 0] 25)).heap.size = w.heap.size + 2 := by simp [hz]
  have HCC := Lib.hid (show ((W0.alloc (.cells #[.int .i64 9, .int .i64 q, .int .i64 a, .int .i64 0] 25)).alloc (.cells #[.int .i64 12, .int .i64 q, .int .i64 a, .int .i64 b] 25)).heap[w.heap.size + 2]? = some (.cells #[.int .i64 12, .int .i64 q, .int .i64 a, .int .i64 b] 25 (0, 0)) by rw [← hz1]; exact heap_alloc_new (W0.alloc (.cells #[.int .i64 9, .int .i64 q, .int .i64 a, .int .i64 0] 25)) (.cells #[.int .i64 12, .int .i64 q, .int .i64 a, .int .i64 b] 25))
  rw [hz] at HCX
  have HX3 := Lib.hid (alloc_blk (.cells #[.int .i64 12, .int .i64 q, .int .i64 a, .int .i64 b] 25) (alloc_blk (.cells #[.int .i64 9, .int .i64 q, .int .i64 a, .int .i64 0] 25) HX.out))
  have HQ2 := Lib.hid (alloc_blk (.cells #[.int .i64 9, .int .i64 q, .int .i64 a, .int .i64 0] 25) HQ.out)
  have HQ3 := Lib.hid (alloc_blk (.cells #[.int .i64 12, .int .i64 q, .int .i64 a, .int .i64 b] 25) HQ2.out)
  have Hb3 := Lib.hid ((Hb.out.alloc (by omega) (.cells #[.int .i64 9, .int .i64 q, .int .i64 a, .int .i64 0] 25)).alloc (by omega) (.cells #[.int .i64 12, .int .i64 q, .int .i64 a, .int .i64 b] 25))
  have q0 := cell_at HQ.out 0 _ rfl
  have hql := lt_of_block HQ.out
  have q2 := cell_at HQ2.out 0 _ rfl
  have hql2 := lt_of_block HQ2.out
  have q3 := cell_at HQ3.out 0 _ rfl
  obtain ⟨x0, x1, x2, x3⟩ := blk_cells HX3.out
  obtain ⟨y0, y1, y2, y3⟩ := blk_cells HCX.out
  obtain ⟨z0, z1, z2, z3⟩ := blk_cells HCC.out
  go_wp2_with fail
  go_ret
  exact ⟨rfl, Hb3.out⟩
set_option maxRecDepth 100000 in
set_option maxHeartbeats 3200000 in
theorem ctq_12 (q a b c : Int) (Bq : Nat) (w : World) (hq : w.heap[Bq]? = some (.cells #[.int .i64 q] 3 (0, 0))) :
    Calls Tryz.prog 66 #[.agg #[.int .i64 12, .int .i64 a, .int .i64 b, .int .i64 c], .pointer (some ⟨Bq, 0, none⟩)] w fun e w' => e = .returned (.slice none 0 0) ∧ Below w.heap.size w w' := by
  have H3 := Lib.hid (fun n => box3 (k := 12) (a := a) (b := b) (c := c) hq n)
  have HX := Lib.hid (heap_alloc_new w (.cells #[.int .i64 12, .int .i64 a, .int .i64 b, .int .i64 c] 25))
  obtain ⟨c0, c1, c2, c3⟩ := blk_cells HX.out
  have hxl := lt_of_block HX.out
  clear hq
  go_enter Tryz.func66, Tryz.ntmps66
  go_upto_region 1 with fail
  go_quiet (fail)
  generalize hn : World.drewN _ _ = W0
  obtain ⟨hQ, hX, hz, hb⟩ := hn ▸ H3.out _
  clear hn c0 c1 c2 c3 hxl HX H3
  have HQ := Lib.hid hQ
  have HX := Lib.hid hX
  have Hb := Lib.hid hb
  have HCX := Lib.hid (alloc_blk (.cells #[.int .i64 12, .int .i64 q, .int .i64 a, .int .i64 b] 25) (heap_alloc_new W0 (.cells #[.int .i64 9, .int .i64 q, .int .i64 a, .int .i64 0] 25)))
  have hz1 : (W0.alloc (.cells #[.int .i64 9, .int .i64 q, .int .i64 a, .int .i64 0] 25)).heap.size = w.heap.size + 2 := by simp [hz]
  have HCC := Lib.hid (show ((W0.alloc (.cells #[.int .i64 9, .int .i64 q, .int .i64 a, .int .i64 0] 25)).alloc (.cells #[.int .i64 12, .int .i64 q, .int .i64 a, .int .i64 b] 25)).heap[w.heap.size + 2]? = some (.cells #[.int .i64 12, .int .i64 q, .int .i64 a, .int .i64 b] 25 (0, 0)) by rw [← hz1]; exact heap_alloc_new (W0.alloc (.cells #[.int .i64 9, .int .i64 q, .int .i64 a, .int .i64 0] 25)) (.cells #[.int .i64 12, .int .i64 q, .int .i64 a, .int .i64 b] 25))
  rw [hz] at HCX
  have HX3 := Lib.hid (alloc_blk (.cells #[.int .i64 12, .int .i64 q, .int .i64 a, .int .i64 b] 25) (alloc_blk (.cells #[.int .i64 9, .int .i64 q, .int .i64 a, .int .i64 0] 25) HX.out))
  have HQ2 := Lib.hid (alloc_blk (.cells #[.int .i64 9, .int .i64 q, .int .i64 a, .int .i64 0] 25) HQ.out)
  have HQ3 := Lib.hid (alloc_blk (.cells #[.int .i64 12, .int .i64 q, .int .i64 a, .int .i64 b] 25) HQ2.out)
  have Hb3 := Lib.hid ((Hb.out.alloc (by omega) (.cells #[.int .i64 9, .int .i64 q, .int .i64 a, .int .i64 0] 25)).alloc (by omega) (.cells #[.int .i64 12, .int .i64 q, .int .i64 a, .int .i64 b] 25))
  have q0 := cell_at HQ.out 0 _ rfl
  have hql := lt_of_block HQ.out
  have q2 := cell_at HQ2.out 0 _ rfl
  have hql2 := lt_of_block HQ2.out
  have q3 := cell_at HQ3.out 0 _ rfl
  obtain ⟨x0, x1, x2, x3⟩ := blk_cells HX3.out
  obtain ⟨y0, y1, y2, y3⟩ := blk_cells HCX.out
  obtain ⟨z0, z1, z2, z3⟩ := blk_cells HCC.out
  go_wp2_with fail
  go_ret
  exact ⟨rfl, Hb3.out⟩
end Go.Proofs.YtlmiebeffdcfhaaGreat
