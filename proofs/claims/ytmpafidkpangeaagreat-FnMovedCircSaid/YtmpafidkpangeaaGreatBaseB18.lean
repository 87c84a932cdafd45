/- BaseB18: several of our texts in one: CiKg CdP CiD. -/
import Derived.Test.YtmpafidkpangeaaGreatBaseB12
import Derived.Test.YtmpafidkpangeaaGreatBaseB16
import Derived.Test.YtmpafidkpangeaaGreatCiM
import Derived.Test.YtmpafidkpangeaaGreatCiN
import Derived.Test.YtmpafidkpangeaaGreatCiB
import Derived.Test.YtmpafidkpangeaaGreatBaseB17
import Derived.Test.YtmpafidkpangeaaGreatBaseB24
import Derived.Test.YtmpafidkpangeaaGreatBaseB19
namespace Go.Proofs.YtmpafidkpangeaaGreat
open Go.RowKit
theorem atI_get {p : List Int} {i : Nat} (h : i < p.length) : p[i]? = some (atI p (i : Int)) := by
  unfold atI
  simp [h]
attribute [local irreducible] World.cell?
set_option maxRecDepth 100000 in
set_option maxHeartbeats 6400000 in
theorem irelG1 (C : Nat) (k : Int) (a : Nat) (b c : Int) (p : List Int) (u : Value) (w : World) (h : ar k = 1) (ha : a < p.length) (hu : intE.Sl w C u p) :
    Calls Tryz.prog 73 #[(.agg #[.int .i64 ((Gt.mk k a b c)).k, .int .i64 ((Gt.mk k a b c)).a, .int .i64 ((Gt.mk k a b c)).b, .int .i64 ((Gt.mk k a b c)).c]), u] w fun e w' => e = .returned (.agg #[.int .i64 k, .int .i64 (atI p (a : Int)), .int .i64 0, .int .i64 0]) ∧ Below w.heap.size w w' := by
  have Hq := Lib.hid (fun W => igqs0 (Gt.mk k a b c) W)
  rw [show gqs (Gt.mk k a b c) = [(a : Int)] by unfold gqs; rw [h]; rfl, show ar (Gt.mk k a b c).k = 1 from h] at Hq
  have Hb0 := Lib.hid (show Below w.heap.size w (((w.alloc (.cells #[.int .i64 k, .int .i64 a, .int .i64 b, .int .i64 c] 35)).alloc (.cells #[.int .i64 0, .int .i64 0, .int .i64 0, .int .i64 0] 35)).alloc (.cells #[.int .i64 0, .int .i64 0, .int .i64 0] 135)) by go_grown)
  have HX := Lib.hid (show (((w.alloc (.cells #[.int .i64 k, .int .i64 a, .int .i64 b, .int .i64 c] 35)).alloc (.cells #[.int .i64 0, .int .i64 0, .int .i64 0, .int .i64 0] 35)).alloc (.cells #[.int .i64 0, .int .i64 0, .int .i64 0] 135)).heap[w.heap.size]? = some (.cells #[.int .i64 k, .int .i64 a, .int .i64 b, .int .i64 c] 35) by exact alloc_blk _ (alloc_blk _ (heap_alloc_new w _)))
  have HR := Lib.hid (show (((w.alloc (.cells #[.int .i64 k, .int .i64 a, .int .i64 b, .int .i64 c] 35)).alloc (.cells #[.int .i64 0, .int .i64 0, .int .i64 0, .int .i64 0] 35)).alloc (.cells #[.int .i64 0, .int .i64 0, .int .i64 0] 135)).heap[w.heap.size + 1]? = some (.cells #[.int .i64 0, .int .i64 0, .int .i64 0, .int .i64 0] 35) by
    have h := heap_alloc_new (w.alloc (.cells #[.int .i64 k, .int .i64 a, .int .i64 b, .int .i64 c] 35)) (.cells #[.int .i64 0, .int .i64 0, .int .i64 0, .int .i64 0] 35)
    rw [show (w.alloc (.cells #[.int .i64 k, .int .i64 a, .int .i64 b, .int .i64 c] 35)).heap.size = w.heap.size + 1 by simp] at h
    exact alloc_blk _ h)
  have HA := Lib.hid (show (((w.alloc (.cells #[.int .i64 k, .int .i64 a, .int .i64 b, .int .i64 c] 35)).alloc (.cells #[.int .i64 0, .int .i64 0, .int .i64 0, .int .i64 0] 35)).alloc (.cells #[.int .i64 0, .int .i64 0, .int .i64 0] 135)).heap[w.heap.size + 2]? = some (.cells #[.int .i64 0, .int .i64 0, .int .i64 0] 135) by
    have h := heap_alloc_new ((w.alloc (.cells #[.int .i64 k, .int .i64 a, .int .i64 b, .int .i64 c] 35)).alloc (.cells #[.int .i64 0, .int .i64 0, .int .i64 0, .int .i64 0] 35)) (.cells #[.int .i64 0, .int .i64 0, .int .i64 0] 135)
    rw [show ((w.alloc (.cells #[.int .i64 k, .int .i64 a, .int .i64 b, .int .i64 c] 35)).alloc (.cells #[.int .i64 0, .int .i64 0, .int .i64 0, .int .i64 0] 35)).heap.size = w.heap.size + 2 by simp] at h
    exact h)
  obtain ⟨pu, cu, rfl, hcu, hru⟩ := hu
  obtain ⟨gu, rfl, -, hrow⟩ := hru (by omega)
  have Hrow := Lib.hid (hrow.below Hb0.out hrow.lt)
  have hgu := hrow.lt
  clear hrow hru
  have hpa := atI_get (p := p) (i := a) ha
  generalize atI p (a : Int) = Pa at *
  have hs3 : (((w.alloc (.cells #[.int .i64 k, .int .i64 a, .int .i64 b, .int .i64 c] 35)).alloc (.cells #[.int .i64 0, .int .i64 0, .int .i64 0, .int .i64 0] 35)).alloc (.cells #[.int .i64 0, .int .i64 0, .int .i64 0] 135)).heap.size = w.heap.size + 3 := by simp
  go_enter Tryz.func73, Tryz.ntmps73
  go_wp2_with fail
  refine (Hq.out _).mono ?_
  rintro e w4 ⟨rfl, hrw, hb4⟩
  have HX := Lib.hid (below_blk hb4 (by omega) HX.out)
  have HR := Lib.hid (below_blk hb4 (by omega) HR.out)
  have HA := Lib.hid (below_blk hb4 (by omega) HA.out)
  have Hrow := Lib.hid (Hrow.out.below hb4 (by omega))
  have Hb4 := Lib.hid (below_nx Hb0.out hb4)
  have hs4 := hb4.size
  obtain ⟨x0, x1, x2, x3⟩ := blk_cells HX.out
  obtain ⟨y0, y1, y2, y3⟩ := blk_cells HR.out
  have z0 := cell_at HA.out 0 _ rfl
  have z1 := cell_at HA.out 1 _ rfl
  have z2 := cell_at HA.out 2 _ rfl
  have fA := fun o => free_at HA.out o
  have fR := fun o => free_at HR.out o
  have hxl := lt_of_block HX.out
  have hrl := lt_of_block HR.out
  have hal := lt_of_block HA.out
  have e0 := IRow.cell hrw (j := 0) rfl
  have p0 := IRow.cell Hrow.out hpa
  have hrwl := hrw.lt
  rw [hs3] at hrwl hs4 e0
  have hgu4 : gu < w4.heap.size := by omega
  clear hrw hb4 HX HA hpa
  go_wp2_with fail
  go_rounds 2
  go_wp2_with fail
  have k0 := cell_at (heap_set (set1_blk (g := w.heap.size + 1 + 1) (off := 0) (u := .int .i64 Pa) (by omega) HR.out) 0 (.int .i64 k)) 0 (.int .i64 k) rfl
  have k1 := cell_at (heap_set (heap_set (set1_blk (g := w.heap.size + 1 + 1) (off := 0) (u := .int .i64 Pa) (by omega) HR.out) 0 (.int .i64 k)) 1 (.int .i64 Pa)) 1 (.int .i64 Pa) rfl
  have k2 := cell_at (heap_set (heap_set (heap_set (set1_blk (g := w.heap.size + 1 + 1) (off := 0) (u := .int .i64 Pa) (by omega) HR.out) 0 (.int .i64 k)) 1 (.int .i64 Pa)) 2 (.int .i64 0)) 2 (.int .i64 0) rfl
  have k3 := cell_at (heap_set (heap_set (heap_set (heap_set (set1_blk (g := w.heap.size + 1 + 1) (off := 0) (u := .int .i64 Pa) (by omega) HR.out) 0 (.int .i64 k)) 1 (.int .i64 Pa)) 2 (.int .i64 0)) 3 (.int .i64 0)) 3 (.int .i64 0) rfl
  refine bodyPost_ret (v := .agg #[.int .i64 k, .int .i64 Pa, .int .i64 0, .int .i64 0]) (by simp only [results, Tryz.results73]; simp [go_sem, k0, k1, k2, k3]) rfl ⟨rfl, ?_⟩
  have := Hb4.out
  go_grown
set_option maxRecDepth 100000 in
set_option maxHeartbeats 6400000 in
theorem irelG2 (C : Nat) (k : Int) (a b : Nat) (c : Int) (p : List Int) (u : Value) (w : World) (h : ar k = 2) (ha : a < p.length) (hb : b < p.length) (hu : intE.Sl w C u p) :
    Calls Tryz.prog 73 #[(.agg #[.int .i64 ((Gt.mk k a b c)).k, .int .i64 ((Gt.mk k a b c)).a, .int .i64 ((Gt.mk k a b c)).b, .int .i64 ((Gt.mk k a b c)).c]), u] w fun e w' => e = .returned (.agg #[.int .i64 k, .int .i64 (atI p (a : Int)), .int .i64 (atI p (b : Int)), .int .i64 0]) ∧ Below w.heap.size w w' := by
  have Hq := Lib.hid (fun W => igqs0 (Gt.mk k a b c) W)
  rw [show gqs (Gt.mk k a b c) = [(a : Int), (b : Int)] by unfold gqs; rw [h]; rfl, show ar (Gt.mk k a b c).k = 2 from h] at Hq
  have Hb0 := Lib.hid (show Below w.heap.size w (((w.alloc (.cells #[.int .i64 k, .int .i64 a, .int .i64 b, .int .i64 c] 35)).alloc (.cells #[.int .i64 0, .int .i64 0, .int .i64 0, .int .i64 0] 35)).alloc (.cells #[.int .i64 0, .int .i64 0, .int .i64 0] 135)) by go_grown)
  have HX := Lib.hid (show (((w.alloc (.cells #[.int .i64 k, .int .i64 a, .int .i64 b, .int .i64 c] 35)).alloc (.cells #[.int .i64 0, .int .i64 0, .int .i64 0, .int .i64 0] 35)).alloc (.cells #[.int .i64 0, .int .i64 0, .int .i64 0] 135)).heap[w.heap.size]? = some (.cells #[.int .i64 k, .int .i64 a, .int .i64 b, .int .i64 c] 35) by exact alloc_blk _ (alloc_blk _ (heap_alloc_new w _)))
  have HR := Lib.hid (show (((w.alloc (.cells #[.int .i64 k, .int .i64 a, .int .i64 b, .int .i64 c] 35)).alloc (.cells #[.int .i64 0, .int .i64 0, .int .i64 0, .int .i64 0] 35)).alloc (.cells #[.int .i64 0, .int .i64 0, .int .i64 0] 135)).heap[w.heap.size + 1]? = some (.cells #[.int .i64 0, .int .i64 0, .int .i64 0, .int .i64 0] 35) by
    have h := heap_alloc_new (w.alloc (.cells #[.int .i64 k, .int .i64 a, .int .i64 b, .int .i64 c] 35)) (.cells #[.int .i64 0, .int .i64 0, .int .i64 0, .int .i64 0] 35)
    rw [show (w.alloc (.cells #[.int .i64 k, .int .i64 a, .int .i64 b, .int .i64 c] 35)).heap.size = w.heap.size + 1 by simp] at h
    exact alloc_blk _ h)
  have HA := Lib.hid (show (((w.alloc (.cells #[.int .i64 k, .int .i64 a, .int .i64 b, .int .i64 c] 35)).alloc (.cells #[.int .i64 0, .int .i64 0, .int .i64 0, .int .i64 0] 35)).alloc (.cells #[.int .i64 0, .int .i64 0, .int .i64 0] 135)).heap[w.heap.size + 2]? = some (.cells #[.int .i64 0, .int .i64 0, .int .i64 0] 135) by
    have h := heap_alloc_new ((w.alloc (.cells #[.int .i64 k, .int .i64 a, .int .i64 b, .int .i64 c] 35)).alloc (.cells #[.int .i64 0, .int .i64 0, .int .i64 0, .int .i64 0] 35)) (.cells #[.int .i64 0, .int .i64 0, .int .i64 0] 135)
    rw [show ((w.alloc (.cells #[.int .i64 k, .int .i64 a, .int .i64 b, .int .i64 c] 35)).alloc (.cells #[.int .i64 0, .int .i64 0, .int .i64 0, .int .i64 0] 35)).heap.size = w.heap.size + 2 by simp] at h
    exact h)
  obtain ⟨pu, cu, rfl, hcu, hru⟩ := hu
  obtain ⟨gu, rfl, -, hrow⟩ := hru (by omega)
  have Hrow := Lib.hid (hrow.below Hb0.out hrow.lt)
  have hgu := hrow.lt
  clear hrow hru
  have hpa := atI_get (p := p) (i := a) ha
  generalize atI p (a : Int) = Pa at *
  have hpb := atI_get (p := p) (i := b) hb
  generalize atI p (b : Int) = Pb at *
  have hs3 : (((w.alloc (.cells #[.int .i64 k, .int .i64 a, .int .i64 b, .int .i64 c] 35)).alloc (.cells #[.int .i64 0, .int .i64 0, .int .i64 0, .int .i64 0] 35)).alloc (.cells #[.int .i64 0, .int .i64 0, .int .i64 0] 135)).heap.size = w.heap.size + 3 := by simp
  go_enter Tryz.func73, Tryz.ntmps73
  go_wp2_with fail
  refine (Hq.out _).mono ?_
  rintro e w4 ⟨rfl, hrw, hb4⟩
  have HX := Lib.hid (below_blk hb4 (by omega) HX.out)
  have HR := Lib.hid (below_blk hb4 (by omega) HR.out)
  have HA := Lib.hid (below_blk hb4 (by omega) HA.out)
  have Hrow := Lib.hid (Hrow.out.below hb4 (by omega))
  have Hb4 := Lib.hid (below_nx Hb0.out hb4)
  have hs4 := hb4.size
  obtain ⟨x0, x1, x2, x3⟩ := blk_cells HX.out
  obtain ⟨y0, y1, y2, y3⟩ := blk_cells HR.out
  have z0 := cell_at HA.out 0 _ rfl
  have z1 := cell_at HA.out 1 _ rfl
  have z2 := cell_at HA.out 2 _ rfl
  have fA := fun o => free_at HA.out o
  have fR := fun o => free_at HR.out o
  have hxl := lt_of_block HX.out
  have hrl := lt_of_block HR.out
  have hal := lt_of_block HA.out
  have e0 := IRow.cell hrw (j := 0) rfl
  have p0 := IRow.cell Hrow.out hpa
  have e1 := IRow.cell hrw (j := 1) rfl
  have p1 := IRow.cell Hrow.out hpb
  have hrwl := hrw.lt
  rw [hs3] at hrwl hs4 e0 e1
  have hgu4 : gu < w4.heap.size := by omega
  clear hrw hb4 HX HA hpa hpb
  go_wp2_with fail
  go_rounds 3
  go_wp2_with fail
  have k0 := cell_at (heap_set (set1_blk (g := w.heap.size + 1 + 1) (off := 1) (u := .int .i64 Pb) (by omega) (set1_blk (g := w.heap.size + 1 + 1) (off := 0) (u := .int .i64 Pa) (by omega) HR.out)) 0 (.int .i64 k)) 0 (.int .i64 k) rfl
  have k1 := cell_at (heap_set (heap_set (set1_blk (g := w.heap.size + 1 + 1) (off := 1) (u := .int .i64 Pb) (by omega) (set1_blk (g := w.heap.size + 1 + 1) (off := 0) (u := .int .i64 Pa) (by omega) HR.out)) 0 (.int .i64 k)) 1 (.int .i64 Pa)) 1 (.int .i64 Pa) rfl
  have k2 := cell_at (heap_set (heap_set (heap_set (set1_blk (g := w.heap.size + 1 + 1) (off := 1) (u := .int .i64 Pb) (by omega) (set1_blk (g := w.heap.size + 1 + 1) (off := 0) (u := .int .i64 Pa) (by omega) HR.out)) 0 (.int .i64 k)) 1 (.int .i64 Pa)) 2 (.int .i64 Pb)) 2 (.int .i64 Pb) rfl
  have k3 := cell_at (heap_set (heap_set (heap_set (heap_set (set1_blk (g := w.heap.size + 1 + 1) (off := 1) (u := .int .i64 Pb) (by omega) (set1_blk (g := w.heap.size + 1 + 1) (off := 0) (u := .int .i64 Pa) (by omega) HR.out)) 0 (.int .i64 k)) 1 (.int .i64 Pa)) 2 (.int .i64 Pb)) 3 (.int .i64 0)) 3 (.int .i64 0) rfl
  refine bodyPost_ret (v := .agg #[.int .i64 k, .int .i64 Pa, .int .i64 Pb, .int .i64 0]) (by simp only [results, Tryz.results73]; simp [go_sem, k0, k1, k2, k3]) rfl ⟨rfl, ?_⟩
  have := Hb4.out
  go_grown
set_option maxRecDepth 100000 in
set_option maxHeartbeats 6400000 in
theorem irelG3 (C : Nat) (k : Int) (a b c : Nat) (p : List Int) (u : Value) (w : World) (h : ar k = 3) (ha : a < p.length) (hb : b < p.length) (hc : c < p.length) (hu : intE.Sl w C u p) :
    Calls Tryz.prog 73 #[(.agg #[.int .i64 ((Gt.mk k a b c)).k, .int .i64 ((Gt.mk k a b c)).a, .int .i64 ((Gt.mk k a b c)).b, .int .i64 ((Gt.mk k a b c)).c]), u] w fun e w' => e = .returned (.agg #[.int .i64 k, .int .i64 (atI p (a : Int)), .int .i64 (atI p (b : Int)), .int .i64 (atI p (c : Int))]) ∧ Below w.heap.size w w' := by
  have Hq := Lib.hid (fun W => igqs0 (Gt.mk k a b c) W)
  rw [show gqs (Gt.mk k a b c) = [(a : Int), (b : Int), (c : Int)] by unfold gqs; rw [h]; rfl, show ar (Gt.mk k a b c).k = 3 from h] at Hq
  have Hb0 := Lib.hid (show Below w.heap.size w (((w.alloc (.cells #[.int .i64 k, .int .i64 a, .int .i64 b, .int .i64 c] 35)).alloc (.cells #[.int .i64 0, .int .i64 0, .int .i64 0, .int .i64 0] 35)).alloc (.cells #[.int .i64 0, .int .i64 0, .int .i64 0] 135)) by go_grown)
  have HX := Lib.hid (show (((w.alloc (.cells #[.int .i64 k, .int .i64 a, .int .i64 b, .int .i64 c] 35)).alloc (.cells #[.int .i64 0, .int .i64 0, .int .i64 0, .int .i64 0] 35)).alloc (.cells #[.int .i64 0, .int .i64 0, .int .i64 0] 135)).heap[w.heap.size]? = some (.cells #[.int .i64 k, .int .i64 a, .int .i64 b, .int .i64 c] 35) by exact alloc_blk _ (alloc_blk _ (heap_alloc_new w _)))
  have HR := Lib.hid (show (((w.alloc (.cells #[.int .i64 k, .int .i64 a, .int .i64 b, .int .i64 c] 35)).alloc (.cells #[.int .i64 0, .int .i64 0, .int .i64 0, .int .i64 0] 35)).alloc (.cells #[.int .i64 0, .int .i64 0, .int .i64 0] 135)).heap[w.heap.size + 1]? = some (.cells #[.int .i64 0, .int .i64 0, .int .i64 0, .int .i64 0] 35) by
    have h := heap_alloc_new (w.alloc (.cells #[.int .i64 k, .int .i64 a, .int .i64 b, .int .i64 c] 35)) (.cells #[.int .i64 0, .int .i64 0, .int .i64 0, .int .i64 0] 35)
    rw [show (w.alloc (.cells #[.int .i64 k, .int .i64 a, .int .i64 b, .int .i64 c] 35)).heap.size = w.heap.size + 1 by simp] at h
    exact alloc_blk _ h)
  have HA := Lib.hid (show (((w.alloc (.cells #[.int .i64 k, .int .i64 a, .int .i64 b, .int .i64 c] 35)).alloc (.cells #[.int .i64 0, .int .i64 0, .int .i64 0, .int .i64 0] 35)).alloc (.cells #[.int .i64 0, .int .i64 0, .int .i64 0] 135)).heap[w.heap.size + 2]? = some (.cells #[.int .i64 0, .int .i64 0, .int .i64 0] 135) by
    have h := heap_alloc_new ((w.alloc (.cells #[.int .i64 k, .int .i64 a, .int .i64 b, .int .i64 c] 35)).alloc (.cells #[.int .i64 0, .int .i64 0, .int .i64 0, .int .i64 0] 35)) (.cells #[.int .i64 0, .int .i64 0, .int .i64 0] 135)
    rw [show ((w.alloc (.cells #[.int .i64 k, .int .i64 a, .int .i64 b, .int .i64 c] 35)).alloc (.cells #[.int .i64 0, .int .i64 0, .int .i64 0, .int .i64 0] 35)).heap.size = w.heap.size + 2 by simp] at h
    exact h)
  obtain ⟨pu, cu, rfl, hcu, hru⟩ := hu
  obtain ⟨gu, rfl, -, hrow⟩ := hru (by omega)
  have Hrow := Lib.hid (hrow.below Hb0.out hrow.lt)
  have hgu := hrow.lt
  clear hrow hru
  have hpa := atI_get (p := p) (i := a) ha
  generalize atI p (a : Int) = Pa at *
  have hpb := atI_get (p := p) (i := b) hb
  generalize atI p (b : Int) = Pb at *
  have hpc := atI_get (p := p) (i := c) hc
  generalize atI p (c : Int) = Pc at *
  have hs3 : (((w.alloc (.cells #[.int .i64 k, .int .i64 a, .int .i64 b, .int .i64 c] 35)).alloc (.cells #[.int .i64 0, .int .i64 0, .int .i64 0, .int .i64 0] 35)).alloc (.cells #[.int .i64 0, .int .i64 0, .int .i64 0] 135)).heap.size = w.heap.size + 3 := by simp
  go_enter Tryz.func73, Tryz.ntmps73
  go_wp2_with fail
  refine (Hq.out _).mono ?_
  rintro e w4 ⟨rfl, hrw, hb4⟩
  have HX := Lib.hid (below_blk hb4 (by omega) HX.out)
  have HR := Lib.hid (below_blk hb4 (by omega) HR.out)
  have HA := Lib.hid (below_blk hb4 (by omega) HA.out)
  have Hrow := Lib.hid (Hrow.out.below hb4 (by omega))
  have Hb4 := Lib.hid (below_nx Hb0.out hb4)
  have hs4 := hb4.size
  obtain ⟨x0, x1, x2, x3⟩ := blk_cells HX.out
  obtain ⟨y0, y1, y2, y3⟩ := blk_cells HR.out
  have z0 := cell_at HA.out 0 _ rfl
  have z1 := cell_at HA.out 1 _ rfl
  have z2 := cell_at HA.out 2 _ rfl
  have fA := fun o => free_at HA.out o
  have fR := fun o => free_at HR.out o
  have hxl := lt_of_block HX.out
  have hrl := lt_of_block HR.out
  have hal := lt_of_block HA.out
  have e0 := IRow.cell hrw (j := 0) rfl
  have p0 := IRow.cell Hrow.out hpa
  have e1 := IRow.cell hrw (j := 1) rfl
  have p1 := IRow.cell Hrow.out hpb
  have e2 := IRow.cell hrw (j := 2) rfl
  have p2 := IRow.cell Hrow.out hpc
  have hrwl := hrw.lt
  rw [hs3] at hrwl hs4 e0 e1 e2
  have hgu4 : gu < w4.heap.size := by omega
  clear hrw hb4 HX HA hpa hpb hpc
  go_wp2_with fail
  go_rounds 4
  go_wp2_with fail
  have k0 := cell_at (heap_set (set1_blk (g := w.heap.size + 1 + 1) (off := 2) (u := .int .i64 Pc) (by omega) (set1_blk (g := w.heap.size + 1 + 1) (off := 1) (u := .int .i64 Pb) (by omega) (set1_blk (g := w.heap.size + 1 + 1) (off := 0) (u := .int .i64 Pa) (by omega) HR.out))) 0 (.int .i64 k)) 0 (.int .i64 k) rfl
  have k1 := cell_at (heap_set (heap_set (set1_blk (g := w.heap.size + 1 + 1) (off := 2) (u := .int .i64 Pc) (by omega) (set1_blk (g := w.heap.size + 1 + 1) (off := 1) (u := .int .i64 Pb) (by omega) (set1_blk (g := w.heap.size + 1 + 1) (off := 0) (u := .int .i64 Pa) (by omega) HR.out))) 0 (.int .i64 k)) 1 (.int .i64 Pa)) 1 (.int .i64 Pa) rfl
  have k2 := cell_at (heap_set (heap_set (heap_set (set1_blk (g := w.heap.size + 1 + 1) (off := 2) (u := .int .i64 Pc) (by omega) (set1_blk (g := w.heap.size + 1 + 1) (off := 1) (u := .int .i64 Pb) (by omega) (set1_blk (g := w.heap.size + 1 + 1) (off := 0) (u := .int .i64 Pa) (by omega) HR.out))) 0 (.int .i64 k)) 1 (.int .i64 Pa)) 2 (.int .i64 Pb)) 2 (.int .i64 Pb) rfl
  have k3 := cell_at (heap_set (heap_set (heap_set (heap_set (set1_blk (g := w.heap.size + 1 + 1) (off := 2) (u := .int .i64 Pc) (by omega) (set1_blk (g := w.heap.size + 1 + 1) (off := 1) (u := .int .i64 Pb) (by omega) (set1_blk (g := w.heap.size + 1 + 1) (off := 0) (u := .int .i64 Pa) (by omega) HR.out))) 0 (.int .i64 k)) 1 (.int .i64 Pa)) 2 (.int .i64 Pb)) 3 (.int .i64 Pc)) 3 (.int .i64 Pc) rfl
  refine bodyPost_ret (v := .agg #[.int .i64 k, .int .i64 Pa, .int .i64 Pb, .int .i64 Pc]) (by simp only [results, Tryz.results73]; simp [go_sem, k0, k1, k2, k3]) rfl ⟨rfl, ?_⟩
  have := Hb4.out
  go_grown
end Go.Proofs.YtmpafidkpangeaaGreat
namespace Go.Proofs.YtmpafidkpangeaaGreat
theorem ccB_parts {n : Int} {L : List Gt} (h : ccB n L = true) : ciB n L = true ∧ cirB L n.toNat = true ∧ ccM n L = cirM L n.toNat := by
  unfold ccB at h
  rw [Bool.and_eq_true] at h
  exact ⟨h.1, h.2, if_pos h.1⟩
theorem rlB_parts {n : Int} {L : List Gt} {p : List Int} (h : rlB n L p = true) : ciB n L = true ∧ permB p = true ∧ (p.length : Int) = n := by
  unfold rlB at h
  simp only [Bool.and_eq_true, decide_eq_true_eq] at h
  exact h
theorem law_moved {n : Int} {L : List Gt} {p : List Int} (h : rlB n L p = true) (h1 : ccB n L = true) (h2 : ccB (rlN n L p) (rlL n L p) = true) (h3 : mulMB (ccM (rlN n L p) (rlL n L p)) (pmM p) = true) (h4 : mulMB (pmM p) (ccM n L) = true) :
    mulM (ccM (rlN n L p) (rlL n L p)) (pmM p) = mulM (pmM p) (ccM n L) := by
  rw [show rlN n L p = n from if_pos h, show rlL n L p = L.map (movG p) from if_pos h] at h2 h3 ⊢
  obtain ⟨k1, k2, k3⟩ := rlB_parts h
  subst k3
  obtain ⟨g1, -, -⟩ := ciB_parts k1
  rw [(ccB_parts h2).2.2] at h3 ⊢
  rw [(ccB_parts h1).2.2] at h4 ⊢
  exact cir_moved k2 g1 (by simpa using (ccB_parts h1).2.1) (by simpa using (ccB_parts h2).2.1) (by simpa using h3) (by simpa using h4)
end Go.Proofs.YtmpafidkpangeaaGreat
namespace Go.Proofs.YtmpafidkpangeaaGreat
open Go.RowKit
attribute [local irreducible] World.cell?
theorem permS (B n : Nat) (w : World) (hcur : CurAt w B) (hB : B < w.heap.size) (h1 : 1 ≤ n) (h4 : n ≤ 4) :
    Calls Tryz.prog 69 #[.pointer (some ⟨B, 0, none⟩), .int .i64 n] w fun e w' => (∃ v l, e = .returned v ∧ List.length l ≤ 5 ∧ Ei l ∧ intE.Sl w' w.heap.size v l) ∧ CurAt w' B ∧ Own B w w' := by
  have h := perm_sl B ((n : Int) - 1) w hcur hB (by omega) (by omega)
  rwa [show 1 + ((n : Int) - 1) = n by omega] at h
set_option maxRecDepth 100000 in
set_option maxHeartbeats 6400000 in
theorem drawRelabelCircuit (a0 : Option Addr) (len cap : Nat) (w : World) (hcode : CodeAt w w.heap.size a0 len) :
    Calls Tryz.prog 23 #[.slice a0 len cap] w fun e w' => (∃ n u v L p, e = .returned (.tuple #[.agg #[.int .i64 n, u], v]) ∧ CiD 8 n L ∧ List.length p ≤ 5 ∧ Ei p ∧ gtE.Sl w' w.heap.size u L ∧ intE.Sl w' w.heap.size v p) ∧ Below w.heap.size w w' := by
  have Hcode := Lib.hid (show CodeAt (w.alloc (.cells #[.int .i64 0, .slice none 0 0] 26)) (w.alloc (.cells #[.int .i64 0, .slice none 0 0] 26)).heap.size a0 len from (hcode.below ((Below.refl _ _).alloc (Nat.le_refl _) (.cells #[.int .i64 0, .slice none 0 0] 26))).mono (by simp))
  have Hr0 := Lib.hid (heap_alloc_new w (.cells #[.int .i64 0, .slice none 0 0] 26))
  clear hcode
  go_enter Tryz.func23, Tryz.ntmps23
  go_wp2_with fail
  refine (new_any a0 len cap _ Hcode.out).mono ?_
  rintro e w1 ⟨rfl, hc1, hb1, hz1⟩
  have hz0 : (w.alloc (.cells #[.int .i64 0, .slice none 0 0] 26)).heap.size = w.heap.size + 1 := by simp
  rw [hz0] at hc1 hz1
  have Hr1 := Lib.hid (below_blk hb1 (lt_of_block Hr0.out) Hr0.out)
  have Hc1 := Lib.hid hc1
  have Hb1 := Lib.hid (below_up (B := w.heap.size) (w := w) (by go_grown) hb1 (by simp))
  have hs1 := hb1.size
  rw [hz0] at hs1
  clear hc1 hb1
  have HG := Lib.hid (bentC (w.heap.size + 1) 8 w1 Hc1.out (by omega) (by omega))
  go_wp2_with fail
  refine HG.out.mono ?_
  rintro e w2 ⟨⟨n, v, l, rfl, hd, hsl⟩, hc2, ho2⟩
  obtain ⟨p, c, rfl, -, -⟩ := id hsl
  have hs2 := ho2.size
  have hbx : Below w2.heap.size w2 (w2.alloc (.cells #[.int .i64 n, .slice p l.length c] 26)) := (Below.refl _ _).alloc (Nat.le_refl _) _
  have Hr2 := Lib.hid (alloc_blk (.cells #[.int .i64 n, .slice p l.length c] 26) (own_blk ho2 (by omega) Hr1.out))
  have HO2 := Lib.hid (heap_alloc_new w2 (.cells #[.int .i64 n, .slice p l.length c] 26))
  have Hb2 := Lib.hid (below_nx (below_own Hb1.out ho2 (by omega) (by omega)) hbx)
  have Hc2 := Lib.hid (hc2.below (w' := w2.alloc (.cells #[.int .i64 n, .slice p l.length c] 26)) (C := w2.heap.size) (by go_grown) (by omega))
  have Hs2 := Lib.hid (hsl.below hbx)
  have hz2 := size_alloc1 w2 (.cells #[.int .i64 n, .slice p l.length c] 26)
  have Hd := Lib.hid hd
  clear hc2 ho2 Hc1 Hb1 Hr1 HG hd hsl hbx
  obtain ⟨o0, o1⟩ := blk_cells2 HO2.out
  have hOl := lt_of_block HO2.out
  by_cases hn : 1 ≤ n ∧ n ≤ 4
  · have Hl := Lib.hid (fun W => lin_any n 1 4 true W (decide_eq_true hn))
    obtain ⟨nn, rfl⟩ : ∃ nn : Nat, n = nn := ⟨n.toNat, by omega⟩
    have hn1 : 1 ≤ nn := by omega
    have hn4 : nn ≤ 4 := by omega
    clear hn
    go_wp2_with fail
    refine (Hl.out _).mono ?_
    rintro e w3 ⟨rfl, rfl⟩
    go_wp2_with fail
    refine (once_any (w.heap.size + 1) 6 _ Hc2.out (by omega) (by omega)).mono ?_
    rintro e w5 ⟨⟨t, rfl⟩, hc5, ho5⟩
    have hs5 := ho5.size
    simp only [size_alloc1] at hs5
    have HR5 := Lib.hid (own_blk ho5 (by omega) Hr2.out)
    have HO5 := Lib.hid (own_blk ho5 (by omega) HO2.out)
    have Hs5 := Lib.hid (Hs2.out.own ho5 (by omega))
    have Hb5 := Lib.hid (below_own Hb2.out ho5 (by omega) (by omega))
    have HP := Lib.hid (permS (w.heap.size + 1) nn w5.drew hc5.drew (by show w.heap.size + 1 < w5.heap.size; omega) hn1 hn4)
    have HQ := Lib.hid (bentP (w.heap.size + 1) w5.drew hc5.drew (by show w.heap.size + 1 < w5.heap.size; omega))
    clear hc5 ho5 Hc2 Hb2 Hr2 HO2 Hs2 o0 o1 hOl
    cases t with
    | false =>
      have HRd := Lib.hid (show w5.drew.heap[w.heap.size]? = some (.cells #[.int .i64 0, .slice none 0 0] 26) from HR5.out)
      have HOd := Lib.hid (show w5.drew.heap[w2.heap.size]? = some (.cells #[.int .i64 (nn : Int), .slice p l.length c] 26 (0, 0)) from HO5.out)
      have Hsd := Lib.hid (show gtE.Sl w5.drew _ _ l from Hs5.out)
      have hwd : w5.drew.heap.size = w5.heap.size := rfl
      obtain ⟨o0, o1⟩ := blk_cells2 HO5.out
      have hOl := lt_of_block HO5.out
      obtain ⟨r0, r1⟩ := blk_cells2 HR5.out
      have fR := fun o => free_at HR5.out o
      have hRl := lt_of_block HR5.out
      go_upto_region 4 with fail
      go_region_law? (first
        | ((go_simp; go_at_call 69; (with_reducible refine (HP.out).mono ?_); rintro e w6 ⟨⟨vp, lp, rfl, hpl, hpe, hpd⟩, hc6, ho6⟩; have hR6 := own_blk ho6 (by omega) HRd.out; obtain ⟨s0, s1⟩ := blk_cells2 hR6; have fS := fun o => free_at hR6 o; have hSl := lt_of_block hR6; have hO6 := own_blk ho6 (by omega) HOd.out; obtain ⟨q0, q1⟩ := blk_cells2 hO6; have hQl := lt_of_block hO6)))
      all_goals
        have hs6 := ho6.size
        have HR6 := Lib.hid hR6
        have Hs6 := Lib.hid (Hsd.out.own ho6 (by omega))
        have Hp6 := Lib.hid hpd
        have Hb6 := Lib.hid (below_own Hb5.out.drew ho6 (by omega) (by omega))
        have Hpe := Lib.hid hpe
        clear hc6 ho6 hpd hpe
        go_wp2_with fail
        obtain ⟨k0, k1⟩ := blk_cells2 (set2_at (u0 := .int .i64 (nn : Int)) (u1 := .slice p l.length c) HR6.out)
        refine bodyPost_ret (v := .tuple #[.agg #[.int .i64 (nn : Int), .slice p l.length c], vp]) (by simp only [results, Tryz.results23]; simp [go_sem, k0, k1]) rfl ⟨⟨(nn : Int), _, vp, l, lp, rfl, Hd.out, hpl, Hpe.out, ?_, ?_⟩, ?_⟩
        · exact (sl_set1 (sl_set1 Hs6.out (by omega)) (by omega)).mono (by omega)
        · exact (sl_set1 (sl_set1 Hp6.out (by omega)) (by omega)).mono (by omega)
        · have := Hb6.out
          go_grown
    | true =>
      have HRd := Lib.hid (show w5.drew.heap[w.heap.size]? = some (.cells #[.int .i64 0, .slice none 0 0] 26) from HR5.out)
      have HOd := Lib.hid (show w5.drew.heap[w2.heap.size]? = some (.cells #[.int .i64 (nn : Int), .slice p l.length c] 26 (0, 0)) from HO5.out)
      have Hsd := Lib.hid (show gtE.Sl w5.drew _ _ l from Hs5.out)
      have hwd : w5.drew.heap.size = w5.heap.size := rfl
      obtain ⟨o0, o1⟩ := blk_cells2 HO5.out
      have hOl := lt_of_block HO5.out
      obtain ⟨r0, r1⟩ := blk_cells2 HR5.out
      have fR := fun o => free_at HR5.out o
      have hRl := lt_of_block HR5.out
      go_upto_region 5 with fail
      go_region_law? (first
        | ((go_simp; go_at_call 70; (with_reducible refine (HQ.out).mono ?_); rintro e w6 ⟨⟨vp, lp, rfl, hpl, hpe, hpd⟩, hc6, ho6⟩; have hR6 := own_blk ho6 (by omega) HRd.out; obtain ⟨s0, s1⟩ := blk_cells2 hR6; have fS := fun o => free_at hR6 o; have hSl := lt_of_block hR6; have hO6 := own_blk ho6 (by omega) HOd.out; obtain ⟨q0, q1⟩ := blk_cells2 hO6; have hQl := lt_of_block hO6)))
      all_goals
        have hs6 := ho6.size
        have HR6 := Lib.hid hR6
        have Hs6 := Lib.hid (Hsd.out.own ho6 (by omega))
        have Hp6 := Lib.hid hpd
        have Hb6 := Lib.hid (below_own Hb5.out.drew ho6 (by omega) (by omega))
        have Hpe := Lib.hid hpe
        clear hc6 ho6 hpd hpe
        go_wp2_with fail
        obtain ⟨k0, k1⟩ := blk_cells2 (set2_at (u0 := .int .i64 (nn : Int)) (u1 := .slice p l.length c) HR6.out)
        refine bodyPost_ret (v := .tuple #[.agg #[.int .i64 (nn : Int), .slice p l.length c], vp]) (by simp only [results, Tryz.results23]; simp [go_sem, k0, k1]) rfl ⟨⟨(nn : Int), _, vp, l, lp, rfl, Hd.out, hpl, Hpe.out, ?_, ?_⟩, ?_⟩
        · exact (sl_set1 (sl_set1 Hs6.out (by omega)) (by omega)).mono (by omega)
        · exact (sl_set1 (sl_set1 Hp6.out (by omega)) (by omega)).mono (by omega)
        · have := Hb6.out
          go_grown
  · have Hl := Lib.hid (fun W => lin_any n 1 4 false W (decide_eq_false hn))
    clear hn
    go_wp2_with fail
    refine (Hl.out _).mono ?_
    rintro e w5 ⟨rfl, rfl⟩
    have HR5 := Hr2
    have HO5 := HO2
    have Hs5 := Hs2
    have Hb5 := Hb2
    obtain ⟨w5, hw5⟩ : ∃ x, x = w2.alloc (.cells #[.int .i64 n, .slice p l.length c] 26) := ⟨_, rfl⟩
    rw [← hw5] at HR5 HO5 Hs5 Hb5 Hc2 hz2 ⊢
    have HQ := Lib.hid (bentP (w.heap.size + 1) w5.drew Hc2.out.drew (by show w.heap.size + 1 < w5.heap.size; omega))
    clear Hc2 Hb2 Hr2 HO2 Hs2 o0 o1 hOl
    clear hw5
    have HRd := Lib.hid (show w5.drew.heap[w.heap.size]? = some (.cells #[.int .i64 0, .slice none 0 0] 26) from HR5.out)
    have HOd := Lib.hid (show w5.drew.heap[w2.heap.size]? = some (.cells #[.int .i64 n, .slice p l.length c] 26 (0, 0)) from HO5.out)
    have Hsd := Lib.hid (show gtE.Sl w5.drew _ _ l from Hs5.out)
    have hwd : w5.drew.heap.size = w5.heap.size := rfl
    obtain ⟨o0, o1⟩ := blk_cells2 HO5.out
    have hOl := lt_of_block HO5.out
    obtain ⟨r0, r1⟩ := blk_cells2 HR5.out
    have fR := fun o => free_at HR5.out o
    have hRl := lt_of_block HR5.out
    go_upto_region 5 with fail
    go_region_law? (first
      | ((go_simp; go_at_call 70; (with_reducible refine (HQ.out).mono ?_); rintro e w6 ⟨⟨vp, lp, rfl, hpl, hpe, hpd⟩, hc6, ho6⟩; have hR6 := own_blk ho6 (by omega) HRd.out; obtain ⟨s0, s1⟩ := blk_cells2 hR6; have fS := fun o => free_at hR6 o; have hSl := lt_of_block hR6; have hO6 := own_blk ho6 (by omega) HOd.out; obtain ⟨q0, q1⟩ := blk_cells2 hO6; have hQl := lt_of_block hO6)))
    all_goals
      have hs6 := ho6.size
      have HR6 := Lib.hid hR6
      have Hs6 := Lib.hid (Hsd.out.own ho6 (by omega))
      have Hp6 := Lib.hid hpd
      have Hb6 := Lib.hid (below_own Hb5.out.drew ho6 (by omega) (by omega))
      have Hpe := Lib.hid hpe
      clear hc6 ho6 hpd hpe
      go_wp2_with fail
      obtain ⟨k0, k1⟩ := blk_cells2 (set2_at (u0 := .int .i64 n) (u1 := .slice p l.length c) HR6.out)
      refine bodyPost_ret (v := .tuple #[.agg #[.int .i64 n, .slice p l.length c], vp]) (by simp only [results, Tryz.results23]; simp [go_sem, k0, k1]) rfl ⟨⟨n, _, vp, l, lp, rfl, Hd.out, hpl, Hpe.out, ?_, ?_⟩, ?_⟩
      · exact (sl_set1 (sl_set1 Hs6.out (by omega)) (by omega)).mono (by omega)
      · exact (sl_set1 (sl_set1 Hp6.out (by omega)) (by omega)).mono (by omega)
      · have := Hb6.out
        go_grown
end Go.Proofs.YtmpafidkpangeaaGreat
