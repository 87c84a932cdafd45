/- The program's decomposition: decompositionOf and the four functions it names, DecomposeGate, DecomposeGates, IsBasicGate. -/
import Derived.Test.YtadimihfbpkilaaBaseB09
import Derived.Test.YtadimihfbpkilaaApS
import Derived.Test.YtadimihfbpkilaaBaseB21
import Derived.Test.YtadimihfbpkilaaBaseB11
import Derived.Test.YtadimihfbpkilaaBaseB12
namespace Go.Proofs.Ytadimihfbpkilaa
open Go.RowKit
/-- A gate's box. -/
def GBx (w : World) (B : Nat) (g : Gt) (w' : World) : Prop := w'.cell? ⟨B, 0, none⟩ = some (.int .i64 g.k) ∧ w'.cell? ⟨B, 1, none⟩ = some (.int .i64 g.a) ∧ w'.cell? ⟨B, 2, none⟩ = some (.int .i64 g.b) ∧ w'.cell? ⟨B, 3, none⟩ = some (.int .i64 g.c) ∧ B < w'.heap.size ∧ Below w.heap.size w w'
theorem GBx.drew {w w1 : World} {B : Nat} {g : Gt} (h : GBx w B g w1) : GBx w B g w1.drew :=
  let ⟨c0, c1, c2, c3, z, l⟩ := h; ⟨c0, c1, c2, c3, z, l.drew⟩
theorem GBx.below {w w1 w2 : World} {B : Nat} {g : Gt} (h : GBx w B g w1) (hb : Below w1.heap.size w1 w2) : GBx w B g w2 :=
  let ⟨c0, c1, c2, c3, z, l⟩ := h; ⟨cell_below c0 hb z, cell_below c1 hb z, cell_below c2 hb z, cell_below c3 hb z, Nat.lt_of_lt_of_le z hb.size, below_up l hb l.size⟩
attribute [local irreducible] World.cell?
set_option maxRecDepth 100000 in
set_option maxHeartbeats 1600000 in
theorem ibcz (k a b c : Int) (w : World) : Calls Try.prog 59 #[.agg #[.int .i64 k, .int .i64 a, .int .i64 b, .int .i64 c]] w fun e w' => ∃ v, e = .returned v ∧ gtE.Sl w' w.heap.size v [⟨4, b, 0, 0⟩, ⟨9, a, b, 0⟩, ⟨4, b, 0, 0⟩] ∧ Below w.heap.size w w' := by
  have HX := Lib.hid (heap_alloc_new w (.cells #[.int .i64 k, .int .i64 a, .int .i64 b, .int .i64 c] 30))
  obtain ⟨c0, c1, c2, c3⟩ := blk_cells HX.out
  have hxl := lt_of_block HX.out
  have Hb := Lib.hid (show Below w.heap.size w (w.alloc (.cells #[.int .i64 k, .int .i64 a, .int .i64 b, .int .i64 c] 30)) by go_grown)
  have hs := Hb.out.size
  have h1 : ((w.alloc (.cells #[.int .i64 k, .int .i64 a, .int .i64 b, .int .i64 c] 30)).alloc (.cells #[.int .i64 4, .int .i64 b, .int .i64 0, .int .i64 0, .int .i64 9, .int .i64 a, .int .i64 b, .int .i64 0, .int .i64 4, .int .i64 b, .int .i64 0, .int .i64 0] 30)).heap[w.heap.size + 1]? = some (.cells #[.int .i64 4, .int .i64 b, .int .i64 0, .int .i64 0, .int .i64 9, .int .i64 a, .int .i64 b, .int .i64 0, .int .i64 4, .int .i64 b, .int .i64 0, .int .i64 0] 30 (0, 0)) := by
    have h := heap_alloc_new (w.alloc (.cells #[.int .i64 k, .int .i64 a, .int .i64 b, .int .i64 c] 30)) (.cells #[.int .i64 4, .int .i64 b, .int .i64 0, .int .i64 0, .int .i64 9, .int .i64 a, .int .i64 b, .int .i64 0, .int .i64 4, .int .i64 b, .int .i64 0, .int .i64 0] 30)
    rw [show (w.alloc (.cells #[.int .i64 k, .int .i64 a, .int .i64 b, .int .i64 c] 30)).heap.size = w.heap.size + 1 by simp] at h
    exact h
  have H1 := Lib.hid h1
  clear h1
  go_enter Try.func59, Try.ntmps59
  go_wp2_with fail
  go_ret
  exact ⟨_, rfl, Enc.Sl.mk (E := gtE) (l := [⟨4, b, 0, 0⟩, ⟨9, a, b, 0⟩, ⟨4, b, 0, 0⟩]) rfl (Nat.le_refl _) (Nat.le_succ _) ⟨_, H1.out, rfl⟩, Hb.out.alloc hs _⟩
set_option maxRecDepth 100000 in
set_option maxHeartbeats 1600000 in
theorem ibsw (k a b c : Int) (w : World) : Calls Try.prog 60 #[.agg #[.int .i64 k, .int .i64 a, .int .i64 b, .int .i64 c]] w fun e w' => ∃ v, e = .returned v ∧ gtE.Sl w' w.heap.size v [⟨9, a, b, 0⟩, ⟨9, b, a, 0⟩, ⟨9, a, b, 0⟩] ∧ Below w.heap.size w w' := by
  have HX := Lib.hid (heap_alloc_new w (.cells #[.int .i64 k, .int .i64 a, .int .i64 b, .int .i64 c] 30))
  obtain ⟨c0, c1, c2, c3⟩ := blk_cells HX.out
  have hxl := lt_of_block HX.out
  have Hb := Lib.hid (show Below w.heap.size w (w.alloc (.cells #[.int .i64 k, .int .i64 a, .int .i64 b, .int .i64 c] 30)) by go_grown)
  have hs := Hb.out.size
  have h1 : ((w.alloc (.cells #[.int .i64 k, .int .i64 a, .int .i64 b, .int .i64 c] 30)).alloc (.cells #[.int .i64 9, .int .i64 a, .int .i64 b, .int .i64 0, .int .i64 9, .int .i64 b, .int .i64 a, .int .i64 0, .int .i64 9, .int .i64 a, .int .i64 b, .int .i64 0] 30)).heap[w.heap.size + 1]? = some (.cells #[.int .i64 9, .int .i64 a, .int .i64 b, .int .i64 0, .int .i64 9, .int .i64 b, .int .i64 a, .int .i64 0, .int .i64 9, .int .i64 a, .int .i64 b, .int .i64 0] 30 (0, 0)) := by
    have h := heap_alloc_new (w.alloc (.cells #[.int .i64 k, .int .i64 a, .int .i64 b, .int .i64 c] 30)) (.cells #[.int .i64 9, .int .i64 a, .int .i64 b, .int .i64 0, .int .i64 9, .int .i64 b, .int .i64 a, .int .i64 0, .int .i64 9, .int .i64 a, .int .i64 b, .int .i64 0] 30)
    rw [show (w.alloc (.cells #[.int .i64 k, .int .i64 a, .int .i64 b, .int .i64 c] 30)).heap.size = w.heap.size + 1 by simp] at h
    exact h
  have H1 := Lib.hid h1
  clear h1
  go_enter Try.func60, Try.ntmps60
  go_wp2_with fail
  go_ret
  exact ⟨_, rfl, Enc.Sl.mk (E := gtE) (l := [⟨9, a, b, 0⟩, ⟨9, b, a, 0⟩, ⟨9, a, b, 0⟩]) rfl (Nat.le_refl _) (Nat.le_succ _) ⟨_, H1.out, rfl⟩, Hb.out.alloc hs _⟩
set_option maxRecDepth 100000 in
set_option maxHeartbeats 1600000 in
theorem ibccx (k a b c : Int) (w : World) : Calls Try.prog 61 #[.agg #[.int .i64 k, .int .i64 a, .int .i64 b, .int .i64 c]] w fun e w' => ∃ v, e = .returned v ∧ gtE.Sl w' w.heap.size v [⟨4, c, 0, 0⟩, ⟨9, b, c, 0⟩, ⟨8, c, 0, 0⟩, ⟨9, a, c, 0⟩, ⟨7, c, 0, 0⟩, ⟨9, b, c, 0⟩, ⟨8, c, 0, 0⟩, ⟨9, a, c, 0⟩, ⟨7, b, 0, 0⟩, ⟨7, c, 0, 0⟩, ⟨4, c, 0, 0⟩, ⟨9, a, b, 0⟩, ⟨7, a, 0, 0⟩, ⟨8, b, 0, 0⟩, ⟨9, a, b, 0⟩] ∧ Below w.heap.size w w' := by
  have HX := Lib.hid (heap_alloc_new w (.cells #[.int .i64 k, .int .i64 a, .int .i64 b, .int .i64 c] 30))
  obtain ⟨c0, c1, c2, c3⟩ := blk_cells HX.out
  have hxl := lt_of_block HX.out
  have Hb := Lib.hid (show Below w.heap.size w (w.alloc (.cells #[.int .i64 k, .int .i64 a, .int .i64 b, .int .i64 c] 30)) by go_grown)
  have hs := Hb.out.size
  have h1 : ((w.alloc (.cells #[.int .i64 k, .int .i64 a, .int .i64 b, .int .i64 c] 30)).alloc (.cells #[.int .i64 4, .int .i64 c, .int .i64 0, .int .i64 0, .int .i64 9, .int .i64 b, .int .i64 c, .int .i64 0, .int .i64 8, .int .i64 c, .int .i64 0, .int .i64 0, .int .i64 9, .int .i64 a, .int .i64 c, .int .i64 0, .int .i64 7, .int .i64 c, .int .i64 0, .int .i64 0, .int .i64 9, .int .i64 b, .int .i64 c, .int .i64 0, .int .i64 8, .int .i64 c, .int .i64 0, .int .i64 0, .int .i64 9, .int .i64 a, .int .i64 c, .int .i64 0, .int .i64 7, .int .i64 b, .int .i64 0, .int .i64 0, .int .i64 7, .int .i64 c, .int .i64 0, .int .i64 0, .int .i64 4, .int .i64 c, .int .i64 0, .int .i64 0, .int .i64 9, .int .i64 a, .int .i64 b, .int .i64 0, .int .i64 7, .int .i64 a, .int .i64 0, .int .i64 0, .int .i64 8, .int .i64 b, .int .i64 0, .int .i64 0, .int .i64 9, .int .i64 a, .int .i64 b, .int .i64 0] 30)).heap[w.heap.size + 1]? = some (.cells #[.int .i64 4, .int .i64 c, .int .i64 0, .int .i64 0, .int .i64 9, .int .i64 b, .int .i64 c, .int .i64 0, .int .i64 8, .int .i64 c, .int .i64 0, .int .i64 0, .int .i64 9, .int .i64 a, .int .i64 c, .int .i64 0, .int .i64 7, .int .i64 c, .int .i64 0, .int .i64 0, .int .i64 9, .int .i64 b, .int .i64 c, .int .i64 0, .int .i64 8, .int .i64 c, .int .i64 0, .int .i64 0, .int .i64 9, .int .i64 a, .int .i64 c, .int .i64 0, .int .i64 7, .int .i64 b, .int .i64 0, .int .i64 0, .int .i64 7, .int .i64 c, .int .i64 0, .int .i64 0, .int .i64 4, .int .i64 c, .int .i64 0, .int .i64 0, .int .i64 9, .int .i64 a, .int .i64 b, .int .i64 0, .int .i64 7, .int .i64 a, .int .i64 0, .int .i64 0, .int .i64 8, .int .i64 b, .int .i64 0, .int .i64 0, .int .i64 9, .int .i64 a, .int .i64 b, .int .i64 0] 30 (0, 0)) := by
    have h := heap_alloc_new (w.alloc (.cells #[.int .i64 k, .int .i64 a, .int .i64 b, .int .i64 c] 30)) (.cells #[.int .i64 4, .int .i64 c, .int .i64 0, .int .i64 0, .int .i64 9, .int .i64 b, .int .i64 c, .int .i64 0, .int .i64 8, .int .i64 c, .int .i64 0, .int .i64 0, .int .i64 9, .int .i64 a, .int .i64 c, .int .i64 0, .int .i64 7, .int .i64 c, .int .i64 0, .int .i64 0, .int .i64 9, .int .i64 b, .int .i64 c, .int .i64 0, .int .i64 8, .int .i64 c, .int .i64 0, .int .i64 0, .int .i64 9, .int .i64 a, .int .i64 c, .int .i64 0, .int .i64 7, .int .i64 b, .int .i64 0, .int .i64 0, .int .i64 7, .int .i64 c, .int .i64 0, .int .i64 0, .int .i64 4, .int .i64 c, .int .i64 0, .int .i64 0, .int .i64 9, .int .i64 a, .int .i64 b, .int .i64 0, .int .i64 7, .int .i64 a, .int .i64 0, .int .i64 0, .int .i64 8, .int .i64 b, .int .i64 0, .int .i64 0, .int .i64 9, .int .i64 a, .int .i64 b, .int .i64 0] 30)
    rw [show (w.alloc (.cells #[.int .i64 k, .int .i64 a, .int .i64 b, .int .i64 c] 30)).heap.size = w.heap.size + 1 by simp] at h
    exact h
  have H1 := Lib.hid h1
  clear h1
  go_enter Try.func61, Try.ntmps61
  go_wp2_with fail
  go_upto_region 1 with fail
  go_quiet (fail)
  go_wp2_with fail
  go_ret
  exact ⟨_, rfl, Enc.Sl.mk (E := gtE) (l := [⟨4, c, 0, 0⟩, ⟨9, b, c, 0⟩, ⟨8, c, 0, 0⟩, ⟨9, a, c, 0⟩, ⟨7, c, 0, 0⟩, ⟨9, b, c, 0⟩, ⟨8, c, 0, 0⟩, ⟨9, a, c, 0⟩, ⟨7, b, 0, 0⟩, ⟨7, c, 0, 0⟩, ⟨4, c, 0, 0⟩, ⟨9, a, b, 0⟩, ⟨7, a, 0, 0⟩, ⟨8, b, 0, 0⟩, ⟨9, a, b, 0⟩]) rfl (Nat.le_refl _) (Nat.le_succ _) ⟨_, H1.out, rfl⟩, (below_dn Hb.out _).alloc hs _⟩
set_option maxRecDepth 100000 in
set_option maxHeartbeats 1600000 in
theorem ibal (k a b c : Int) (w : World) : Calls Try.prog 62 #[.agg #[.int .i64 k, .int .i64 a, .int .i64 b, .int .i64 c]] w fun e w' => ∃ v, e = .returned v ∧ gtE.Sl w' w.heap.size v [⟨k, a, b, c⟩] ∧ Below w.heap.size w w' := by
  have HX := Lib.hid (heap_alloc_new w (.cells #[.int .i64 k, .int .i64 a, .int .i64 b, .int .i64 c] 30))
  obtain ⟨c0, c1, c2, c3⟩ := blk_cells HX.out
  have hxl := lt_of_block HX.out
  have Hb := Lib.hid (show Below w.heap.size w (w.alloc (.cells #[.int .i64 k, .int .i64 a, .int .i64 b, .int .i64 c] 30)) by go_grown)
  have hs := Hb.out.size
  have h1 : ((w.alloc (.cells #[.int .i64 k, .int .i64 a, .int .i64 b, .int .i64 c] 30)).alloc (.cells #[.int .i64 k, .int .i64 a, .int .i64 b, .int .i64 c] 30)).heap[w.heap.size + 1]? = some (.cells #[.int .i64 k, .int .i64 a, .int .i64 b, .int .i64 c] 30 (0, 0)) := by
    have h := heap_alloc_new (w.alloc (.cells #[.int .i64 k, .int .i64 a, .int .i64 b, .int .i64 c] 30)) (.cells #[.int .i64 k, .int .i64 a, .int .i64 b, .int .i64 c] 30)
    rw [show (w.alloc (.cells #[.int .i64 k, .int .i64 a, .int .i64 b, .int .i64 c] 30)).heap.size = w.heap.size + 1 by simp] at h
    exact h
  have H1 := Lib.hid h1
  clear h1
  go_enter Try.func62, Try.ntmps62
  go_wp2_with fail
  go_ret
  exact ⟨_, rfl, Enc.Sl.mk (E := gtE) (l := [⟨k, a, b, c⟩]) rfl (Nat.le_refl _) (Nat.le_succ _) ⟨_, H1.out, rfl⟩, Hb.out.alloc hs _⟩
/-- The function that decompositionOf answers with. -/
def fvD (k : Int) : Nat := if k = 10 then 59 else if k = 11 then 60 else if k = 12 then 61 else 62
set_option maxRecDepth 100000 in
set_option maxHeartbeats 800000 in
theorem idof (k : Int) (w : World) : Calls Try.prog 38 #[.int .i64 k] w fun e w' => e = .returned (.func (.func (fvD k)) #[] #[]) ∧ w = w' := by
  by_cases k10 : k = 10
  · subst k10
    go_enter Try.func38, Try.ntmps38
    go_wp2_with fail
    go_ret
    exact ⟨rfl, rfl⟩
  have e10 : (k == 10) = false := by simpa using k10
  by_cases k11 : k = 11
  · subst k11
    go_enter Try.func38, Try.ntmps38
    go_wp2_with fail
    go_ret
    exact ⟨rfl, rfl⟩
  have e11 : (k == 11) = false := by simpa using k11
  by_cases k12 : k = 12
  · subst k12
    go_enter Try.func38, Try.ntmps38
    go_wp2_with fail
    go_ret
    exact ⟨rfl, rfl⟩
  have e12 : (k == 12) = false := by simpa using k12
  unfold fvD
  rw [if_neg k10, if_neg k11, if_neg k12]
  clear k10 k11 k12
  go_enter Try.func38, Try.ntmps38
  go_wp2_with fail
  go_ret
  exact ⟨rfl, rfl⟩
set_option maxRecDepth 100000 in
set_option maxHeartbeats 6400000 in
theorem idcG (g : Gt) (w : World) : Calls Try.prog 17 #[(.agg #[.int .i64 g.k, .int .i64 g.a, .int .i64 g.b, .int .i64 g.c])] w fun e w' => ∃ v, e = .returned v ∧ gtE.Sl w' w.heap.size v (dcG g) ∧ Below w.heap.size w w' := by
  obtain ⟨k, a, b, c⟩ := g
  obtain ⟨h10, h11, h12, hno⟩ := @dcG_at k a b c
  by_cases k10 : k = 10
  · have Hc := Lib.hid (fun W => ibcz k a b c W)
    rw [h10 k10]
    clear h10 h11 h12 hno
    have Hd := Lib.hid (fun W => idof k W)
    rw [show fvD k = 59 by unfold fvD; simp [k10]] at Hd
    subst k10
    have HX := Lib.hid (heap_alloc_new w (.cells #[.int .i64 10, .int .i64 a, .int .i64 b, .int .i64 c] 30))
    obtain ⟨c0, c1, c2, c3⟩ := blk_cells HX.out
    have hxl := lt_of_block HX.out
    have Hb := Lib.hid (show Below w.heap.size w (w.alloc (.cells #[.int .i64 10, .int .i64 a, .int .i64 b, .int .i64 c] 30)) by go_grown)
    have hS : GBx w w.heap.size ⟨10, a, b, c⟩ (w.alloc (.cells #[.int .i64 10, .int .i64 a, .int .i64 b, .int .i64 c] 30)) := ⟨c0, c1, c2, c3, hxl, Hb.out⟩
    have hs := Hb.out.size
    go_enter Try.func17, Try.ntmps17
    go_upto_region 1 with fail
    go_region_held3 (fun w' => w'.cell? ⟨w.heap.size, 0, none⟩ = some (.int .i64 10) ∧ w'.cell? ⟨w.heap.size, 1, none⟩ = some (.int .i64 a) ∧ w'.cell? ⟨w.heap.size, 2, none⟩ = some (.int .i64 b) ∧ w'.cell? ⟨w.heap.size, 3, none⟩ = some (.int .i64 c) ∧ w.heap.size < w'.heap.size ∧ Below w.heap.size w w') (first | (show GBx w w.heap.size ⟨10, a, b, c⟩ _; (with_reducible exact hS.drew)) | (show GBx w w.heap.size ⟨10, a, b, c⟩ _; (with_reducible refine GBx.below ?_ hbR); first | assumption | exact ⟨by assumption, by assumption, by assumption, by assumption, by assumption, by assumption⟩))
      (first
        | (go_at_call 38; (with_reducible refine (Hd.out _).mono ?_); rintro e wR ⟨rfl, rfl⟩)
        | (go_at_call 59; (with_reducible refine (Hc.out _).mono ?_); rintro e wR ⟨v, rfl, hd, hbR⟩; have Hr := Lib.hid hd; have HbR := Lib.hid hbR; obtain ⟨pr, cr, rfl, -, -⟩ := hd))
    go_wp2_with fail
    go_ret
    exact ⟨_, rfl, Hr.out.mono hs, by have := HbR.out; exact below_nx (Hb.out.drew) this⟩
  by_cases k11 : k = 11
  · have Hc := Lib.hid (fun W => ibsw k a b c W)
    rw [h11 k11]
    clear h10 h11 h12 hno
    have Hd := Lib.hid (fun W => idof k W)
    rw [show fvD k = 60 by unfold fvD; simp [k11]] at Hd
    subst k11
    have HX := Lib.hid (heap_alloc_new w (.cells #[.int .i64 11, .int .i64 a, .int .i64 b, .int .i64 c] 30))
    obtain ⟨c0, c1, c2, c3⟩ := blk_cells HX.out
    have hxl := lt_of_block HX.out
    have Hb := Lib.hid (show Below w.heap.size w (w.alloc (.cells #[.int .i64 11, .int .i64 a, .int .i64 b, .int .i64 c] 30)) by go_grown)
    have hS : GBx w w.heap.size ⟨11, a, b, c⟩ (w.alloc (.cells #[.int .i64 11, .int .i64 a, .int .i64 b, .int .i64 c] 30)) := ⟨c0, c1, c2, c3, hxl, Hb.out⟩
    have hs := Hb.out.size
    go_enter Try.func17, Try.ntmps17
    go_upto_region 1 with fail
    go_region_held3 (fun w' => w'.cell? ⟨w.heap.size, 0, none⟩ = some (.int .i64 11) ∧ w'.cell? ⟨w.heap.size, 1, none⟩ = some (.int .i64 a) ∧ w'.cell? ⟨w.heap.size, 2, none⟩ = some (.int .i64 b) ∧ w'.cell? ⟨w.heap.size, 3, none⟩ = some (.int .i64 c) ∧ w.heap.size < w'.heap.size ∧ Below w.heap.size w w') (first | (show GBx w w.heap.size ⟨11, a, b, c⟩ _; (with_reducible exact hS.drew)) | (show GBx w w.heap.size ⟨11, a, b, c⟩ _; (with_reducible refine GBx.below ?_ hbR); first | assumption | exact ⟨by assumption, by assumption, by assumption, by assumption, by assumption, by assumption⟩))
      (first
        | (go_at_call 38; (with_reducible refine (Hd.out _).mono ?_); rintro e wR ⟨rfl, rfl⟩)
        | (go_at_call 60; (with_reducible refine (Hc.out _).mono ?_); rintro e wR ⟨v, rfl, hd, hbR⟩; have Hr := Lib.hid hd; have HbR := Lib.hid hbR; obtain ⟨pr, cr, rfl, -, -⟩ := hd))
    go_wp2_with fail
    go_ret
    exact ⟨_, rfl, Hr.out.mono hs, by have := HbR.out; exact below_nx (Hb.out.drew) this⟩
  by_cases k12 : k = 12
  · have Hc := Lib.hid (fun W => ibccx k a b c W)
    rw [h12 k12]
    clear h10 h11 h12 hno
    have Hd := Lib.hid (fun W => idof k W)
    rw [show fvD k = 61 by unfold fvD; simp [k12]] at Hd
    subst k12
    have HX := Lib.hid (heap_alloc_new w (.cells #[.int .i64 12, .int .i64 a, .int .i64 b, .int .i64 c] 30))
    obtain ⟨c0, c1, c2, c3⟩ := blk_cells HX.out
    have hxl := lt_of_block HX.out
    have Hb := Lib.hid (show Below w.heap.size w (w.alloc (.cells #[.int .i64 12, .int .i64 a, .int .i64 b, .int .i64 c] 30)) by go_grown)
    have hS : GBx w w.heap.size ⟨12, a, b, c⟩ (w.alloc (.cells #[.int .i64 12, .int .i64 a, .int .i64 b, .int .i64 c] 30)) := ⟨c0, c1, c2, c3, hxl, Hb.out⟩
    have hs := Hb.out.size
    go_enter Try.func17, Try.ntmps17
    go_upto_region 1 with fail
    go_region_held3 (fun w' => w'.cell? ⟨w.heap.size, 0, none⟩ = some (.int .i64 12) ∧ w'.cell? ⟨w.heap.size, 1, none⟩ = some (.int .i64 a) ∧ w'.cell? ⟨w.heap.size, 2, none⟩ = some (.int .i64 b) ∧ w'.cell? ⟨w.heap.size, 3, none⟩ = some (.int .i64 c) ∧ w.heap.size < w'.heap.size ∧ Below w.heap.size w w') (first | (show GBx w w.heap.size ⟨12, a, b, c⟩ _; (with_reducible exact hS.drew)) | (show GBx w w.heap.size ⟨12, a, b, c⟩ _; (with_reducible refine GBx.below ?_ hbR); first | assumption | exact ⟨by assumption, by assumption, by assumption, by assumption, by assumption, by assumption⟩))
      (first
        | (go_at_call 38; (with_reducible refine (Hd.out _).mono ?_); rintro e wR ⟨rfl, rfl⟩)
        | (go_at_call 61; (with_reducible refine (Hc.out _).mono ?_); rintro e wR ⟨v, rfl, hd, hbR⟩; have Hr := Lib.hid hd; have HbR := Lib.hid hbR; obtain ⟨pr, cr, rfl, -, -⟩ := hd))
    go_wp2_with fail
    go_ret
    exact ⟨_, rfl, Hr.out.mono hs, by have := HbR.out; exact below_nx (Hb.out.drew) this⟩
  have Hc := Lib.hid (fun W => ibal k a b c W)
  rw [hno k10 k11 k12]
  clear h10 h11 h12 hno
  have HX := Lib.hid (heap_alloc_new w (.cells #[.int .i64 k, .int .i64 a, .int .i64 b, .int .i64 c] 30))
  obtain ⟨c0, c1, c2, c3⟩ := blk_cells HX.out
  have hxl := lt_of_block HX.out
  have Hb := Lib.hid (show Below w.heap.size w (w.alloc (.cells #[.int .i64 k, .int .i64 a, .int .i64 b, .int .i64 c] 30)) by go_grown)
  have hS : GBx w w.heap.size ⟨k, a, b, c⟩ (w.alloc (.cells #[.int .i64 k, .int .i64 a, .int .i64 b, .int .i64 c] 30)) := ⟨c0, c1, c2, c3, hxl, Hb.out⟩
  have hs := Hb.out.size
  have Hd := Lib.hid (fun W => idof k W)
  rw [show fvD k = 62 by unfold fvD; simp [k10, k11, k12]] at Hd
  go_enter Try.func17, Try.ntmps17
  go_upto_region 1 with fail
  go_region_held3 (fun w' => w'.cell? ⟨w.heap.size, 0, none⟩ = some (.int .i64 k) ∧ w'.cell? ⟨w.heap.size, 1, none⟩ = some (.int .i64 a) ∧ w'.cell? ⟨w.heap.size, 2, none⟩ = some (.int .i64 b) ∧ w'.cell? ⟨w.heap.size, 3, none⟩ = some (.int .i64 c) ∧ w.heap.size < w'.heap.size ∧ Below w.heap.size w w') (first | (show GBx w w.heap.size ⟨k, a, b, c⟩ _; (with_reducible exact hS.drew)) | (show GBx w w.heap.size ⟨k, a, b, c⟩ _; (with_reducible refine GBx.below ?_ hbR); first | assumption | exact ⟨by assumption, by assumption, by assumption, by assumption, by assumption, by assumption⟩))
    (first
      | (go_at_call 38; (with_reducible refine (Hd.out _).mono ?_); rintro e wR ⟨rfl, rfl⟩)
      | (go_at_call 62; (with_reducible refine (Hc.out _).mono ?_); rintro e wR ⟨v, rfl, hd, hbR⟩; have Hr := Lib.hid hd; have HbR := Lib.hid hbR; obtain ⟨pr, cr, rfl, -, -⟩ := hd))
  go_wp2_with fail
  go_ret
  exact ⟨_, rfl, Hr.out.mono hs, by have := HbR.out; exact below_nx (Hb.out.drew) this⟩
set_option maxRecDepth 100000 in
set_option maxHeartbeats 3200000 in
theorem iaddL (C b : Nat) (v u : Value) (k : Nat) (xs : List Value) (M : List Gt) (w : World) (hb : w.heap[b]? = some (.cells #[v] 51 (0, 0))) (hown : w.ownsRow (b + 1) 30 4 v k xs) (hu : gtE.Sl w C u M) (hk : k + M.length ≤ 16777216) :
    Calls Try.prog 29 #[.pointer (some ⟨b, 0, none⟩), u] w fun e w' => e = .returned (.tuple #[]) ∧ (∃ v', w'.heap[b]? = some (.cells #[v'] 51 (0, 0)) ∧ w'.ownsRow (b + 1) 30 4 v' (k + M.length) (xs ++ gtE.flat M)) ∧ Below b w w' := by
  obtain ⟨i0, hi, hz0, hz1, hz2⟩ := info_parts infoG3
  have c0 := cell_at hb 0 _ rfl
  have hbl := lt_of_block hb
  have fb := fun o => free_at hb o
  have Hb := Lib.hid hb
  have Hown := Lib.hid hown
  have Hu := Lib.hid hu
  obtain ⟨pa, ca, hpa, -, -⟩ := id hu
  clear hb hown hu
  subst hpa
  go_enter Try.func29, Try.ntmps29
  go_wp2_with (first
    | (at_builtin; refine wpList_append_sl (E := gtE) rfl _ _ 24 rfl (b + 1) i0 (.agg #[.int .i64 0, .int .i64 0, .int .i64 0, .int .i64 0]) 32 Try.underlying24 hi hz0 hz1 hz2 rfl (by decide) v k xs rfl Hown.out C _ M rfl Hu.out ?d3 ?d4 ?d5 ?_))
  case d3 => unfold maxLen; omega
  case d4 => omega
  case d5 => omega
  intro v' w4 hown' hgrow hat
  have hne : some b ≠ v.ownBlock := fun e => by have := (Hown.out.lt b e.symm).1; omega
  have hb4 := grown_blk hgrow Hb.out hne
  have hB4 : Below b w w4 := (Below.refl b w).grown hgrow (by omega) (fun q hq => by have := (Hown.out.lt q hq).1; omega)
  have hv' : ∀ k, v'.ownBlock = some k → k ≠ b := fun q hq e => by
    subst e
    rcases hat with h | h
    · exact hne (hq.symm.trans h)
    · have := Option.some.inj (hq.symm.trans h); omega
  have Hown4 := Lib.hid hown'
  have HB4 := Lib.hid hB4
  have HO5 := Lib.hid (heap_set hb4 0 v')
  obtain ⟨pv, cv, hpv⟩ : ∃ p c, v' = .slice p (k + M.length) c := by
    rcases hown'.2 with ⟨rfl, h⟩ | ⟨g, cap, cur, rfl, _⟩
    · exact ⟨none, 0, by rw [h]⟩
    · exact ⟨_, _, rfl⟩
  clear c0 hown' hat hgrow hB4 hne fb
  have d0 := cell_at hb4 0 _ rfl
  have fb4 := fun o => free_at hb4 o
  have hbl4 := lt_of_block hb4
  clear hb4
  subst hpv
  go_wp2_with fail
  first | go_end0 | (refine bodyPost_ret (results_none rfl _ _ _) rfl ?_) | (refine bodyPost_end (results_none rfl _ _ _) rfl ?_)
  exact ⟨rfl, ⟨_, HO5.out, row_set1 Hown4.out hv'⟩, HB4.out.setCell (p := ⟨b, 0, none⟩) (Nat.le_refl _) _⟩
set_option maxRecDepth 100000 in
set_option maxHeartbeats 6400000 in
theorem idcGs (B : Nat) (v : Value) (L : List Gt) (w : World) (hv : gtE.Sl w B v L) (hm : L.length ≤ 1048576) :
    Calls Try.prog 10 #[v] w fun e w' => ∃ r, e = .returned r ∧ gtE.Sl w' w.heap.size r (dcL L) ∧ Below w.heap.size w w' := by
  have HV := Lib.hid hv
  obtain ⟨a, cap, rfl, hcap, hr⟩ := hv
  have Hr := Lib.hid hr
  clear hr
  have HO := Lib.hid (heap_alloc_new w (.cells #[.slice none 0 0] 51))
  have Hb0 := Lib.hid (show Below w.heap.size w (w.alloc (.cells #[.slice none 0 0] 51)) by go_grown)
  go_enter Try.func10, Try.ntmps10
  go_wp2_with fail
  go_loopg [8] L.length (fun m i wr => ∃ (j : Nat) (q : Value), m = L.length - j ∧ j ≤ L.length ∧ i = .int .i64 j ∧ Hid (wr.heap[w.heap.size]? = some (.cells #[q] 51 (0, 0))) ∧ Hid (wr.ownsRow (w.heap.size + 1) 30 4 q (dcL (L.take j)).length (gtE.flat (dcL (L.take j)))) ∧ Hid (Below w.heap.size w wr))
  case atStart => exact ⟨0, .slice none 0 0, rfl, Nat.zero_le _, rfl, HO, Lib.hid ⟨rfl, .inl ⟨rfl, rfl⟩⟩, Hb0⟩
  case round =>
    obtain ⟨j, q, rfl, hj, rfl, HO1, Hown, Hb⟩ := hrel
    have hs := Hb.out.size
    have hlen := dcL_take L j
    have o0 := cell_at HO1.out 0 _ rfl
    have hol := lt_of_block HO1.out
    by_cases hlt : j < L.length
    · obtain ⟨g, rfl, hBg, hrow⟩ := Hr.out (by omega)
      obtain ⟨x, hx⟩ : ∃ x, L[j]? = some x := ⟨L[j], List.getElem?_eq_getElem hlt⟩
      have r1 := hrow.below Hb.out hrow.lt
      obtain ⟨c0, c1, c2, c3⟩ := GRow.cells r1 hx
      have hgl := r1.lt
      have Hst := Lib.hid (dcL_step hx)
      have hl15 := (dcG_len x).2
      have Hc := Lib.hid (fun W => idcG x W)
      have HO2 := Lib.hid (alloc_blk (.cells #[.int .i64 x.k, .int .i64 x.a, .int .i64 x.b, .int .i64 x.c] 30) HO1.out)
      have HX := Lib.hid (heap_alloc_new wr (.cells #[.int .i64 x.k, .int .i64 x.a, .int .i64 x.b, .int .i64 x.c] 30))
      have Hown2 := Lib.hid (Hown.out.alloc (.cells #[.int .i64 x.k, .int .i64 x.a, .int .i64 x.b, .int .i64 x.c] 30))
      have Hb2 := Lib.hid (Hb.out.alloc hs (.cells #[.int .i64 x.k, .int .i64 x.a, .int .i64 x.b, .int .i64 x.c] 30))
      generalize dcL (L.take j) = F at *
      generalize dcG x = M at *
      obtain ⟨x0, x1, x2, x3⟩ := blk_cells HX.out
      have hxl := lt_of_block HX.out
      clear hrow r1 hx
      go_wp2_with fail
      refine (Hc.out _).mono ?_
      rintro e w3 ⟨u, rfl, hu, hb3⟩
      have HO3 := Lib.hid (below_blk hb3 (lt_of_block HO2.out) HO2.out)
      have Hown3 := Lib.hid (row_below Hown2.out hb3)
      have Hb3 := Lib.hid (below_nx Hb2.out hb3)
      have hs3 := Hb3.out.size
      have Hadd := Lib.hid (iaddL _ w.heap.size q u F.length (gtE.flat F) M w3 HO3.out Hown3.out hu (by omega))
      obtain ⟨pu, cu, rfl, -, -⟩ := hu
      clear hb3 Hc o0 hol x0 x1 x2 x3 hxl c0 c1 c2 c3 hgl
      have o0 := cell_at HO3.out 0 _ rfl
      have hol := lt_of_block HO3.out
      go_wp2_with fail
      refine (Hadd.out).mono ?_
      rintro e w5 ⟨rfl, ⟨v5, hO5, hown5⟩, hb5⟩
      have HO5 := Lib.hid hO5
      have Hown5 := Lib.hid (show w5.ownsRow (w.heap.size + 1) 30 4 v5 (F ++ M).length (gtE.flat (F ++ M)) by rw [List.length_append, gtE.flat_app]; exact hown5)
      have Hb5 := Lib.hid (Hb3.out.trans hb5)
      rw [← Hst.out] at Hown5
      clear hO5 hown5 hb5 o0 hol
      go_wp2_with fail
      go_roundg (L.length - (j + 1))
      case measure => omega
      case rel => exact ⟨j + 1, v5, rfl, by omega, by go_num, HO5, Hown5, Hb5⟩
    · obtain rfl : j = L.length := by omega
      have Hsl := Lib.hid (Enc.Sl.of_own (E := gtE) Hown.out)
      obtain ⟨pq, cq, rfl, -, -⟩ := id Hsl.out
      rw [List.take_length] at Hsl
      go_wp2_with fail
      go_ret
      exact ⟨_, rfl, Hsl.out.mono (by omega), Hb.out⟩
set_option maxRecDepth 100000 in
set_option maxHeartbeats 1600000 in
theorem iisB (g : Gt) (w : World) : Calls Try.prog 14 #[(.agg #[.int .i64 g.k, .int .i64 g.a, .int .i64 g.b, .int .i64 g.c])] w fun e w' => e = .returned (.bool (bsG g)) ∧ Below w.heap.size w w' := by
  have HX := Lib.hid (heap_alloc_new w (.cells #[.int .i64 g.k, .int .i64 g.a, .int .i64 g.b, .int .i64 g.c] 30))
  obtain ⟨c0, c1, c2, c3⟩ := blk_cells HX.out
  have Ha := Lib.hid (fun W => iar0 g.k W)
  unfold bsG
  have hle := ar_le g.k
  generalize ar g.k = t at *
  by_cases h1 : t = 1
  · subst h1
    go_enter Try.func14, Try.ntmps14
    go_wp2_with fail
    refine (Ha.out _).mono ?_
    rintro e w1 ⟨rfl, rfl⟩
    go_wp2_with fail
    go_ret
    exact ⟨by simp, by go_grown⟩
  · have h2 : ((t : Int) == 1) = false := by simp; omega
    rw [decide_eq_false h1, Bool.false_or]
    clear h1 hle
    go_enter Try.func14, Try.ntmps14
    go_wp2_with fail
    refine (Ha.out _).mono ?_
    rintro e w1 ⟨rfl, rfl⟩
    go_wp2_with fail
    go_ret
    exact ⟨by first | rfl | simp, by go_grown⟩
end Go.Proofs.Ytadimihfbpkilaa
