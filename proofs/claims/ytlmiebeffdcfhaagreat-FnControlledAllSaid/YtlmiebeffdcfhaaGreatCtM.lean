/- The model's ControlledGate, ControlledGates. -/
import Derived.Test.YtlmiebeffdcfhaaGreatBaseC02
import Derived.Test.YtlmiebeffdcfhaaGreatBaseC05
namespace Go.Proofs.YtlmiebeffdcfhaaGreat
open Go.RowKit
attribute [local irreducible] World.cell?
set_option maxRecDepth 100000 in
set_option maxHeartbeats 3200000 in
theorem sct_1 (q a b c : Int) (w : World) (hv : gtB ⟨1, a, b, c⟩ 4 = true) (hq : 0 ≤ q ∧ q < 4) (hn : q ∉ gqs ⟨1, a, b, c⟩) :
    Calls Tryz.prog 9 #[.int .i64 q, .agg #[.int .i64 1, .int .i64 a, .int .i64 b, .int .i64 c]] w fun e w' => ∃ v, e = .returned (.tuple #[v, .bool true]) ∧ gtE.Sl w' w.heap.size v [⟨9, q, a, 0⟩] ∧ Below w.heap.size w w' := by
  have H1 := Lib.hid (fun W => svalidG ⟨1, a, b, c⟩ 4 W)
  rw [hv] at H1
  have H2 := Lib.hid (fun W => lin_yes q 0 3 W hq.1 (by omega))
  have H3 := Lib.hid (fun W => sacts ⟨1, a, b, c⟩ q W)
  rw [decide_eq_false hn] at H3
  have HX := Lib.hid (heap_alloc_new w (.cells #[.int .i64 1, .int .i64 a, .int .i64 b, .int .i64 c] 25))
  have Hb := Lib.hid (show Below w.heap.size w (w.alloc (.cells #[.int .i64 1, .int .i64 a, .int .i64 b, .int .i64 c] 25)) by go_grown)
  clear hv hq hn
  go_enter Tryz.func9, Tryz.ntmps9
  go_wp2_with fail
  refine (H1.out _).mono ?_
  rintro e w1 ⟨rfl, hb1⟩
  have HX := Lib.hid (below_blk hb1 (lt_of_block HX.out) HX.out)
  have Hb := Lib.hid (below_nx Hb.out hb1)
  clear hb1 H1
  obtain ⟨c0, c1, c2, c3⟩ := blk_cells HX.out
  have hxl := lt_of_block HX.out
  go_wp2_with fail
  refine (H2.out _).mono ?_
  rintro e w1' ⟨rfl, rfl⟩
  go_wp2_with fail
  refine (H3.out _).mono ?_
  rintro e w2 ⟨rfl, hb2⟩
  have HX := Lib.hid (below_blk hb2 (lt_of_block HX.out) HX.out)
  have Hb := Lib.hid (below_nx Hb.out hb2)
  clear hb2 H2 H3 c0 c1 c2 c3 hxl
  obtain ⟨c0, c1, c2, c3⟩ := blk_cells HX.out
  have hxl := lt_of_block HX.out
  have hs2 := Hb.out.size
  have Hb := Lib.hid (Hb.out.alloc hs2 (.cells #[.int .i64 12, .int .i64 q, .int .i64 a, .int .i64 b] 25))
  have HC := Lib.hid (heap_alloc_new w2 (.cells #[.int .i64 12, .int .i64 q, .int .i64 a, .int .i64 b] 25))
  have HX := Lib.hid (alloc_blk (.cells #[.int .i64 12, .int .i64 q, .int .i64 a, .int .i64 b] 25) HX.out)
  go_wp2_with fail
  refine (scx q a _).mono ?_
  rintro e w3 ⟨rfl, hb3⟩
  have Hb := Lib.hid (below_nx Hb.out hb3)
  clear hb3
  have hs3 := Hb.out.size
  go_wp2_with fail
  go_returns
  exact ⟨_, rfl, (Enc.Sl.mk (E := gtE) (l := [⟨9, q, a, 0⟩]) rfl (Nat.le_refl _) (Nat.le_refl _) ⟨_, heap_alloc_new w3 (.cells #[.int .i64 9, .int .i64 q, .int .i64 a, .int .i64 0] 25), rfl⟩).mono hs3, Hb.out.alloc hs3 _⟩
set_option maxRecDepth 100000 in
set_option maxHeartbeats 3200000 in
theorem sct_2 (q a b c : Int) (w : World) (hv : gtB ⟨2, a, b, c⟩ 4 = true) (hq : 0 ≤ q ∧ q < 4) (hn : q ∉ gqs ⟨2, a, b, c⟩) :
    Calls Tryz.prog 9 #[.int .i64 q, .agg #[.int .i64 2, .int .i64 a, .int .i64 b, .int .i64 c]] w fun e w' => ∃ v, e = .returned (.tuple #[v, .bool true]) ∧ gtE.Sl w' w.heap.size v [⟨6, a, 0, 0⟩, ⟨9, q, a, 0⟩, ⟨5, a, 0, 0⟩] ∧ Below w.heap.size w w' := by
  have H1 := Lib.hid (fun W => svalidG ⟨2, a, b, c⟩ 4 W)
  rw [hv] at H1
  have H2 := Lib.hid (fun W => lin_yes q 0 3 W hq.1 (by omega))
  have H3 := Lib.hid (fun W => sacts ⟨2, a, b, c⟩ q W)
  rw [decide_eq_false hn] at H3
  have HX := Lib.hid (heap_alloc_new w (.cells #[.int .i64 2, .int .i64 a, .int .i64 b, .int .i64 c] 25))
  have Hb := Lib.hid (show Below w.heap.size w (w.alloc (.cells #[.int .i64 2, .int .i64 a, .int .i64 b, .int .i64 c] 25)) by go_grown)
  clear hv hq hn
  go_enter Tryz.func9, Tryz.ntmps9
  go_wp2_with fail
  refine (H1.out _).mono ?_
  rintro e w1 ⟨rfl, hb1⟩
  have HX := Lib.hid (below_blk hb1 (lt_of_block HX.out) HX.out)
  have Hb := Lib.hid (below_nx Hb.out hb1)
  clear hb1 H1
  obtain ⟨c0, c1, c2, c3⟩ := blk_cells HX.out
  have hxl := lt_of_block HX.out
  go_wp2_with fail
  refine (H2.out _).mono ?_
  rintro e w1' ⟨rfl, rfl⟩
  go_wp2_with fail
  refine (H3.out _).mono ?_
  rintro e w2 ⟨rfl, hb2⟩
  have HX := Lib.hid (below_blk hb2 (lt_of_block HX.out) HX.out)
  have Hb := Lib.hid (below_nx Hb.out hb2)
  clear hb2 H2 H3 c0 c1 c2 c3 hxl
  obtain ⟨c0, c1, c2, c3⟩ := blk_cells HX.out
  have hxl := lt_of_block HX.out
  have hs2 := Hb.out.size
  have Hb := Lib.hid (Hb.out.alloc hs2 (.cells #[.int .i64 12, .int .i64 q, .int .i64 a, .int .i64 b] 25))
  have HC := Lib.hid (heap_alloc_new w2 (.cells #[.int .i64 12, .int .i64 q, .int .i64 a, .int .i64 b] 25))
  have HX := Lib.hid (alloc_blk (.cells #[.int .i64 12, .int .i64 q, .int .i64 a, .int .i64 b] 25) HX.out)
  go_wp2_with fail
  refine (sone 6 a _).mono ?_
  rintro e w3 ⟨rfl, hb3⟩
  have Hb := Lib.hid (below_nx Hb.out hb3)
  clear hb3
  go_wp2_with fail
  refine (scx q a _).mono ?_
  rintro e w4 ⟨rfl, hb4⟩
  have Hb := Lib.hid (below_nx Hb.out hb4)
  clear hb4
  go_wp2_with fail
  refine (sone 5 a _).mono ?_
  rintro e w5 ⟨rfl, hb5⟩
  have Hb := Lib.hid (below_nx Hb.out hb5)
  clear hb5
  have hs3 := Hb.out.size
  go_wp2_with fail
  go_returns
  exact ⟨_, rfl, (Enc.Sl.mk (E := gtE) (l := [⟨6, a, 0, 0⟩, ⟨9, q, a, 0⟩, ⟨5, a, 0, 0⟩]) rfl (Nat.le_refl _) (Nat.le_refl _) ⟨_, heap_alloc_new w5 (.cells #[.int .i64 6, .int .i64 a, .int .i64 0, .int .i64 0, .int .i64 9, .int .i64 q, .int .i64 a, .int .i64 0, .int .i64 5, .int .i64 a, .int .i64 0, .int .i64 0] 25), rfl⟩).mono hs3, Hb.out.alloc hs3 _⟩
set_option maxRecDepth 100000 in
set_option maxHeartbeats 3200000 in
theorem sct_3 (q a b c : Int) (w : World) (hv : gtB ⟨3, a, b, c⟩ 4 = true) (hq : 0 ≤ q ∧ q < 4) (hn : q ∉ gqs ⟨3, a, b, c⟩) :
    Calls Tryz.prog 9 #[.int .i64 q, .agg #[.int .i64 3, .int .i64 a, .int .i64 b, .int .i64 c]] w fun e w' => ∃ v, e = .returned (.tuple #[v, .bool true]) ∧ gtE.Sl w' w.heap.size v [⟨10, q, a, 0⟩] ∧ Below w.heap.size w w' := by
  have H1 := Lib.hid (fun W => svalidG ⟨3, a, b, c⟩ 4 W)
  rw [hv] at H1
  have H2 := Lib.hid (fun W => lin_yes q 0 3 W hq.1 (by omega))
  have H3 := Lib.hid (fun W => sacts ⟨3, a, b, c⟩ q W)
  rw [decide_eq_false hn] at H3
  have HX := Lib.hid (heap_alloc_new w (.cells #[.int .i64 3, .int .i64 a, .int .i64 b, .int .i64 c] 25))
  have Hb := Lib.hid (show Below w.heap.size w (w.alloc (.cells #[.int .i64 3, .int .i64 a, .int .i64 b, .int .i64 c] 25)) by go_grown)
  clear hv hq hn
  go_enter Tryz.func9, Tryz.ntmps9
  go_wp2_with fail
  refine (H1.out _).mono ?_
  rintro e w1 ⟨rfl, hb1⟩
  have HX := Lib.hid (below_blk hb1 (lt_of_block HX.out) HX.out)
  have Hb := Lib.hid (below_nx Hb.out hb1)
  clear hb1 H1
  obtain ⟨c0, c1, c2, c3⟩ := blk_cells HX.out
  have hxl := lt_of_block HX.out
  go_wp2_with fail
  refine (H2.out _).mono ?_
  rintro e w1' ⟨rfl, rfl⟩
  go_wp2_with fail
  refine (H3.out _).mono ?_
  rintro e w2 ⟨rfl, hb2⟩
  have HX := Lib.hid (below_blk hb2 (lt_of_block HX.out) HX.out)
  have Hb := Lib.hid (below_nx Hb.out hb2)
  clear hb2 H2 H3 c0 c1 c2 c3 hxl
  obtain ⟨c0, c1, c2, c3⟩ := blk_cells HX.out
  have hxl := lt_of_block HX.out
  have hs2 := Hb.out.size
  have Hb := Lib.hid (Hb.out.alloc hs2 (.cells #[.int .i64 12, .int .i64 q, .int .i64 a, .int .i64 b] 25))
  have HC := Lib.hid (heap_alloc_new w2 (.cells #[.int .i64 12, .int .i64 q, .int .i64 a, .int .i64 b] 25))
  have HX := Lib.hid (alloc_blk (.cells #[.int .i64 12, .int .i64 q, .int .i64 a, .int .i64 b] 25) HX.out)
  have h1 : ((w2.alloc (.cells #[.int .i64 12, .int .i64 q, .int .i64 a, .int .i64 b] 25)).alloc (.cells #[.int .i64 10, .int .i64 q, .int .i64 a, .int .i64 0] 25)).heap[w2.heap.size + 1]? = some (.cells #[.int .i64 10, .int .i64 q, .int .i64 a, .int .i64 0] 25 (0, 0)) := by
    have h := heap_alloc_new (w2.alloc (.cells #[.int .i64 12, .int .i64 q, .int .i64 a, .int .i64 b] 25)) (.cells #[.int .i64 10, .int .i64 q, .int .i64 a, .int .i64 0] 25)
    rw [show (w2.alloc (.cells #[.int .i64 12, .int .i64 q, .int .i64 a, .int .i64 b] 25)).heap.size = w2.heap.size + 1 by simp] at h
    exact h
  have H1 := Lib.hid h1
  clear h1
  have hs3 := Hb.out.size
  go_wp2_with fail
  go_returns
  exact ⟨_, rfl, Enc.Sl.mk (E := gtE) (l := [⟨10, q, a, 0⟩]) rfl (Nat.le_refl _) (by omega) ⟨_, H1.out, rfl⟩, Hb.out.alloc hs3 _⟩
set_option maxRecDepth 100000 in
set_option maxHeartbeats 3200000 in
theorem sct_4 (q a b c : Int) (w : World) (hv : gtB ⟨4, a, b, c⟩ 4 = true) (hq : 0 ≤ q ∧ q < 4) (hn : q ∉ gqs ⟨4, a, b, c⟩) :
    Calls Tryz.prog 9 #[.int .i64 q, .agg #[.int .i64 4, .int .i64 a, .int .i64 b, .int .i64 c]] w fun e w' => ∃ v, e = .returned (.tuple #[v, .bool true]) ∧ gtE.Sl w' w.heap.size v [⟨6, a, 0, 0⟩, ⟨4, a, 0, 0⟩, ⟨8, a, 0, 0⟩, ⟨9, q, a, 0⟩, ⟨7, a, 0, 0⟩, ⟨4, a, 0, 0⟩, ⟨5, a, 0, 0⟩] ∧ Below w.heap.size w w' := by
  have H1 := Lib.hid (fun W => svalidG ⟨4, a, b, c⟩ 4 W)
  rw [hv] at H1
  have H2 := Lib.hid (fun W => lin_yes q 0 3 W hq.1 (by omega))
  have H3 := Lib.hid (fun W => sacts ⟨4, a, b, c⟩ q W)
  rw [decide_eq_false hn] at H3
  have HX := Lib.hid (heap_alloc_new w (.cells #[.int .i64 4, .int .i64 a, .int .i64 b, .int .i64 c] 25))
  have Hb := Lib.hid (show Below w.heap.size w (w.alloc (.cells #[.int .i64 4, .int .i64 a, .int .i64 b, .int .i64 c] 25)) by go_grown)
  clear hv hq hn
  go_enter Tryz.func9, Tryz.ntmps9
  go_wp2_with fail
  refine (H1.out _).mono ?_
  rintro e w1 ⟨rfl, hb1⟩
  have HX := Lib.hid (below_blk hb1 (lt_of_block HX.out) HX.out)
  have Hb := Lib.hid (below_nx Hb.out hb1)
  clear hb1 H1
  obtain ⟨c0, c1, c2, c3⟩ := blk_cells HX.out
  have hxl := lt_of_block HX.out
  go_wp2_with fail
  refine (H2.out _).mono ?_
  rintro e w1' ⟨rfl, rfl⟩
  go_wp2_with fail
  refine (H3.out _).mono ?_
  rintro e w2 ⟨rfl, hb2⟩
  have HX := Lib.hid (below_blk hb2 (lt_of_block HX.out) HX.out)
  have Hb := Lib.hid (below_nx Hb.out hb2)
  clear hb2 H2 H3 c0 c1 c2 c3 hxl
  obtain ⟨c0, c1, c2, c3⟩ := blk_cells HX.out
  have hxl := lt_of_block HX.out
  have hs2 := Hb.out.size
  have Hb := Lib.hid (Hb.out.alloc hs2 (.cells #[.int .i64 12, .int .i64 q, .int .i64 a, .int .i64 b] 25))
  have HC := Lib.hid (heap_alloc_new w2 (.cells #[.int .i64 12, .int .i64 q, .int .i64 a, .int .i64 b] 25))
  have HX := Lib.hid (alloc_blk (.cells #[.int .i64 12, .int .i64 q, .int .i64 a, .int .i64 b] 25) HX.out)
  go_wp2_with fail
  refine (sone 6 a _).mono ?_
  rintro e w3 ⟨rfl, hb3⟩
  have Hb := Lib.hid (below_nx Hb.out hb3)
  clear hb3
  go_wp2_with fail
  refine (sone 4 a _).mono ?_
  rintro e w4 ⟨rfl, hb4⟩
  have Hb := Lib.hid (below_nx Hb.out hb4)
  clear hb4
  go_wp2_with fail
  refine (sone 8 a _).mono ?_
  rintro e w5 ⟨rfl, hb5⟩
  have Hb := Lib.hid (below_nx Hb.out hb5)
  clear hb5
  go_wp2_with fail
  refine (scx q a _).mono ?_
  rintro e w6 ⟨rfl, hb6⟩
  have Hb := Lib.hid (below_nx Hb.out hb6)
  clear hb6
  go_wp2_with fail
  refine (sone 7 a _).mono ?_
  rintro e w7 ⟨rfl, hb7⟩
  have Hb := Lib.hid (below_nx Hb.out hb7)
  clear hb7
  go_wp2_with fail
  refine (sone 4 a _).mono ?_
  rintro e w8 ⟨rfl, hb8⟩
  have Hb := Lib.hid (below_nx Hb.out hb8)
  clear hb8
  go_wp2_with fail
  refine (sone 5 a _).mono ?_
  rintro e w9 ⟨rfl, hb9⟩
  have Hb := Lib.hid (below_nx Hb.out hb9)
  clear hb9
  have hs3 := Hb.out.size
  go_wp2_with fail
  go_returns
  exact ⟨_, rfl, (Enc.Sl.mk (E := gtE) (l := [⟨6, a, 0, 0⟩, ⟨4, a, 0, 0⟩, ⟨8, a, 0, 0⟩, ⟨9, q, a, 0⟩, ⟨7, a, 0, 0⟩, ⟨4, a, 0, 0⟩, ⟨5, a, 0, 0⟩]) rfl (Nat.le_refl _) (Nat.le_refl _) ⟨_, heap_alloc_new w9 (.cells #[.int .i64 6, .int .i64 a, .int .i64 0, .int .i64 0, .int .i64 4, .int .i64 a, .int .i64 0, .int .i64 0, .int .i64 8, .int .i64 a, .int .i64 0, .int .i64 0, .int .i64 9, .int .i64 q, .int .i64 a, .int .i64 0, .int .i64 7, .int .i64 a, .int .i64 0, .int .i64 0, .int .i64 4, .int .i64 a, .int .i64 0, .int .i64 0, .int .i64 5, .int .i64 a, .int .i64 0, .int .i64 0] 25), rfl⟩).mono hs3, Hb.out.alloc hs3 _⟩
set_option maxRecDepth 100000 in
set_option maxHeartbeats 3200000 in
theorem sct_5 (q a b c : Int) (w : World) (hv : gtB ⟨5, a, b, c⟩ 4 = true) (hq : 0 ≤ q ∧ q < 4) (hn : q ∉ gqs ⟨5, a, b, c⟩) :
    Calls Tryz.prog 9 #[.int .i64 q, .agg #[.int .i64 5, .int .i64 a, .int .i64 b, .int .i64 c]] w fun e w' => ∃ v, e = .returned (.tuple #[v, .bool true]) ∧ gtE.Sl w' w.heap.size v [⟨7, q, 0, 0⟩, ⟨7, a, 0, 0⟩, ⟨9, q, a, 0⟩, ⟨8, a, 0, 0⟩, ⟨9, q, a, 0⟩] ∧ Below w.heap.size w w' := by
  have H1 := Lib.hid (fun W => svalidG ⟨5, a, b, c⟩ 4 W)
  rw [hv] at H1
  have H2 := Lib.hid (fun W => lin_yes q 0 3 W hq.1 (by omega))
  have H3 := Lib.hid (fun W => sacts ⟨5, a, b, c⟩ q W)
  rw [decide_eq_false hn] at H3
  have HX := Lib.hid (heap_alloc_new w (.cells #[.int .i64 5, .int .i64 a, .int .i64 b, .int .i64 c] 25))
  have Hb := Lib.hid (show Below w.heap.size w (w.alloc (.cells #[.int .i64 5, .int .i64 a, .int .i64 b, .int .i64 c] 25)) by go_grown)
  clear hv hq hn
  go_enter Tryz.func9, Tryz.ntmps9
  go_wp2_with fail
  refine (H1.out _).mono ?_
  rintro e w1 ⟨rfl, hb1⟩
  have HX := Lib.hid (below_blk hb1 (lt_of_block HX.out) HX.out)
  have Hb := Lib.hid (below_nx Hb.out hb1)
  clear hb1 H1
  obtain ⟨c0, c1, c2, c3⟩ := blk_cells HX.out
  have hxl := lt_of_block HX.out
  go_wp2_with fail
  refine (H2.out _).mono ?_
  rintro e w1' ⟨rfl, rfl⟩
  go_wp2_with fail
  refine (H3.out _).mono ?_
  rintro e w2 ⟨rfl, hb2⟩
  have HX := Lib.hid (below_blk hb2 (lt_of_block HX.out) HX.out)
  have Hb := Lib.hid (below_nx Hb.out hb2)
  clear hb2 H2 H3 c0 c1 c2 c3 hxl
  obtain ⟨c0, c1, c2, c3⟩ := blk_cells HX.out
  have hxl := lt_of_block HX.out
  have hs2 := Hb.out.size
  have Hb := Lib.hid (Hb.out.alloc hs2 (.cells #[.int .i64 12, .int .i64 q, .int .i64 a, .int .i64 b] 25))
  have HC := Lib.hid (heap_alloc_new w2 (.cells #[.int .i64 12, .int .i64 q, .int .i64 a, .int .i64 b] 25))
  have HX := Lib.hid (alloc_blk (.cells #[.int .i64 12, .int .i64 q, .int .i64 a, .int .i64 b] 25) HX.out)
  go_wp2_with fail
  refine (sone 7 q _).mono ?_
  rintro e w3 ⟨rfl, hb3⟩
  have Hb := Lib.hid (below_nx Hb.out hb3)
  clear hb3
  go_wp2_with fail
  refine (sone 7 a _).mono ?_
  rintro e w4 ⟨rfl, hb4⟩
  have Hb := Lib.hid (below_nx Hb.out hb4)
  clear hb4
  go_wp2_with fail
  refine (scx q a _).mono ?_
  rintro e w5 ⟨rfl, hb5⟩
  have Hb := Lib.hid (below_nx Hb.out hb5)
  clear hb5
  go_wp2_with fail
  refine (sone 8 a _).mono ?_
  rintro e w6 ⟨rfl, hb6⟩
  have Hb := Lib.hid (below_nx Hb.out hb6)
  clear hb6
  go_wp2_with fail
  refine (scx q a _).mono ?_
  rintro e w7 ⟨rfl, hb7⟩
  have Hb := Lib.hid (below_nx Hb.out hb7)
  clear hb7
  have hs3 := Hb.out.size
  go_wp2_with fail
  go_returns
  exact ⟨_, rfl, (Enc.Sl.mk (E := gtE) (l := [⟨7, q, 0, 0⟩, ⟨7, a, 0, 0⟩, ⟨9, q, a, 0⟩, ⟨8, a, 0, 0⟩, ⟨9, q, a, 0⟩]) rfl (Nat.le_refl _) (Nat.le_refl _) ⟨_, heap_alloc_new w7 (.cells #[.int .i64 7, .int .i64 q, .int .i64 0, .int .i64 0, .int .i64 7, .int .i64 a, .int .i64 0, .int .i64 0, .int .i64 9, .int .i64 q, .int .i64 a, .int .i64 0, .int .i64 8, .int .i64 a, .int .i64 0, .int .i64 0, .int .i64 9, .int .i64 q, .int .i64 a, .int .i64 0] 25), rfl⟩).mono hs3, Hb.out.alloc hs3 _⟩
set_option maxRecDepth 100000 in
set_option maxHeartbeats 3200000 in
theorem sct_6 (q a b c : Int) (w : World) (hv : gtB ⟨6, a, b, c⟩ 4 = true) (hq : 0 ≤ q ∧ q < 4) (hn : q ∉ gqs ⟨6, a, b, c⟩) :
    Calls Tryz.prog 9 #[.int .i64 q, .agg #[.int .i64 6, .int .i64 a, .int .i64 b, .int .i64 c]] w fun e w' => ∃ v, e = .returned (.tuple #[v, .bool true]) ∧ gtE.Sl w' w.heap.size v [⟨8, q, 0, 0⟩, ⟨8, a, 0, 0⟩, ⟨9, q, a, 0⟩, ⟨7, a, 0, 0⟩, ⟨9, q, a, 0⟩] ∧ Below w.heap.size w w' := by
  have H1 := Lib.hid (fun W => svalidG ⟨6, a, b, c⟩ 4 W)
  rw [hv] at H1
  have H2 := Lib.hid (fun W => lin_yes q 0 3 W hq.1 (by omega))
  have H3 := Lib.hid (fun W => sacts ⟨6, a, b, c⟩ q W)
  rw [decide_eq_false hn] at H3
  have HX := Lib.hid (heap_alloc_new w (.cells #[.int .i64 6, .int .i64 a, .int .i64 b, .int .i64 c] 25))
  have Hb := Lib.hid (show Below w.heap.size w (w.alloc (.cells #[.int .i64 6, .int .i64 a, .int .i64 b, .int .i64 c] 25)) by go_grown)
  clear hv hq hn
  go_enter Tryz.func9, Tryz.ntmps9
  go_wp2_with fail
  refine (H1.out _).mono ?_
  rintro e w1 ⟨rfl, hb1⟩
  have HX := Lib.hid (below_blk hb1 (lt_of_block HX.out) HX.out)
  have Hb := Lib.hid (below_nx Hb.out hb1)
  clear hb1 H1
  obtain ⟨c0, c1, c2, c3⟩ := blk_cells HX.out
  have hxl := lt_of_block HX.out
  go_wp2_with fail
  refine (H2.out _).mono ?_
  rintro e w1' ⟨rfl, rfl⟩
  go_wp2_with fail
  refine (H3.out _).mono ?_
  rintro e w2 ⟨rfl, hb2⟩
  have HX := Lib.hid (below_blk hb2 (lt_of_block HX.out) HX.out)
  have Hb := Lib.hid (below_nx Hb.out hb2)
  clear hb2 H2 H3 c0 c1 c2 c3 hxl
  obtain ⟨c0, c1, c2, c3⟩ := blk_cells HX.out
  have hxl := lt_of_block HX.out
  have hs2 := Hb.out.size
  have Hb := Lib.hid (Hb.out.alloc hs2 (.cells #[.int .i64 12, .int .i64 q, .int .i64 a, .int .i64 b] 25))
  have HC := Lib.hid (heap_alloc_new w2 (.cells #[.int .i64 12, .int .i64 q, .int .i64 a, .int .i64 b] 25))
  have HX := Lib.hid (alloc_blk (.cells #[.int .i64 12, .int .i64 q, .int .i64 a, .int .i64 b] 25) HX.out)
  go_wp2_with fail
  refine (sone 8 q _).mono ?_
  rintro e w3 ⟨rfl, hb3⟩
  have Hb := Lib.hid (below_nx Hb.out hb3)
  clear hb3
  go_wp2_with fail
  refine (sone 8 a _).mono ?_
  rintro e w4 ⟨rfl, hb4⟩
  have Hb := Lib.hid (below_nx Hb.out hb4)
  clear hb4
  go_wp2_with fail
  refine (scx q a _).mono ?_
  rintro e w5 ⟨rfl, hb5⟩
  have Hb := Lib.hid (below_nx Hb.out hb5)
  clear hb5
  go_wp2_with fail
  refine (sone 7 a _).mono ?_
  rintro e w6 ⟨rfl, hb6⟩
  have Hb := Lib.hid (below_nx Hb.out hb6)
  clear hb6
  go_wp2_with fail
  refine (scx q a _).mono ?_
  rintro e w7 ⟨rfl, hb7⟩
  have Hb := Lib.hid (below_nx Hb.out hb7)
  clear hb7
  have hs3 := Hb.out.size
  go_wp2_with fail
  go_returns
  exact ⟨_, rfl, (Enc.Sl.mk (E := gtE) (l := [⟨8, q, 0, 0⟩, ⟨8, a, 0, 0⟩, ⟨9, q, a, 0⟩, ⟨7, a, 0, 0⟩, ⟨9, q, a, 0⟩]) rfl (Nat.le_refl _) (Nat.le_refl _) ⟨_, heap_alloc_new w7 (.cells #[.int .i64 8, .int .i64 q, .int .i64 0, .int .i64 0, .int .i64 8, .int .i64 a, .int .i64 0, .int .i64 0, .int .i64 9, .int .i64 q, .int .i64 a, .int .i64 0, .int .i64 7, .int .i64 a, .int .i64 0, .int .i64 0, .int .i64 9, .int .i64 q, .int .i64 a, .int .i64 0] 25), rfl⟩).mono hs3, Hb.out.alloc hs3 _⟩
set_option maxRecDepth 100000 in
set_option maxHeartbeats 3200000 in
theorem sct_9 (q a b c : Int) (w : World) (hv : gtB ⟨9, a, b, c⟩ 4 = true) (hq : 0 ≤ q ∧ q < 4) (hn : q ∉ gqs ⟨9, a, b, c⟩) :
    Calls Tryz.prog 9 #[.int .i64 q, .agg #[.int .i64 9, .int .i64 a, .int .i64 b, .int .i64 c]] w fun e w' => ∃ v, e = .returned (.tuple #[v, .bool true]) ∧ gtE.Sl w' w.heap.size v [⟨12, q, a, b⟩] ∧ Below w.heap.size w w' := by
  have H1 := Lib.hid (fun W => svalidG ⟨9, a, b, c⟩ 4 W)
  rw [hv] at H1
  have H2 := Lib.hid (fun W => lin_yes q 0 3 W hq.1 (by omega))
  have H3 := Lib.hid (fun W => sacts ⟨9, a, b, c⟩ q W)
  rw [decide_eq_false hn] at H3
  have HX := Lib.hid (heap_alloc_new w (.cells #[.int .i64 9, .int .i64 a, .int .i64 b, .int .i64 c] 25))
  have Hb := Lib.hid (show Below w.heap.size w (w.alloc (.cells #[.int .i64 9, .int .i64 a, .int .i64 b, .int .i64 c] 25)) by go_grown)
  clear hv hq hn
  go_enter Tryz.func9, Tryz.ntmps9
  go_wp2_with fail
  refine (H1.out _).mono ?_
  rintro e w1 ⟨rfl, hb1⟩
  have HX := Lib.hid (below_blk hb1 (lt_of_block HX.out) HX.out)
  have Hb := Lib.hid (below_nx Hb.out hb1)
  clear hb1 H1
  obtain ⟨c0, c1, c2, c3⟩ := blk_cells HX.out
  have hxl := lt_of_block HX.out
  go_wp2_with fail
  refine (H2.out _).mono ?_
  rintro e w1' ⟨rfl, rfl⟩
  go_wp2_with fail
  refine (H3.out _).mono ?_
  rintro e w2 ⟨rfl, hb2⟩
  have HX := Lib.hid (below_blk hb2 (lt_of_block HX.out) HX.out)
  have Hb := Lib.hid (below_nx Hb.out hb2)
  clear hb2 H2 H3 c0 c1 c2 c3 hxl
  obtain ⟨c0, c1, c2, c3⟩ := blk_cells HX.out
  have hxl := lt_of_block HX.out
  have hs2 := Hb.out.size
  have Hb := Lib.hid (Hb.out.alloc hs2 (.cells #[.int .i64 12, .int .i64 q, .int .i64 a, .int .i64 b] 25))
  have HC := Lib.hid (heap_alloc_new w2 (.cells #[.int .i64 12, .int .i64 q, .int .i64 a, .int .i64 b] 25))
  have HX := Lib.hid (alloc_blk (.cells #[.int .i64 12, .int .i64 q, .int .i64 a, .int .i64 b] 25) HX.out)
  obtain ⟨d0, d1, d2, d3⟩ := blk_cells HC.out
  have hcl := lt_of_block HC.out
  have h1 : ((w2.alloc (.cells #[.int .i64 12, .int .i64 q, .int .i64 a, .int .i64 b] 25)).alloc (.cells #[.int .i64 12, .int .i64 q, .int .i64 a, .int .i64 b] 25)).heap[w2.heap.size + 1]? = some (.cells #[.int .i64 12, .int .i64 q, .int .i64 a, .int .i64 b] 25 (0, 0)) := by
    have h := heap_alloc_new (w2.alloc (.cells #[.int .i64 12, .int .i64 q, .int .i64 a, .int .i64 b] 25)) (.cells #[.int .i64 12, .int .i64 q, .int .i64 a, .int .i64 b] 25)
    rw [show (w2.alloc (.cells #[.int .i64 12, .int .i64 q, .int .i64 a, .int .i64 b] 25)).heap.size = w2.heap.size + 1 by simp] at h
    exact h
  have H1 := Lib.hid h1
  clear h1
  have hs3 := Hb.out.size
  go_wp2_with fail
  go_returns
  exact ⟨_, rfl, Enc.Sl.mk (E := gtE) (l := [⟨12, q, a, b⟩]) rfl (Nat.le_refl _) (by omega) ⟨_, H1.out, rfl⟩, Hb.out.alloc hs3 _⟩
set_option maxRecDepth 100000 in
set_option maxHeartbeats 3200000 in
theorem sct_10 (q a b c : Int) (w : World) (hv : gtB ⟨10, a, b, c⟩ 4 = true) (hq : 0 ≤ q ∧ q < 4) (hn : q ∉ gqs ⟨10, a, b, c⟩) :
    Calls Tryz.prog 9 #[.int .i64 q, .agg #[.int .i64 10, .int .i64 a, .int .i64 b, .int .i64 c]] w fun e w' => ∃ v, e = .returned (.tuple #[v, .bool true]) ∧ gtE.Sl w' w.heap.size v [⟨4, b, 0, 0⟩, ⟨12, q, a, b⟩, ⟨4, b, 0, 0⟩] ∧ Below w.heap.size w w' := by
  have H1 := Lib.hid (fun W => svalidG ⟨10, a, b, c⟩ 4 W)
  rw [hv] at H1
  have H2 := Lib.hid (fun W => lin_yes q 0 3 W hq.1 (by omega))
  have H3 := Lib.hid (fun W => sacts ⟨10, a, b, c⟩ q W)
  rw [decide_eq_false hn] at H3
  have HX := Lib.hid (heap_alloc_new w (.cells #[.int .i64 10, .int .i64 a, .int .i64 b, .int .i64 c] 25))
  have Hb := Lib.hid (show Below w.heap.size w (w.alloc (.cells #[.int .i64 10, .int .i64 a, .int .i64 b, .int .i64 c] 25)) by go_grown)
  clear hv hq hn
  go_enter Tryz.func9, Tryz.ntmps9
  go_wp2_with fail
  refine (H1.out _).mono ?_
  rintro e w1 ⟨rfl, hb1⟩
  have HX := Lib.hid (below_blk hb1 (lt_of_block HX.out) HX.out)
  have Hb := Lib.hid (below_nx Hb.out hb1)
  clear hb1 H1
  obtain ⟨c0, c1, c2, c3⟩ := blk_cells HX.out
  have hxl := lt_of_block HX.out
  go_wp2_with fail
  refine (H2.out _).mono ?_
  rintro e w1' ⟨rfl, rfl⟩
  go_wp2_with fail
  refine (H3.out _).mono ?_
  rintro e w2 ⟨rfl, hb2⟩
  have HX := Lib.hid (below_blk hb2 (lt_of_block HX.out) HX.out)
  have Hb := Lib.hid (below_nx Hb.out hb2)
  clear hb2 H2 H3 c0 c1 c2 c3 hxl
  obtain ⟨c0, c1, c2, c3⟩ := blk_cells HX.out
  have hxl := lt_of_block HX.out
  have hs2 := Hb.out.size
  have Hb := Lib.hid (Hb.out.alloc hs2 (.cells #[.int .i64 12, .int .i64 q, .int .i64 a, .int .i64 b] 25))
  have HC := Lib.hid (heap_alloc_new w2 (.cells #[.int .i64 12, .int .i64 q, .int .i64 a, .int .i64 b] 25))
  have HX := Lib.hid (alloc_blk (.cells #[.int .i64 12, .int .i64 q, .int .i64 a, .int .i64 b] 25) HX.out)
  have HcC := blk_cells HC.out
  obtain ⟨d0, d1, d2, d3⟩ := HcC
  have hcl := lt_of_block HC.out
  have hS : GBx (w2.alloc (.cells #[.int .i64 12, .int .i64 q, .int .i64 a, .int .i64 b] 25)) w2.heap.size ⟨12, q, a, b⟩ (w2.alloc (.cells #[.int .i64 12, .int .i64 q, .int .i64 a, .int .i64 b] 25)) := ⟨d0, d1, d2, d3, hcl, Below.refl _ _⟩
  have HbD := Lib.hid (show Below w.heap.size w (w2.alloc (.cells #[.int .i64 12, .int .i64 q, .int .i64 a, .int .i64 b] 25)).drew from Hb.out.drew)
  have hs3 := Hb.out.size
  go_upto_region 22 with fail
  go_region_held3 (fun w' => w'.cell? ⟨w2.heap.size, 0, none⟩ = some (.int .i64 12) ∧ w'.cell? ⟨w2.heap.size, 1, none⟩ = some (.int .i64 q) ∧ w'.cell? ⟨w2.heap.size, 2, none⟩ = some (.int .i64 a) ∧ w'.cell? ⟨w2.heap.size, 3, none⟩ = some (.int .i64 b) ∧ w2.heap.size < w'.heap.size ∧ Below (w2.alloc (.cells #[.int .i64 12, .int .i64 q, .int .i64 a, .int .i64 b] 25)).heap.size (w2.alloc (.cells #[.int .i64 12, .int .i64 q, .int .i64 a, .int .i64 b] 25)) w') (first | (show GBx (w2.alloc (.cells #[.int .i64 12, .int .i64 q, .int .i64 a, .int .i64 b] 25)) w2.heap.size ⟨12, q, a, b⟩ _; (with_reducible exact hS.drew)) | (show GBx (w2.alloc (.cells #[.int .i64 12, .int .i64 q, .int .i64 a, .int .i64 b] 25)) w2.heap.size ⟨12, q, a, b⟩ _; (with_reducible refine GBx.below ?_ hbR); first | assumption | exact ⟨by assumption, by assumption, by assumption, by assumption, by assumption, by assumption⟩) | (show GBx (w2.alloc (.cells #[.int .i64 12, .int .i64 q, .int .i64 a, .int .i64 b] 25)) w2.heap.size ⟨12, q, a, b⟩ _; (with_reducible refine GBx.alloc ?_); first | assumption | exact ⟨by assumption, by assumption, by assumption, by assumption, by assumption, by assumption⟩))
    (first
      | (go_at_call 34; (with_reducible refine (sone 4 b _).mono ?_); rintro e wR ⟨rfl, hbR⟩; have HbD := Lib.hid (below_nx HbD.out hbR)))
  all_goals
    have hsR := HbD.out.size
    go_wp2_with fail
    go_returns
    exact ⟨_, rfl, (Enc.Sl.mk (E := gtE) (l := [⟨4, b, 0, 0⟩, ⟨12, q, a, b⟩, ⟨4, b, 0, 0⟩]) rfl (Nat.le_refl _) (Nat.le_refl _) ⟨_, heap_alloc_new _ (.cells #[.int .i64 4, .int .i64 b, .int .i64 0, .int .i64 0, .int .i64 12, .int .i64 q, .int .i64 a, .int .i64 b, .int .i64 4, .int .i64 b, .int .i64 0, .int .i64 0] 25), rfl⟩).mono hsR, HbD.out.alloc hsR _⟩
set_option maxRecDepth 100000 in
set_option maxHeartbeats 3200000 in
theorem sct_11 (q a b c : Int) (w : World) (hv : gtB ⟨11, a, b, c⟩ 4 = true) (hq : 0 ≤ q ∧ q < 4) (hn : q ∉ gqs ⟨11, a, b, c⟩) :
    Calls Tryz.prog 9 #[.int .i64 q, .agg #[.int .i64 11, .int .i64 a, .int .i64 b, .int .i64 c]] w fun e w' => ∃ v, e = .returned (.tuple #[v, .bool true]) ∧ gtE.Sl w' w.heap.size v [⟨9, b, a, 0⟩, ⟨12, q, a, b⟩, ⟨9, b, a, 0⟩] ∧ Below w.heap.size w w' := by
  have H1 := Lib.hid (fun W => svalidG ⟨11, a, b, c⟩ 4 W)
  rw [hv] at H1
  have H2 := Lib.hid (fun W => lin_yes q 0 3 W hq.1 (by omega))
  have H3 := Lib.hid (fun W => sacts ⟨11, a, b, c⟩ q W)
  rw [decide_eq_false hn] at H3
  have HX := Lib.hid (heap_alloc_new w (.cells #[.int .i64 11, .int .i64 a, .int .i64 b, .int .i64 c] 25))
  have Hb := Lib.hid (show Below w.heap.size w (w.alloc (.cells #[.int .i64 11, .int .i64 a, .int .i64 b, .int .i64 c] 25)) by go_grown)
  clear hv hq hn
  go_enter Tryz.func9, Tryz.ntmps9
  go_wp2_with fail
  refine (H1.out _).mono ?_
  rintro e w1 ⟨rfl, hb1⟩
  have HX := Lib.hid (below_blk hb1 (lt_of_block HX.out) HX.out)
  have Hb := Lib.hid (below_nx Hb.out hb1)
  clear hb1 H1
  obtain ⟨c0, c1, c2, c3⟩ := blk_cells HX.out
  have hxl := lt_of_block HX.out
  go_wp2_with fail
  refine (H2.out _).mono ?_
  rintro e w1' ⟨rfl, rfl⟩
  go_wp2_with fail
  refine (H3.out _).mono ?_
  rintro e w2 ⟨rfl, hb2⟩
  have HX := Lib.hid (below_blk hb2 (lt_of_block HX.out) HX.out)
  have Hb := Lib.hid (below_nx Hb.out hb2)
  clear hb2 H2 H3 c0 c1 c2 c3 hxl
  obtain ⟨c0, c1, c2, c3⟩ := blk_cells HX.out
  have hxl := lt_of_block HX.out
  have hs2 := Hb.out.size
  have Hb := Lib.hid (Hb.out.alloc hs2 (.cells #[.int .i64 12, .int .i64 q, .int .i64 a, .int .i64 b] 25))
  have HC := Lib.hid (heap_alloc_new w2 (.cells #[.int .i64 12, .int .i64 q, .int .i64 a, .int .i64 b] 25))
  have HX := Lib.hid (alloc_blk (.cells #[.int .i64 12, .int .i64 q, .int .i64 a, .int .i64 b] 25) HX.out)
  have HcC := blk_cells HC.out
  obtain ⟨d0, d1, d2, d3⟩ := HcC
  have hcl := lt_of_block HC.out
  have hS : GBx (w2.alloc (.cells #[.int .i64 12, .int .i64 q, .int .i64 a, .int .i64 b] 25)) w2.heap.size ⟨12, q, a, b⟩ (w2.alloc (.cells #[.int .i64 12, .int .i64 q, .int .i64 a, .int .i64 b] 25)) := ⟨d0, d1, d2, d3, hcl, Below.refl _ _⟩
  have HbD := Lib.hid (show Below w.heap.size w (w2.alloc (.cells #[.int .i64 12, .int .i64 q, .int .i64 a, .int .i64 b] 25)).drew from Hb.out.drew)
  have hs3 := Hb.out.size
  go_upto_region 24 with fail
  go_region_held3 (fun w' => w'.cell? ⟨w2.heap.size, 0, none⟩ = some (.int .i64 12) ∧ w'.cell? ⟨w2.heap.size, 1, none⟩ = some (.int .i64 q) ∧ w'.cell? ⟨w2.heap.size, 2, none⟩ = some (.int .i64 a) ∧ w'.cell? ⟨w2.heap.size, 3, none⟩ = some (.int .i64 b) ∧ w2.heap.size < w'.heap.size ∧ Below (w2.alloc (.cells #[.int .i64 12, .int .i64 q, .int .i64 a, .int .i64 b] 25)).heap.size (w2.alloc (.cells #[.int .i64 12, .int .i64 q, .int .i64 a, .int .i64 b] 25)) w') (first | (show GBx (w2.alloc (.cells #[.int .i64 12, .int .i64 q, .int .i64 a, .int .i64 b] 25)) w2.heap.size ⟨12, q, a, b⟩ _; (with_reducible exact hS.drew)) | (show GBx (w2.alloc (.cells #[.int .i64 12, .int .i64 q, .int .i64 a, .int .i64 b] 25)) w2.heap.size ⟨12, q, a, b⟩ _; (with_reducible refine GBx.below ?_ hbR); first | assumption | exact ⟨by assumption, by assumption, by assumption, by assumption, by assumption, by assumption⟩) | (show GBx (w2.alloc (.cells #[.int .i64 12, .int .i64 q, .int .i64 a, .int .i64 b] 25)) w2.heap.size ⟨12, q, a, b⟩ _; (with_reducible refine GBx.alloc ?_); first | assumption | exact ⟨by assumption, by assumption, by assumption, by assumption, by assumption, by assumption⟩))
    (first
      | (go_at_call 33; (with_reducible refine (scx b a _).mono ?_); rintro e wR ⟨rfl, hbR⟩; have HbD := Lib.hid (below_nx HbD.out hbR)))
  all_goals
    have hsR := HbD.out.size
    go_wp2_with fail
    go_returns
    exact ⟨_, rfl, (Enc.Sl.mk (E := gtE) (l := [⟨9, b, a, 0⟩, ⟨12, q, a, b⟩, ⟨9, b, a, 0⟩]) rfl (Nat.le_refl _) (Nat.le_refl _) ⟨_, heap_alloc_new _ (.cells #[.int .i64 9, .int .i64 b, .int .i64 a, .int .i64 0, .int .i64 12, .int .i64 q, .int .i64 a, .int .i64 b, .int .i64 9, .int .i64 b, .int .i64 a, .int .i64 0] 25), rfl⟩).mono hsR, HbD.out.alloc hsR _⟩
set_option maxRecDepth 100000 in
set_option maxHeartbeats 3200000 in
theorem sct_7 (q a b c : Int) (w : World) (hv : gtB ⟨7, a, b, c⟩ 4 = true) (hq : 0 ≤ q ∧ q < 4) (hn : q ∉ gqs ⟨7, a, b, c⟩) :
    Calls Tryz.prog 9 #[.int .i64 q, .agg #[.int .i64 7, .int .i64 a, .int .i64 b, .int .i64 c]] w fun e w' => ∃ v, e = .returned (.tuple #[v, .bool false]) ∧ gtE.Sl w' w.heap.size v [] ∧ Below w.heap.size w w' := by
  have H1 := Lib.hid (fun W => svalidG ⟨7, a, b, c⟩ 4 W)
  rw [hv] at H1
  have H2 := Lib.hid (fun W => lin_yes q 0 3 W hq.1 (by omega))
  have H3 := Lib.hid (fun W => sacts ⟨7, a, b, c⟩ q W)
  rw [decide_eq_false hn] at H3
  have HX := Lib.hid (heap_alloc_new w (.cells #[.int .i64 7, .int .i64 a, .int .i64 b, .int .i64 c] 25))
  have Hb := Lib.hid (show Below w.heap.size w (w.alloc (.cells #[.int .i64 7, .int .i64 a, .int .i64 b, .int .i64 c] 25)) by go_grown)
  clear hv hq hn
  go_enter Tryz.func9, Tryz.ntmps9
  go_wp2_with fail
  refine (H1.out _).mono ?_
  rintro e w1 ⟨rfl, hb1⟩
  have HX := Lib.hid (below_blk hb1 (lt_of_block HX.out) HX.out)
  have Hb := Lib.hid (below_nx Hb.out hb1)
  clear hb1 H1
  obtain ⟨c0, c1, c2, c3⟩ := blk_cells HX.out
  have hxl := lt_of_block HX.out
  go_wp2_with fail
  refine (H2.out _).mono ?_
  rintro e w1' ⟨rfl, rfl⟩
  go_wp2_with fail
  refine (H3.out _).mono ?_
  rintro e w2 ⟨rfl, hb2⟩
  have HX := Lib.hid (below_blk hb2 (lt_of_block HX.out) HX.out)
  have Hb := Lib.hid (below_nx Hb.out hb2)
  clear hb2 H2 H3 c0 c1 c2 c3 hxl
  obtain ⟨c0, c1, c2, c3⟩ := blk_cells HX.out
  have hxl := lt_of_block HX.out
  have hs2 := Hb.out.size
  have Hb := Lib.hid (Hb.out.alloc hs2 (.cells #[.int .i64 12, .int .i64 q, .int .i64 a, .int .i64 b] 25))
  have HC := Lib.hid (heap_alloc_new w2 (.cells #[.int .i64 12, .int .i64 q, .int .i64 a, .int .i64 b] 25))
  have HX := Lib.hid (alloc_blk (.cells #[.int .i64 12, .int .i64 q, .int .i64 a, .int .i64 b] 25) HX.out)
  have hs3 := Hb.out.size
  go_wp2_with fail
  go_returns
  exact ⟨_, rfl, Enc.Sl.nil, Hb.out.alloc hs3 _⟩
set_option maxRecDepth 100000 in
set_option maxHeartbeats 3200000 in
theorem sct_8 (q a b c : Int) (w : World) (hv : gtB ⟨8, a, b, c⟩ 4 = true) (hq : 0 ≤ q ∧ q < 4) (hn : q ∉ gqs ⟨8, a, b, c⟩) :
    Calls Tryz.prog 9 #[.int .i64 q, .agg #[.int .i64 8, .int .i64 a, .int .i64 b, .int .i64 c]] w fun e w' => ∃ v, e = .returned (.tuple #[v, .bool false]) ∧ gtE.Sl w' w.heap.size v [] ∧ Below w.heap.size w w' := by
  have H1 := Lib.hid (fun W => svalidG ⟨8, a, b, c⟩ 4 W)
  rw [hv] at H1
  have H2 := Lib.hid (fun W => lin_yes q 0 3 W hq.1 (by omega))
  have H3 := Lib.hid (fun W => sacts ⟨8, a, b, c⟩ q W)
  rw [decide_eq_false hn] at H3
  have HX := Lib.hid (heap_alloc_new w (.cells #[.int .i64 8, .int .i64 a, .int .i64 b, .int .i64 c] 25))
  have Hb := Lib.hid (show Below w.heap.size w (w.alloc (.cells #[.int .i64 8, .int .i64 a, .int .i64 b, .int .i64 c] 25)) by go_grown)
  clear hv hq hn
  go_enter Tryz.func9, Tryz.ntmps9
  go_wp2_with fail
  refine (H1.out _).mono ?_
  rintro e w1 ⟨rfl, hb1⟩
  have HX := Lib.hid (below_blk hb1 (lt_of_block HX.out) HX.out)
  have Hb := Lib.hid (below_nx Hb.out hb1)
  clear hb1 H1
  obtain ⟨c0, c1, c2, c3⟩ := blk_cells HX.out
  have hxl := lt_of_block HX.out
  go_wp2_with fail
  refine (H2.out _).mono ?_
  rintro e w1' ⟨rfl, rfl⟩
  go_wp2_with fail
  refine (H3.out _).mono ?_
  rintro e w2 ⟨rfl, hb2⟩
  have HX := Lib.hid (below_blk hb2 (lt_of_block HX.out) HX.out)
  have Hb := Lib.hid (below_nx Hb.out hb2)
  clear hb2 H2 H3 c0 c1 c2 c3 hxl
  obtain ⟨c0, c1, c2, c3⟩ := blk_cells HX.out
  have hxl := lt_of_block HX.out
  have hs2 := Hb.out.size
  have Hb := Lib.hid (Hb.out.alloc hs2 (.cells #[.int .i64 12, .int .i64 q, .int .i64 a, .int .i64 b] 25))
  have HC := Lib.hid (heap_alloc_new w2 (.cells #[.int .i64 12, .int .i64 q, .int .i64 a, .int .i64 b] 25))
  have HX := Lib.hid (alloc_blk (.cells #[.int .i64 12, .int .i64 q, .int .i64 a, .int .i64 b] 25) HX.out)
  have hs3 := Hb.out.size
  go_wp2_with fail
  go_returns
  exact ⟨_, rfl, Enc.Sl.nil, Hb.out.alloc hs3 _⟩
set_option maxRecDepth 100000 in
set_option maxHeartbeats 3200000 in
theorem sct_12 (q a b c : Int) (w : World) (hv : gtB ⟨12, a, b, c⟩ 4 = true) (hq : 0 ≤ q ∧ q < 4) (hn : q ∉ gqs ⟨12, a, b, c⟩) :
    Calls Tryz.prog 9 #[.int .i64 q, .agg #[.int .i64 12, .int .i64 a, .int .i64 b, .int .i64 c]] w fun e w' => ∃ v, e = .returned (.tuple #[v, .bool false]) ∧ gtE.Sl w' w.heap.size v [] ∧ Below w.heap.size w w' := by
  have H1 := Lib.hid (fun W => svalidG ⟨12, a, b, c⟩ 4 W)
  rw [hv] at H1
  have H2 := Lib.hid (fun W => lin_yes q 0 3 W hq.1 (by omega))
  have H3 := Lib.hid (fun W => sacts ⟨12, a, b, c⟩ q W)
  rw [decide_eq_false hn] at H3
  have HX := Lib.hid (heap_alloc_new w (.cells #[.int .i64 12, .int .i64 a, .int .i64 b, .int .i64 c] 25))
  have Hb := Lib.hid (show Below w.heap.size w (w.alloc (.cells #[.int .i64 12, .int .i64 a, .int .i64 b, .int .i64 c] 25)) by go_grown)
  clear hv hq hn
  go_enter Tryz.func9, Tryz.ntmps9
  go_wp2_with fail
  refine (H1.out _).mono ?_
  rintro e w1 ⟨rfl, hb1⟩
  have HX := Lib.hid (below_blk hb1 (lt_of_block HX.out) HX.out)
  have Hb := Lib.hid (below_nx Hb.out hb1)
  clear hb1 H1
  obtain ⟨c0, c1, c2, c3⟩ := blk_cells HX.out
  have hxl := lt_of_block HX.out
  go_wp2_with fail
  refine (H2.out _).mono ?_
  rintro e w1' ⟨rfl, rfl⟩
  go_wp2_with fail
  refine (H3.out _).mono ?_
  rintro e w2 ⟨rfl, hb2⟩
  have HX := Lib.hid (below_blk hb2 (lt_of_block HX.out) HX.out)
  have Hb := Lib.hid (below_nx Hb.out hb2)
  clear hb2 H2 H3 c0 c1 c2 c3 hxl
  obtain ⟨c0, c1, c2, c3⟩ := blk_cells HX.out
  have hxl := lt_of_block HX.out
  have hs2 := Hb.out.size
  have Hb := Lib.hid (Hb.out.alloc hs2 (.cells #[.int .i64 12, .int .i64 q, .int .i64 a, .int .i64 b] 25))
  have HC := Lib.hid (heap_alloc_new w2 (.cells #[.int .i64 12, .int .i64 q, .int .i64 a, .int .i64 b] 25))
  have HX := Lib.hid (alloc_blk (.cells #[.int .i64 12, .int .i64 q, .int .i64 a, .int .i64 b] 25) HX.out)
  have hs3 := Hb.out.size
  go_wp2_with fail
  go_returns
  exact ⟨_, rfl, Enc.Sl.nil, Hb.out.alloc hs3 _⟩
set_option maxRecDepth 100000 in
set_option maxHeartbeats 1600000 in
theorem sct_n1 (q : Int) (g : Gt) (w : World) (hv : gtB g 4 = false) : Calls Tryz.prog 9 #[.int .i64 q, (.agg #[.int .i64 g.k, .int .i64 g.a, .int .i64 g.b, .int .i64 g.c])] w fun e w' => ∃ v, e = .returned (.tuple #[v, .bool false]) ∧ gtE.Sl w' w.heap.size v [] ∧ Below w.heap.size w w' := by
  have H1 := Lib.hid (fun W => svalidG g 4 W)
  rw [hv] at H1
  have HX := Lib.hid (heap_alloc_new w (.cells #[.int .i64 g.k, .int .i64 g.a, .int .i64 g.b, .int .i64 g.c] 25))
  have Hb := Lib.hid (show Below w.heap.size w (w.alloc (.cells #[.int .i64 g.k, .int .i64 g.a, .int .i64 g.b, .int .i64 g.c] 25)) by go_grown)
  clear hv
  go_enter Tryz.func9, Tryz.ntmps9
  go_wp2_with fail
  refine (H1.out _).mono ?_
  rintro e w1 ⟨rfl, hbw1⟩
  have Hb := Lib.hid (below_nx Hb.out hbw1)
  clear hbw1
  have hs3 := Hb.out.size
  go_wp2_with fail
  go_returns
  exact ⟨_, rfl, Enc.Sl.nil, Hb.out.alloc hs3 _⟩
set_option maxRecDepth 100000 in
set_option maxHeartbeats 1600000 in
theorem sct_n2 (q : Int) (g : Gt) (w : World) (hv : gtB g 4 = true) (hq : ¬ (0 ≤ q ∧ q < 4)) : Calls Tryz.prog 9 #[.int .i64 q, (.agg #[.int .i64 g.k, .int .i64 g.a, .int .i64 g.b, .int .i64 g.c])] w fun e w' => ∃ v, e = .returned (.tuple #[v, .bool false]) ∧ gtE.Sl w' w.heap.size v [] ∧ Below w.heap.size w w' := by
  have H1 := Lib.hid (fun W => svalidG g 4 W)
  rw [hv] at H1
  have H2 := Lib.hid (fun W => lin_no q 0 3 W (by omega))
  have HX := Lib.hid (heap_alloc_new w (.cells #[.int .i64 g.k, .int .i64 g.a, .int .i64 g.b, .int .i64 g.c] 25))
  have Hb := Lib.hid (show Below w.heap.size w (w.alloc (.cells #[.int .i64 g.k, .int .i64 g.a, .int .i64 g.b, .int .i64 g.c] 25)) by go_grown)
  clear hv hq
  go_enter Tryz.func9, Tryz.ntmps9
  go_wp2_with fail
  refine (H1.out _).mono ?_
  rintro e w1 ⟨rfl, hbw1⟩
  have Hb := Lib.hid (below_nx Hb.out hbw1)
  clear hbw1
  go_wp2_with fail
  refine (H2.out _).mono ?_
  rintro e w1' ⟨rfl, rfl⟩
  have hs3 := Hb.out.size
  go_wp2_with fail
  go_returns
  exact ⟨_, rfl, Enc.Sl.nil, Hb.out.alloc hs3 _⟩
set_option maxRecDepth 100000 in
set_option maxHeartbeats 1600000 in
theorem sct_n3 (q : Int) (g : Gt) (w : World) (hv : gtB g 4 = true) (hq : 0 ≤ q ∧ q < 4) (hn : q ∈ gqs g) : Calls Tryz.prog 9 #[.int .i64 q, (.agg #[.int .i64 g.k, .int .i64 g.a, .int .i64 g.b, .int .i64 g.c])] w fun e w' => ∃ v, e = .returned (.tuple #[v, .bool false]) ∧ gtE.Sl w' w.heap.size v [] ∧ Below w.heap.size w w' := by
  have H1 := Lib.hid (fun W => svalidG g 4 W)
  rw [hv] at H1
  have H2 := Lib.hid (fun W => lin_yes q 0 3 W hq.1 (by omega))
  have H3 := Lib.hid (fun W => sacts g q W)
  rw [decide_eq_true hn] at H3
  have HX := Lib.hid (heap_alloc_new w (.cells #[.int .i64 g.k, .int .i64 g.a, .int .i64 g.b, .int .i64 g.c] 25))
  have Hb := Lib.hid (show Below w.heap.size w (w.alloc (.cells #[.int .i64 g.k, .int .i64 g.a, .int .i64 g.b, .int .i64 g.c] 25)) by go_grown)
  clear hv hq hn
  go_enter Tryz.func9, Tryz.ntmps9
  go_wp2_with fail
  refine (H1.out _).mono ?_
  rintro e w1 ⟨rfl, hb1⟩
  have HX := Lib.hid (below_blk hb1 (lt_of_block HX.out) HX.out)
  have Hb := Lib.hid (below_nx Hb.out hb1)
  clear hb1 H1
  obtain ⟨c0, c1, c2, c3⟩ := blk_cells HX.out
  go_wp2_with fail
  refine (H2.out _).mono ?_
  rintro e w1' ⟨rfl, rfl⟩
  go_wp2_with fail
  refine (H3.out _).mono ?_
  rintro e w2 ⟨rfl, hbw2⟩
  have Hb := Lib.hid (below_nx Hb.out hbw2)
  clear hbw2
  have hs3 := Hb.out.size
  go_wp2_with fail
  go_returns
  exact ⟨_, rfl, Enc.Sl.nil, Hb.out.alloc hs3 _⟩
theorem ctB_no {q : Int} {g : Gt} (h : ¬ ctCan q g) : ctB q g = false := by
  rw [← Bool.not_eq_true]
  exact fun e => h (ctB_iff.1 e)
/-- ControlledGate. -/
theorem sctG (q : Int) (g : Gt) (w : World) :
    Calls Tryz.prog 9 #[.int .i64 q, (.agg #[.int .i64 g.k, .int .i64 g.a, .int .i64 g.b, .int .i64 g.c])] w fun e w' => ∃ v, e = .returned (.tuple #[v, .bool (ctB q g)]) ∧ gtE.Sl w' w.heap.size v (ctR q g) ∧ Below w.heap.size w w' := by
  have no : ¬ ctCan q g → ctB q g = false ∧ ctR q g = [] := fun h => ⟨ctB_no h, by unfold ctR; rw [ctB_no h]; rfl⟩
  have yes : ctCan q g → ctB q g = true ∧ ctR q g = ctL q g := fun h => ⟨ctB_iff.2 h, by unfold ctR; rw [ctB_iff.2 h]; rfl⟩
  by_cases hv : gtB g 4 = true
  · by_cases hq : 0 ≤ q ∧ q < 4
    · by_cases hn : q ∈ gqs g
      · obtain ⟨e1, e2⟩ := no fun h => h.2.2.1 hn
        rw [e1, e2]
        exact sct_n3 q g w hv hq hn
      · have hk := (gtB_parts hv).2.1
        by_cases hK : ctK g.k = true
        · obtain ⟨e1, e2⟩ := yes ⟨hv, hq, hn, hK⟩
          rw [e1, e2]
          have hK2 := of_decide_eq_true hK
          obtain ⟨k, a, b, c⟩ := g
          simp only at hk hK2
          rcases (show k = 1 ∨ k = 2 ∨ k = 3 ∨ k = 4 ∨ k = 5 ∨ k = 6 ∨ k = 9 ∨ k = 10 ∨ k = 11 by omega) with rfl | rfl | rfl | rfl | rfl | rfl | rfl | rfl | rfl
          · exact sct_1 q a b c w hv hq hn
          · exact sct_2 q a b c w hv hq hn
          · exact sct_3 q a b c w hv hq hn
          · exact sct_4 q a b c w hv hq hn
          · exact sct_5 q a b c w hv hq hn
          · exact sct_6 q a b c w hv hq hn
          · exact sct_9 q a b c w hv hq hn
          · exact sct_10 q a b c w hv hq hn
          · exact sct_11 q a b c w hv hq hn
        · obtain ⟨e1, e2⟩ := no fun h => hK h.2.2.2
          rw [e1, e2]
          obtain ⟨k, a, b, c⟩ := g
          unfold ctK at hK
          simp only [decide_eq_true_eq] at hK hk
          rcases (show k = 7 ∨ k = 8 ∨ k = 12 by omega) with rfl | rfl | rfl
          · exact sct_7 q a b c w hv hq hn
          · exact sct_8 q a b c w hv hq hn
          · exact sct_12 q a b c w hv hq hn
    · obtain ⟨e1, e2⟩ := no fun h => hq h.2.1
      rw [e1, e2]
      exact sct_n2 q g w hv hq
  · obtain ⟨e1, e2⟩ := no fun h => hv h.1
    rw [e1, e2]
    exact sct_n1 q g w (by simpa using hv)
theorem ctBs_no {q : Int} {L : List Gt} {j : Nat} {x : Gt} (hx : L[j]? = some x) (h : ctB q x = false) : ctBs q L = false ∧ ctRs q L = [] := by
  have e : ctBs q L = false := by
    unfold ctBs
    rw [List.all_eq_false]
    exact ⟨x, List.mem_of_getElem? hx, by rw [h]; decide⟩
  exact ⟨e, by unfold ctRs; rw [e]; rfl⟩
theorem ctBs_take {q : Int} {L : List Gt} {j : Nat} {x : Gt} (hx : L[j]? = some x) (h : ctBs q (L.take j) = true) (h2 : ctB q x = true) : ctBs q (L.take (j + 1)) = true := by
  unfold ctBs at h ⊢
  rw [List.take_add_one, hx, List.all_append, h]
  simp [h2]
set_option maxRecDepth 100000 in
set_option maxHeartbeats 3200000 in
theorem sctGs (B : Nat) (q : Int) (v : Value) (L : List Gt) (w : World) (hv : gtE.Sl w B v L) (hm : L.length ≤ 1048576) :
    Calls Tryz.prog 17 #[.int .i64 q, v] w fun e w' => ∃ r, e = .returned (.tuple #[r, .bool (ctBs q L)]) ∧ gtE.Sl w' w.heap.size r (ctRs q L) ∧ Below w.heap.size w w' := by
  obtain ⟨i0, hi, hz0, hz1, hz2⟩ := info_parts infoG3
  obtain ⟨a, cap, rfl, hcap, hr⟩ := hv
  have Hr := Lib.hid hr
  clear hr
  obtain ⟨T, hT⟩ : ∃ T, T = ctBs q L := ⟨_, rfl⟩
  obtain ⟨R, hR⟩ : ∃ R, R = ctRs q L := ⟨_, rfl⟩
  rw [← hT, ← hR]
  have HT := Lib.hid hT
  have HR0 := Lib.hid hR
  clear hT hR
  go_enter Tryz.func17, Tryz.ntmps17
  go_wp2_with fail
  go_loopg [6, 7] L.length (fun m o i wr => ∃ j : Nat, m = L.length - j ∧ j ≤ L.length ∧ i = .int .i64 j ∧ Hid (ctBs q (L.take j) = true) ∧ Hid (wr.ownsRow w.heap.size 25 4 o (ctLL q (L.take j)).length (gtE.flat (ctLL q (L.take j)))) ∧ Hid (Below w.heap.size w wr))
  case atStart => exact ⟨0, rfl, Nat.zero_le _, rfl, Lib.hid rfl, Lib.hid (World.ownsRow_lit w #[] 0 (Nat.le_refl _) (Nat.zero_le _) rfl), Lib.hid (by go_grown)⟩
  case round =>
    obtain ⟨j, rfl, hj, rfl, Hall, Hown, Hb⟩ := hrel
    have hs := Hb.out.size
    have hlen := ctLL_take q L j
    by_cases hlt : j < L.length
    · obtain ⟨g, rfl, _, hrow⟩ := Hr.out (by omega)
      obtain ⟨x, hx⟩ : ∃ x, L[j]? = some x := ⟨L[j], List.getElem?_eq_getElem hlt⟩
      have r1 := hrow.below Hb.out hrow.lt
      obtain ⟨c0, c1, c2, c3⟩ := GRow.cells r1 hx
      have hgl := r1.lt
      have Hst := Lib.hid (ctLL_step (q := q) hx)
      have hc := sctG q x wr
      have Hno := Lib.hid (fun h => ctBs_no (q := q) hx h)
      have Hyes := Lib.hid (fun h => ctBs_take (q := q) hx Hall.out h)
      have hl7 := ctR_len q x
      have hR : ctB q x = true → ctR q x = ctL q x := fun h => by unfold ctR; rw [h]; rfl
      have HR := Lib.hid hR
      clear hR
      have Hc := Lib.hid hc
      clear hc
      generalize ctR q x = M at *
      generalize ctB q x = t at *
      generalize ctLL q (L.take j) = F at *
      clear hrow r1 hx
      go_wp2_with fail
      refine (Hc.out).mono ?_
      rintro e w3 ⟨u, rfl, hu, hb3⟩
      have Hu := Lib.hid hu
      have Hown3 := Lib.hid (row_below Hown.out hb3)
      have Hb3 := Lib.hid (below_nx Hb.out hb3)
      have hs3 := Hb3.out.size
      obtain ⟨pu, cu, rfl, -, -⟩ := id hu
      clear hu hb3 Hc Hown Hb c0 c1 c2 c3
      cases t with
      | false =>
        obtain ⟨e1, e2⟩ := Hno.out (by trivial)
        obtain rfl := HT.out.trans e1
        obtain rfl := HR0.out.trans e2
        clear e1 e2
        go_wp2_with fail
        go_returns
        exact ⟨_, rfl, Enc.Sl.nil, Hb3.out.alloc hs3 _⟩
      | true =>
        obtain rfl := HR.out (by trivial)
        go_wp2_with (first
          | (at_builtin; refine wpList_append_sl (E := gtE) rfl _ _ 28 rfl w.heap.size i0 (.agg #[.int .i64 0, .int .i64 0, .int .i64 0, .int .i64 0]) 32 Tryz.underlying28 hi hz0 hz1 hz2 rfl (by decide) _ _ _ rfl Hown3.out _ _ (ctL q x) rfl Hu.out ?d3 ?d4 ?d5 ?_))
        case d3 => unfold maxLen; omega
        case d4 => omega
        case d5 => omega
        intro v' w5 hown' hgrow hat
        rw [← gtE.flat_app, ← List.length_append, ← Hst.out] at hown'
        have Hb5 := Lib.hid (Hb3.out.grown hgrow (by omega) (fun q hq => by have := (Hown3.out.lt q hq).1; omega))
        have Hown5 := Lib.hid hown'
        have Hall5 := Lib.hid (Hyes.out (by trivial))
        clear hown' hgrow hat
        go_wp2_with fail
        go_roundg (L.length - (j + 1))
        case measure => omega
        case rel => exact ⟨j + 1, rfl, by omega, by go_num, Hall5, Hown5, Hb5⟩
    · obtain rfl : j = L.length := by omega
      rw [List.take_length] at Hown
      have Hsl := Lib.hid (Enc.Sl.of_own (E := gtE) Hown.out)
      obtain ⟨pq, cq, rfl, -, -⟩ := id Hsl.out
      have hall := Hall.out
      rw [List.take_length] at hall
      have e2 : ctRs q L = ctLL q L := by unfold ctRs; rw [hall]; rfl
      obtain rfl := HT.out.trans hall
      obtain rfl := HR0.out.trans e2
      clear hall e2 Hall
      go_wp2_with fail
      go_returns
      exact ⟨_, rfl, Hsl.out, Hb.out⟩
end Go.Proofs.YtlmiebeffdcfhaaGreat
