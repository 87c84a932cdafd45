/- FormatDOmega of the model. -/
import Derived.Test.YtggmcahglcnleaaDoorTxS
import Derived.Test.YtggmcahglcnleaaDoorDwY
import Derived.Test.YtggmcahglcnleaaDoorDwS
namespace Go.Proofs.YtggmcahglcnleaaDoor
open Go.RowKit Go.Lib
attribute [local irreducible] World.cell?
set_option maxRecDepth 100000 in
set_option maxHeartbeats 1600000 in
theorem sformat_no (x : Dw) (w : World) (hx : ¬ x.ok) :
    Calls Tryd.prog 12 #[(.agg #[.int .i64 x.n.a, .int .i64 x.n.b, .int .i64 x.n.c, .int .i64 x.n.d, .int .i64 x.e])] w fun e w' => e = .returned (.string (toB [])) ∧ Below w.heap.size w w' := by
  have Hx := Lib.hid (svalidD x)
  rw [okD_false.2 hx] at Hx
  clear hx
  have Hr0_0 := Lib.hid (heap_alloc_new w (.cells #[.int .i64 x.n.a, .int .i64 x.n.b, .int .i64 x.n.c, .int .i64 x.n.d, .int .i64 x.e] 27))
  go_enter Tryd.func12, Tryd.ntmps12
  go_wp2_with fail
  refine (Hx.out _).mono ?_
  rintro e w1 ⟨rfl, hb1⟩
  have hr0 := below_blk hb1 (lt_of_block Hr0_0.out) Hr0_0.out
  have zg0 := lt_of_block hr0
  obtain ⟨c0_0, c0_1, c0_2, c0_3, c0_4⟩ := blk_cells5 hr0
  have Hr1_0 := Lib.hid hr0
  have hb1 := below_up (B := w.heap.size) (w := w) (by go_grown) hb1 (by simp <;> omega)
  have Hp1 := Lib.hid hb1
  have Hb1 := Lib.hid hb1
  clear hr0
  clear hb1
  go_wp2_with fail
  go_returns
  exact ⟨rfl, by have := Hp1.out; go_grown⟩
set_option maxRecDepth 100000 in
set_option maxHeartbeats 3200000 in
theorem sformat_yes (x : Dw) (w : World) (hx : x.ok) :
    Calls Tryd.prog 12 #[(.agg #[.int .i64 x.n.a, .int .i64 x.n.b, .int .i64 x.n.c, .int .i64 x.n.d, .int .i64 x.e])] w fun e w' => e = .returned (.string (toB (txt x))) ∧ Below w.heap.size w w' := by
  have Hx := Lib.hid (svalidD x)
  rw [okD_true.2 hx] at Hx
  obtain ⟨⟨a0, a1⟩, ⟨b0, b1⟩, ⟨cc0, cc1⟩, ⟨d0, d1⟩, e0, e1⟩ := ok_bounds hx
  have Ha := Lib.hid (fun w => sfmt x.n.a w (by omega) (by omega))
  have Hb := Lib.hid (fun w => sfmt x.n.b w (by omega) (by omega))
  have Hc := Lib.hid (fun w => sfmt x.n.c w (by omega) (by omega))
  have Hd := Lib.hid (fun w => sfmt x.n.d w (by omega) (by omega))
  have He := Lib.hid (fun w => sfmt x.e w (by omega) (by omega))
  have la := itoa_len x.n.a (by omega) (by omega)
  have lb := itoa_len x.n.b (by omega) (by omega)
  have lc := itoa_len x.n.c (by omega) (by omega)
  have ld := itoa_len x.n.d (by omega) (by omega)
  have le := itoa_len x.e (by omega) (by omega)
  have Hj := Lib.hid (fun W => sjoin4 (itoa x.n.a) (itoa x.n.b) (itoa x.n.c) (itoa x.n.d) (by omega) (by omega) (by omega) (by omega) W)
  have Hcat := Lib.hid (show toB (itoa x.n.a ++ 44 :: (itoa x.n.b ++ 44 :: (itoa x.n.c ++ 44 :: itoa x.n.d))) ++ ByteArray.mk #[47] ++ toB (itoa x.e) = toB (txt x) by
    apply ByteArray.ext
    simp [toB, txt, pre])
  have hz1 : (toB (itoa x.n.a ++ 44 :: (itoa x.n.b ++ 44 :: (itoa x.n.c ++ 44 :: itoa x.n.d)))).size ≤ 200 := by rw [toB_size]; simp only [List.length_append, List.length_cons]; omega
  have hz2 : (toB (itoa x.e)).size ≤ 21 := by rw [toB_size]; exact le
  have h9 : (ByteArray.mk #[47]).size = 1 := rfl
  have g1 : (toB (itoa x.n.a ++ 44 :: (itoa x.n.b ++ 44 :: (itoa x.n.c ++ 44 :: itoa x.n.d)))).size + 1 ≤ 9223372036854775807 := by omega
  have g2 : (toB (itoa x.n.a ++ 44 :: (itoa x.n.b ++ 44 :: (itoa x.n.c ++ 44 :: itoa x.n.d)))).size ≤ 9223372036854775806 := by omega
  have g3 : (toB (itoa x.n.a ++ 44 :: (itoa x.n.b ++ 44 :: (itoa x.n.c ++ 44 :: itoa x.n.d)))).size + (ByteArray.mk #[47]).size ≤ 9223372036854775807 := by omega
  have g4 : ((toB (itoa x.n.a ++ 44 :: (itoa x.n.b ++ 44 :: (itoa x.n.c ++ 44 :: itoa x.n.d)))) ++ ByteArray.mk #[47]).size + (toB (itoa x.e)).size ≤ 9223372036854775807 := by rw [ByteArray.size_append]; omega
  have g5 : (toB (itoa x.n.a ++ 44 :: (itoa x.n.b ++ 44 :: (itoa x.n.c ++ 44 :: itoa x.n.d)))).size + 1 + (toB (itoa x.e)).size ≤ 9223372036854775807 := by omega
  have g6 : (toB (itoa x.n.a ++ 44 :: (itoa x.n.b ++ 44 :: (itoa x.n.c ++ 44 :: itoa x.n.d)))).size + (ByteArray.mk #[47]).size + (toB (itoa x.e)).size ≤ 9223372036854775807 := by omega
  have g7 : ¬ 9223372036854775807 < (toB (itoa x.n.a ++ 44 :: (itoa x.n.b ++ 44 :: (itoa x.n.c ++ 44 :: itoa x.n.d)))).size + 1 := by omega
  have g8 : ¬ 9223372036854775807 < (toB (itoa x.n.a ++ 44 :: (itoa x.n.b ++ 44 :: (itoa x.n.c ++ 44 :: itoa x.n.d)))).size + 1 + (toB (itoa x.e)).size := by omega
  have g9 : ¬ 9223372036854775807 < (toB (itoa x.n.a ++ 44 :: (itoa x.n.b ++ 44 :: (itoa x.n.c ++ 44 :: itoa x.n.d)))).size + (ByteArray.mk #[47]).size := by omega
  clear h9
  clear hx a0 a1 b0 b1 cc0 cc1 d0 d1 e0 e1 la lb lc ld le
  generalize (itoa x.n.a ++ 44 :: (itoa x.n.b ++ 44 :: (itoa x.n.c ++ 44 :: itoa x.n.d))) = P at *
  generalize itoa x.n.a = A at *
  generalize itoa x.n.b = B at *
  generalize itoa x.n.c = C at *
  generalize itoa x.n.d = D at *
  generalize itoa x.e = E at *
  have Hr0_0 := Lib.hid (heap_alloc_new w (.cells #[.int .i64 x.n.a, .int .i64 x.n.b, .int .i64 x.n.c, .int .i64 x.n.d, .int .i64 x.e] 27))
  go_enter Tryd.func12, Tryd.ntmps12
  go_wp2_with fail
  refine (Hx.out _).mono ?_
  rintro e w1 ⟨rfl, hb1⟩
  have hr0 := below_blk hb1 (lt_of_block Hr0_0.out) Hr0_0.out
  have zg0 := lt_of_block hr0
  obtain ⟨c0_0, c0_1, c0_2, c0_3, c0_4⟩ := blk_cells5 hr0
  have Hr1_0 := Lib.hid hr0
  have hb1 := below_up (B := w.heap.size) (w := w) (by go_grown) hb1 (by simp <;> omega)
  have Hp1 := Lib.hid hb1
  have Hb1 := Lib.hid hb1
  clear hr0
  clear hb1
  go_upto_region 3 with fail
  go_cut [2] (fun s2 wx => s2 = .string (toB (txt x)) ∧ D1 w w.heap.size x wx)
  case first =>
    have hS3 : D1 w w.heap.size x w1 := ⟨c0_0, c0_1, c0_2, c0_3, c0_4, zg0, Hp1.out⟩
    have hq : w.heap.size + 1 ≤ w1.heap.size := by omega
    have hn3 : w.heap.size < w.heap.size + 1 := by omega
    have hw3 : w.heap.size ≤ w.heap.size + 1 := by omega
    go_region_held3 (fun w' => w'.cell? ⟨w.heap.size, 0, none⟩ = some (.int .i64 x.n.a) ∧ w'.cell? ⟨w.heap.size, 1, none⟩ = some (.int .i64 x.n.b) ∧ w'.cell? ⟨w.heap.size, 2, none⟩ = some (.int .i64 x.n.c) ∧ w'.cell? ⟨w.heap.size, 3, none⟩ = some (.int .i64 x.n.d) ∧ w'.cell? ⟨w.heap.size, 4, none⟩ = some (.int .i64 x.e) ∧ w.heap.size < w'.heap.size ∧ Below w.heap.size w w') (first | (show D1 w w.heap.size x _; (with_reducible exact hS3.drew)) | (show D1 w w.heap.size x _; (with_reducible exact (hS3.alloc _).drew)) | (show D1 w w.heap.size x _; (with_reducible refine D1.below ?_ hbR); first | assumption | exact ⟨by assumption, by assumption, by assumption, by assumption, by assumption, by assumption, by assumption⟩) | (show D1 w w.heap.size x _; (with_reducible refine D1.alloc ?_ _); first | assumption | exact ⟨by assumption, by assumption, by assumption, by assumption, by assumption, by assumption, by assumption⟩) | (show D1 w w.heap.size x _; (with_reducible refine D1.realloc (p := .cells #[.int .i64 0, .int .i64 0, .int .i64 0, .int .i64 0, .int .i64 0] 27) ?_ hq hn3 hw3); first | assumption | exact ⟨by assumption, by assumption, by assumption, by assumption, by assumption, by assumption, by assumption⟩) | (show D1 w w.heap.size x _; (with_reducible refine D1.set5 (lim := w.heap.size + 1) ?_ ?_ hn3 hw3); (first | assumption | exact ⟨by assumption, by assumption, by assumption, by assumption, by assumption, by assumption, by assumption⟩); (first | assumption | exact Nat.le_refl _)))
      (first | (go_at_call 29; (first | (with_reducible refine (Ha.out _).mono ?_) | (with_reducible refine (Hb.out _).mono ?_) | (with_reducible refine (Hc.out _).mono ?_) | (with_reducible refine (Hd.out _).mono ?_) | (with_reducible refine (He.out _).mono ?_)); rintro e wR ⟨rfl, hbR⟩; (first | (have hq := Nat.le_trans hq hbR.size) | (have hq : w.heap.size + 1 ≤ wR.heap.size := by have := hbR.size; simpa using this) | (have hq : w.heap.size + 1 ≤ wR.heap.size := by have := hbR.size; simp at this; exact Nat.le_of_succ_le this) | (have hq := Nat.le_trans hq (Nat.le_of_succ_le (by have := hbR.size; simpa using this)))); obtain ⟨hcR, hfR, hzR⟩ := bgrow hbR; (first | (have zg := hzR _ zg) | (have zg := hzR _ (lt_alloc _ _); try simp at zg) | skip)) | (go_at_call 28; (first | (with_reducible refine (Hj.out _).mono ?_)); rintro e wR ⟨rfl, hbR⟩; (first | (have hq := Nat.le_trans hq hbR.size) | (have hq : w.heap.size + 1 ≤ wR.heap.size := by have := hbR.size; simpa using this) | (have hq : w.heap.size + 1 ≤ wR.heap.size := by have := hbR.size; simp at this; exact Nat.le_of_succ_le this) | (have hq := Nat.le_trans hq (Nat.le_of_succ_le (by have := hbR.size; simpa using this)))); obtain ⟨hcR, hfR, hzR⟩ := bgrow hbR; (first | (have zg := hzR _ zg) | (have zg := hzR _ (lt_alloc _ _); try simp at zg) | skip)))
    all_goals go_wp2_with fail
    all_goals go_meet
    all_goals refine ⟨congrArg Value.string Hcat.out, ?_⟩
    all_goals first | assumption | exact ⟨by assumption, by assumption, by assumption, by assumption, by assumption, by assumption, by assumption⟩
  case rest =>
  obtain ⟨rfl, hS⟩ := hcut
  have Hl := Lib.hid hS.low
  go_wp2_with fail
  go_returns
  exact ⟨rfl, Hl.out⟩
theorem sformat_any (x : Dw) (w : World) :
    Calls Tryd.prog 12 #[(.agg #[.int .i64 x.n.a, .int .i64 x.n.b, .int .i64 x.n.c, .int .i64 x.n.d, .int .i64 x.e])] w fun e w' => e = .returned (.string (textD x)) ∧ Below w.heap.size w w' := by
  by_cases h : x.ok
  · rw [textD_of h]; exact sformat_yes x w h
  · rw [textD_no h]; exact sformat_no x w h
end Go.Proofs.YtggmcahglcnleaaDoor
