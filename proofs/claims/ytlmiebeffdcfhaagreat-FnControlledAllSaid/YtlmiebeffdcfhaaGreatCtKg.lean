/- The program's ControlledGate, ControlledGates. -/
import Derived.Test.YtlmiebeffdcfhaaGreatCtKa
import Derived.Test.YtlmiebeffdcfhaaGreatBaseC02
namespace Go.Proofs.YtlmiebeffdcfhaaGreat
open Go.RowKit
theorem AR.of_own {w : World} {base g cap : Nat} {l : List Int} (h : w.ownsRow base 3 1 (.slice (some ⟨g, 0, none⟩) l.length cap) l.length (l.map (Value.int .i64))) : AR w g l ∧ l.length ≤ cap := by
  rcases h.2 with ⟨h, _⟩ | ⟨g', cap', cur, hv, hb, hg, hn, hc, hs, ht⟩
  · cases h
  · injection hv with h1 h2 h3
    injection h1 with h1
    injection h1 with h1
    subst h1 h3
    exact ⟨⟨cur, _, hg, by rw [← ht, Nat.mul_one]⟩, hn⟩
attribute [local irreducible] World.cell?
set_option maxRecDepth 100000 in
set_option maxHeartbeats 3200000 in
theorem igqs2 (g : Gt) (w : World) : Calls Tryz.prog 28 #[(.agg #[.int .i64 g.k, .int .i64 g.a, .int .i64 g.b, .int .i64 g.c])] w fun e w' => e = .returned (.slice (some ⟨w.heap.size + 1, 0, none⟩) (ar g.k) 3) ∧ w'.ownsRow (w.heap.size + 1) 3 1 (.slice (some ⟨w.heap.size + 1, 0, none⟩) (ar g.k) 3) (ar g.k) ((gqs g).map (Value.int .i64)) ∧ Below w.heap.size w w' := by
  have Ha := Lib.hid (fun w => iar0 g.k w)
  have HX := Lib.hid (heap_alloc_new w (.cells #[.int .i64 g.k, .int .i64 g.a, .int .i64 g.b, .int .i64 g.c] 25))
  have hb0 : Below w.heap.size w (w.alloc (.cells #[.int .i64 g.k, .int .i64 g.a, .int .i64 g.b, .int .i64 g.c] 25)) := by go_grown
  obtain ⟨c0, c1, c2, c3⟩ := blk_cells HX.out
  have hS : GB w w.heap.size g (w.alloc (.cells #[.int .i64 g.k, .int .i64 g.a, .int .i64 g.b, .int .i64 g.c] 25)) := ⟨c0, c1, c2, c3, by simp, hb0⟩
  have h3 := ar_le g.k
  have hR : (((w.alloc (.cells #[.int .i64 g.k, .int .i64 g.a, .int .i64 g.b, .int .i64 g.c] 25)).alloc (.cells #[.int .i64 g.a, .int .i64 g.b, .int .i64 g.c] 3)).drew).ownsRow (w.heap.size + 1) 3 1 (.slice (some ⟨w.heap.size + 1, 0, none⟩) (ar g.k) 3) (ar g.k) ((gqs g).map (Value.int .i64)) := by
    have h1 : ((w.alloc (.cells #[.int .i64 g.k, .int .i64 g.a, .int .i64 g.b, .int .i64 g.c] 25)).alloc (.cells #[.int .i64 g.a, .int .i64 g.b, .int .i64 g.c] 3)).drew.heap[w.heap.size + 1]? = some (.cells #[.int .i64 g.a, .int .i64 g.b, .int .i64 g.c] 3 (0, 0)) := by
      have h := heap_alloc_new (w.alloc (.cells #[.int .i64 g.k, .int .i64 g.a, .int .i64 g.b, .int .i64 g.c] 25)) (.cells #[.int .i64 g.a, .int .i64 g.b, .int .i64 g.c] 3)
      rw [show (w.alloc (.cells #[.int .i64 g.k, .int .i64 g.a, .int .i64 g.b, .int .i64 g.c] 25)).heap.size = w.heap.size + 1 by simp] at h
      exact h
    refine ⟨by rw [List.length_map, gqs_len, Nat.mul_one], .inr ⟨_, 3, _, rfl, Nat.le_refl _, h1, h3, by unfold maxLen; omega, rfl, ?_⟩⟩
    rw [Nat.mul_one]
    unfold gqs
    rw [List.map_take]
    rfl
  have hV := Lib.hid hR
  have hB := Lib.hid (show Below w.heap.size w (((w.alloc (.cells #[.int .i64 g.k, .int .i64 g.a, .int .i64 g.b, .int .i64 g.c] 25)).alloc (.cells #[.int .i64 g.a, .int .i64 g.b, .int .i64 g.c] 3)).drew) by go_grown)
  clear hR
  generalize ar g.k = t at *
  have ht : (t : Int) ≤ 3 := by omega
  clear hb0
  go_enter Tryz.func28, Tryz.ntmps28
  go_upto_region 1 with fail
  go_region_held3 (fun w' => w'.cell? ⟨w.heap.size, 0, none⟩ = some (.int .i64 g.k) ∧ w'.cell? ⟨w.heap.size, 1, none⟩ = some (.int .i64 g.a) ∧ w'.cell? ⟨w.heap.size, 2, none⟩ = some (.int .i64 g.b) ∧ w'.cell? ⟨w.heap.size, 3, none⟩ = some (.int .i64 g.c) ∧ w.heap.size < w'.heap.size ∧ Below w.heap.size w w') (first | (show GB _ _ _ _; (with_reducible exact hS.drew)) | (show GB _ _ _ _; (with_reducible exact (GB.alloc hS).drew)) | (show GB _ _ _ _; exact (GB.alloc hS).drew) | (show GB _ _ _ _; (with_reducible refine GB.alloc ?_); first | assumption | exact ⟨by assumption, by assumption, by assumption, by assumption, by assumption, by assumption⟩))
    (first | (go_at_call 63; refine (Ha.out _).mono ?_; rintro e wR ⟨rfl, rfl⟩))
  all_goals go_wp2_with fail
  all_goals go_ret
  all_goals exact ⟨rfl, hV.out, hB.out⟩
set_option maxRecDepth 100000 in
set_option maxHeartbeats 800000 in
theorem icby (q : Int) (w : World) : Calls Tryz.prog 29 #[.int .i64 q] w fun e w' => e = .returned (.func (.func 66) #[] #[.pointer (some ⟨w.heap.size, 0, none⟩)]) ∧ w'.heap[w.heap.size]? = some (.cells #[.int .i64 q] 3 (0, 0)) ∧ Below w.heap.size w w' := by
  have HX := Lib.hid (heap_alloc_new w (.cells #[.int .i64 q] 3))
  go_enter Tryz.func29, Tryz.ntmps29
  go_wp2_with fail
  go_ret
  exact ⟨rfl, HX.out, by go_grown⟩
theorem ctL_pos {q : Int} {g : Gt} (h : ctK g.k = true) : 0 < (ctL q g).length := by
  have h := of_decide_eq_true h
  unfold ctL
  (repeat' split) <;> first | (simp; done) | omega
/-- The closure, at a gate that may be controlled. -/
theorem ictq (q : Int) (g : Gt) (Bq : Nat) (w : World) (hq : w.heap[Bq]? = some (.cells #[.int .i64 q] 3 (0, 0))) (hK : ctK g.k = true) :
    Calls Tryz.prog 66 #[(.agg #[.int .i64 g.k, .int .i64 g.a, .int .i64 g.b, .int .i64 g.c]), .pointer (some ⟨Bq, 0, none⟩)] w fun e w' => ∃ b c, e = .returned (.slice (some ⟨b, 0, none⟩) (ctL q g).length c) ∧ gtE.Sl w' w.heap.size (.slice (some ⟨b, 0, none⟩) (ctL q g).length c) (ctL q g) ∧ Below w.heap.size w w' := by
  have key : Calls Tryz.prog 66 #[(.agg #[.int .i64 g.k, .int .i64 g.a, .int .i64 g.b, .int .i64 g.c]), .pointer (some ⟨Bq, 0, none⟩)] w fun e w' => ∃ v, e = .returned v ∧ gtE.Sl w' w.heap.size v (ctL q g) ∧ Below w.heap.size w w' := by
    have hK2 := of_decide_eq_true hK
    obtain ⟨k, a, b, c⟩ := g
    simp only at hK2
    rcases (show k = 1 ∨ k = 2 ∨ k = 3 ∨ k = 4 ∨ k = 5 ∨ k = 6 ∨ k = 9 ∨ k = 10 ∨ k = 11 by omega) with rfl | rfl | rfl | rfl | rfl | rfl | rfl | rfl | rfl
    · exact ctq_1 q a b c Bq w hq
    · exact ctq_2 q a b c Bq w hq
    · exact ctq_3 q a b c Bq w hq
    · exact ctq_4 q a b c Bq w hq
    · exact ctq_5 q a b c Bq w hq
    · exact ctq_6 q a b c Bq w hq
    · exact ctq_9 q a b c Bq w hq
    · exact ctq_10 q a b c Bq w hq
    · exact ctq_11 q a b c Bq w hq
  refine key.mono ?_
  rintro e w' ⟨v, rfl, h, hb⟩
  obtain ⟨p, c, rfl, hc, hr⟩ := id h
  obtain ⟨b, rfl, _, _⟩ := hr (ctL_pos hK)
  exact ⟨b, c, rfl, h, hb⟩
theorem ictq_no (q : Int) (g : Gt) (Bq : Nat) (w : World) (hq : w.heap[Bq]? = some (.cells #[.int .i64 q] 3 (0, 0))) (hk : 1 ≤ g.k ∧ g.k ≤ 12) (hK : ctK g.k = false) :
    Calls Tryz.prog 66 #[(.agg #[.int .i64 g.k, .int .i64 g.a, .int .i64 g.b, .int .i64 g.c]), .pointer (some ⟨Bq, 0, none⟩)] w fun e w' => e = .returned (.slice none 0 0) ∧ Below w.heap.size w w' := by
  have hK2 := of_decide_eq_false hK
  obtain ⟨k, a, b, c⟩ := g
  simp only at hK2 hk
  rcases (show k = 7 ∨ k = 8 ∨ k = 12 by omega) with rfl | rfl | rfl
  · exact ctq_7 q a b c Bq w hq
  · exact ctq_8 q a b c Bq w hq
  · exact ctq_12 q a b c Bq w hq
set_option maxRecDepth 100000 in
set_option maxHeartbeats 1600000 in
theorem ictG_n1 (q : Int) (g : Gt) (w : World) (hv : gtB g 4 = false) : Calls Tryz.prog 8 #[.int .i64 q, (.agg #[.int .i64 g.k, .int .i64 g.a, .int .i64 g.b, .int .i64 g.c])] w fun e w' => ∃ v, e = .returned (.tuple #[v, .bool false]) ∧ gtE.Sl w' w.heap.size v [] ∧ Below w.heap.size w w' := by
  have H1 := Lib.hid (fun W => ivalidG g 4 W (by omega) (by omega))
  rw [hv] at H1
  have HX := Lib.hid (heap_alloc_new w (.cells #[.int .i64 g.k, .int .i64 g.a, .int .i64 g.b, .int .i64 g.c] 25))
  have Hb := Lib.hid (show Below w.heap.size w (w.alloc (.cells #[.int .i64 g.k, .int .i64 g.a, .int .i64 g.b, .int .i64 g.c] 25)) by go_grown)
  obtain ⟨c0, c1, c2, c3⟩ := blk_cells HX.out
  have hxl := lt_of_block HX.out
  clear hv
  go_enter Tryz.func8, Tryz.ntmps8
  go_wp2_with fail
  refine (H1.out _).mono ?_
  rintro e w1 ⟨rfl, hb1⟩
  have Hb := Lib.hid (below_nx Hb.out hb1)
  clear hb1
  go_wp2_with fail
  go_returns
  exact ⟨_, rfl, Enc.Sl.nil, Hb.out⟩
set_option maxRecDepth 100000 in
set_option maxHeartbeats 3200000 in
theorem ictG_n2 (q : Int) (g : Gt) (w : World) (hv : gtB g 4 = true) (hd : dq (gqs g ++ [q]) 4 = false) : Calls Tryz.prog 8 #[.int .i64 q, (.agg #[.int .i64 g.k, .int .i64 g.a, .int .i64 g.b, .int .i64 g.c])] w fun e w' => ∃ v, e = .returned (.tuple #[v, .bool false]) ∧ gtE.Sl w' w.heap.size v [] ∧ Below w.heap.size w w' := by
  obtain ⟨i0, hi, hz0, hz1, hz2⟩ := info_parts infoInt
  have H1 := Lib.hid (fun W => ivalidG g 4 W (by omega) (by omega))
  rw [hv] at H1
  have H2 := Lib.hid (fun W => igqs2 g W)
  have hl3 := gqs_row g
  have hla : (gqs g ++ [q]).length = ar g.k + 1 := by rw [List.length_append, gqs_len]; rfl
  have h3 := ar_le g.k
  have H4 := Lib.hid (fun b cap W h hc => idist b cap (gqs g ++ [q]) 4 W h hc (by rw [hla]; omega))
  rw [hd, hla] at H4
  have hfl : (gqs g).map (Value.int .i64) ++ intE.flat [q] = (gqs g ++ [q]).map (Value.int .i64) := by rw [List.map_append]; rfl
  have Hfl := Lib.hid hfl
  have Hla := Lib.hid hla
  clear hfl hla
  have HX := Lib.hid (heap_alloc_new w (.cells #[.int .i64 g.k, .int .i64 g.a, .int .i64 g.b, .int .i64 g.c] 25))
  have Hb := Lib.hid (show Below w.heap.size w (w.alloc (.cells #[.int .i64 g.k, .int .i64 g.a, .int .i64 g.b, .int .i64 g.c] 25)) by go_grown)
  obtain ⟨c0, c1, c2, c3⟩ := blk_cells HX.out
  have hxl := lt_of_block HX.out
  clear hv hd hl3
  generalize gqs g = l at *
  generalize ar g.k = t at *
  go_enter Tryz.func8, Tryz.ntmps8
  go_wp2_with fail
  refine (H1.out _).mono ?_
  rintro e w1 ⟨rfl, hb1⟩
  have HX := Lib.hid (below_blk hb1 (lt_of_block HX.out) HX.out)
  have Hb := Lib.hid (below_nx Hb.out hb1)
  clear hb1 H1 c0 c1 c2 c3 hxl
  have hw1 := lt_of_block HX.out
  obtain ⟨c0, c1, c2, c3⟩ := blk_cells HX.out
  have hxl := lt_of_block HX.out
  go_wp2_with fail
  refine (H2.out _).mono ?_
  rintro e w2 ⟨rfl, hown2, hb2⟩
  have HX := Lib.hid (alloc_blk (.cells #[.int .i64 q] 3) (below_blk hb2 (lt_of_block HX.out) HX.out))
  have hz2' := hb2.size
  have Hb2 := Lib.hid (below_nx Hb.out hb2)
  have hs2 := Hb2.out.size
  have Hb := Lib.hid (Hb2.out.alloc hs2 (.cells #[.int .i64 q] 3))
  have Hown := Lib.hid (hown2.alloc (.cells #[.int .i64 q] 3))
  have Hnew := Lib.hid (show intE.Sl (w2.alloc (.cells #[.int .i64 q] 3)) w2.heap.size (.slice (some ⟨w2.heap.size, 0, none⟩) 1 1) [q] from Enc.Sl.mk rfl (Nat.le_refl _) (Nat.le_refl _) ⟨_, heap_alloc_new w2 _, rfl⟩)
  have hbl2 : w1.heap.size + 1 < w2.heap.size := by have := (hown2.lt _ rfl).2; exact this
  clear hb2 hown2 H2 c0 c1 c2 c3 hxl Hb2
  go_wp2_with (first
    | (at_builtin; refine wpList_append_slW (E := intE) (by rfl) _ _ 52 rfl (w1.heap.size + 1) i0 (.int .i64 0) 8 Tryz.underlying52 hi hz0 hz1 hz2 rfl (by decide) (.slice (some ⟨w1.heap.size + 1, 0, none⟩) t 3) t (l.map (Value.int .i64)) rfl Hown.out w2.heap.size _ [q] rfl Hnew.out ?d3 ?d4 ?d5 ?_))
  case d3 => unfold maxLen; simp; omega
  case d4 => simp; omega
  case d5 => simp; omega
  intro v' w3 hown' hgrow hat
  have hne : some w.heap.size ≠ (Value.slice (some ⟨w1.heap.size + 1, 0, none⟩) t 3).ownBlock := fun e => by have := (Hown.out.lt _ e.symm).1; have := Hb.out.size; have := lt_of_block HX.out; simp [Value.ownBlock] at e; omega
  have HX3 := Lib.hid (grown_blk hgrow HX.out hne)
  have Hb3 := Lib.hid (Hb.out.grown hgrow (by have := Hb.out.size; omega) (fun k hk => by have := (Hown.out.lt k hk).1; omega))
  rw [Hfl.out] at hown'
  obtain ⟨gb, cb, rfl⟩ : ∃ gb cb, v' = .slice (some ⟨gb, 0, none⟩) (t + 1) cb := by
    rcases hown'.2 with ⟨_, h⟩ | ⟨g, cap, cur, h, _⟩
    · simp at h
    · exact ⟨_, _, h⟩
  have hAR := AR.of_own (l := l ++ [q]) (by rw [Hla.out]; exact hown')
  rw [Hla.out] at hAR
  have HAR := Lib.hid hAR
  clear hown' hgrow hat hne hAR Hown Hnew Hb HX
  go_wp2_with fail
  refine (H4.out gb cb w3 HAR.out.1 HAR.out.2).mono ?_
  rintro e w3' ⟨rfl, rfl⟩
  go_wp2_with fail
  go_returns
  exact ⟨_, rfl, Enc.Sl.nil, Hb3.out⟩
set_option maxRecDepth 100000 in
set_option maxHeartbeats 3200000 in
theorem ictG_n3 (q : Int) (g : Gt) (w : World) (hv : gtB g 4 = true) (hd : dq (gqs g ++ [q]) 4 = true) (hK : ctK g.k = false) : Calls Tryz.prog 8 #[.int .i64 q, (.agg #[.int .i64 g.k, .int .i64 g.a, .int .i64 g.b, .int .i64 g.c])] w fun e w' => ∃ v, e = .returned (.tuple #[v, .bool false]) ∧ gtE.Sl w' w.heap.size v [] ∧ Below w.heap.size w w' := by
  have hk12 := (gtB_parts hv).2.1
  have H5 := Lib.hid (fun Bq W h => ictq_no q g Bq W h hk12 hK)
  clear hK hk12
  obtain ⟨i0, hi, hz0, hz1, hz2⟩ := info_parts infoInt
  have H1 := Lib.hid (fun W => ivalidG g 4 W (by omega) (by omega))
  rw [hv] at H1
  have H2 := Lib.hid (fun W => igqs2 g W)
  have hl3 := gqs_row g
  have hla : (gqs g ++ [q]).length = ar g.k + 1 := by rw [List.length_append, gqs_len]; rfl
  have h3 := ar_le g.k
  have H4 := Lib.hid (fun b cap W h hc => idist b cap (gqs g ++ [q]) 4 W h hc (by rw [hla]; omega))
  rw [hd, hla] at H4
  have hfl : (gqs g).map (Value.int .i64) ++ intE.flat [q] = (gqs g ++ [q]).map (Value.int .i64) := by rw [List.map_append]; rfl
  have Hfl := Lib.hid hfl
  have Hla := Lib.hid hla
  clear hfl hla
  have HX := Lib.hid (heap_alloc_new w (.cells #[.int .i64 g.k, .int .i64 g.a, .int .i64 g.b, .int .i64 g.c] 25))
  have Hb := Lib.hid (show Below w.heap.size w (w.alloc (.cells #[.int .i64 g.k, .int .i64 g.a, .int .i64 g.b, .int .i64 g.c] 25)) by go_grown)
  obtain ⟨c0, c1, c2, c3⟩ := blk_cells HX.out
  have hxl := lt_of_block HX.out
  clear hv hd hl3
  generalize gqs g = l at *
  generalize ar g.k = t at *
  go_enter Tryz.func8, Tryz.ntmps8
  go_wp2_with fail
  refine (H1.out _).mono ?_
  rintro e w1 ⟨rfl, hb1⟩
  have HX := Lib.hid (below_blk hb1 (lt_of_block HX.out) HX.out)
  have Hb := Lib.hid (below_nx Hb.out hb1)
  clear hb1 H1 c0 c1 c2 c3 hxl
  have hw1 := lt_of_block HX.out
  obtain ⟨c0, c1, c2, c3⟩ := blk_cells HX.out
  have hxl := lt_of_block HX.out
  go_wp2_with fail
  refine (H2.out _).mono ?_
  rintro e w2 ⟨rfl, hown2, hb2⟩
  have HX := Lib.hid (alloc_blk (.cells #[.int .i64 q] 3) (below_blk hb2 (lt_of_block HX.out) HX.out))
  have hz2' := hb2.size
  have Hb2 := Lib.hid (below_nx Hb.out hb2)
  have hs2 := Hb2.out.size
  have Hb := Lib.hid (Hb2.out.alloc hs2 (.cells #[.int .i64 q] 3))
  have Hown := Lib.hid (hown2.alloc (.cells #[.int .i64 q] 3))
  have Hnew := Lib.hid (show intE.Sl (w2.alloc (.cells #[.int .i64 q] 3)) w2.heap.size (.slice (some ⟨w2.heap.size, 0, none⟩) 1 1) [q] from Enc.Sl.mk rfl (Nat.le_refl _) (Nat.le_refl _) ⟨_, heap_alloc_new w2 _, rfl⟩)
  have hbl2 : w1.heap.size + 1 < w2.heap.size := by have := (hown2.lt _ rfl).2; exact this
  clear hb2 hown2 H2 c0 c1 c2 c3 hxl Hb2
  go_wp2_with (first
    | (at_builtin; refine wpList_append_slW (E := intE) (by rfl) _ _ 52 rfl (w1.heap.size + 1) i0 (.int .i64 0) 8 Tryz.underlying52 hi hz0 hz1 hz2 rfl (by decide) (.slice (some ⟨w1.heap.size + 1, 0, none⟩) t 3) t (l.map (Value.int .i64)) rfl Hown.out w2.heap.size _ [q] rfl Hnew.out ?d3 ?d4 ?d5 ?_))
  case d3 => unfold maxLen; simp; omega
  case d4 => simp; omega
  case d5 => simp; omega
  intro v' w3 hown' hgrow hat
  have hne : some w.heap.size ≠ (Value.slice (some ⟨w1.heap.size + 1, 0, none⟩) t 3).ownBlock := fun e => by have := (Hown.out.lt _ e.symm).1; have := Hb.out.size; have := lt_of_block HX.out; simp [Value.ownBlock] at e; omega
  have HX3 := Lib.hid (grown_blk hgrow HX.out hne)
  have Hb3 := Lib.hid (Hb.out.grown hgrow (by have := Hb.out.size; omega) (fun k hk => by have := (Hown.out.lt k hk).1; omega))
  rw [Hfl.out] at hown'
  obtain ⟨gb, cb, rfl⟩ : ∃ gb cb, v' = .slice (some ⟨gb, 0, none⟩) (t + 1) cb := by
    rcases hown'.2 with ⟨_, h⟩ | ⟨g, cap, cur, h, _⟩
    · simp at h
    · exact ⟨_, _, h⟩
  have hAR := AR.of_own (l := l ++ [q]) (by rw [Hla.out]; exact hown')
  rw [Hla.out] at hAR
  have HAR := Lib.hid hAR
  clear hown' hgrow hat hne hAR Hown Hnew Hb HX
  go_wp2_with fail
  refine (H4.out gb cb w3 HAR.out.1 HAR.out.2).mono ?_
  rintro e w3' ⟨rfl, rfl⟩
  obtain ⟨c0, c1, c2, c3⟩ := blk_cells HX3.out
  have hxl := lt_of_block HX3.out
  have hS : GBx w3 w.heap.size g w3 := ⟨c0, c1, c2, c3, hxl, Below.refl _ _⟩
  have HbD := Lib.hid (show Below w.heap.size w w3.drew from Hb3.out.drew)
  have hs3 := Hb3.out.size
  go_upto_region 3 with fail
  go_region_held3 (fun w' => w'.cell? ⟨w.heap.size, 0, none⟩ = some (.int .i64 g.k) ∧ w'.cell? ⟨w.heap.size, 1, none⟩ = some (.int .i64 g.a) ∧ w'.cell? ⟨w.heap.size, 2, none⟩ = some (.int .i64 g.b) ∧ w'.cell? ⟨w.heap.size, 3, none⟩ = some (.int .i64 g.c) ∧ w.heap.size < w'.heap.size ∧ Below w3.heap.size w3 w') (first | (show GBx w3 w.heap.size g _; (with_reducible exact hS.drew)) | (show GBx w3 w.heap.size g _; (with_reducible refine GBx.below ?_ hbR); first | assumption | exact ⟨by assumption, by assumption, by assumption, by assumption, by assumption, by assumption⟩))
    (first
      | (go_at_call 29; (with_reducible refine (icby q _).mono ?_); rintro e wR ⟨rfl, hqR, hbR⟩; have HQ := Lib.hid (show wR.heap[w3.heap.size]? = some (.cells #[.int .i64 q] 3 (0, 0)) from hqR); have HbD := Lib.hid (below_nx HbD.out hbR); clear hqR)
      | (go_at_call 66; (with_reducible refine (H5.out w3.heap.size _ HQ.out).mono ?_); rintro e wS ⟨rfl, hbR⟩; have HbD := Lib.hid (below_nx HbD.out hbR)))
  all_goals
    go_wp2_with fail
    go_returns
    exact ⟨_, rfl, Enc.Sl.nil, HbD.out⟩
set_option maxRecDepth 100000 in
set_option maxHeartbeats 3200000 in
theorem ictG_y (q : Int) (g : Gt) (w : World) (hv : gtB g 4 = true) (hd : dq (gqs g ++ [q]) 4 = true) (hK : ctK g.k = true) : Calls Tryz.prog 8 #[.int .i64 q, (.agg #[.int .i64 g.k, .int .i64 g.a, .int .i64 g.b, .int .i64 g.c])] w fun e w' => ∃ v, e = .returned (.tuple #[v, .bool true]) ∧ gtE.Sl w' w.heap.size v (ctL q g) ∧ Below w.heap.size w w' := by
  have H5 := Lib.hid (fun Bq W h => ictq q g Bq W h hK)
  clear hK
  generalize ctL q g = R at *
  obtain ⟨i0, hi, hz0, hz1, hz2⟩ := info_parts infoInt
  have H1 := Lib.hid (fun W => ivalidG g 4 W (by omega) (by omega))
  rw [hv] at H1
  have H2 := Lib.hid (fun W => igqs2 g W)
  have hl3 := gqs_row g
  have hla : (gqs g ++ [q]).length = ar g.k + 1 := by rw [List.length_append, gqs_len]; rfl
  have h3 := ar_le g.k
  have H4 := Lib.hid (fun b cap W h hc => idist b cap (gqs g ++ [q]) 4 W h hc (by rw [hla]; omega))
  rw [hd, hla] at H4
  have hfl : (gqs g).map (Value.int .i64) ++ intE.flat [q] = (gqs g ++ [q]).map (Value.int .i64) := by rw [List.map_append]; rfl
  have Hfl := Lib.hid hfl
  have Hla := Lib.hid hla
  clear hfl hla
  have HX := Lib.hid (heap_alloc_new w (.cells #[.int .i64 g.k, .int .i64 g.a, .int .i64 g.b, .int .i64 g.c] 25))
  have Hb := Lib.hid (show Below w.heap.size w (w.alloc (.cells #[.int .i64 g.k, .int .i64 g.a, .int .i64 g.b, .int .i64 g.c] 25)) by go_grown)
  obtain ⟨c0, c1, c2, c3⟩ := blk_cells HX.out
  have hxl := lt_of_block HX.out
  clear hv hd hl3
  generalize gqs g = l at *
  generalize ar g.k = t at *
  go_enter Tryz.func8, Tryz.ntmps8
  go_wp2_with fail
  refine (H1.out _).mono ?_
  rintro e w1 ⟨rfl, hb1⟩
  have HX := Lib.hid (below_blk hb1 (lt_of_block HX.out) HX.out)
  have Hb := Lib.hid (below_nx Hb.out hb1)
  clear hb1 H1 c0 c1 c2 c3 hxl
  have hw1 := lt_of_block HX.out
  obtain ⟨c0, c1, c2, c3⟩ := blk_cells HX.out
  have hxl := lt_of_block HX.out
  go_wp2_with fail
  refine (H2.out _).mono ?_
  rintro e w2 ⟨rfl, hown2, hb2⟩
  have HX := Lib.hid (alloc_blk (.cells #[.int .i64 q] 3) (below_blk hb2 (lt_of_block HX.out) HX.out))
  have hz2' := hb2.size
  have Hb2 := Lib.hid (below_nx Hb.out hb2)
  have hs2 := Hb2.out.size
  have Hb := Lib.hid (Hb2.out.alloc hs2 (.cells #[.int .i64 q] 3))
  have Hown := Lib.hid (hown2.alloc (.cells #[.int .i64 q] 3))
  have Hnew := Lib.hid (show intE.Sl (w2.alloc (.cells #[.int .i64 q] 3)) w2.heap.size (.slice (some ⟨w2.heap.size, 0, none⟩) 1 1) [q] from Enc.Sl.mk rfl (Nat.le_refl _) (Nat.le_refl _) ⟨_, heap_alloc_new w2 _, rfl⟩)
  have hbl2 : w1.heap.size + 1 < w2.heap.size := by have := (hown2.lt _ rfl).2; exact this
  clear hb2 hown2 H2 c0 c1 c2 c3 hxl Hb2
  go_wp2_with (first
    | (at_builtin; refine wpList_append_slW (E := intE) (by rfl) _ _ 52 rfl (w1.heap.size + 1) i0 (.int .i64 0) 8 Tryz.underlying52 hi hz0 hz1 hz2 rfl (by decide) (.slice (some ⟨w1.heap.size + 1, 0, none⟩) t 3) t (l.map (Value.int .i64)) rfl Hown.out w2.heap.size _ [q] rfl Hnew.out ?d3 ?d4 ?d5 ?_))
  case d3 => unfold maxLen; simp; omega
  case d4 => simp; omega
  case d5 => simp; omega
  intro v' w3 hown' hgrow hat
  have hne : some w.heap.size ≠ (Value.slice (some ⟨w1.heap.size + 1, 0, none⟩) t 3).ownBlock := fun e => by have := (Hown.out.lt _ e.symm).1; have := Hb.out.size; have := lt_of_block HX.out; simp [Value.ownBlock] at e; omega
  have HX3 := Lib.hid (grown_blk hgrow HX.out hne)
  have Hb3 := Lib.hid (Hb.out.grown hgrow (by have := Hb.out.size; omega) (fun k hk => by have := (Hown.out.lt k hk).1; omega))
  rw [Hfl.out] at hown'
  obtain ⟨gb, cb, rfl⟩ : ∃ gb cb, v' = .slice (some ⟨gb, 0, none⟩) (t + 1) cb := by
    rcases hown'.2 with ⟨_, h⟩ | ⟨g, cap, cur, h, _⟩
    · simp at h
    · exact ⟨_, _, h⟩
  have hAR := AR.of_own (l := l ++ [q]) (by rw [Hla.out]; exact hown')
  rw [Hla.out] at hAR
  have HAR := Lib.hid hAR
  clear hown' hgrow hat hne hAR Hown Hnew Hb HX
  go_wp2_with fail
  refine (H4.out gb cb w3 HAR.out.1 HAR.out.2).mono ?_
  rintro e w3' ⟨rfl, rfl⟩
  obtain ⟨c0, c1, c2, c3⟩ := blk_cells HX3.out
  have hxl := lt_of_block HX3.out
  have hS : GBx w3 w.heap.size g w3 := ⟨c0, c1, c2, c3, hxl, Below.refl _ _⟩
  have HbD := Lib.hid (show Below w.heap.size w w3.drew from Hb3.out.drew)
  have hs3 := Hb3.out.size
  go_upto_region 3 with fail
  go_region_held3 (fun w' => w'.cell? ⟨w.heap.size, 0, none⟩ = some (.int .i64 g.k) ∧ w'.cell? ⟨w.heap.size, 1, none⟩ = some (.int .i64 g.a) ∧ w'.cell? ⟨w.heap.size, 2, none⟩ = some (.int .i64 g.b) ∧ w'.cell? ⟨w.heap.size, 3, none⟩ = some (.int .i64 g.c) ∧ w.heap.size < w'.heap.size ∧ Below w3.heap.size w3 w') (first | (show GBx w3 w.heap.size g _; (with_reducible exact hS.drew)) | (show GBx w3 w.heap.size g _; (with_reducible refine GBx.below ?_ hbR); first | assumption | exact ⟨by assumption, by assumption, by assumption, by assumption, by assumption, by assumption⟩))
    (first
      | (go_at_call 29; (with_reducible refine (icby q _).mono ?_); rintro e wR ⟨rfl, hqR, hbR⟩; have HQ := Lib.hid (show wR.heap[w3.heap.size]? = some (.cells #[.int .i64 q] 3 (0, 0)) from hqR); have HbD := Lib.hid (below_nx HbD.out hbR); clear hqR)
      | (go_at_call 66; (with_reducible refine (H5.out w3.heap.size _ HQ.out).mono ?_); rintro e wS ⟨br, cr, rfl, hr, hbR⟩; have HR := Lib.hid (hr.mono HbD.out.size); clear hr; have HbD := Lib.hid (below_nx HbD.out hbR)))
  all_goals
    go_wp2_with fail
    go_returns
    exact ⟨_, rfl, HR.out, HbD.out⟩
/-- ControlledGate. -/
theorem ictG (q : Int) (g : Gt) (w : World) :
    Calls Tryz.prog 8 #[.int .i64 q, (.agg #[.int .i64 g.k, .int .i64 g.a, .int .i64 g.b, .int .i64 g.c])] w fun e w' => ∃ v, e = .returned (.tuple #[v, .bool (ctB q g)]) ∧ gtE.Sl w' w.heap.size v (ctR q g) ∧ Below w.heap.size w w' := by
  unfold ctR
  cases hv : gtB g 4 with
  | false =>
    rw [show ctB q g = false by unfold ctB; rw [hv]; rfl]
    exact ictG_n1 q g w hv
  | true =>
    have e : ctB q g = (dq (gqs g ++ [q]) 4 && ctK g.k) := by
      unfold ctB
      rw [dq_snoc, hv, dq_gqs hv, Bool.true_and, Bool.true_and, Bool.and_assoc]
    cases hd : dq (gqs g ++ [q]) 4 with
    | false =>
      rw [show ctB q g = false by rw [e, hd]; rfl]
      exact ictG_n2 q g w hv hd
    | true =>
      cases hK : ctK g.k with
      | false =>
        rw [show ctB q g = false by rw [e, hd, hK]; rfl]
        exact ictG_n3 q g w hv hd hK
      | true =>
        rw [show ctB q g = true by rw [e, hd, hK]; rfl]
        exact ictG_y q g w hv hd hK
end Go.Proofs.YtlmiebeffdcfhaaGreat
