/- The program's IsPermutation. -/
import Derived.Test.YtfmgjhaofbdlpaaBaseB13
import Derived.Test.YtfmgjhaofbdlpaaBaseB18
namespace Go.Proofs.Ytfmgjhaofbdlpaa
open Go.RowKit
attribute [local irreducible] World.cell?
set_option maxRecDepth 100000 in
set_option maxHeartbeats 3200000 in
theorem iisP1 (B : Nat) (v : Value) (p : List Int) (w : World) (hv : intE.Sl w B v p) (hl : p.length = 1) :
    Calls Try.prog 17 #[v] w fun e w' => e = .returned (.bool (permB p)) ∧ Below w.heap.size w w' := by
  obtain ⟨a, cap, rfl, hcap, hr⟩ := hv
  obtain ⟨g, rfl, -, hrow⟩ := hr (by omega)
  have hgl := hrow.lt
  have Hrow := Lib.hid hrow
  have hfl : (intE.flat p).length = 1 := by rw [flatI, List.length_map, hl]
  have Hfl := Lib.hid hfl
  have hpl : (intE.flat p) = p.map (Value.int .i64) := flatI p
  have Hpl := Lib.hid hpl
  rw [permB_sort (by omega) (by omega)]
  have HZ := Lib.hid (fun g cap W (h : AR W g p) => isortI g cap p W h (by omega))
  have HE := Lib.hid (fun g g' cap cap' W (ha : AR W g (sortL p)) (hb : AR W g' (upI p.length)) => islEqI g g' cap cap' (sortL p) (upI p.length) W ha hb (by rw [sortL_len, upI_ln]) (by rw [sortL_len]; omega))
  rw [sortL_len] at HE
  obtain ⟨T, hT⟩ : ∃ T, T = decide (sortL p = upI p.length) := ⟨_, rfl⟩
  rw [← hT] at HE ⊢
  have Hq := Lib.hid (fun w => iisq_yes 1 w (by decide))
  have Hi := Lib.hid (fun w => iidP_yes 1 w (by decide) (by decide))
  rw [hl] at hcap HZ HE ⊢
  have Hl := Lib.hid hl
  clear hr hl hT hrow hfl hpl
  go_enter Try.func17, Try.ntmps17
  go_wp2_with fail
  refine (Hq.out _).mono ?_
  rintro e w0 ⟨rfl, rfl⟩
  go_wp2_with (first | (refine wpList_copy_N rfl _ _ 24 24 rfl 3 1 Try.underlying24 sizeInt w.heap.size 0 1 1 ⟨g, 0, none⟩ 1 cap rfl rfl #[.int .i64 0, .int .i64 0, .int .i64 0, .int .i64 0] 50 (heap_alloc_new w _) (intE.flat p) 1 rfl Hfl.out (intE_src (Hrow.out.alloc _)) (by rw [Hfl.out]; decide) (intE.flat_plain p) ?_))
  intro w2 hg2 hgrow2
  have Hb2 := Lib.hid (show Below w.heap.size w w2 from ((Below.refl _ _).alloc (Nat.le_refl _) _).grown hgrow2 (by simp) (fun k hk => by cases hk; exact Nat.le_refl _))
  have Hs2 := Lib.hid (show AR w2 w.heap.size p from ⟨_, _, hg2, by
    rw [Hl.out, ← Hpl.out]
    simp only [splice, List.take_zero, List.nil_append]
    rw [List.take_left' Hfl.out]⟩)
  clear hg2 hgrow2
  go_wp2_with fail
  refine (HZ.out _ _ _ Hs2.out).mono ?_
  rintro e w3 ⟨rfl, hs3, hb3⟩
  have Hs3 := Lib.hid hs3
  have Hb3 := Lib.hid (Hb2.out.trans (hb3 _ (Nat.le_refl _)))
  have hz3 := Hs3.out.lt
  clear hs3 hb3 Hs2 Hb2
  go_wp2_with fail
  refine (Hi.out _).mono ?_
  rintro e w4 ⟨rfl, hr4, hb4⟩
  have Hr4 := Lib.hid (show AR w4 w3.heap.size (upI 1) from AR.of_row hr4)
  have Hs4 := Lib.hid (Hs3.out.block (hb4.block _ hz3))
  have Hb4 := Lib.hid (below_nx Hb3.out hb4)
  clear hr4 hb4 Hs3 Hb3
  go_wp2_with fail
  refine (HE.out _ _ _ _ _ Hs4.out Hr4.out).mono ?_
  rintro e w5 ⟨rfl, hb5⟩
  have Hb5 := Lib.hid (below_nx Hb4.out hb5)
  clear hb5
  go_wp2_with fail
  go_ret
  exact ⟨rfl, Hb5.out⟩
set_option maxRecDepth 100000 in
set_option maxHeartbeats 3200000 in
theorem iisP2 (B : Nat) (v : Value) (p : List Int) (w : World) (hv : intE.Sl w B v p) (hl : p.length = 2) :
    Calls Try.prog 17 #[v] w fun e w' => e = .returned (.bool (permB p)) ∧ Below w.heap.size w w' := by
  obtain ⟨a, cap, rfl, hcap, hr⟩ := hv
  obtain ⟨g, rfl, -, hrow⟩ := hr (by omega)
  have hgl := hrow.lt
  have Hrow := Lib.hid hrow
  have hfl : (intE.flat p).length = 2 := by rw [flatI, List.length_map, hl]
  have Hfl := Lib.hid hfl
  have hpl : (intE.flat p) = p.map (Value.int .i64) := flatI p
  have Hpl := Lib.hid hpl
  rw [permB_sort (by omega) (by omega)]
  have HZ := Lib.hid (fun g cap W (h : AR W g p) => isortI g cap p W h (by omega))
  have HE := Lib.hid (fun g g' cap cap' W (ha : AR W g (sortL p)) (hb : AR W g' (upI p.length)) => islEqI g g' cap cap' (sortL p) (upI p.length) W ha hb (by rw [sortL_len, upI_ln]) (by rw [sortL_len]; omega))
  rw [sortL_len] at HE
  obtain ⟨T, hT⟩ : ∃ T, T = decide (sortL p = upI p.length) := ⟨_, rfl⟩
  rw [← hT] at HE ⊢
  have Hq := Lib.hid (fun w => iisq_yes 2 w (by decide))
  have Hi := Lib.hid (fun w => iidP_yes 2 w (by decide) (by decide))
  rw [hl] at hcap HZ HE ⊢
  have Hl := Lib.hid hl
  clear hr hl hT hrow hfl hpl
  go_enter Try.func17, Try.ntmps17
  go_wp2_with fail
  refine (Hq.out _).mono ?_
  rintro e w0 ⟨rfl, rfl⟩
  go_wp2_with (first | (refine wpList_copy_N rfl _ _ 24 24 rfl 3 1 Try.underlying24 sizeInt w.heap.size 0 2 2 ⟨g, 0, none⟩ 2 cap rfl rfl #[.int .i64 0, .int .i64 0, .int .i64 0, .int .i64 0] 50 (heap_alloc_new w _) (intE.flat p) 2 rfl Hfl.out (intE_src (Hrow.out.alloc _)) (by rw [Hfl.out]; decide) (intE.flat_plain p) ?_))
  intro w2 hg2 hgrow2
  have Hb2 := Lib.hid (show Below w.heap.size w w2 from ((Below.refl _ _).alloc (Nat.le_refl _) _).grown hgrow2 (by simp) (fun k hk => by cases hk; exact Nat.le_refl _))
  have Hs2 := Lib.hid (show AR w2 w.heap.size p from ⟨_, _, hg2, by
    rw [Hl.out, ← Hpl.out]
    simp only [splice, List.take_zero, List.nil_append]
    rw [List.take_left' Hfl.out]⟩)
  clear hg2 hgrow2
  go_wp2_with fail
  refine (HZ.out _ _ _ Hs2.out).mono ?_
  rintro e w3 ⟨rfl, hs3, hb3⟩
  have Hs3 := Lib.hid hs3
  have Hb3 := Lib.hid (Hb2.out.trans (hb3 _ (Nat.le_refl _)))
  have hz3 := Hs3.out.lt
  clear hs3 hb3 Hs2 Hb2
  go_wp2_with fail
  refine (Hi.out _).mono ?_
  rintro e w4 ⟨rfl, hr4, hb4⟩
  have Hr4 := Lib.hid (show AR w4 w3.heap.size (upI 2) from AR.of_row hr4)
  have Hs4 := Lib.hid (Hs3.out.block (hb4.block _ hz3))
  have Hb4 := Lib.hid (below_nx Hb3.out hb4)
  clear hr4 hb4 Hs3 Hb3
  go_wp2_with fail
  refine (HE.out _ _ _ _ _ Hs4.out Hr4.out).mono ?_
  rintro e w5 ⟨rfl, hb5⟩
  have Hb5 := Lib.hid (below_nx Hb4.out hb5)
  clear hb5
  go_wp2_with fail
  go_ret
  exact ⟨rfl, Hb5.out⟩
set_option maxRecDepth 100000 in
set_option maxHeartbeats 3200000 in
theorem iisP3 (B : Nat) (v : Value) (p : List Int) (w : World) (hv : intE.Sl w B v p) (hl : p.length = 3) :
    Calls Try.prog 17 #[v] w fun e w' => e = .returned (.bool (permB p)) ∧ Below w.heap.size w w' := by
  obtain ⟨a, cap, rfl, hcap, hr⟩ := hv
  obtain ⟨g, rfl, -, hrow⟩ := hr (by omega)
  have hgl := hrow.lt
  have Hrow := Lib.hid hrow
  have hfl : (intE.flat p).length = 3 := by rw [flatI, List.length_map, hl]
  have Hfl := Lib.hid hfl
  have hpl : (intE.flat p) = p.map (Value.int .i64) := flatI p
  have Hpl := Lib.hid hpl
  rw [permB_sort (by omega) (by omega)]
  have HZ := Lib.hid (fun g cap W (h : AR W g p) => isortI g cap p W h (by omega))
  have HE := Lib.hid (fun g g' cap cap' W (ha : AR W g (sortL p)) (hb : AR W g' (upI p.length)) => islEqI g g' cap cap' (sortL p) (upI p.length) W ha hb (by rw [sortL_len, upI_ln]) (by rw [sortL_len]; omega))
  rw [sortL_len] at HE
  obtain ⟨T, hT⟩ : ∃ T, T = decide (sortL p = upI p.length) := ⟨_, rfl⟩
  rw [← hT] at HE ⊢
  have Hq := Lib.hid (fun w => iisq_yes 3 w (by decide))
  have Hi := Lib.hid (fun w => iidP_yes 3 w (by decide) (by decide))
  rw [hl] at hcap HZ HE ⊢
  have Hl := Lib.hid hl
  clear hr hl hT hrow hfl hpl
  go_enter Try.func17, Try.ntmps17
  go_wp2_with fail
  refine (Hq.out _).mono ?_
  rintro e w0 ⟨rfl, rfl⟩
  go_wp2_with (first | (refine wpList_copy_N rfl _ _ 24 24 rfl 3 1 Try.underlying24 sizeInt w.heap.size 0 3 3 ⟨g, 0, none⟩ 3 cap rfl rfl #[.int .i64 0, .int .i64 0, .int .i64 0, .int .i64 0] 50 (heap_alloc_new w _) (intE.flat p) 3 rfl Hfl.out (intE_src (Hrow.out.alloc _)) (by rw [Hfl.out]; decide) (intE.flat_plain p) ?_))
  intro w2 hg2 hgrow2
  have Hb2 := Lib.hid (show Below w.heap.size w w2 from ((Below.refl _ _).alloc (Nat.le_refl _) _).grown hgrow2 (by simp) (fun k hk => by cases hk; exact Nat.le_refl _))
  have Hs2 := Lib.hid (show AR w2 w.heap.size p from ⟨_, _, hg2, by
    rw [Hl.out, ← Hpl.out]
    simp only [splice, List.take_zero, List.nil_append]
    rw [List.take_left' Hfl.out]⟩)
  clear hg2 hgrow2
  go_wp2_with fail
  refine (HZ.out _ _ _ Hs2.out).mono ?_
  rintro e w3 ⟨rfl, hs3, hb3⟩
  have Hs3 := Lib.hid hs3
  have Hb3 := Lib.hid (Hb2.out.trans (hb3 _ (Nat.le_refl _)))
  have hz3 := Hs3.out.lt
  clear hs3 hb3 Hs2 Hb2
  go_wp2_with fail
  refine (Hi.out _).mono ?_
  rintro e w4 ⟨rfl, hr4, hb4⟩
  have Hr4 := Lib.hid (show AR w4 w3.heap.size (upI 3) from AR.of_row hr4)
  have Hs4 := Lib.hid (Hs3.out.block (hb4.block _ hz3))
  have Hb4 := Lib.hid (below_nx Hb3.out hb4)
  clear hr4 hb4 Hs3 Hb3
  go_wp2_with fail
  refine (HE.out _ _ _ _ _ Hs4.out Hr4.out).mono ?_
  rintro e w5 ⟨rfl, hb5⟩
  have Hb5 := Lib.hid (below_nx Hb4.out hb5)
  clear hb5
  go_wp2_with fail
  go_ret
  exact ⟨rfl, Hb5.out⟩
set_option maxRecDepth 100000 in
set_option maxHeartbeats 3200000 in
theorem iisP4 (B : Nat) (v : Value) (p : List Int) (w : World) (hv : intE.Sl w B v p) (hl : p.length = 4) :
    Calls Try.prog 17 #[v] w fun e w' => e = .returned (.bool (permB p)) ∧ Below w.heap.size w w' := by
  obtain ⟨a, cap, rfl, hcap, hr⟩ := hv
  obtain ⟨g, rfl, -, hrow⟩ := hr (by omega)
  have hgl := hrow.lt
  have Hrow := Lib.hid hrow
  have hfl : (intE.flat p).length = 4 := by rw [flatI, List.length_map, hl]
  have Hfl := Lib.hid hfl
  have hpl : (intE.flat p) = p.map (Value.int .i64) := flatI p
  have Hpl := Lib.hid hpl
  rw [permB_sort (by omega) (by omega)]
  have HZ := Lib.hid (fun g cap W (h : AR W g p) => isortI g cap p W h (by omega))
  have HE := Lib.hid (fun g g' cap cap' W (ha : AR W g (sortL p)) (hb : AR W g' (upI p.length)) => islEqI g g' cap cap' (sortL p) (upI p.length) W ha hb (by rw [sortL_len, upI_ln]) (by rw [sortL_len]; omega))
  rw [sortL_len] at HE
  obtain ⟨T, hT⟩ : ∃ T, T = decide (sortL p = upI p.length) := ⟨_, rfl⟩
  rw [← hT] at HE ⊢
  have Hq := Lib.hid (fun w => iisq_yes 4 w (by decide))
  have Hi := Lib.hid (fun w => iidP_yes 4 w (by decide) (by decide))
  rw [hl] at hcap HZ HE ⊢
  have Hl := Lib.hid hl
  clear hr hl hT hrow hfl hpl
  go_enter Try.func17, Try.ntmps17
  go_wp2_with fail
  refine (Hq.out _).mono ?_
  rintro e w0 ⟨rfl, rfl⟩
  go_wp2_with (first | (refine wpList_copy_N rfl _ _ 24 24 rfl 3 1 Try.underlying24 sizeInt w.heap.size 0 4 4 ⟨g, 0, none⟩ 4 cap rfl rfl #[.int .i64 0, .int .i64 0, .int .i64 0, .int .i64 0] 50 (heap_alloc_new w _) (intE.flat p) 4 rfl Hfl.out (intE_src (Hrow.out.alloc _)) (by rw [Hfl.out]; decide) (intE.flat_plain p) ?_))
  intro w2 hg2 hgrow2
  have Hb2 := Lib.hid (show Below w.heap.size w w2 from ((Below.refl _ _).alloc (Nat.le_refl _) _).grown hgrow2 (by simp) (fun k hk => by cases hk; exact Nat.le_refl _))
  have Hs2 := Lib.hid (show AR w2 w.heap.size p from ⟨_, _, hg2, by
    rw [Hl.out, ← Hpl.out]
    simp only [splice, List.take_zero, List.nil_append]
    rw [List.take_left' Hfl.out]⟩)
  clear hg2 hgrow2
  go_wp2_with fail
  refine (HZ.out _ _ _ Hs2.out).mono ?_
  rintro e w3 ⟨rfl, hs3, hb3⟩
  have Hs3 := Lib.hid hs3
  have Hb3 := Lib.hid (Hb2.out.trans (hb3 _ (Nat.le_refl _)))
  have hz3 := Hs3.out.lt
  clear hs3 hb3 Hs2 Hb2
  go_wp2_with fail
  refine (Hi.out _).mono ?_
  rintro e w4 ⟨rfl, hr4, hb4⟩
  have Hr4 := Lib.hid (show AR w4 w3.heap.size (upI 4) from AR.of_row hr4)
  have Hs4 := Lib.hid (Hs3.out.block (hb4.block _ hz3))
  have Hb4 := Lib.hid (below_nx Hb3.out hb4)
  clear hr4 hb4 Hs3 Hb3
  go_wp2_with fail
  refine (HE.out _ _ _ _ _ Hs4.out Hr4.out).mono ?_
  rintro e w5 ⟨rfl, hb5⟩
  have Hb5 := Lib.hid (below_nx Hb4.out hb5)
  clear hb5
  go_wp2_with fail
  go_ret
  exact ⟨rfl, Hb5.out⟩
set_option maxRecDepth 100000 in
set_option maxHeartbeats 800000 in
theorem iisP (B : Nat) (v : Value) (p : List Int) (w : World) (hv : intE.Sl w B v p) (_ : Ei p) (hm : p.length ≤ 1048576) :
    Calls Try.prog 17 #[v] w fun e w' => e = .returned (.bool (permB p)) ∧ Below w.heap.size w w' := by
  by_cases h : 1 ≤ p.length ∧ p.length ≤ 4
  · rcases (show p.length = 1 ∨ p.length = 2 ∨ p.length = 3 ∨ p.length = 4 by omega) with e | e | e | e
    · exact iisP1 B v p w hv e
    · exact iisP2 B v p w hv e
    · exact iisP3 B v p w hv e
    · exact iisP4 B v p w hv e
  · rw [permB_size h]
    have Hq := Lib.hid (fun w => iisq_no p.length w (by omega) (by omega) (by omega))
    clear h
    obtain ⟨a, cap, rfl, hcap, -⟩ := hv
    go_enter Try.func17, Try.ntmps17
    go_wp2_with fail
    refine (Hq.out _).mono ?_
    rintro e w0 ⟨rfl, rfl⟩
    go_wp2_with fail
    go_ret
    exact ⟨rfl, Below.refl _ _⟩
end Go.Proofs.Ytfmgjhaofbdlpaa
