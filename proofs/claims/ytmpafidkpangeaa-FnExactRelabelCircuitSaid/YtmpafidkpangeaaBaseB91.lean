/- BaseB91: several of our texts in one: StdSort PmKt PmKa. -/
import Derived.Shelf.Sort.Plain
import Derived.Test.YtmpafidkpangeaaProg
import Derived.Sort.OwnSortedInts
import Derived.Test.YtmpafidkpangeaaBaseB17
namespace Go.Proofs
open Go.Shelf
def Try.lays189_ren : Go.Shelf.Ren := ⟨fun | 189 => 109 | 125 => 135 | 257 => 134 | 128 => 160 | 129 => 161 | 294 => 151 | 295 => 152 | 296 => 153 | 297 => 154 | 298 => 155 | 299 => 156 | 216 => 157 | 300 => 158 | 301 => 159 | 328 => 174 | 329 => 175 | 330 => 176 | 331 => 177 | 332 => 178 | 215 => 179 | 343 => 188 | n => n, fun | 28 => 56 | 3 => 3 | 46 => 83 | 0 => 0 | 51 => 182 | 53 => 184 | 4 => 4 | 183 => 174 | 182 => 173 | 131 => 179 | 5 => 5 | 9 => 9 | 218 => 188 | 222 => 192 | 228 => 197 | 229 => 198 | n => n, fun | n => n⟩
theorem Try.lays189 : Go.Proofs.Lays.n189 Try.prog Try.lays189_ren := {
  mixed := by kernel_rfl
  f125 := Try.func135.trans (congrArg some (by kernel_rfl))
  f128 := Try.func160.trans (congrArg some (by kernel_rfl))
  f129 := Try.func161.trans (congrArg some (by kernel_rfl))
  f189 := Try.func109.trans (congrArg some (by kernel_rfl))
  f215 := Try.func179.trans (congrArg some (by kernel_rfl))
  f216 := Try.func157.trans (congrArg some (by kernel_rfl))
  f257 := Try.func134.trans (congrArg some (by kernel_rfl))
  f294 := Try.func151.trans (congrArg some (by kernel_rfl))
  f295 := Try.func152.trans (congrArg some (by kernel_rfl))
  f296 := Try.func153.trans (congrArg some (by kernel_rfl))
  f297 := Try.func154.trans (congrArg some (by kernel_rfl))
  f298 := Try.func155.trans (congrArg some (by kernel_rfl))
  f299 := Try.func156.trans (congrArg some (by kernel_rfl))
  f300 := Try.func158.trans (congrArg some (by kernel_rfl))
  f301 := Try.func159.trans (congrArg some (by kernel_rfl))
  f328 := Try.func174.trans (congrArg some (by kernel_rfl))
  f329 := Try.func175.trans (congrArg some (by kernel_rfl))
  f330 := Try.func176.trans (congrArg some (by kernel_rfl))
  f331 := Try.func177.trans (congrArg some (by kernel_rfl))
  f332 := Try.func178.trans (congrArg some (by kernel_rfl))
  f343 := Try.func188.trans (congrArg some (by kernel_rfl))
  t0 := Try.underlying0
  a0 := Try.isAgg0
  z0 := Try.sizeOf0
  v0 := Try.zeroValue0
  t3 := Try.underlying3
  a3 := Try.isAgg3
  z3 := Try.sizeOf3
  v3 := Try.zeroValue3
  t4 := Try.underlying4
  a4 := Try.isAgg4
  z4 := Try.sizeOf4
  v4 := Try.zeroValue4
  t5 := Try.underlying5
  a5 := Try.isAgg5
  z5 := Try.sizeOf5
  v5 := Try.zeroValue5
  t9 := Try.underlying9
  a9 := Try.isAgg9
  z9 := Try.sizeOf9
  v9 := Try.zeroValue9
  t28 := Try.underlying56
  a28 := Try.isAgg56
  z28 := Try.sizeOf56
  v28 := Try.zeroValue56
  t46 := Try.underlying83
  a46 := Try.isAgg83
  z46 := Try.sizeOf83
  v46 := Try.zeroValue83
  t51 := Try.underlying182
  a51 := Try.isAgg182
  z51 := Try.sizeOf182
  v51 := Try.zeroValue182
  t53 := Try.underlying184
  a53 := Try.isAgg184
  z53 := Try.sizeOf184
  v53 := Try.zeroValue184
  t131 := Try.underlying179
  a131 := Try.isAgg179
  z131 := Try.sizeOf179
  v131 := Try.zeroValue179
  t182 := Try.underlying173
  a182 := Try.isAgg173
  z182 := Try.sizeOf173
  v182 := Try.zeroValue173
  t183 := Try.underlying174
  a183 := Try.isAgg174
  z183 := Try.sizeOf174
  v183 := Try.zeroValue174
  t218 := Try.underlying188
  a218 := Try.isAgg188
  z218 := Try.sizeOf188
  v218 := Try.zeroValue188
  t222 := Try.underlying192
  a222 := Try.isAgg192
  z222 := Try.sizeOf192
  v222 := Try.zeroValue192
  t228 := Try.underlying197
  a228 := Try.isAgg197
  z228 := Try.sizeOf197
  v228 := Try.zeroValue197
  t229 := Try.underlying198
  a229 := Try.isAgg198
  z229 := Try.sizeOf198
  v229 := Try.zeroValue198 }
open Go.Sort Go.RowKit in
theorem Try.slices_Sort_int (blk off cap : Nat) (zs : List Int) (w : World) (hH : Holds (Value.int .i64) w blk off zs.toArray) (hblk : blk < w.heap.size) (hsz : zs.length < 4611686018427387904) :
    Calls Try.prog 109 #[.slice (some ⟨blk, off, none⟩) zs.length cap] w fun e w' =>
      e = .returned (.tuple #[]) ∧ ∃ n os, w' = grow (putRow (Value.int .i64) (Sort.ahead w n) blk off (zs.mergeSort fun x y => decide (x ≤ y)).toArray) os := Any.slices_Sort_int Try.lays189 blk off cap zs w hH hblk hsz
end Go.Proofs
namespace Go.Proofs.Ytmpafidkpangeaa
open Go.RowKit Go.Sort
theorem isortI (g cap : Nat) (z : List Int) (w : World) (h : AR w g z) (h4 : z.length ≤ 4) :
    Calls Try.prog 109 #[.slice (some ⟨g, 0, none⟩) z.length cap] w fun e w' => e = .returned (.tuple #[]) ∧ AR w' g (sortL z) ∧ ∀ B, B ≤ g → Below B w w' := by
  obtain ⟨cs, ty, h1, h2⟩ := h
  have hg := lt_of_block h1
  have hc : z.length ≤ cs.size := by
    have := congrArg List.length h2
    rw [List.length_take, List.length_map, Array.length_toList (xs := cs)] at this
    omega
  refine (Try.slices_Sort_int g 0 cap z w (holds_of_blockI h1 h2) hg (by omega)).mono ?_
  rintro e w' ⟨rfl, n, os, rfl⟩
  refine ⟨rfl, ⟨_, ty, heap_sortedI _ h1, ?_⟩, fun B hB => (Below.refl B w).grown (grownBy_sortedI _) (by omega) (fun k hk => by cases hk; exact hB)⟩
  have hl : (sortL z).length = z.length := sortL_len z
  exact take_putCellsI cs (sortL z) (by omega)
end Go.Proofs.Ytmpafidkpangeaa
namespace Go.Proofs.Ytmpafidkpangeaa
open Go.RowKit
attribute [local irreducible] World.cell?
set_option maxRecDepth 100000 in
set_option maxHeartbeats 3200000 in
theorem iisP1 (B : Nat) (v : Value) (p : List Int) (w : World) (hv : intE.Sl w B v p) (hl : p.length = 1) :
    Calls Try.prog 76 #[v] w fun e w' => e = .returned (.bool (permB p)) ∧ Below w.heap.size w w' := by
  obtain ⟨a, cap, rfl, hcap, hr⟩ := hv
  obtain ⟨g, rfl, -, hrow⟩ := hr (by omega)
  have hgl := hrow.lt
  have Hrow := Lib.hid hrow
  have hfl : (intE.flat p).length = 1 := by rw [flatI, List.length_map, hl]
  have Hfl := Lib.hid hfl
  have hpl : (intE.flat p) = p.map (Value.int .i64) := flatI p
  have Hpl := Lib.hid hpl
  rw [permB_sort (by omega) (by omega)]
  have HZ := Lib.hid (fun g cap W (h : AR W g p) => isortI g cap p W h (by omega))
  have HE := Lib.hid (fun g g' cap cap' W (ha : AR W g (sortL p)) (hb : AR W g' (upI p.length)) => islEqI g g' cap cap' (sortL p) (upI p.length) W ha hb (by rw [sortL_len, upI_ln]) (by rw [sortL_len]; omega))
  rw [sortL_len] at HE
  obtain ⟨T, hT⟩ : ∃ T, T = decide (sortL p = upI p.length) := ⟨_, rfl⟩
  rw [← hT] at HE ⊢
  have Hq := Lib.hid (fun w => iisq_yes 1 w (by decide))
  have Hi := Lib.hid (fun w => iidP_yes 1 w (by decide) (by decide))
  rw [hl] at hcap HZ HE ⊢
  have Hl := Lib.hid hl
  clear hr hl hT hrow hfl hpl
  go_enter Try.func76, Try.ntmps76
  go_wp2_with fail
  refine (Hq.out _).mono ?_
  rintro e w0 ⟨rfl, rfl⟩
  go_wp2_with (first | (refine wpList_copy_N rfl _ _ 56 56 rfl 3 1 Try.underlying56 sizeInt w.heap.size 0 1 1 ⟨g, 0, none⟩ 1 cap rfl rfl #[.int .i64 0, .int .i64 0, .int .i64 0, .int .i64 0] 137 (heap_alloc_new w _) (intE.flat p) 1 rfl Hfl.out (intE_src (Hrow.out.alloc _)) (by rw [Hfl.out]; decide) (intE.flat_plain p) ?_))
  intro w2 hg2 hgrow2
  have Hb2 := Lib.hid (show Below w.heap.size w w2 from ((Below.refl _ _).alloc (Nat.le_refl _) _).grown hgrow2 (by simp) (fun k hk => by cases hk; exact Nat.le_refl _))
  have Hs2 := Lib.hid (show AR w2 w.heap.size p from ⟨_, _, hg2, by
    rw [Hl.out, ← Hpl.out]
    simp only [splice, List.take_zero, List.nil_append]
    rw [List.take_left' Hfl.out]⟩)
  clear hg2 hgrow2
  go_wp2_with fail
  refine (HZ.out _ _ _ Hs2.out).mono ?_
  rintro e w3 ⟨rfl, hs3, hb3⟩
  have Hs3 := Lib.hid hs3
  have Hb3 := Lib.hid (Hb2.out.trans (hb3 _ (Nat.le_refl _)))
  have hz3 := Hs3.out.lt
  clear hs3 hb3 Hs2 Hb2
  go_wp2_with fail
  refine (Hi.out _).mono ?_
  rintro e w4 ⟨rfl, hr4, hb4⟩
  have Hr4 := Lib.hid (show AR w4 w3.heap.size (upI 1) from AR.of_row hr4)
  have Hs4 := Lib.hid (Hs3.out.block (hb4.block _ hz3))
  have Hb4 := Lib.hid (below_nx Hb3.out hb4)
  clear hr4 hb4 Hs3 Hb3
  go_wp2_with fail
  refine (HE.out _ _ _ _ _ Hs4.out Hr4.out).mono ?_
  rintro e w5 ⟨rfl, hb5⟩
  have Hb5 := Lib.hid (below_nx Hb4.out hb5)
  clear hb5
  go_wp2_with fail
  go_ret
  exact ⟨rfl, Hb5.out⟩
set_option maxRecDepth 100000 in
set_option maxHeartbeats 3200000 in
theorem iisP2 (B : Nat) (v : Value) (p : List Int) (w : World) (hv : intE.Sl w B v p) (hl : p.length = 2) :
    Calls Try.prog 76 #[v] w fun e w' => e = .returned (.bool (permB p)) ∧ Below w.heap.size w w' := by
  obtain ⟨a, cap, rfl, hcap, hr⟩ := hv
  obtain ⟨g, rfl, -, hrow⟩ := hr (by omega)
  have hgl := hrow.lt
  have Hrow := Lib.hid hrow
  have hfl : (intE.flat p).length = 2 := by rw [flatI, List.length_map, hl]
  have Hfl := Lib.hid hfl
  have hpl : (intE.flat p) = p.map (Value.int .i64) := flatI p
  have Hpl := Lib.hid hpl
  rw [permB_sort (by omega) (by omega)]
  have HZ := Lib.hid (fun g cap W (h : AR W g p) => isortI g cap p W h (by omega))
  have HE := Lib.hid (fun g g' cap cap' W (ha : AR W g (sortL p)) (hb : AR W g' (upI p.length)) => islEqI g g' cap cap' (sortL p) (upI p.length) W ha hb (by rw [sortL_len, upI_ln]) (by rw [sortL_len]; omega))
  rw [sortL_len] at HE
  obtain ⟨T, hT⟩ : ∃ T, T = decide (sortL p = upI p.length) := ⟨_, rfl⟩
  rw [← hT] at HE ⊢
  have Hq := Lib.hid (fun w => iisq_yes 2 w (by decide))
  have Hi := Lib.hid (fun w => iidP_yes 2 w (by decide) (by decide))
  rw [hl] at hcap HZ HE ⊢
  have Hl := Lib.hid hl
  clear hr hl hT hrow hfl hpl
  go_enter Try.func76, Try.ntmps76
  go_wp2_with fail
  refine (Hq.out _).mono ?_
  rintro e w0 ⟨rfl, rfl⟩
  go_wp2_with (first | (refine wpList_copy_N rfl _ _ 56 56 rfl 3 1 Try.underlying56 sizeInt w.heap.size 0 2 2 ⟨g, 0, none⟩ 2 cap rfl rfl #[.int .i64 0, .int .i64 0, .int .i64 0, .int .i64 0] 137 (heap_alloc_new w _) (intE.flat p) 2 rfl Hfl.out (intE_src (Hrow.out.alloc _)) (by rw [Hfl.out]; decide) (intE.flat_plain p) ?_))
  intro w2 hg2 hgrow2
  have Hb2 := Lib.hid (show Below w.heap.size w w2 from ((Below.refl _ _).alloc (Nat.le_refl _) _).grown hgrow2 (by simp) (fun k hk => by cases hk; exact Nat.le_refl _))
  have Hs2 := Lib.hid (show AR w2 w.heap.size p from ⟨_, _, hg2, by
    rw [Hl.out, ← Hpl.out]
    simp only [splice, List.take_zero, List.nil_append]
    rw [List.take_left' Hfl.out]⟩)
  clear hg2 hgrow2
  go_wp2_with fail
  refine (HZ.out _ _ _ Hs2.out).mono ?_
  rintro e w3 ⟨rfl, hs3, hb3⟩
  have Hs3 := Lib.hid hs3
  have Hb3 := Lib.hid (Hb2.out.trans (hb3 _ (Nat.le_refl _)))
  have hz3 := Hs3.out.lt
  clear hs3 hb3 Hs2 Hb2
  go_wp2_with fail
  refine (Hi.out _).mono ?_
  rintro e w4 ⟨rfl, hr4, hb4⟩
  have Hr4 := Lib.hid (show AR w4 w3.heap.size (upI 2) from AR.of_row hr4)
  have Hs4 := Lib.hid (Hs3.out.block (hb4.block _ hz3))
  have Hb4 := Lib.hid (below_nx Hb3.out hb4)
  clear hr4 hb4 Hs3 Hb3
  go_wp2_with fail
  refine (HE.out _ _ _ _ _ Hs4.out Hr4.out).mono ?_
  rintro e w5 ⟨rfl, hb5⟩
  have Hb5 := Lib.hid (below_nx Hb4.out hb5)
  clear hb5
  go_wp2_with fail
  go_ret
  exact ⟨rfl, Hb5.out⟩
set_option maxRecDepth 100000 in
set_option maxHeartbeats 3200000 in
theorem iisP3 (B : Nat) (v : Value) (p : List Int) (w : World) (hv : intE.Sl w B v p) (hl : p.length = 3) :
    Calls Try.prog 76 #[v] w fun e w' => e = .returned (.bool (permB p)) ∧ Below w.heap.size w w' := by
  obtain ⟨a, cap, rfl, hcap, hr⟩ := hv
  obtain ⟨g, rfl, -, hrow⟩ := hr (by omega)
  have hgl := hrow.lt
  have Hrow := Lib.hid hrow
  have hfl : (intE.flat p).length = 3 := by rw [flatI, List.length_map, hl]
  have Hfl := Lib.hid hfl
  have hpl : (intE.flat p) = p.map (Value.int .i64) := flatI p
  have Hpl := Lib.hid hpl
  rw [permB_sort (by omega) (by omega)]
  have HZ := Lib.hid (fun g cap W (h : AR W g p) => isortI g cap p W h (by omega))
  have HE := Lib.hid (fun g g' cap cap' W (ha : AR W g (sortL p)) (hb : AR W g' (upI p.length)) => islEqI g g' cap cap' (sortL p) (upI p.length) W ha hb (by rw [sortL_len, upI_ln]) (by rw [sortL_len]; omega))
  rw [sortL_len] at HE
  obtain ⟨T, hT⟩ : ∃ T, T = decide (sortL p = upI p.length) := ⟨_, rfl⟩
  rw [← hT] at HE ⊢
  have Hq := Lib.hid (fun w => iisq_yes 3 w (by decide))
  have Hi := Lib.hid (fun w => iidP_yes 3 w (by decide) (by decide))
  rw [hl] at hcap HZ HE ⊢
  have Hl := Lib.hid hl
  clear hr hl hT hrow hfl hpl
  go_enter Try.func76, Try.ntmps76
  go_wp2_with fail
  refine (Hq.out _).mono ?_
  rintro e w0 ⟨rfl, rfl⟩
  go_wp2_with (first | (refine wpList_copy_N rfl _ _ 56 56 rfl 3 1 Try.underlying56 sizeInt w.heap.size 0 3 3 ⟨g, 0, none⟩ 3 cap rfl rfl #[.int .i64 0, .int .i64 0, .int .i64 0, .int .i64 0] 137 (heap_alloc_new w _) (intE.flat p) 3 rfl Hfl.out (intE_src (Hrow.out.alloc _)) (by rw [Hfl.out]; decide) (intE.flat_plain p) ?_))
  intro w2 hg2 hgrow2
  have Hb2 := Lib.hid (show Below w.heap.size w w2 from ((Below.refl _ _).alloc (Nat.le_refl _) _).grown hgrow2 (by simp) (fun k hk => by cases hk; exact Nat.le_refl _))
  have Hs2 := Lib.hid (show AR w2 w.heap.size p from ⟨_, _, hg2, by
    rw [Hl.out, ← Hpl.out]
    simp only [splice, List.take_zero, List.nil_append]
    rw [List.take_left' Hfl.out]⟩)
  clear hg2 hgrow2
  go_wp2_with fail
  refine (HZ.out _ _ _ Hs2.out).mono ?_
  rintro e w3 ⟨rfl, hs3, hb3⟩
  have Hs3 := Lib.hid hs3
  have Hb3 := Lib.hid (Hb2.out.trans (hb3 _ (Nat.le_refl _)))
  have hz3 := Hs3.out.lt
  clear hs3 hb3 Hs2 Hb2
  go_wp2_with fail
  refine (Hi.out _).mono ?_
  rintro e w4 ⟨rfl, hr4, hb4⟩
  have Hr4 := Lib.hid (show AR w4 w3.heap.size (upI 3) from AR.of_row hr4)
  have Hs4 := Lib.hid (Hs3.out.block (hb4.block _ hz3))
  have Hb4 := Lib.hid (below_nx Hb3.out hb4)
  clear hr4 hb4 Hs3 Hb3
  go_wp2_with fail
  refine (HE.out _ _ _ _ _ Hs4.out Hr4.out).mono ?_
  rintro e w5 ⟨rfl, hb5⟩
  have Hb5 := Lib.hid (below_nx Hb4.out hb5)
  clear hb5
  go_wp2_with fail
  go_ret
  exact ⟨rfl, Hb5.out⟩
set_option maxRecDepth 100000 in
set_option maxHeartbeats 3200000 in
theorem iisP4 (B : Nat) (v : Value) (p : List Int) (w : World) (hv : intE.Sl w B v p) (hl : p.length = 4) :
    Calls Try.prog 76 #[v] w fun e w' => e = .returned (.bool (permB p)) ∧ Below w.heap.size w w' := by
  obtain ⟨a, cap, rfl, hcap, hr⟩ := hv
  obtain ⟨g, rfl, -, hrow⟩ := hr (by omega)
  have hgl := hrow.lt
  have Hrow := Lib.hid hrow
  have hfl : (intE.flat p).length = 4 := by rw [flatI, List.length_map, hl]
  have Hfl := Lib.hid hfl
  have hpl : (intE.flat p) = p.map (Value.int .i64) := flatI p
  have Hpl := Lib.hid hpl
  rw [permB_sort (by omega) (by omega)]
  have HZ := Lib.hid (fun g cap W (h : AR W g p) => isortI g cap p W h (by omega))
  have HE := Lib.hid (fun g g' cap cap' W (ha : AR W g (sortL p)) (hb : AR W g' (upI p.length)) => islEqI g g' cap cap' (sortL p) (upI p.length) W ha hb (by rw [sortL_len, upI_ln]) (by rw [sortL_len]; omega))
  rw [sortL_len] at HE
  obtain ⟨T, hT⟩ : ∃ T, T = decide (sortL p = upI p.length) := ⟨_, rfl⟩
  rw [← hT] at HE ⊢
  have Hq := Lib.hid (fun w => iisq_yes 4 w (by decide))
  have Hi := Lib.hid (fun w => iidP_yes 4 w (by decide) (by decide))
  rw [hl] at hcap HZ HE ⊢
  have Hl := Lib.hid hl
  clear hr hl hT hrow hfl hpl
  go_enter Try.func76, Try.ntmps76
  go_wp2_with fail
  refine (Hq.out _).mono ?_
  rintro e w0 ⟨rfl, rfl⟩
  go_wp2_with (first | (refine wpList_copy_N rfl _ _ 56 56 rfl 3 1 Try.underlying56 sizeInt w.heap.size 0 4 4 ⟨g, 0, none⟩ 4 cap rfl rfl #[.int .i64 0, .int .i64 0, .int .i64 0, .int .i64 0] 137 (heap_alloc_new w _) (intE.flat p) 4 rfl Hfl.out (intE_src (Hrow.out.alloc _)) (by rw [Hfl.out]; decide) (intE.flat_plain p) ?_))
  intro w2 hg2 hgrow2
  have Hb2 := Lib.hid (show Below w.heap.size w w2 from ((Below.refl _ _).alloc (Nat.le_refl _) _).grown hgrow2 (by simp) (fun k hk => by cases hk; exact Nat.le_refl _))
  have Hs2 := Lib.hid (show AR w2 w.heap.size p from ⟨_, _, hg2, by
    rw [Hl.out, ← Hpl.out]
    simp only [splice, List.take_zero, List.nil_append]
    rw [List.take_left' Hfl.out]⟩)
  clear hg2 hgrow2
  go_wp2_with fail
  refine (HZ.out _ _ _ Hs2.out).mono ?_
  rintro e w3 ⟨rfl, hs3, hb3⟩
  have Hs3 := Lib.hid hs3
  have Hb3 := Lib.hid (Hb2.out.trans (hb3 _ (Nat.le_refl _)))
  have hz3 := Hs3.out.lt
  clear hs3 hb3 Hs2 Hb2
  go_wp2_with fail
  refine (Hi.out _).mono ?_
  rintro e w4 ⟨rfl, hr4, hb4⟩
  have Hr4 := Lib.hid (show AR w4 w3.heap.size (upI 4) from AR.of_row hr4)
  have Hs4 := Lib.hid (Hs3.out.block (hb4.block _ hz3))
  have Hb4 := Lib.hid (below_nx Hb3.out hb4)
  clear hr4 hb4 Hs3 Hb3
  go_wp2_with fail
  refine (HE.out _ _ _ _ _ Hs4.out Hr4.out).mono ?_
  rintro e w5 ⟨rfl, hb5⟩
  have Hb5 := Lib.hid (below_nx Hb4.out hb5)
  clear hb5
  go_wp2_with fail
  go_ret
  exact ⟨rfl, Hb5.out⟩
set_option maxRecDepth 100000 in
set_option maxHeartbeats 800000 in
theorem iisP (B : Nat) (v : Value) (p : List Int) (w : World) (hv : intE.Sl w B v p) (_ : Ei p) (hm : p.length ≤ 1048576) :
    Calls Try.prog 76 #[v] w fun e w' => e = .returned (.bool (permB p)) ∧ Below w.heap.size w w' := by
  by_cases h : 1 ≤ p.length ∧ p.length ≤ 4
  · rcases (show p.length = 1 ∨ p.length = 2 ∨ p.length = 3 ∨ p.length = 4 by omega) with e | e | e | e
    · exact iisP1 B v p w hv e
    · exact iisP2 B v p w hv e
    · exact iisP3 B v p w hv e
    · exact iisP4 B v p w hv e
  · rw [permB_size h]
    have Hq := Lib.hid (fun w => iisq_no p.length w (by omega) (by omega) (by omega))
    clear h
    obtain ⟨a, cap, rfl, hcap, -⟩ := hv
    go_enter Try.func76, Try.ntmps76
    go_wp2_with fail
    refine (Hq.out _).mono ?_
    rintro e w0 ⟨rfl, rfl⟩
    go_wp2_with fail
    go_ret
    exact ⟨rfl, Below.refl _ _⟩
end Go.Proofs.Ytmpafidkpangeaa
