/- BaseB91: several of our texts in one: StdSort PmKt PmKa. -/
import Derived.Shelf.Sort.Plain
import Derived.Test.YtmpafidkpangeaaGreatProg
import Derived.Sort.OwnSortedInts
import Derived.Test.YtmpafidkpangeaaGreatBaseB19
namespace Go.Proofs
open Go.Shelf
def Tryz.lays189_ren : Go.Shelf.Ren := ⟨fun | 189 => 139 | 125 => 173 | 257 => 172 | 128 => 191 | 129 => 192 | 294 => 182 | 295 => 183 | 296 => 184 | 297 => 185 | 298 => 186 | 299 => 187 | 216 => 188 | 300 => 189 | 301 => 190 | 328 => 196 | 329 => 197 | 330 => 198 | 331 => 199 | 332 => 200 | 215 => 201 | 343 => 204 | n => n, fun | 28 => 46 | 3 => 3 | 46 => 100 | 0 => 0 | 51 => 185 | 53 => 187 | 4 => 4 | 183 => 177 | 182 => 176 | 131 => 182 | 5 => 5 | 9 => 9 | 218 => 191 | 222 => 195 | 228 => 198 | 229 => 199 | n => n, fun | n => n⟩
theorem Tryz.lays189 : Go.Proofs.Lays.n189 Tryz.prog Tryz.lays189_ren := {
  mixed := by kernel_rfl
  f125 := Tryz.func173.trans (congrArg some (by kernel_rfl))
  f128 := Tryz.func191.trans (congrArg some (by kernel_rfl))
  f129 := Tryz.func192.trans (congrArg some (by kernel_rfl))
  f189 := Tryz.func139.trans (congrArg some (by kernel_rfl))
  f215 := Tryz.func201.trans (congrArg some (by kernel_rfl))
  f216 := Tryz.func188.trans (congrArg some (by kernel_rfl))
  f257 := Tryz.func172.trans (congrArg some (by kernel_rfl))
  f294 := Tryz.func182.trans (congrArg some (by kernel_rfl))
  f295 := Tryz.func183.trans (congrArg some (by kernel_rfl))
  f296 := Tryz.func184.trans (congrArg some (by kernel_rfl))
  f297 := Tryz.func185.trans (congrArg some (by kernel_rfl))
  f298 := Tryz.func186.trans (congrArg some (by kernel_rfl))
  f299 := Tryz.func187.trans (congrArg some (by kernel_rfl))
  f300 := Tryz.func189.trans (congrArg some (by kernel_rfl))
  f301 := Tryz.func190.trans (congrArg some (by kernel_rfl))
  f328 := Tryz.func196.trans (congrArg some (by kernel_rfl))
  f329 := Tryz.func197.trans (congrArg some (by kernel_rfl))
  f330 := Tryz.func198.trans (congrArg some (by kernel_rfl))
  f331 := Tryz.func199.trans (congrArg some (by kernel_rfl))
  f332 := Tryz.func200.trans (congrArg some (by kernel_rfl))
  f343 := Tryz.func204.trans (congrArg some (by kernel_rfl))
  t0 := Tryz.underlying0
  a0 := Tryz.isAgg0
  z0 := Tryz.sizeOf0
  v0 := Tryz.zeroValue0
  t3 := Tryz.underlying3
  a3 := Tryz.isAgg3
  z3 := Tryz.sizeOf3
  v3 := Tryz.zeroValue3
  t4 := Tryz.underlying4
  a4 := Tryz.isAgg4
  z4 := Tryz.sizeOf4
  v4 := Tryz.zeroValue4
  t5 := Tryz.underlying5
  a5 := Tryz.isAgg5
  z5 := Tryz.sizeOf5
  v5 := Tryz.zeroValue5
  t9 := Tryz.underlying9
  a9 := Tryz.isAgg9
  z9 := Tryz.sizeOf9
  v9 := Tryz.zeroValue9
  t28 := Tryz.underlying46
  a28 := Tryz.isAgg46
  z28 := Tryz.sizeOf46
  v28 := Tryz.zeroValue46
  t46 := Tryz.underlying100
  a46 := Tryz.isAgg100
  z46 := Tryz.sizeOf100
  v46 := Tryz.zeroValue100
  t51 := Tryz.underlying185
  a51 := Tryz.isAgg185
  z51 := Tryz.sizeOf185
  v51 := Tryz.zeroValue185
  t53 := Tryz.underlying187
  a53 := Tryz.isAgg187
  z53 := Tryz.sizeOf187
  v53 := Tryz.zeroValue187
  t131 := Tryz.underlying182
  a131 := Tryz.isAgg182
  z131 := Tryz.sizeOf182
  v131 := Tryz.zeroValue182
  t182 := Tryz.underlying176
  a182 := Tryz.isAgg176
  z182 := Tryz.sizeOf176
  v182 := Tryz.zeroValue176
  t183 := Tryz.underlying177
  a183 := Tryz.isAgg177
  z183 := Tryz.sizeOf177
  v183 := Tryz.zeroValue177
  t218 := Tryz.underlying191
  a218 := Tryz.isAgg191
  z218 := Tryz.sizeOf191
  v218 := Tryz.zeroValue191
  t222 := Tryz.underlying195
  a222 := Tryz.isAgg195
  z222 := Tryz.sizeOf195
  v222 := Tryz.zeroValue195
  t228 := Tryz.underlying198
  a228 := Tryz.isAgg198
  z228 := Tryz.sizeOf198
  v228 := Tryz.zeroValue198
  t229 := Tryz.underlying199
  a229 := Tryz.isAgg199
  z229 := Tryz.sizeOf199
  v229 := Tryz.zeroValue199 }
open Go.Sort Go.RowKit in
theorem Tryz.slices_Sort_int (blk off cap : Nat) (zs : List Int) (w : World) (hH : Holds (Value.int .i64) w blk off zs.toArray) (hblk : blk < w.heap.size) (hsz : zs.length < 4611686018427387904) :
    Calls Tryz.prog 139 #[.slice (some ⟨blk, off, none⟩) zs.length cap] w fun e w' =>
      e = .returned (.tuple #[]) ∧ ∃ n os, w' = grow (putRow (Value.int .i64) (Sort.ahead w n) blk off (zs.mergeSort fun x y => decide (x ≤ y)).toArray) os := Any.slices_Sort_int Tryz.lays189 blk off cap zs w hH hblk hsz
end Go.Proofs
namespace Go.Proofs.YtmpafidkpangeaaGreat
open Go.RowKit Go.Sort
theorem isortI (g cap : Nat) (z : List Int) (w : World) (h : AR w g z) (h4 : z.length ≤ 4) :
    Calls Tryz.prog 139 #[.slice (some ⟨g, 0, none⟩) z.length cap] w fun e w' => e = .returned (.tuple #[]) ∧ AR w' g (sortL z) ∧ ∀ B, B ≤ g → Below B w w' := by
  obtain ⟨cs, ty, h1, h2⟩ := h
  have hg := lt_of_block h1
  have hc : z.length ≤ cs.size := by
    have := congrArg List.length h2
    rw [List.length_take, List.length_map, Array.length_toList (xs := cs)] at this
    omega
  refine (Tryz.slices_Sort_int g 0 cap z w (holds_of_blockI h1 h2) hg (by omega)).mono ?_
  rintro e w' ⟨rfl, n, os, rfl⟩
  refine ⟨rfl, ⟨_, ty, heap_sortedI _ h1, ?_⟩, fun B hB => (Below.refl B w).grown (grownBy_sortedI _) (by omega) (fun k hk => by cases hk; exact hB)⟩
  have hl : (sortL z).length = z.length := sortL_len z
  exact take_putCellsI cs (sortL z) (by omega)
end Go.Proofs.YtmpafidkpangeaaGreat
namespace Go.Proofs.YtmpafidkpangeaaGreat
open Go.RowKit
attribute [local irreducible] World.cell?
set_option maxRecDepth 100000 in
set_option maxHeartbeats 3200000 in
theorem iisP1 (B : Nat) (v : Value) (p : List Int) (w : World) (hv : intE.Sl w B v p) (hl : p.length = 1) :
    Calls Tryz.prog 71 #[v] w fun e w' => e = .returned (.bool (permB p)) ∧ Below w.heap.size w w' := by
  obtain ⟨a, cap, rfl, hcap, hr⟩ := hv
  obtain ⟨g, rfl, -, hrow⟩ := hr (by omega)
  have hgl := hrow.lt
  have Hrow := Lib.hid hrow
  have hfl : (intE.flat p).length = 1 := by rw [flatI, List.length_map, hl]
  have Hfl := Lib.hid hfl
  have hpl : (intE.flat p) = p.map (Value.int .i64) := flatI p
  have Hpl := Lib.hid hpl
  rw [permB_sort (by omega) (by omega)]
  have HZ := Lib.hid (fun g cap W (h : AR W g p) => isortI g cap p W h (by omega))
  have HE := Lib.hid (fun g g' cap cap' W (ha : AR W g (sortL p)) (hb : AR W g' (upI p.length)) => islEqI g g' cap cap' (sortL p) (upI p.length) W ha hb (by rw [sortL_len, upI_ln]) (by rw [sortL_len]; omega))
  rw [sortL_len] at HE
  obtain ⟨T, hT⟩ : ∃ T, T = decide (sortL p = upI p.length) := ⟨_, rfl⟩
  rw [← hT] at HE ⊢
  have Hq := Lib.hid (fun w => iisq_yes 1 w (by decide))
  have Hi := Lib.hid (fun w => iidP_yes 1 w (by decide) (by decide))
  rw [hl] at hcap HZ HE ⊢
  have Hl := Lib.hid hl
  clear hr hl hT hrow hfl hpl
  go_enter Tryz.func71, Tryz.ntmps71
  go_wp2_with fail
  refine (Hq.out _).mono ?_
  rintro e w0 ⟨rfl, rfl⟩
  go_wp2_with (first | (refine wpList_copy_N rfl _ _ 46 46 rfl 3 1 Tryz.underlying46 sizeInt w.heap.size 0 1 1 ⟨g, 0, none⟩ 1 cap rfl rfl #[.int .i64 0, .int .i64 0, .int .i64 0, .int .i64 0] 152 (heap_alloc_new w _) (intE.flat p) 1 rfl Hfl.out (intE_src (Hrow.out.alloc _)) (by rw [Hfl.out]; decide) (intE.flat_plain p) ?_))
  intro w2 hg2 hgrow2
  have Hb2 := Lib.hid (show Below w.heap.size w w2 from ((Below.refl _ _).alloc (Nat.le_refl _) _).grown hgrow2 (by simp) (fun k hk => by cases hk; exact Nat.le_refl _))
  have Hs2 := Lib.hid (show AR w2 w.heap.size p from ⟨_, _, hg2, by
    rw [Hl.out, ← Hpl.out]
    simp only [splice, List.take_zero, List.nil_append]
    rw [List.take_left' Hfl.out]⟩)
  clear hg2 hgrow2
  go_wp2_with fail
  refine (HZ.out _ _ _ Hs2.out).mono ?_
  rintro e w3 ⟨rfl, hs3, hb3⟩
  have Hs3 := Lib.hid hs3
  have Hb3 := Lib.hid (Hb2.out.trans (hb3 _ (Nat.le_refl _)))
  have hz3 := Hs3.out.lt
  clear hs3 hb3 Hs2 Hb2
  go_wp2_with fail
  refine (Hi.out _).mono ?_
  rintro e w4 ⟨rfl, hr4, hb4⟩
  have Hr4 := Lib.hid (show AR w4 w3.heap.size (upI 1) from AR.of_row hr4)
  have Hs4 := Lib.hid (Hs3.out.block (hb4.block _ hz3))
  have Hb4 := Lib.hid (below_nx Hb3.out hb4)
  clear hr4 hb4 Hs3 Hb3
  go_wp2_with fail
  refine (HE.out _ _ _ _ _ Hs4.out Hr4.out).mono ?_
  rintro e w5 ⟨rfl, hb5⟩
  have Hb5 := Lib.hid (below_nx Hb4.out hb5)
  clear hb5
  go_wp2_with fail
  go_ret
  exact ⟨rfl, Hb5.out⟩
set_option maxRecDepth 100000 in
set_option maxHeartbeats 3200000 in
theorem iisP2 (B : Nat) (v : Value) (p : List Int) (w : World) (hv : intE.Sl w B v p) (hl : p.length = 2) :
    Calls Tryz.prog 71 #[v] w fun e w' => e = .returned (.bool (permB p)) ∧ Below w.heap.size w w' := by
  obtain ⟨a, cap, rfl, hcap, hr⟩ := hv
  obtain ⟨g, rfl, -, hrow⟩ := hr (by omega)
  have hgl := hrow.lt
  have Hrow := Lib.hid hrow
  have hfl : (intE.flat p).length = 2 := by rw [flatI, List.length_map, hl]
  have Hfl := Lib.hid hfl
  have hpl : (intE.flat p) = p.map (Value.int .i64) := flatI p
  have Hpl := Lib.hid hpl
  rw [permB_sort (by omega) (by omega)]
  have HZ := Lib.hid (fun g cap W (h : AR W g p) => isortI g cap p W h (by omega))
  have HE := Lib.hid (fun g g' cap cap' W (ha : AR W g (sortL p)) (hb : AR W g' (upI p.length)) => islEqI g g' cap cap' (sortL p) (upI p.length) W ha hb (by rw [sortL_len, upI_ln]) (by rw [sortL_len]; omega))
  rw [sortL_len] at HE
  obtain ⟨T, hT⟩ : ∃ T, T = decide (sortL p = upI p.length) := ⟨_, rfl⟩
  rw [← hT] at HE ⊢
  have Hq := Lib.hid (fun w => iisq_yes 2 w (by decide))
  have Hi := Lib.hid (fun w => iidP_yes 2 w (by decide) (by decide))
  rw [hl] at hcap HZ HE ⊢
  have Hl := Lib.hid hl
  clear hr hl hT hrow hfl hpl
  go_enter Tryz.func71, Tryz.ntmps71
  go_wp2_with fail
  refine (Hq.out _).mono ?_
  rintro e w0 ⟨rfl, rfl⟩
  go_wp2_with (first | (refine wpList_copy_N rfl _ _ 46 46 rfl 3 1 Tryz.underlying46 sizeInt w.heap.size 0 2 2 ⟨g, 0, none⟩ 2 cap rfl rfl #[.int .i64 0, .int .i64 0, .int .i64 0, .int .i64 0] 152 (heap_alloc_new w _) (intE.flat p) 2 rfl Hfl.out (intE_src (Hrow.out.alloc _)) (by rw [Hfl.out]; decide) (intE.flat_plain p) ?_))
  intro w2 hg2 hgrow2
  have Hb2 := Lib.hid (show Below w.heap.size w w2 from ((Below.refl _ _).alloc (Nat.le_refl _) _).grown hgrow2 (by simp) (fun k hk => by cases hk; exact Nat.le_refl _))
  have Hs2 := Lib.hid (show AR w2 w.heap.size p from ⟨_, _, hg2, by
    rw [Hl.out, ← Hpl.out]
    simp only [splice, List.take_zero, List.nil_append]
    rw [List.take_left' Hfl.out]⟩)
  clear hg2 hgrow2
  go_wp2_with fail
  refine (HZ.out _ _ _ Hs2.out).mono ?_
  rintro e w3 ⟨rfl, hs3, hb3⟩
  have Hs3 := Lib.hid hs3
  have Hb3 := Lib.hid (Hb2.out.trans (hb3 _ (Nat.le_refl _)))
  have hz3 := Hs3.out.lt
  clear hs3 hb3 Hs2 Hb2
  go_wp2_with fail
  refine (Hi.out _).mono ?_
  rintro e w4 ⟨rfl, hr4, hb4⟩
  have Hr4 := Lib.hid (show AR w4 w3.heap.size (upI 2) from AR.of_row hr4)
  have Hs4 := Lib.hid (Hs3.out.block (hb4.block _ hz3))
  have Hb4 := Lib.hid (below_nx Hb3.out hb4)
  clear hr4 hb4 Hs3 Hb3
  go_wp2_with fail
  refine (HE.out _ _ _ _ _ Hs4.out Hr4.out).mono ?_
  rintro e w5 ⟨rfl, hb5⟩
  have Hb5 := Lib.hid (below_nx Hb4.out hb5)
  clear hb5
  go_wp2_with fail
  go_ret
  exact ⟨rfl, Hb5.out⟩
set_option maxRecDepth 100000 in
set_option maxHeartbeats 3200000 in
theorem iisP3 (B : Nat) (v : Value) (p : List Int) (w : World) (hv : intE.Sl w B v p) (hl : p.length = 3) :
    Calls Tryz.prog 71 #[v] w fun e w' => e = .returned (.bool (permB p)) ∧ Below w.heap.size w w' := by
  obtain ⟨a, cap, rfl, hcap, hr⟩ := hv
  obtain ⟨g, rfl, -, hrow⟩ := hr (by omega)
  have hgl := hrow.lt
  have Hrow := Lib.hid hrow
  have hfl : (intE.flat p).length = 3 := by rw [flatI, List.length_map, hl]
  have Hfl := Lib.hid hfl
  have hpl : (intE.flat p) = p.map (Value.int .i64) := flatI p
  have Hpl := Lib.hid hpl
  rw [permB_sort (by omega) (by omega)]
  have HZ := Lib.hid (fun g cap W (h : AR W g p) => isortI g cap p W h (by omega))
  have HE := Lib.hid (fun g g' cap cap' W (ha : AR W g (sortL p)) (hb : AR W g' (upI p.length)) => islEqI g g' cap cap' (sortL p) (upI p.length) W ha hb (by rw [sortL_len, upI_ln]) (by rw [sortL_len]; omega))
  rw [sortL_len] at HE
  obtain ⟨T, hT⟩ : ∃ T, T = decide (sortL p = upI p.length) := ⟨_, rfl⟩
  rw [← hT] at HE ⊢
  have Hq := Lib.hid (fun w => iisq_yes 3 w (by decide))
  have Hi := Lib.hid (fun w => iidP_yes 3 w (by decide) (by decide))
  rw [hl] at hcap HZ HE ⊢
  have Hl := Lib.hid hl
  clear hr hl hT hrow hfl hpl
  go_enter Tryz.func71, Tryz.ntmps71
  go_wp2_with fail
  refine (Hq.out _).mono ?_
  rintro e w0 ⟨rfl, rfl⟩
  go_wp2_with (first | (refine wpList_copy_N rfl _ _ 46 46 rfl 3 1 Tryz.underlying46 sizeInt w.heap.size 0 3 3 ⟨g, 0, none⟩ 3 cap rfl rfl #[.int .i64 0, .int .i64 0, .int .i64 0, .int .i64 0] 152 (heap_alloc_new w _) (intE.flat p) 3 rfl Hfl.out (intE_src (Hrow.out.alloc _)) (by rw [Hfl.out]; decide) (intE.flat_plain p) ?_))
  intro w2 hg2 hgrow2
  have Hb2 := Lib.hid (show Below w.heap.size w w2 from ((Below.refl _ _).alloc (Nat.le_refl _) _).grown hgrow2 (by simp) (fun k hk => by cases hk; exact Nat.le_refl _))
  have Hs2 := Lib.hid (show AR w2 w.heap.size p from ⟨_, _, hg2, by
    rw [Hl.out, ← Hpl.out]
    simp only [splice, List.take_zero, List.nil_append]
    rw [List.take_left' Hfl.out]⟩)
  clear hg2 hgrow2
  go_wp2_with fail
  refine (HZ.out _ _ _ Hs2.out).mono ?_
  rintro e w3 ⟨rfl, hs3, hb3⟩
  have Hs3 := Lib.hid hs3
  have Hb3 := Lib.hid (Hb2.out.trans (hb3 _ (Nat.le_refl _)))
  have hz3 := Hs3.out.lt
  clear hs3 hb3 Hs2 Hb2
  go_wp2_with fail
  refine (Hi.out _).mono ?_
  rintro e w4 ⟨rfl, hr4, hb4⟩
  have Hr4 := Lib.hid (show AR w4 w3.heap.size (upI 3) from AR.of_row hr4)
  have Hs4 := Lib.hid (Hs3.out.block (hb4.block _ hz3))
  have Hb4 := Lib.hid (below_nx Hb3.out hb4)
  clear hr4 hb4 Hs3 Hb3
  go_wp2_with fail
  refine (HE.out _ _ _ _ _ Hs4.out Hr4.out).mono ?_
  rintro e w5 ⟨rfl, hb5⟩
  have Hb5 := Lib.hid (below_nx Hb4.out hb5)
  clear hb5
  go_wp2_with fail
  go_ret
  exact ⟨rfl, Hb5.out⟩
set_option maxRecDepth 100000 in
set_option maxHeartbeats 3200000 in
theorem iisP4 (B : Nat) (v : Value) (p : List Int) (w : World) (hv : intE.Sl w B v p) (hl : p.length = 4) :
    Calls Tryz.prog 71 #[v] w fun e w' => e = .returned (.bool (permB p)) ∧ Below w.heap.size w w' := by
  obtain ⟨a, cap, rfl, hcap, hr⟩ := hv
  obtain ⟨g, rfl, -, hrow⟩ := hr (by omega)
  have hgl := hrow.lt
  have Hrow := Lib.hid hrow
  have hfl : (intE.flat p).length = 4 := by rw [flatI, List.length_map, hl]
  have Hfl := Lib.hid hfl
  have hpl : (intE.flat p) = p.map (Value.int .i64) := flatI p
  have Hpl := Lib.hid hpl
  rw [permB_sort (by omega) (by omega)]
  have HZ := Lib.hid (fun g cap W (h : AR W g p) => isortI g cap p W h (by omega))
  have HE := Lib.hid (fun g g' cap cap' W (ha : AR W g (sortL p)) (hb : AR W g' (upI p.length)) => islEqI g g' cap cap' (sortL p) (upI p.length) W ha hb (by rw [sortL_len, upI_ln]) (by rw [sortL_len]; omega))
  rw [sortL_len] at HE
  obtain ⟨T, hT⟩ : ∃ T, T = decide (sortL p = upI p.length) := ⟨_, rfl⟩
  rw [← hT] at HE ⊢
  have Hq := Lib.hid (fun w => iisq_yes 4 w (by decide))
  have Hi := Lib.hid (fun w => iidP_yes 4 w (by decide) (by decide))
  rw [hl] at hcap HZ HE ⊢
  have Hl := Lib.hid hl
  clear hr hl hT hrow hfl hpl
  go_enter Tryz.func71, Tryz.ntmps71
  go_wp2_with fail
  refine (Hq.out _).mono ?_
  rintro e w0 ⟨rfl, rfl⟩
  go_wp2_with (first | (refine wpList_copy_N rfl _ _ 46 46 rfl 3 1 Tryz.underlying46 sizeInt w.heap.size 0 4 4 ⟨g, 0, none⟩ 4 cap rfl rfl #[.int .i64 0, .int .i64 0, .int .i64 0, .int .i64 0] 152 (heap_alloc_new w _) (intE.flat p) 4 rfl Hfl.out (intE_src (Hrow.out.alloc _)) (by rw [Hfl.out]; decide) (intE.flat_plain p) ?_))
  intro w2 hg2 hgrow2
  have Hb2 := Lib.hid (show Below w.heap.size w w2 from ((Below.refl _ _).alloc (Nat.le_refl _) _).grown hgrow2 (by simp) (fun k hk => by cases hk; exact Nat.le_refl _))
  have Hs2 := Lib.hid (show AR w2 w.heap.size p from ⟨_, _, hg2, by
    rw [Hl.out, ← Hpl.out]
    simp only [splice, List.take_zero, List.nil_append]
    rw [List.take_left' Hfl.out]⟩)
  clear hg2 hgrow2
  go_wp2_with fail
  refine (HZ.out _ _ _ Hs2.out).mono ?_
  rintro e w3 ⟨rfl, hs3, hb3⟩
  have Hs3 := Lib.hid hs3
  have Hb3 := Lib.hid (Hb2.out.trans (hb3 _ (Nat.le_refl _)))
  have hz3 := Hs3.out.lt
  clear hs3 hb3 Hs2 Hb2
  go_wp2_with fail
  refine (Hi.out _).mono ?_
  rintro e w4 ⟨rfl, hr4, hb4⟩
  have Hr4 := Lib.hid (show AR w4 w3.heap.size (upI 4) from AR.of_row hr4)
  have Hs4 := Lib.hid (Hs3.out.block (hb4.block _ hz3))
  have Hb4 := Lib.hid (below_nx Hb3.out hb4)
  clear hr4 hb4 Hs3 Hb3
  go_wp2_with fail
  refine (HE.out _ _ _ _ _ Hs4.out Hr4.out).mono ?_
  rintro e w5 ⟨rfl, hb5⟩
  have Hb5 := Lib.hid (below_nx Hb4.out hb5)
  clear hb5
  go_wp2_with fail
  go_ret
  exact ⟨rfl, Hb5.out⟩
set_option maxRecDepth 100000 in
set_option maxHeartbeats 800000 in
theorem iisP (B : Nat) (v : Value) (p : List Int) (w : World) (hv : intE.Sl w B v p) (_ : Ei p) (hm : p.length ≤ 1048576) :
    Calls Tryz.prog 71 #[v] w fun e w' => e = .returned (.bool (permB p)) ∧ Below w.heap.size w w' := by
  by_cases h : 1 ≤ p.length ∧ p.length ≤ 4
  · rcases (show p.length = 1 ∨ p.length = 2 ∨ p.length = 3 ∨ p.length = 4 by omega) with e | e | e | e
    · exact iisP1 B v p w hv e
    · exact iisP2 B v p w hv e
    · exact iisP3 B v p w hv e
    · exact iisP4 B v p w hv e
  · rw [permB_size h]
    have Hq := Lib.hid (fun w => iisq_no p.length w (by omega) (by omega) (by omega))
    clear h
    obtain ⟨a, cap, rfl, hcap, -⟩ := hv
    go_enter Tryz.func71, Tryz.ntmps71
    go_wp2_with fail
    refine (Hq.out _).mono ?_
    rintro e w0 ⟨rfl, rfl⟩
    go_wp2_with fail
    go_ret
    exact ⟨rfl, Below.refl _ _⟩
end Go.Proofs.YtmpafidkpangeaaGreat
