/- The model's DecomposeGate, DecomposeGates, IsBasicGate. -/
import Derived.Test.YtadimihfbpkilaaBaseB09
import Derived.Test.YtadimihfbpkilaaApS
import Derived.Test.YtadimihfbpkilaaBaseB21
namespace Go.Proofs.Ytadimihfbpkilaa
open Go.RowKit
attribute [local irreducible] World.cell?
set_option maxRecDepth 100000 in
set_option maxHeartbeats 800000 in
theorem sone (k q : Int) (w : World) : Calls Try.prog 39 #[.int .i64 k, .int .i64 q] w fun e w' => e = .returned (.agg #[.int .i64 k, .int .i64 q, .int .i64 0, .int .i64 0]) ∧ Below w.heap.size w w' := by
  go_enter Try.func39, Try.ntmps39
  go_wp2_with fail
  refine bodyPost_ret (v := .agg #[.int .i64 k, .int .i64 q, .int .i64 0, .int .i64 0]) (by simp [results, Try.results39, go_sem]) rfl ⟨rfl, ?_⟩
  go_grown
set_option maxRecDepth 100000 in
set_option maxHeartbeats 800000 in
theorem scx (a b : Int) (w : World) : Calls Try.prog 40 #[.int .i64 a, .int .i64 b] w fun e w' => e = .returned (.agg #[.int .i64 9, .int .i64 a, .int .i64 b, .int .i64 0]) ∧ Below w.heap.size w w' := by
  go_enter Try.func40, Try.ntmps40
  go_wp2_with fail
  refine bodyPost_ret (v := .agg #[.int .i64 9, .int .i64 a, .int .i64 b, .int .i64 0]) (by simp [results, Try.results40, go_sem]) rfl ⟨rfl, ?_⟩
  go_grown
set_option maxRecDepth 100000 in
set_option maxHeartbeats 6400000 in
theorem sdcG (g : Gt) (w : World) : Calls Try.prog 18 #[(.agg #[.int .i64 g.k, .int .i64 g.a, .int .i64 g.b, .int .i64 g.c])] w fun e w' => ∃ v, e = .returned v ∧ gtE.Sl w' w.heap.size v (dcG g) ∧ Below w.heap.size w w' := by
  obtain ⟨i0, hi, hz0, hz1, hz2⟩ := info_parts infoG3
  obtain ⟨k, a, b, c⟩ := g
  obtain ⟨h10, h11, h12, hno⟩ := @dcG_at k a b c
  have Hb := Lib.hid (show Below w.heap.size w (w.alloc (.cells #[.int .i64 k, .int .i64 a, .int .i64 b, .int .i64 c] 30)) by go_grown)
  by_cases k10 : k = 10
  · rw [h10 k10]
    subst k10
    clear h10 h11 h12 hno
    go_enter Try.func18, Try.ntmps18
    go_wp2_with fail
    refine (sone 4 b _).mono ?_
    rintro e w1 ⟨rfl, hb1⟩
    have Hb := Lib.hid (below_nx Hb.out hb1)
    clear hb1
    go_wp2_with fail
    refine (scx a b _).mono ?_
    rintro e w2 ⟨rfl, hb2⟩
    have Hb := Lib.hid (below_nx Hb.out hb2)
    clear hb2
    go_wp2_with fail
    refine (sone 4 b _).mono ?_
    rintro e w3 ⟨rfl, hb3⟩
    have Hb := Lib.hid (below_nx Hb.out hb3)
    clear hb3
    have hs := Hb.out.size
    go_wp2_with fail
    go_ret
    exact ⟨_, rfl, (Enc.Sl.mk (E := gtE) (l := [⟨4, b, 0, 0⟩, ⟨9, a, b, 0⟩, ⟨4, b, 0, 0⟩]) rfl (Nat.le_refl _) (Nat.le_refl _) ⟨_, heap_alloc_new w3 (.cells #[.int .i64 4, .int .i64 b, .int .i64 0, .int .i64 0, .int .i64 9, .int .i64 a, .int .i64 b, .int .i64 0, .int .i64 4, .int .i64 b, .int .i64 0, .int .i64 0] 30), rfl⟩).mono hs, Hb.out.alloc hs _⟩
  by_cases k11 : k = 11
  · rw [h11 k11]
    subst k11
    clear h10 h11 h12 hno
    go_enter Try.func18, Try.ntmps18
    go_wp2_with fail
    refine (scx a b _).mono ?_
    rintro e w1 ⟨rfl, hb1⟩
    have Hb := Lib.hid (below_nx Hb.out hb1)
    clear hb1
    go_wp2_with fail
    refine (scx b a _).mono ?_
    rintro e w2 ⟨rfl, hb2⟩
    have Hb := Lib.hid (below_nx Hb.out hb2)
    clear hb2
    go_wp2_with fail
    refine (scx a b _).mono ?_
    rintro e w3 ⟨rfl, hb3⟩
    have Hb := Lib.hid (below_nx Hb.out hb3)
    clear hb3
    have hs := Hb.out.size
    go_wp2_with fail
    go_ret
    exact ⟨_, rfl, (Enc.Sl.mk (E := gtE) (l := [⟨9, a, b, 0⟩, ⟨9, b, a, 0⟩, ⟨9, a, b, 0⟩]) rfl (Nat.le_refl _) (Nat.le_refl _) ⟨_, heap_alloc_new w3 (.cells #[.int .i64 9, .int .i64 a, .int .i64 b, .int .i64 0, .int .i64 9, .int .i64 b, .int .i64 a, .int .i64 0, .int .i64 9, .int .i64 a, .int .i64 b, .int .i64 0] 30), rfl⟩).mono hs, Hb.out.alloc hs _⟩
  by_cases k12 : k = 12
  · rw [h12 k12]
    subst k12
    clear h10 h11 h12 hno
    go_enter Try.func18, Try.ntmps18
    go_wp2_with fail
    refine (sone 4 c _).mono ?_
    rintro e w1 ⟨rfl, hb1⟩
    have Hb := Lib.hid (below_nx Hb.out hb1)
    clear hb1
    go_wp2_with fail
    refine (scx b c _).mono ?_
    rintro e w2 ⟨rfl, hb2⟩
    have Hb := Lib.hid (below_nx Hb.out hb2)
    clear hb2
    go_wp2_with fail
    refine (sone 8 c _).mono ?_
    rintro e w3 ⟨rfl, hb3⟩
    have Hb := Lib.hid (below_nx Hb.out hb3)
    clear hb3
    go_wp2_with fail
    refine (scx a c _).mono ?_
    rintro e w4 ⟨rfl, hb4⟩
    have Hb := Lib.hid (below_nx Hb.out hb4)
    clear hb4
    go_wp2_with fail
    refine (sone 7 c _).mono ?_
    rintro e w5 ⟨rfl, hb5⟩
    have Hb := Lib.hid (below_nx Hb.out hb5)
    clear hb5
    go_wp2_with fail
    refine (scx b c _).mono ?_
    rintro e w6 ⟨rfl, hb6⟩
    have Hb := Lib.hid (below_nx Hb.out hb6)
    clear hb6
    go_wp2_with fail
    refine (sone 8 c _).mono ?_
    rintro e w7 ⟨rfl, hb7⟩
    have Hb := Lib.hid (below_nx Hb.out hb7)
    clear hb7
    go_wp2_with fail
    refine (scx a c _).mono ?_
    rintro e w8 ⟨rfl, hb8⟩
    have Hb := Lib.hid (below_nx Hb.out hb8)
    clear hb8
    have hs := Hb.out.size
    have Hown := Lib.hid (World.ownsRow_lit (e := 30) (size := 4) w8 #[.int .i64 4, .int .i64 c, .int .i64 0, .int .i64 0, .int .i64 9, .int .i64 b, .int .i64 c, .int .i64 0, .int .i64 8, .int .i64 c, .int .i64 0, .int .i64 0, .int .i64 9, .int .i64 a, .int .i64 c, .int .i64 0, .int .i64 7, .int .i64 c, .int .i64 0, .int .i64 0, .int .i64 9, .int .i64 b, .int .i64 c, .int .i64 0, .int .i64 8, .int .i64 c, .int .i64 0, .int .i64 0, .int .i64 9, .int .i64 a, .int .i64 c, .int .i64 0] 8 (Nat.le_refl _) (by unfold maxLen; omega) rfl)
    have Hb := Lib.hid (Hb.out.alloc hs (.cells #[.int .i64 4, .int .i64 c, .int .i64 0, .int .i64 0, .int .i64 9, .int .i64 b, .int .i64 c, .int .i64 0, .int .i64 8, .int .i64 c, .int .i64 0, .int .i64 0, .int .i64 9, .int .i64 a, .int .i64 c, .int .i64 0, .int .i64 7, .int .i64 c, .int .i64 0, .int .i64 0, .int .i64 9, .int .i64 b, .int .i64 c, .int .i64 0, .int .i64 8, .int .i64 c, .int .i64 0, .int .i64 0, .int .i64 9, .int .i64 a, .int .i64 c, .int .i64 0] 30))
    have hz : w8.heap.size ≤ (w8.alloc (.cells #[.int .i64 4, .int .i64 c, .int .i64 0, .int .i64 0, .int .i64 9, .int .i64 b, .int .i64 c, .int .i64 0, .int .i64 8, .int .i64 c, .int .i64 0, .int .i64 0, .int .i64 9, .int .i64 a, .int .i64 c, .int .i64 0, .int .i64 7, .int .i64 c, .int .i64 0, .int .i64 0, .int .i64 9, .int .i64 b, .int .i64 c, .int .i64 0, .int .i64 8, .int .i64 c, .int .i64 0, .int .i64 0, .int .i64 9, .int .i64 a, .int .i64 c, .int .i64 0] 30)).heap.size := by simp
    go_wp2_with fail
    refine (sone 7 b _).mono ?_
    rintro e w9 ⟨rfl, hb9⟩
    have Hown := Lib.hid (row_below Hown.out hb9)
    have hz := Nat.le_trans hz hb9.size
    have Hb := Lib.hid (below_nx Hb.out hb9)
    clear hb9
    go_wp2_with fail
    refine (sone 7 c _).mono ?_
    rintro e w10 ⟨rfl, hb10⟩
    have Hown := Lib.hid (row_below Hown.out hb10)
    have hz := Nat.le_trans hz hb10.size
    have Hb := Lib.hid (below_nx Hb.out hb10)
    clear hb10
    go_wp2_with fail
    refine (sone 4 c _).mono ?_
    rintro e w11 ⟨rfl, hb11⟩
    have Hown := Lib.hid (row_below Hown.out hb11)
    have hz := Nat.le_trans hz hb11.size
    have Hb := Lib.hid (below_nx Hb.out hb11)
    clear hb11
    go_wp2_with fail
    refine (scx a b _).mono ?_
    rintro e w12 ⟨rfl, hb12⟩
    have Hown := Lib.hid (row_below Hown.out hb12)
    have hz := Nat.le_trans hz hb12.size
    have Hb := Lib.hid (below_nx Hb.out hb12)
    clear hb12
    go_wp2_with fail
    refine (sone 7 a _).mono ?_
    rintro e w13 ⟨rfl, hb13⟩
    have Hown := Lib.hid (row_below Hown.out hb13)
    have hz := Nat.le_trans hz hb13.size
    have Hb := Lib.hid (below_nx Hb.out hb13)
    clear hb13
    go_wp2_with fail
    refine (sone 8 b _).mono ?_
    rintro e w14 ⟨rfl, hb14⟩
    have Hown := Lib.hid (row_below Hown.out hb14)
    have hz := Nat.le_trans hz hb14.size
    have Hb := Lib.hid (below_nx Hb.out hb14)
    clear hb14
    go_wp2_with fail
    refine (scx a b _).mono ?_
    rintro e w15 ⟨rfl, hb15⟩
    have Hown := Lib.hid (row_below Hown.out hb15)
    have hz := Nat.le_trans hz hb15.size
    have Hb := Lib.hid (below_nx Hb.out hb15)
    clear hb15
    have hs2 := Hb.out.size
    have Hown := Lib.hid (Hown.out.alloc (.cells #[.int .i64 7, .int .i64 b, .int .i64 0, .int .i64 0, .int .i64 7, .int .i64 c, .int .i64 0, .int .i64 0, .int .i64 4, .int .i64 c, .int .i64 0, .int .i64 0, .int .i64 9, .int .i64 a, .int .i64 b, .int .i64 0, .int .i64 7, .int .i64 a, .int .i64 0, .int .i64 0, .int .i64 8, .int .i64 b, .int .i64 0, .int .i64 0, .int .i64 9, .int .i64 a, .int .i64 b, .int .i64 0] 30))
    have Hnew := Lib.hid (show gtE.Sl (w15.alloc (.cells #[.int .i64 7, .int .i64 b, .int .i64 0, .int .i64 0, .int .i64 7, .int .i64 c, .int .i64 0, .int .i64 0, .int .i64 4, .int .i64 c, .int .i64 0, .int .i64 0, .int .i64 9, .int .i64 a, .int .i64 b, .int .i64 0, .int .i64 7, .int .i64 a, .int .i64 0, .int .i64 0, .int .i64 8, .int .i64 b, .int .i64 0, .int .i64 0, .int .i64 9, .int .i64 a, .int .i64 b, .int .i64 0] 30)) w15.heap.size (.slice (some ⟨w15.heap.size, 0, none⟩) 7 7) [⟨7, b, 0, 0⟩, ⟨7, c, 0, 0⟩, ⟨4, c, 0, 0⟩, ⟨9, a, b, 0⟩, ⟨7, a, 0, 0⟩, ⟨8, b, 0, 0⟩, ⟨9, a, b, 0⟩] from Enc.Sl.mk rfl (Nat.le_refl _) (Nat.le_refl _) ⟨_, heap_alloc_new w15 _, rfl⟩)
    have Hb := Lib.hid (Hb.out.alloc hs2 (.cells #[.int .i64 7, .int .i64 b, .int .i64 0, .int .i64 0, .int .i64 7, .int .i64 c, .int .i64 0, .int .i64 0, .int .i64 4, .int .i64 c, .int .i64 0, .int .i64 0, .int .i64 9, .int .i64 a, .int .i64 b, .int .i64 0, .int .i64 7, .int .i64 a, .int .i64 0, .int .i64 0, .int .i64 8, .int .i64 b, .int .i64 0, .int .i64 0, .int .i64 9, .int .i64 a, .int .i64 b, .int .i64 0] 30))
    go_wp2_with (first
      | (at_builtin; refine wpList_append_sl (E := gtE) rfl _ _ 24 rfl w8.heap.size i0 (.agg #[.int .i64 0, .int .i64 0, .int .i64 0, .int .i64 0]) 32 Try.underlying24 hi hz0 hz1 hz2 rfl (by decide) _ 8 _ rfl Hown.out w15.heap.size _ [⟨7, b, 0, 0⟩, ⟨7, c, 0, 0⟩, ⟨4, c, 0, 0⟩, ⟨9, a, b, 0⟩, ⟨7, a, 0, 0⟩, ⟨8, b, 0, 0⟩, ⟨9, a, b, 0⟩] rfl Hnew.out ?d3 ?d4 ?d5 ?_))
    case d3 => unfold maxLen; simp
    case d4 => simp
    case d5 => simp; omega
    intro v' w' hown' hgrow hat
    have HB := Lib.hid (Hb.out.grown hgrow (by have := Hb.out.size; omega) (fun q hq => by have := (Hown.out.lt q hq).1; omega))
    have Hv := Lib.hid ((Enc.Sl.of_own (E := gtE) (l := [⟨4, c, 0, 0⟩, ⟨9, b, c, 0⟩, ⟨8, c, 0, 0⟩, ⟨9, a, c, 0⟩, ⟨7, c, 0, 0⟩, ⟨9, b, c, 0⟩, ⟨8, c, 0, 0⟩, ⟨9, a, c, 0⟩] ++ [⟨7, b, 0, 0⟩, ⟨7, c, 0, 0⟩, ⟨4, c, 0, 0⟩, ⟨9, a, b, 0⟩, ⟨7, a, 0, 0⟩, ⟨8, b, 0, 0⟩, ⟨9, a, b, 0⟩]) hown').mono hs)
    clear hown' hgrow hat Hown Hnew Hb
    go_wp2_with fail
    go_ret
    exact ⟨_, rfl, Hv.out, HB.out⟩
  rw [hno k10 k11 k12]
  clear h10 h11 h12 hno
  have e10 : (k == 10) = false := by simpa using k10
  have e11 : (k == 11) = false := by simpa using k11
  have e12 : (k == 12) = false := by simpa using k12
  have hs := Hb.out.size
  obtain ⟨c0, c1, c2, c3⟩ := blk_cells (heap_alloc_new w (.cells #[.int .i64 k, .int .i64 a, .int .i64 b, .int .i64 c] 30))
  have h1 : ((w.alloc (.cells #[.int .i64 k, .int .i64 a, .int .i64 b, .int .i64 c] 30)).alloc (.cells #[.int .i64 k, .int .i64 a, .int .i64 b, .int .i64 c] 30)).heap[w.heap.size + 1]? = some (.cells #[.int .i64 k, .int .i64 a, .int .i64 b, .int .i64 c] 30 (0, 0)) := by
    have h := heap_alloc_new (w.alloc (.cells #[.int .i64 k, .int .i64 a, .int .i64 b, .int .i64 c] 30)) (.cells #[.int .i64 k, .int .i64 a, .int .i64 b, .int .i64 c] 30)
    rw [show (w.alloc (.cells #[.int .i64 k, .int .i64 a, .int .i64 b, .int .i64 c] 30)).heap.size = w.heap.size + 1 by simp] at h
    exact h
  have H1 := Lib.hid h1
  clear h1
  go_enter Try.func18, Try.ntmps18
  go_wp2_with fail
  go_ret
  exact ⟨_, rfl, Enc.Sl.mk (E := gtE) (l := [⟨k, a, b, c⟩]) rfl (Nat.le_refl _) (Nat.le_succ _) ⟨_, H1.out, rfl⟩, Hb.out.alloc hs _⟩
set_option maxRecDepth 100000 in
set_option maxHeartbeats 1600000 in
theorem sisB (g : Gt) (w : World) : Calls Try.prog 26 #[(.agg #[.int .i64 g.k, .int .i64 g.a, .int .i64 g.b, .int .i64 g.c])] w fun e w' => e = .returned (.bool (bsG g)) ∧ Below w.heap.size w w' := by
  have HX := Lib.hid (heap_alloc_new w (.cells #[.int .i64 g.k, .int .i64 g.a, .int .i64 g.b, .int .i64 g.c] 30))
  obtain ⟨c0, c1, c2, c3⟩ := blk_cells HX.out
  have Ha := Lib.hid (fun W => sar g.k W)
  unfold bsG
  have hle := ar_le g.k
  generalize ar g.k = t at *
  by_cases h1 : t = 1
  · subst h1
    go_enter Try.func26, Try.ntmps26
    go_wp2_with fail
    refine (Ha.out _).mono ?_
    rintro e w1 ⟨rfl, rfl⟩
    go_wp2_with fail
    go_ret
    exact ⟨by simp, by go_grown⟩
  · have h2 : ((t : Int) == 1) = false := by simp; omega
    rw [decide_eq_false h1, Bool.false_or]
    clear h1 hle
    go_enter Try.func26, Try.ntmps26
    go_wp2_with fail
    refine (Ha.out _).mono ?_
    rintro e w1 ⟨rfl, rfl⟩
    go_wp2_with fail
    go_ret
    exact ⟨by first | rfl | simp, by go_grown⟩
set_option maxRecDepth 100000 in
set_option maxHeartbeats 3200000 in
theorem sdcGs (B : Nat) (v : Value) (L : List Gt) (w : World) (hv : gtE.Sl w B v L) (hm : L.length ≤ 1048576) :
    Calls Try.prog 12 #[v] w fun e w' => ∃ r, e = .returned r ∧ gtE.Sl w' w.heap.size r (dcL L) ∧ Below w.heap.size w w' := by
  obtain ⟨i0, hi, hz0, hz1, hz2⟩ := info_parts infoG3
  obtain ⟨a, cap, rfl, hcap, hr⟩ := hv
  have Hr := Lib.hid hr
  clear hr
  go_enter Try.func12, Try.ntmps12
  go_wp2_with fail
  go_loopg [3, 4] L.length (fun m o i wr => ∃ j : Nat, m = L.length - j ∧ j ≤ L.length ∧ i = .int .i64 j ∧ Hid (wr.ownsRow w.heap.size 30 4 o (dcL (L.take j)).length (gtE.flat (dcL (L.take j)))) ∧ Hid (Below w.heap.size w wr))
  case atStart => exact ⟨0, rfl, Nat.zero_le _, rfl, Lib.hid (World.ownsRow_lit w #[] 0 (Nat.le_refl _) (Nat.zero_le _) rfl), Lib.hid (by go_grown)⟩
  case round =>
    obtain ⟨j, rfl, hj, rfl, Hown, Hb⟩ := hrel
    have hs := Hb.out.size
    have hlen := dcL_take L j
    by_cases hlt : j < L.length
    · obtain ⟨g, rfl, _, hrow⟩ := Hr.out (by omega)
      obtain ⟨x, hx⟩ : ∃ x, L[j]? = some x := ⟨L[j], List.getElem?_eq_getElem hlt⟩
      have r1 := hrow.below Hb.out hrow.lt
      obtain ⟨c0, c1, c2, c3⟩ := GRow.cells r1 hx
      have hgl := r1.lt
      have Hst := Lib.hid (dcL_step hx)
      have Hc := Lib.hid (sdcG x wr)
      have hl15 := (dcG_len x).2
      generalize dcL (L.take j) = F at *
      generalize dcG x = M at *
      clear hrow r1 hx
      go_wp2_with fail
      refine (Hc.out).mono ?_
      rintro e w3 ⟨u, rfl, hu, hb3⟩
      have Hu := Lib.hid hu
      have Hown3 := Lib.hid (row_below Hown.out hb3)
      have Hb3 := Lib.hid (below_nx Hb.out hb3)
      have hs3 := Hb3.out.size
      obtain ⟨pu, cu, rfl, -, -⟩ := id hu
      clear hu hb3 Hc Hown Hb c0 c1 c2 c3
      go_wp2_with (first
        | (at_builtin; refine wpList_append_sl (E := gtE) rfl _ _ 24 rfl w.heap.size i0 (.agg #[.int .i64 0, .int .i64 0, .int .i64 0, .int .i64 0]) 32 Try.underlying24 hi hz0 hz1 hz2 rfl (by decide) _ _ _ rfl Hown3.out _ _ M rfl Hu.out ?d3 ?d4 ?d5 ?_))
      case d3 => unfold maxLen; omega
      case d4 => omega
      case d5 => omega
      intro v' w5 hown' hgrow hat
      rw [← gtE.flat_app, ← List.length_append, ← Hst.out] at hown'
      have Hb5 := Lib.hid (Hb3.out.grown hgrow (by omega) (fun q hq => by have := (Hown3.out.lt q hq).1; omega))
      have Hown5 := Lib.hid hown'
      clear hown' hgrow hat
      go_wp2_with fail
      go_roundg (L.length - (j + 1))
      case measure => omega
      case rel => exact ⟨j + 1, rfl, by omega, by go_num, Hown5, Hb5⟩
    · obtain rfl : j = L.length := by omega
      have Hown2 := Lib.hid (Enc.Sl.of_own (E := gtE) Hown.out)
      go_wp2_with fail
      go_ret
      exact ⟨_, rfl, by have := Hown2.out; rwa [List.take_length] at this, Hb.out⟩
end Go.Proofs.Ytadimihfbpkilaa
