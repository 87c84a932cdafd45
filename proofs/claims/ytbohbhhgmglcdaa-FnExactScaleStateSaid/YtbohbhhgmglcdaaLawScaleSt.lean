/- The law FnExactScaleState: ScaleState answers as its model, at every state and fraction. No condition. -/
import Derived.Test.YtbohbhhgmglcdaaDsK
import Derived.Test.YtbohbhhgmglcdaaDsN
import Derived.Lib.SmallJoins
import Derived.WalkKit
import Derived.ProofKit
import Derived.OpenShut
import Derived.Deep.DeepHandedRow
import Derived.Lib.LaidTab
import Derived.LaidMore
import Derived.LaidHandle
import Derived.Lay
import Derived.Stop.LaidErr
namespace Go.Proofs.Ytbohbhhgmglcdaa.fnExactScaleState
open Go.ChangeShapes Go.WideShapes Go.ChangeAt Go.RowKit Go.Lib
attribute [local irreducible] World.cell?
set_option maxRecDepth 100000 in
set_option maxHeartbeats 6400000 in
theorem walk (la : Option Addr) (lc : Nat) (l : List Dw) (x : Dw) (w : World) (hin : DsIn w w.heap.size la l) (hx0 : -9223372036854775808 ≤ x.e) (hx1 : x.e ≤ 9223372036854775807) :
    Calls Try.prog 9 #[.slice la l.length lc, (.agg #[.int .i64 x.n.a, .int .i64 x.n.b, .int .i64 x.n.c, .int .i64 x.n.d, .int .i64 x.e])] w fun e w' => e = .returned (.bool true) ∧ Below w.heap.size w w' := by
  by_cases hl : l.length ≤ 1048576
  · have Hinl := Lib.hid hin
    have hEl := hin.eb
    have hr : (scaleL l x).length ≤ 1048576 := Nat.le_trans (scaleL_len l x) hl
    have Hsp := Lib.hid (fun W C B v (h1 : DSl W B v l) (hC : C ≤ W.heap.size) => sscaleC C B v l x W h1 hl hC)
    have Him := Lib.hid (fun W C B v (h1 : DSl W B v l) (hC : C ≤ W.heap.size) => iscaleC C B v l x W h1 hEl hl hx0 hx1 hC)
    have Htd := Lib.hid (toD x)
    have HX := Lib.hid (heap_alloc_new w (.cells #[.int .i64 x.n.a, .int .i64 x.n.b, .int .i64 x.n.c, .int .i64 x.n.d, .int .i64 x.e] 56))
    have Hb := Lib.hid ((Below.refl w.heap.size w).alloc (Nat.le_refl _) (.cells #[.int .i64 x.n.a, .int .i64 x.n.b, .int .i64 x.n.c, .int .i64 x.n.d, .int .i64 x.e] 56))
    have hz00 : (w.alloc (.cells #[.int .i64 x.n.a, .int .i64 x.n.b, .int .i64 x.n.c, .int .i64 x.n.d, .int .i64 x.e] 56)).heap.size = w.heap.size + 1 := by simp
    clear hin
    generalize scaleL l x = r at *
    generalize scaleB l x = t at *
    have hk0 : ¬ (1 + (l.length : Int) * 5 < 0) := by omega
    have hk1 : ¬ (1 + (r.length : Int) * 5 < 0) := by omega
    go_enter Try.func9, Try.ntmps9
    go_wp2_with fail
    refine (szFit la l.length lc 1048576 _ (by omega) (by omega) (by omega)).mono ?_
    rintro e w1 ⟨rfl, rfl⟩
    go_upto_region 5 with fail
    have Hxc := blk_cells5 HX.out
    have hxl := lt_of_block HX.out
    go_cut [6, 7] (fun s6 s7 wx => s7 = .bool t ∧ Hid (Below ((w.alloc (.cells #[.int .i64 x.n.a, .int .i64 x.n.b, .int .i64 x.n.c, .int .i64 x.n.d, .int .i64 x.e] 56))).heap.size ((w.alloc (.cells #[.int .i64 x.n.a, .int .i64 x.n.b, .int .i64 x.n.c, .int .i64 x.n.d, .int .i64 x.e] 56))) wx) ∧ Hid (DSl wx ((w.alloc (.cells #[.int .i64 x.n.a, .int .i64 x.n.b, .int .i64 x.n.c, .int .i64 x.n.d, .int .i64 x.e] 56))).heap.size s6 r))
    case first =>
      obtain ⟨c0, c1, c2, c3, c4⟩ := Hxc
      have hS : D1 ((w.alloc (.cells #[.int .i64 x.n.a, .int .i64 x.n.b, .int .i64 x.n.c, .int .i64 x.n.d, .int .i64 x.e] 56))) w.heap.size x ((w.alloc (.cells #[.int .i64 x.n.a, .int .i64 x.n.b, .int .i64 x.n.c, .int .i64 x.n.d, .int .i64 x.e] 56))) := ⟨c0, c1, c2, c3, c4, hxl, Below.refl _ _⟩
      go_region_held3 (fun w' => w'.cell? ⟨w.heap.size, 0, none⟩ = some (.int .i64 x.n.a) ∧ w'.cell? ⟨w.heap.size, 1, none⟩ = some (.int .i64 x.n.b) ∧ w'.cell? ⟨w.heap.size, 2, none⟩ = some (.int .i64 x.n.c) ∧ w'.cell? ⟨w.heap.size, 3, none⟩ = some (.int .i64 x.n.d) ∧ w'.cell? ⟨w.heap.size, 4, none⟩ = some (.int .i64 x.e) ∧ w.heap.size < w'.heap.size ∧ Below (w.alloc (.cells #[.int .i64 x.n.a, .int .i64 x.n.b, .int .i64 x.n.c, .int .i64 x.n.d, .int .i64 x.e] 56)).heap.size (w.alloc (.cells #[.int .i64 x.n.a, .int .i64 x.n.b, .int .i64 x.n.c, .int .i64 x.n.d, .int .i64 x.e] 56)) w') (first | (show D1 (w.alloc (.cells #[.int .i64 x.n.a, .int .i64 x.n.b, .int .i64 x.n.c, .int .i64 x.n.d, .int .i64 x.e] 56)) w.heap.size x _; (with_reducible exact hS.drew)) | (show D1 (w.alloc (.cells #[.int .i64 x.n.a, .int .i64 x.n.b, .int .i64 x.n.c, .int .i64 x.n.d, .int .i64 x.e] 56)) w.heap.size x _; (with_reducible refine D1.below ?_ hbR); first | assumption | exact ⟨by assumption, by assumption, by assumption, by assumption, by assumption, by assumption, by assumption⟩))
        (first | (go_at_call 35; (with_reducible refine (toDsB la lc w.heap.size l _ (Hinl.out.below Hb.out.drew) Hb.out.drew.size hl).mono ?_); rintro e wR ⟨vR, rfl, hdR, hbR⟩; have hbT := hbR) | (go_at_call 40; (with_reducible refine (Htd.out _).mono ?_); rintro e wR ⟨rfl, hbR⟩; have hbV := hbR; have hdR := hdR.below hbR) | (go_at_call 30; (with_reducible refine (Hsp.out _ ((w.alloc (.cells #[.int .i64 x.n.a, .int .i64 x.n.b, .int .i64 x.n.c, .int .i64 x.n.d, .int .i64 x.e] 56))).heap.size _ _ hdR (Nat.le_trans (show ((w.alloc (.cells #[.int .i64 x.n.a, .int .i64 x.n.b, .int .i64 x.n.c, .int .i64 x.n.d, .int .i64 x.e] 56))).heap.size ≤ ((w.alloc (.cells #[.int .i64 x.n.a, .int .i64 x.n.b, .int .i64 x.n.c, .int .i64 x.n.d, .int .i64 x.e] 56))).drew.heap.size from Nat.le_refl _) (Nat.le_trans hbT.size hbV.size))).mono ?_); rintro e wR ⟨⟨uR, rfl, heR⟩, hbR⟩))
      all_goals go_wp2_with fail
      all_goals go_meet
      all_goals exact ⟨rfl, D1.low (n0 := w.heap.size) (x0 := x) (by first | assumption | exact ⟨by assumption, by assumption, by assumption, by assumption, by assumption, by assumption, by assumption⟩), heR⟩
    case rest =>
    obtain ⟨rfl, hb2, hd2⟩ := hcut
    have hb2 := hb2.out
    have hd2 := hd2.out
    clear Hxc hxl
    have Hw0 := Lib.hid hd2.upto
    have HX := Lib.hid (below_blk hb2 (lt_of_block HX.out) HX.out)
    have Hb := Lib.hid (below_nx Hb.out hb2)
    have hz2 := hb2.size
    clear hb2 hd2
    go_wp2_with fail
    refine (toDsB la lc w.heap.size l _ (Hinl.out.below Hb.out) Hb.out.size hl).mono ?_
    rintro e w3 ⟨vx0, rfl, hd3, hb3⟩
    have Hx0 := Lib.hid hd3.upto
    have Hw0 := Lib.hid (Hw0.out.below hb3)
    have HX := Lib.hid (below_blk hb3 (lt_of_block HX.out) HX.out)
    have Hb := Lib.hid (below_nx Hb.out hb3)
    have hz3 := hb3.size
    clear hb3 hd3
    obtain ⟨c0, c1, c2, c3, c4⟩ := blk_cells5 HX.out
    have hxl := lt_of_block HX.out
    go_wp2_with fail
    refine (Htd.out _).mono ?_
    rintro e w4 ⟨rfl, hb4⟩
    have Hw0 := Lib.hid (Hw0.out.below hb4)
    have Hx0 := Lib.hid (Hx0.out.below hb4)
    have HX := Lib.hid (below_blk hb4 (lt_of_block HX.out) HX.out)
    have Hb := Lib.hid (below_nx Hb.out hb4)
    have hz4 := hb4.size
    clear hb4
    clear c0 c1 c2 c3 c4 hxl
    go_wp2_with fail
    refine (Him.out _ _ _ _ Hx0.out.dsl (Nat.le_refl _)).mono ?_
    rintro e w5 ⟨⟨vg, rfl, hd5⟩, hb5⟩
    have Hg0 := Lib.hid hd5.upto
    have Hw0 := Lib.hid (Hw0.out.below hb5)
    have Hx0 := Lib.hid (Hx0.out.below hb5)
    have HX := Lib.hid (below_blk hb5 (lt_of_block HX.out) HX.out)
    have Hb := Lib.hid (below_nx Hb.out hb5)
    have hz5 := hb5.size
    clear hb5 hd5
    go_wp2_with fail
    refine (eqDs _ _ _ _ r _ Hg0.out.dsl Hw0.out.dsl hr).mono ?_
    rintro e w6 ⟨rfl, hb6⟩
    have Hw0 := Lib.hid (Hw0.out.below hb6)
    have Hx0 := Lib.hid (Hx0.out.below hb6)
    have Hg0 := Lib.hid (Hg0.out.below hb6)
    have HX := Lib.hid (below_blk hb6 (lt_of_block HX.out) HX.out)
    have Hb := Lib.hid (below_nx Hb.out hb6)
    have hz6 := hb6.size
    clear hb6
    go_wp2_with fail
    refine (toDsB la lc w.heap.size l _ (Hinl.out.below Hb.out) Hb.out.size hl).mono ?_
    rintro e w7 ⟨vs2, rfl, hd7, hb7⟩
    have Hs2 := Lib.hid hd7.upto
    have Hw0 := Lib.hid (Hw0.out.below hb7)
    have Hx0 := Lib.hid (Hx0.out.below hb7)
    have Hg0 := Lib.hid (Hg0.out.below hb7)
    have HX := Lib.hid (below_blk hb7 (lt_of_block HX.out) HX.out)
    have Hb := Lib.hid (below_nx Hb.out hb7)
    have hz7 := hb7.size
    clear hb7 hd7
    go_wp2_with fail
    refine (eqDs _ _ _ _ l _ Hx0.out.dsl Hs2.out.dsl hl).mono ?_
    rintro e w8 ⟨rfl, hb8⟩
    have Hw0 := Lib.hid (Hw0.out.below hb8)
    have Hx0 := Lib.hid (Hx0.out.below hb8)
    have Hg0 := Lib.hid (Hg0.out.below hb8)
    have Hs2 := Lib.hid (Hs2.out.below hb8)
    have HX := Lib.hid (below_blk hb8 (lt_of_block HX.out) HX.out)
    have Hb := Lib.hid (below_nx Hb.out hb8)
    have hz8 := hb8.size
    clear hb8
    go_wp2_with fail
    refine (mark1 _ _ _ l _ Hx0.out hl).mono ?_
    rintro e w9 ⟨rfl, hd9, hm9⟩
    have Hw0 := Lib.hid (show DSc w9 _ _ _ _ by first | exact hm9.dsc_lo Hw0.out (by first | omega | (simp at *; omega)) | exact hm9.dsc_hi Hw0.out (by first | omega | (simp at *; omega)))
    have Hg0 := Lib.hid (show DSc w9 _ _ _ _ by first | exact hm9.dsc_lo Hg0.out (by first | omega | (simp at *; omega)) | exact hm9.dsc_hi Hg0.out (by first | omega | (simp at *; omega)))
    have HX := Lib.hid (below_blk hm9.1 (by omega) HX.out)
    have Hx0 := Lib.hid hd9
    have hz9 := hm9.1.size
    have Hb := Lib.hid (mid_low Hb.out hm9 (by omega))
    clear hd9 hm9
    go_wp2_with fail
    refine (eqDs _ _ _ _ r _ Hg0.out.dsl Hw0.out.dsl hr).mono ?_
    rintro e w10 ⟨rfl, hb10⟩
    have Hw0 := Lib.hid (Hw0.out.below hb10)
    have Hg0 := Lib.hid (Hg0.out.below hb10)
    have HX := Lib.hid (below_blk hb10 (lt_of_block HX.out) HX.out)
    have Hb := Lib.hid (below_nx Hb.out hb10)
    have hz10 := hb10.size
    clear hb10
    go_wp2_with fail
    refine (mark1 _ _ _ r _ Hg0.out hr).mono ?_
    rintro e w11 ⟨rfl, hd11, hm11⟩
    have Hw0 := Lib.hid (show DSc w11 _ _ _ _ by first | exact hm11.dsc_lo Hw0.out (by first | omega | (simp at *; omega)) | exact hm11.dsc_hi Hw0.out (by first | omega | (simp at *; omega)))
    have HX := Lib.hid (below_blk hm11.1 (by omega) HX.out)
    have Hg0 := Lib.hid hd11
    have hz11 := hm11.1.size
    have Hb := Lib.hid (mid_low Hb.out hm11 (by omega))
    clear hd11 hm11
    go_wp2_with fail
    refine (held1 _ r.length _ _ Hg0.out.dsl hr).mono ?_
    rintro e w12 ⟨rfl, rfl⟩
    go_upto_region 24 with fail
    have Hxc := blk_cells5 HX.out
    have hxl := lt_of_block HX.out
    go_cut [14, 15] (fun s14 s15 wx => s15 = .bool t ∧ Hid (Below (w11).heap.size (w11) wx) ∧ Hid (DSl wx (w11).heap.size s14 r))
    case first =>
      obtain ⟨c0, c1, c2, c3, c4⟩ := Hxc
      have hS : D1 (w11) w.heap.size x (w11) := ⟨c0, c1, c2, c3, c4, hxl, Below.refl _ _⟩
      go_region_held3 (fun w' => w'.cell? ⟨w.heap.size, 0, none⟩ = some (.int .i64 x.n.a) ∧ w'.cell? ⟨w.heap.size, 1, none⟩ = some (.int .i64 x.n.b) ∧ w'.cell? ⟨w.heap.size, 2, none⟩ = some (.int .i64 x.n.c) ∧ w'.cell? ⟨w.heap.size, 3, none⟩ = some (.int .i64 x.n.d) ∧ w'.cell? ⟨w.heap.size, 4, none⟩ = some (.int .i64 x.e) ∧ w.heap.size < w'.heap.size ∧ Below w11.heap.size w11 w') (first | (show D1 w11 w.heap.size x _; (with_reducible exact hS.drew)) | (show D1 w11 w.heap.size x _; (with_reducible refine D1.below ?_ hbR); first | assumption | exact ⟨by assumption, by assumption, by assumption, by assumption, by assumption, by assumption, by assumption⟩))
        (first | (go_at_call 35; (with_reducible refine (toDsB la lc w.heap.size l _ (Hinl.out.below Hb.out.drew) Hb.out.drew.size hl).mono ?_); rintro e wR ⟨vR, rfl, hdR, hbR⟩; have hbT := hbR) | (go_at_call 40; (with_reducible refine (Htd.out _).mono ?_); rintro e wR ⟨rfl, hbR⟩; have hbV := hbR; have hdR := hdR.below hbR) | (go_at_call 29; (with_reducible refine (Him.out _ (w11).heap.size _ _ hdR (Nat.le_trans (show (w11).heap.size ≤ (w11).drew.heap.size from Nat.le_refl _) (Nat.le_trans hbT.size hbV.size))).mono ?_); rintro e wR ⟨⟨uR, rfl, heR⟩, hbR⟩))
      all_goals go_wp2_with fail
      all_goals go_meet
      all_goals exact ⟨rfl, D1.low (n0 := w.heap.size) (x0 := x) (by first | assumption | exact ⟨by assumption, by assumption, by assumption, by assumption, by assumption, by assumption, by assumption⟩), heR⟩
    case rest =>
    obtain ⟨rfl, hb13, hd13⟩ := hcut
    have hb13 := hb13.out
    have hd13 := hd13.out
    clear Hxc hxl
    have Hh0 := Lib.hid hd13.upto
    have Hw0 := Lib.hid (Hw0.out.below hb13)
    have Hg0 := Lib.hid (Hg0.out.below hb13)
    have HX := Lib.hid (below_blk hb13 (lt_of_block HX.out) HX.out)
    have Hb := Lib.hid (below_nx Hb.out hb13)
    have hz13 := hb13.size
    clear hb13 hd13
    go_wp2_with fail
    refine (eqDs _ _ _ _ r _ Hh0.out.dsl Hw0.out.dsl hr).mono ?_
    rintro e w14 ⟨rfl, hb14⟩
    have Hw0 := Lib.hid (Hw0.out.below hb14)
    have Hg0 := Lib.hid (Hg0.out.below hb14)
    have Hh0 := Lib.hid (Hh0.out.below hb14)
    have HX := Lib.hid (below_blk hb14 (lt_of_block HX.out) HX.out)
    have Hb := Lib.hid (below_nx Hb.out hb14)
    have hz14 := hb14.size
    clear hb14
    go_wp2_with fail
    refine (held1 _ r.length _ _ Hg0.out.dsl hr).mono ?_
    rintro e w15 ⟨rfl, rfl⟩
    go_wp2_with fail
    go_ret
    exact ⟨rfl, Hb.out⟩
  · have hm := hin.1
    clear hin
    go_enter Try.func9, Try.ntmps9
    go_wp2_with fail
    refine (szBig la l.length lc 1048576 _ hm (by omega) (by omega) (by omega)).mono ?_
    rintro e w1 ⟨rfl, rfl⟩
    go_wp2_with fail
    go_ret
    exact ⟨rfl, by go_grown⟩

open Go.ChangeMaps (open_string shut_string)
theorem laidOut : laidOutB Try.prog = true := by kernel_rfl
theorem own : ownKnob Try.prog.godebug = none := by kernel_rfl
set_option maxRecDepth 100000 in
/-- What the walk gives, for every argument. -/
theorem contract (H : Type) (enc : TypeId × Value → H) (W : World) (base : Nat) (args : Array Value) (ds gs : List (DataW H)) (before : List MemPlace)
    (hval : ∀ (j : Nat) t v, Try.f9.params[j]? = some t → args[j]? = some v → Value.okWide Try.prog W .any base t v)
    (hW : DataW.Whole enc Try.prog Try.f9.params.toList Rows.fnExactScaleStateSpec.vars false W args.toList ds gs before) :
    Calls Try.prog 9 args W fun e W' => ∃ v, e = .returned v ∧ Rows.fnExactScaleStateSpec.post enc Try.prog Try.f9 false true false false W args v W' := by
  have hW' := hW
  obtain ⟨p, q, hA0, hV, rfl, hfz, hnd⟩ := hW
  have hA : DataW.TrodAll enc Try.prog W 0 (fun _ => true) true Try.f9.params.toList args.toList ds p := hA0
  rw [Try.params9] at hA hval
  obtain ⟨v0, vs0, d0, ds0, p0, q0, hargs, rfl, rfl, h0, r0⟩ := trodAll_cons hA
  obtain ⟨v1, vs1, d1, ds1, p1, q1, rfl, rfl, rfl, h1, r1⟩ := trodAll_cons r0
  obtain ⟨rfl, rfl, rfl⟩ := trodAll_nil r1
  obtain rfl : args = #[v0, v1] := by cases args; simp_all
  obtain ⟨rfl, rfl⟩ := trodVars_none hV
  have k0 := h0
  have lt0 : ∀ x ∈ p0, x.block < W.heap.size := by obtain ⟨m, hm⟩ := k0; exact DataW.trod_lt m _ _ _ hm
  obtain ⟨la, lc, l, rfl, lh⟩ := open_ds (hval 0 48 v0 rfl rfl) h0
  have k1 := h1
  have lt1 : ∀ x ∈ p1, x.block < W.heap.size := by obtain ⟨m, hm⟩ := k1; exact DataW.trod_lt m _ _ _ hm
  obtain ⟨x, rfl, xb0, xb1⟩ := open_dw (hval 1 56 v1 rfl rfl) h1
  clear hA0
  simp only [List.append_nil] at hW'
  refine (walk la lc l x W lh xb0 xb1).mono fun e W' ⟨he, hg⟩ => ?_
  subst he
  exact ⟨_, rfl, _, _, _, [], _, [], hW', trodAll_mk1 (shut_bool Try.underlying4 _), (trodAll_cons_mk (Below.trod laidOut (by kernel_rfl) (of_decide_eq_true (by kernel_rfl)) k0 hg lt0) (trodAll_cons_mk (Below.trod laidOut (by kernel_rfl) (of_decide_eq_true (by kernel_rfl)) k1 hg lt1) trodAll_mk0)), rfl, hg.frame _, fun h => by cases h⟩

set_option maxRecDepth 100000 in
theorem lifted (os : Os) (started : os.Started) (H : Type) (enc : TypeId × Value → H) :
    ReturnsInHanded {} Try.checked os 9 .any (Rows.fnExactScaleStateSpec.pre6 enc Try.prog Try.f9 Rows.fnExactScaleStateRow.domain false) (Rows.fnExactScaleStateSpec.post enc Try.prog Try.f9 false true false false) := by
  refine returnsInHanded_of_change (C := Try.checked) own started (by kernel_rfl) Try.func9
    (ChangeSpec.witness6 (enc := enc) (C := Try.checked) false ⟨#[], #[.slice none 0 0, .agg #[.int .i64 0, .int .i64 0, .int .i64 0, .int .i64 0, .int .i64 0]], []⟩ 8 (by kernel_rfl) (by kernel_rfl) (by kernel_rfl) (by kernel_rfl)) ?_
  intro W base args ds gs before hval hW _ _
  exact contract H enc W base args ds gs before hval hW
theorem said : Rows.FnExactScaleStateSaid :=
  OpenClaim.holds_of_wide 9 Try.f9 rfl rfl rfl rfl rfl rfl rfl ⟨rfl, rfl, rfl, rfl, rfl⟩ rfl rfl rfl rfl rfl (by kernel_rfl) Try.func9 (by kernel_rfl)
    (of_decide_eq_true (by kernel_rfl)) (by unfold Func.isWrapper; first | (rw [if_pos (by decide +kernel)]; kernel_rfl) | (rw [if_neg (by decide +kernel)]; exact ⟨rfl, rfl⟩))
    (fun os started H enc _ => lifted os started H enc)
end Go.Proofs.Ytbohbhhgmglcdaa.fnExactScaleState
