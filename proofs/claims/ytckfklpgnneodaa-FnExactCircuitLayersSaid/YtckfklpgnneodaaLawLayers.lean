/- The law FnExactCircuitLayers: CircuitLayers answers as its model, at every circuit. No condition. -/
import Derived.Test.YtckfklpgnneodaaInit
import Derived.Test.YtckfklpgnneodaaLyKl
import Derived.Test.YtckfklpgnneodaaLyF
import Derived.Test.YtckfklpgnneodaaBaseB13
import Derived.Test.YtckfklpgnneodaaLyC
import Derived.Test.YtckfklpgnneodaaCiL
import Derived.Test.YtckfklpgnneodaaBaseB09
import Derived.Test.YtckfklpgnneodaaBaseB15
import Derived.Test.YtckfklpgnneodaaBaseB08
import Derived.Lib.SmallJoins
import Derived.WalkKit
import Derived.ProofKit
import Derived.OpenShut
import Derived.Deep.DeepHandedRow
import Derived.Lib.LaidTab
import Derived.LaidMore
import Derived.LaidHandle
import Derived.Lay
import Derived.Stop.LaidErr
namespace Go.Proofs.Ytckfklpgnneodaa.fnExactCircuitLayers
open Go.ChangeShapes Go.WideShapes Go.ChangeAt Go.RowKit Go.Lib
attribute [local irreducible] World.cell?
set_option maxRecDepth 100000 in
set_option maxHeartbeats 6400000 in
theorem walk (n : Int) (la : Option Addr) (lc : Nat) (l : List Gt) (w : World) (n0 : -9223372036854775808 ≤ n) (n1 : n ≤ 9223372036854775807) (hin : GsIn w w.heap.size la l) :
    Calls Try.prog 8 #[.agg #[.int .i64 n, .slice la l.length lc]] w fun e w' => e = .returned (.bool true) ∧ Below w.heap.size w w' := by
  have hm := hin.1
  have HX := Lib.hid (heap_alloc_new w (.cells #[.int .i64 n, .slice la l.length lc] 34))
  obtain ⟨cX0, cX1⟩ := blk_cells2 HX.out
  have lX := lt_of_block HX.out
  have Hb := Lib.hid (show Below w.heap.size w (w.alloc (.cells #[.int .i64 n, .slice la l.length lc] 34)) by go_grown)
  have ha0 := size_alloc1 w (.cells #[.int .i64 n, .slice la l.length lc] 34)
  by_cases hnl : l.length ≤ 1048576
  · have Hto := Lib.hid (fun W (hb : Below w.heap.size w W) => toCi n la lc w.heap.size l W (hin.below hb) hb.size hnl)
    obtain ⟨hM1, hM2⟩ := lysM_amps n l
    have Hsp := Lib.hid (fun W B v (h : gtE.Sl W B v l) => slayers B n v l W h hnl)
    have Him := Lib.hid (fun W B v (h : gtE.Sl W B v l) => ilayers B n v l W h hnl n0 n1)
    generalize lysM n l = M at *
    have hM3 : M.length ≤ 1048576 := by omega
    have hM4 : ampsG M ≤ 1048576 := by omega
    have hk0 : ¬ (1 + (l.length : Int) * 4 < 0) := by omega
    have hk1 : ¬ (1 + (ampsG M : Int) * 4 < 0) := by omega
    clear hin
    go_enter Try.func8, Try.ntmps8
    go_wp2_with fail
    refine (szCiFit n la l.length lc 1048576 _ (by omega) (by omega) (by omega)).mono ?_
    rintro e w1 ⟨rfl, hb1⟩
    have Hb := Lib.hid (below_nx Hb.out hb1)
    have hz1 := hb1.size
    have HX := Lib.hid (below_blk hb1 (lt_of_block HX.out) HX.out)
    clear hb1
    clear cX0 cX1 lX
    obtain ⟨cX0, cX1⟩ := blk_cells2 HX.out
    have lX := lt_of_block HX.out
    go_wp2_with fail
    refine (Hto.out _ Hb.out).mono ?_
    rintro e w2 ⟨vs0, rfl, hd2, hb2⟩
    obtain ⟨ps0, qs0, rfl, -, -⟩ := id hd2
    have Hs0 := Lib.hid hd2.upto
    have Hb := Lib.hid (below_nx Hb.out hb2)
    have hz2 := hb2.size
    have HX := Lib.hid (below_blk hb2 (lt_of_block HX.out) HX.out)
    clear hb2 hd2
    clear cX0 cX1 lX
    obtain ⟨cX0, cX1⟩ := blk_cells2 HX.out
    have lX := lt_of_block HX.out
    go_wp2_with fail
    refine (Hsp.out _ _ _ Hs0.out.sl).mono ?_
    rintro e w3 ⟨⟨vw, rfl, hd3⟩, hb3⟩
    have Hw0 := Lib.hid hd3
    have Hs0 := Lib.hid (Hs0.out.below hb3)
    have Hb := Lib.hid (below_nx Hb.out hb3)
    have hz3 := hb3.size
    have HX := Lib.hid (below_blk hb3 (lt_of_block HX.out) HX.out)
    clear hb3 hd3
    clear cX0 cX1 lX
    obtain ⟨cX0, cX1⟩ := blk_cells2 HX.out
    have lX := lt_of_block HX.out
    go_wp2_with fail
    refine (Hto.out _ Hb.out).mono ?_
    rintro e w4 ⟨vx0, rfl, hd4, hb4⟩
    obtain ⟨px0, qx0, rfl, -, -⟩ := id hd4
    have Hx0 := Lib.hid hd4.upto
    have Hx0 := Lib.hid (Hx0.out.below ((Below.refl _ _).alloc (Nat.le_refl _) (.cells #[.int .i64 n, .slice px0 l.length qx0] 26)))
    have hy4 := hb4.size
    have hb4 := hb4.alloc hb4.size (.cells #[.int .i64 n, .slice px0 l.length qx0] 26)
    have Hw0 := Lib.hid (Hw0.out.below hb4)
    have Hb := Lib.hid (below_nx Hb.out hb4)
    have hz4 := hb4.size
    simp only [size_alloc1] at hz4
    have ha4 := size_alloc1 w4 (.cells #[.int .i64 n, .slice px0 l.length qx0] 26)
    have HX := Lib.hid (below_blk hb4 (lt_of_block HX.out) HX.out)
    have HBo := Lib.hid (heap_alloc_new w4 (.cells #[.int .i64 n, .slice px0 l.length qx0] 26))
    clear hb4 hd4
    clear cX0 cX1 lX
    obtain ⟨cX0, cX1⟩ := blk_cells2 HX.out
    have lX := lt_of_block HX.out
    obtain ⟨bo0, bo1⟩ := blk_cells2 HBo.out
    have bol := lt_of_block HBo.out
    go_wp2_with fail
    refine (Him.out _ _ _ Hx0.out.sl).mono ?_
    rintro e w5 ⟨⟨vg, rfl, hd5⟩, hb5⟩
    have Hg0 := Lib.hid hd5
    have Hw0 := Lib.hid (Hw0.out.below hb5)
    have Hx0 := Lib.hid (Hx0.out.below hb5)
    have Hb := Lib.hid (below_nx Hb.out hb5)
    have hz5 := hb5.size
    simp only [size_alloc1] at hz5
    have HX := Lib.hid (below_blk hb5 (lt_of_block HX.out) HX.out)
    have HBo := Lib.hid (below_blk hb5 (lt_of_block HBo.out) HBo.out)
    clear hb5 hd5
    clear cX0 cX1 lX
    obtain ⟨cX0, cX1⟩ := blk_cells2 HX.out
    have lX := lt_of_block HX.out
    clear bo0 bo1 bol
    obtain ⟨bo0, bo1⟩ := blk_cells2 HBo.out
    have bol := lt_of_block HBo.out
    go_wp2_with fail
    refine (eqMg _ _ _ _ _ _ M _ Hg0.out Hw0.out hM3 hM4).mono ?_
    rintro e w6 ⟨rfl, hb6⟩
    have Hw0 := Lib.hid (Hw0.out.below hb6)
    have Hx0 := Lib.hid (Hx0.out.below hb6)
    have Hg0 := Lib.hid (Hg0.out.below hb6)
    have Hb := Lib.hid (below_nx Hb.out hb6)
    have hz6 := hb6.size
    have HX := Lib.hid (below_blk hb6 (lt_of_block HX.out) HX.out)
    have HBo := Lib.hid (below_blk hb6 (lt_of_block HBo.out) HBo.out)
    clear hb6
    clear cX0 cX1 lX
    obtain ⟨cX0, cX1⟩ := blk_cells2 HX.out
    have lX := lt_of_block HX.out
    clear bo0 bo1 bol
    obtain ⟨bo0, bo1⟩ := blk_cells2 HBo.out
    have bol := lt_of_block HBo.out
    have hS : CB2 w6 (w.heap.size) w4.heap.size n n (.slice la l.length lc) (.slice px0 l.length qx0) w6 := ⟨cX0, cX1, bo0, bo1, lX, bol, Below.refl _ _⟩
    go_upto_region 10 with fail
    go_region_held3 (fun w' => w'.cell? ⟨w.heap.size, 0, none⟩ = some (.int .i64 n) ∧ w'.cell? ⟨w.heap.size, 1, none⟩ = some (.slice la l.length lc) ∧ w'.cell? ⟨w4.heap.size, 0, none⟩ = some (.int .i64 n) ∧ w'.cell? ⟨w4.heap.size, 1, none⟩ = some (.slice px0 l.length qx0) ∧ w.heap.size < w'.heap.size ∧ w4.heap.size < w'.heap.size ∧ Below w6.heap.size w6 w') (first | (show CB2 _ _ _ _ _ _ _ _; (with_reducible exact hS.drew)) | (show CB2 _ _ _ _ _ _ _ _; (with_reducible refine CB2.below ?_ hbR); first | assumption | exact ⟨by assumption, by assumption, by assumption, by assumption, by assumption, by assumption, by assumption⟩))
      (first
        | (go_at_call 19; refine (Hto.out _ Hb.out.drew).mono ?_; rintro e wR ⟨vR, rfl, hdR, hbR⟩; have HbR := Lib.hid (show Below w6.heap.size w6 wR from (Below.refl _ _).drew.trans hbR); have HdR := Lib.hid hdR; obtain ⟨pR, qR, rfl, -, -⟩ := hdR)
        | (go_at_call 21; refine (eqCi _ _ n _ _ l _ (Hx0.out.below HbR.out).sl HdR.out hnl).mono ?_; rintro e w7 ⟨rfl, hbR⟩; have HbQ := Lib.hid hbR))
    have hb7 : Below w6.heap.size w6 w7 := below_nx HbR.out HbQ.out
    clear hS HbR HbQ HdR
    have Hw0 := Lib.hid (Hw0.out.below hb7)
    have Hx0 := Lib.hid (Hx0.out.below hb7)
    have Hg0 := Lib.hid (Hg0.out.below hb7)
    have Hb := Lib.hid (below_nx Hb.out hb7)
    have hz7 := hb7.size
    have HX := Lib.hid (below_blk hb7 (lt_of_block HX.out) HX.out)
    have HBo := Lib.hid (below_blk hb7 (lt_of_block HBo.out) HBo.out)
    clear hb7
    clear cX0 cX1 lX
    obtain ⟨cX0, cX1⟩ := blk_cells2 HX.out
    have lX := lt_of_block HX.out
    clear bo0 bo1 bol
    obtain ⟨bo0, bo1⟩ := blk_cells2 HBo.out
    have bol := lt_of_block HBo.out
    go_wp2_with fail
    refine (markCi1 _ _ n _ l _ Hx0.out (by omega) hnl).mono ?_
    rintro e w8 ⟨rfl, hd8, hm8⟩
    have Hw0 := Lib.hid (show GSM w8 _ _ _ _ by first | exact hm8.gsm_lo Hw0.out (by omega) | exact hm8.gsm_hi Hw0.out (by omega))
    have Hg0 := Lib.hid (show GSM w8 _ _ _ _ by first | exact hm8.gsm_lo Hg0.out (by omega) | exact hm8.gsm_hi Hg0.out (by omega))
    have Hx0 := Lib.hid hd8
    have hz8 := hm8.1.size
    have Hb := Lib.hid (mid_low Hb.out hm8 (by omega))
    have HX := Lib.hid ((hm8.1.block (w.heap.size) (by omega)).trans HX.out)
    have HBo := Lib.hid (show w8.heap[w4.heap.size]? = _ by first | exact (hm8.1.block w4.heap.size (by omega)).trans HBo.out | exact (hm8.2 w4.heap.size (by omega) (lt_of_block HBo.out)).trans HBo.out)
    clear hd8 hm8
    clear cX0 cX1 lX
    obtain ⟨cX0, cX1⟩ := blk_cells2 HX.out
    have lX := lt_of_block HX.out
    clear bo0 bo1 bol
    obtain ⟨bo0, bo1⟩ := blk_cells2 HBo.out
    have bol := lt_of_block HBo.out
    go_wp2_with fail
    refine (eqMg _ _ _ _ _ _ M _ Hg0.out Hw0.out hM3 hM4).mono ?_
    rintro e w9 ⟨rfl, hb9⟩
    have Hw0 := Lib.hid (Hw0.out.below hb9)
    have Hg0 := Lib.hid (Hg0.out.below hb9)
    have Hb := Lib.hid (below_nx Hb.out hb9)
    have hz9 := hb9.size
    have HX := Lib.hid (below_blk hb9 (lt_of_block HX.out) HX.out)
    have HBo := Lib.hid (below_blk hb9 (lt_of_block HBo.out) HBo.out)
    clear hb9
    clear cX0 cX1 lX
    obtain ⟨cX0, cX1⟩ := blk_cells2 HX.out
    have lX := lt_of_block HX.out
    clear bo0 bo1 bol
    obtain ⟨bo0, bo1⟩ := blk_cells2 HBo.out
    have bol := lt_of_block HBo.out
    go_wp2_with fail
    refine (markMg1 _ _ _ M _ Hg0.out hM3 hM4).mono ?_
    rintro e w10 ⟨rfl, hd10, hm10⟩
    have Hw0 := Lib.hid (show GSM w10 _ _ _ _ by first | exact hm10.gsm_lo Hw0.out (by omega) | exact hm10.gsm_hi Hw0.out (by omega))
    have Hg0 := Lib.hid hd10
    have hz10 := hm10.1.size
    have Hb := Lib.hid (mid_low Hb.out hm10 (by omega))
    have HX := Lib.hid ((hm10.1.block (w.heap.size) (by omega)).trans HX.out)
    have HBo := Lib.hid (show w10.heap[w4.heap.size]? = _ by first | exact (hm10.1.block w4.heap.size (by omega)).trans HBo.out | exact (hm10.2 w4.heap.size (by omega) (lt_of_block HBo.out)).trans HBo.out)
    clear hd10 hm10
    clear cX0 cX1 lX
    obtain ⟨cX0, cX1⟩ := blk_cells2 HX.out
    have lX := lt_of_block HX.out
    clear bo0 bo1 bol
    obtain ⟨bo0, bo1⟩ := blk_cells2 HBo.out
    have bol := lt_of_block HBo.out
    go_wp2_with fail
    refine (heldMg1 _ _ _ M _ Hg0.out hM3 hM4).mono ?_
    rintro e w11 ⟨rfl, rfl⟩
    go_wp2_with fail
    refine (Hto.out _ Hb.out).mono ?_
    rintro e w12 ⟨vs4, rfl, hd12, hb12⟩
    obtain ⟨ps4, qs4, rfl, -, -⟩ := id hd12
    have Hs4 := Lib.hid hd12.upto
    have Hw0 := Lib.hid (Hw0.out.below hb12)
    have Hg0 := Lib.hid (Hg0.out.below hb12)
    have Hb := Lib.hid (below_nx Hb.out hb12)
    have hz12 := hb12.size
    have HX := Lib.hid (below_blk hb12 (lt_of_block HX.out) HX.out)
    have HBo := Lib.hid (below_blk hb12 (lt_of_block HBo.out) HBo.out)
    clear hb12 hd12
    clear cX0 cX1 lX
    obtain ⟨cX0, cX1⟩ := blk_cells2 HX.out
    have lX := lt_of_block HX.out
    clear bo0 bo1 bol
    obtain ⟨bo0, bo1⟩ := blk_cells2 HBo.out
    have bol := lt_of_block HBo.out
    go_wp2_with fail
    refine (Him.out _ _ _ Hs4.out.sl).mono ?_
    rintro e w13 ⟨⟨vh, rfl, hd13⟩, hb13⟩
    have Hh0 := Lib.hid hd13
    have Hw0 := Lib.hid (Hw0.out.below hb13)
    have Hg0 := Lib.hid (Hg0.out.below hb13)
    have Hs4 := Lib.hid (Hs4.out.below hb13)
    have Hb := Lib.hid (below_nx Hb.out hb13)
    have hz13 := hb13.size
    have HX := Lib.hid (below_blk hb13 (lt_of_block HX.out) HX.out)
    have HBo := Lib.hid (below_blk hb13 (lt_of_block HBo.out) HBo.out)
    clear hb13 hd13
    clear cX0 cX1 lX
    obtain ⟨cX0, cX1⟩ := blk_cells2 HX.out
    have lX := lt_of_block HX.out
    clear bo0 bo1 bol
    obtain ⟨bo0, bo1⟩ := blk_cells2 HBo.out
    have bol := lt_of_block HBo.out
    go_wp2_with fail
    refine (eqMg _ _ _ _ _ _ M _ Hh0.out Hw0.out hM3 hM4).mono ?_
    rintro e w14 ⟨rfl, hb14⟩
    have Hw0 := Lib.hid (Hw0.out.below hb14)
    have Hg0 := Lib.hid (Hg0.out.below hb14)
    have Hh0 := Lib.hid (Hh0.out.below hb14)
    have Hb := Lib.hid (below_nx Hb.out hb14)
    have hz14 := hb14.size
    have HX := Lib.hid (below_blk hb14 (lt_of_block HX.out) HX.out)
    have HBo := Lib.hid (below_blk hb14 (lt_of_block HBo.out) HBo.out)
    clear hb14
    clear cX0 cX1 lX
    obtain ⟨cX0, cX1⟩ := blk_cells2 HX.out
    have lX := lt_of_block HX.out
    clear bo0 bo1 bol
    obtain ⟨bo0, bo1⟩ := blk_cells2 HBo.out
    have bol := lt_of_block HBo.out
    go_wp2_with fail
    refine (heldMg1 _ _ _ M _ Hg0.out hM3 hM4).mono ?_
    rintro e w15 ⟨rfl, rfl⟩
    go_wp2_with fail
    go_ret
    exact ⟨rfl, Hb.out⟩
  · clear hin
    go_enter Try.func8, Try.ntmps8
    go_wp2_with fail
    refine (szCiBig n la l.length lc 1048576 _ hm (by omega) (by omega) (by omega)).mono ?_
    rintro e w1 ⟨rfl, hb1⟩
    have Hb := Lib.hid (below_nx Hb.out hb1)
    clear hb1
    go_wp2_with fail
    go_ret
    exact ⟨rfl, Hb.out⟩
open Go.ChangeMaps (open_string shut_string)
theorem laidOut : laidOutB Try.prog = true := by kernel_rfl
theorem own : ownKnob Try.prog.godebug = none := by kernel_rfl
set_option maxRecDepth 100000 in
/-- What the walk gives, for every argument. -/
theorem contract (H : Type) (enc : TypeId × Value → H) (W : World) (base : Nat) (args : Array Value) (ds gs : List (DataW H)) (before : List MemPlace)
    (hval : ∀ (j : Nat) t v, Try.f8.params[j]? = some t → args[j]? = some v → Value.okWide Try.prog W .any base t v)
    (hW : DataW.Whole enc Try.prog Try.f8.params.toList Rows.fnExactCircuitLayersSpec.vars false W args.toList ds gs before) :
    Calls Try.prog 8 args W fun e W' => ∃ v, e = .returned v ∧ Rows.fnExactCircuitLayersSpec.post enc Try.prog Try.f8 false true false false W args v W' := by
  have hW' := hW
  obtain ⟨p, q, hA0, hV, rfl, hfz, hnd⟩ := hW
  have hA : DataW.TrodAll enc Try.prog W 0 (fun _ => true) true Try.f8.params.toList args.toList ds p := hA0
  rw [Try.params8] at hA hval
  obtain ⟨v0, vs0, d0, ds0, p0, q0, hargs, rfl, rfl, h0, r0⟩ := trodAll_cons hA
  obtain ⟨rfl, rfl, rfl⟩ := trodAll_nil r0
  obtain rfl : args = #[v0] := by cases args; simp_all
  obtain ⟨rfl, rfl⟩ := trodVars_none hV
  have k0 := h0
  have lt0 : ∀ x ∈ p0, x.block < W.heap.size := by obtain ⟨m, hm⟩ := k0; exact DataW.trod_lt m _ _ _ hm
  obtain ⟨l0, l1, ly0, ly1, lm, rfl, rfl, rfl, lt0, lt1⟩ := Go.Joins.open_agg2 Try.underlying34 (by kernel_rfl) (by kernel_rfl) (hval 0 34 v0 rfl rfl) h0
  obtain ⟨lN, ela, -, wlN⟩ := DataW.trod_int Try.underlying3 lt0
  obtain rfl := List.head_eq_of_cons_eq ela
  obtain ⟨la, lc, l, rfl, lh⟩ := open_gs1 lt1
  clear ela lt0 lt1
  clear hA0
  simp only [List.append_nil] at hW'
  refine (walk lN la lc l W (bounds_i64 wlN).1 (bounds_i64 wlN).2 lh).mono fun e W' ⟨he, hg⟩ => ?_
  subst he
  exact ⟨_, rfl, _, _, _, [], _, [], hW', trodAll_mk1 (shut_bool Try.underlying4 _), (trodAll_cons_mk (Below.trod laidOut (by kernel_rfl) (of_decide_eq_true (by kernel_rfl)) k0 hg lt0) trodAll_mk0), rfl, hg.frame _, fun h => by cases h⟩
set_option maxRecDepth 100000 in
theorem lifted (os : Os) (started : os.Started) (H : Type) (enc : TypeId × Value → H) :
    ReturnsInHanded {} Try.checked os 8 .any (Rows.fnExactCircuitLayersSpec.pre6 enc Try.prog Try.f8 Rows.fnExactCircuitLayersRow.domain false) (Rows.fnExactCircuitLayersSpec.post enc Try.prog Try.f8 false true false false) := by
  refine returnsInHanded_of_change (C := Try.checked) own started (by kernel_rfl) Try.func8
    (ChangeSpec.witness6 (enc := enc) (C := Try.checked) false ⟨#[], #[.agg #[.int .i64 0, .slice none 0 0]], []⟩ 8 (by kernel_rfl) (by kernel_rfl) (by kernel_rfl) (by kernel_rfl)) ?_
  intro W base args ds gs before hval hW _ _
  exact contract H enc W base args ds gs before hval hW
theorem closedFacts : joinedFacts Try.pinned.checked.prog 8 Try.f8 Rows.fnExactCircuitLayersSpec Rows.fnExactCircuitLayersRow = true := by
  unfold joinedFacts
  rw [init_may, init_facts.2.1, init_facts.2.2]
  kernel_rfl
theorem said : Rows.FnExactCircuitLayersSaid :=
  OpenClaim.holds_of_wide 8 Try.f8 rfl rfl rfl rfl rfl rfl rfl ⟨rfl, rfl, rfl, rfl, rfl⟩ rfl rfl rfl rfl rfl (by kernel_rfl) Try.func8 closedFacts
    (of_decide_eq_true (by kernel_rfl)) (by unfold Func.isWrapper; first | (rw [if_pos (by decide +kernel)]; kernel_rfl) | (rw [if_neg (by decide +kernel)]; exact ⟨rfl, rfl⟩))
    (fun os started H enc _ => lifted os started H enc)
end Go.Proofs.Ytckfklpgnneodaa.fnExactCircuitLayers
