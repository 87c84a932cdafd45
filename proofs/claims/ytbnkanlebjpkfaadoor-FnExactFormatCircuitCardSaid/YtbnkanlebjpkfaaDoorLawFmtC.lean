/- The law FnExactFormatCircuit: FormatCircuit answers as its model, at every circuit. taking that the tables that the row lists read as the program's text lays them (the card ties them to that text). No other condition. -/
import Derived.Test.YtbnkanlebjpkfaaDoorTcLh
import Derived.Test.YtbnkanlebjpkfaaDoorB05
import Derived.Test.YtbnkanlebjpkfaaDoorTcI
import Derived.Test.YtbnkanlebjpkfaaDoorCiL
import Derived.Test.YtbnkanlebjpkfaaDoorB16
import Derived.Test.YtbnkanlebjpkfaaDoorB17
import Derived.Test.YtbnkanlebjpkfaaDoorB12
import Derived.Test.YtbnkanlebjpkfaaDoorB04
import Derived.Test.YtbnkanlebjpkfaaDoorTie
import Derived.Test.YtbnkanlebjpkfaaDoorCards
import Derived.Lib.SmallJoins
import Derived.SevenTiedAt
import Derived.WalkKit
import Derived.ProofKit
import Derived.OpenShut
import Derived.Deep.DeepHandedRow
import Derived.Lib.LaidTab
import Derived.LaidMore
import Derived.LaidHandle
import Derived.Lay
import Derived.Stop.LaidErr
import Derived.OpenVars
namespace Go.Proofs.YtbnkanlebjpkfaaDoor.fnExactFormatCircuit
open Go.ChangeShapes Go.WideShapes Go.ChangeAt Go.RowKit Go.Lib
attribute [local irreducible] World.cell?
set_option maxRecDepth 100000 in
set_option maxHeartbeats 6400000 in
theorem walk (n : Int) (la : Option Addr) (lc : Nat) (l : List Gt) (w : World) (n0 : -9223372036854775808 ≤ n) (n1 : n ≤ 9223372036854775807) (hin : GsIn w w.heap.size la l) (hL : HasPow w ∧ HasNames w) :
    Calls Tryd.prog 5 #[.agg #[.int .i64 n, .slice la l.length lc]] w fun e w' => e = .returned (.bool true) ∧ Below w.heap.size w w' := by
  have hm := hin.1
  have HX := Lib.hid (heap_alloc_new w (.cells #[.int .i64 n, .slice la l.length lc] 34))
  obtain ⟨cX0, cX1⟩ := blk_cells2 HX.out
  have lX := lt_of_block HX.out
  have Hb := Lib.hid (show Below w.heap.size w (w.alloc (.cells #[.int .i64 n, .slice la l.length lc] 34)) by go_grown)
  have ha0 := size_alloc1 w (.cells #[.int .i64 n, .slice la l.length lc] 34)
  by_cases hnl : l.length ≤ 1048576
  · have Hto := Lib.hid (fun W (hb : Below w.heap.size w W) => toCi n la lc w.heap.size l W (hin.below hb) hb.size hnl)
    have Hsp := Lib.hid (fun W B v (h : gtE.Sl W B v l) => sfmtC B n v l W h hnl)
    have Him := Lib.hid (fun W (h0 : HasPow W ∧ HasNames W) B v (h : gtE.Sl W B v l) => ifmtC B n v l W h0.1 h0.2 h hnl n0 n1)
    have HL := Lib.hid hL
    have hbe := bytes_yes (cTxt n l)
    generalize cTxt n l = T at *
    clear hL
    clear hin
    go_enter Tryd.func5, Tryd.ntmps5
    go_wp2_with fail
    refine (szCiFit n la l.length lc 1048576 _ (by omega) (by omega) (by omega)).mono ?_
    rintro e w1 ⟨rfl, hb1⟩
    have Hb := Lib.hid (below_nx Hb.out hb1)
    have hz1 := hb1.size
    have HX := Lib.hid (below_blk hb1 (lt_of_block HX.out) HX.out)
    clear hb1
    clear cX0 cX1 lX
    obtain ⟨cX0, cX1⟩ := blk_cells2 HX.out
    have lX := lt_of_block HX.out
    go_wp2_with fail
    refine (Hto.out _ Hb.out).mono ?_
    rintro e w2 ⟨vs0, rfl, hd2, hb2⟩
    obtain ⟨ps0, qs0, rfl, -, -⟩ := id hd2
    have Hs0 := Lib.hid hd2.upto
    have Hb := Lib.hid (below_nx Hb.out hb2)
    have hz2 := hb2.size
    have HX := Lib.hid (below_blk hb2 (lt_of_block HX.out) HX.out)
    clear hb2 hd2
    clear cX0 cX1 lX
    obtain ⟨cX0, cX1⟩ := blk_cells2 HX.out
    have lX := lt_of_block HX.out
    go_wp2_with fail
    refine (Hsp.out _ _ _ Hs0.out.sl).mono ?_
    rintro e w3 ⟨rfl, hb3⟩
    have Hs0 := Lib.hid (Hs0.out.below hb3)
    have Hb := Lib.hid (below_nx Hb.out hb3)
    have hz3 := hb3.size
    have HX := Lib.hid (below_blk hb3 (lt_of_block HX.out) HX.out)
    clear hb3
    clear cX0 cX1 lX
    obtain ⟨cX0, cX1⟩ := blk_cells2 HX.out
    have lX := lt_of_block HX.out
    go_wp2_with fail
    refine (Hto.out _ Hb.out).mono ?_
    rintro e w4 ⟨vx0, rfl, hd4, hb4⟩
    obtain ⟨px0, qx0, rfl, -, -⟩ := id hd4
    have Hx0 := Lib.hid hd4.upto
    have Hx0 := Lib.hid (Hx0.out.below ((Below.refl _ _).alloc (Nat.le_refl _) (.cells #[.int .i64 n, .slice px0 l.length qx0] 39)))
    have hy4 := hb4.size
    have hb4 := hb4.alloc hb4.size (.cells #[.int .i64 n, .slice px0 l.length qx0] 39)
    have Hb := Lib.hid (below_nx Hb.out hb4)
    have hz4 := hb4.size
    simp only [size_alloc1] at hz4
    have ha4 := size_alloc1 w4 (.cells #[.int .i64 n, .slice px0 l.length qx0] 39)
    have HX := Lib.hid (below_blk hb4 (lt_of_block HX.out) HX.out)
    have HBo := Lib.hid (heap_alloc_new w4 (.cells #[.int .i64 n, .slice px0 l.length qx0] 39))
    clear hb4 hd4
    clear cX0 cX1 lX
    obtain ⟨cX0, cX1⟩ := blk_cells2 HX.out
    have lX := lt_of_block HX.out
    obtain ⟨bo0, bo1⟩ := blk_cells2 HBo.out
    have bol := lt_of_block HBo.out
    go_wp2_with fail
    refine (Him.out _ ⟨HL.out.1.below Hb.out, HL.out.2.below Hb.out⟩ _ _ Hx0.out.sl).mono ?_
    rintro e w5 ⟨rfl, hb5⟩
    have Hx0 := Lib.hid (Hx0.out.below hb5)
    have Hb := Lib.hid (below_nx Hb.out hb5)
    have hz5 := hb5.size
    simp only [size_alloc1] at hz5
    have HX := Lib.hid (below_blk hb5 (lt_of_block HX.out) HX.out)
    have HBo := Lib.hid (below_blk hb5 (lt_of_block HBo.out) HBo.out)
    clear hb5
    clear cX0 cX1 lX
    obtain ⟨cX0, cX1⟩ := blk_cells2 HX.out
    have lX := lt_of_block HX.out
    clear bo0 bo1 bol
    obtain ⟨bo0, bo1⟩ := blk_cells2 HBo.out
    have bol := lt_of_block HBo.out
    have hS : CB2 w5 (w.heap.size) w4.heap.size n n (.slice la l.length lc) (.slice px0 l.length qx0) w5 := ⟨cX0, cX1, bo0, bo1, lX, bol, Below.refl _ _⟩
    go_upto_region 10 with fail
    go_region_held3 (fun w' => w'.cell? ⟨w.heap.size, 0, none⟩ = some (.int .i64 n) ∧ w'.cell? ⟨w.heap.size, 1, none⟩ = some (.slice la l.length lc) ∧ w'.cell? ⟨w4.heap.size, 0, none⟩ = some (.int .i64 n) ∧ w'.cell? ⟨w4.heap.size, 1, none⟩ = some (.slice px0 l.length qx0) ∧ w.heap.size < w'.heap.size ∧ w4.heap.size < w'.heap.size ∧ Below w5.heap.size w5 w') (first | (show CB2 _ _ _ _ _ _ _ _; (with_reducible exact hS.drew)) | (show CB2 _ _ _ _ _ _ _ _; (with_reducible refine CB2.below ?_ hbR); first | assumption | exact ⟨by assumption, by assumption, by assumption, by assumption, by assumption, by assumption, by assumption⟩))
      (first
        | (go_at_call 16; refine (Hto.out _ Hb.out.drew).mono ?_; rintro e wR ⟨vR, rfl, hdR, hbR⟩; have HbR := Lib.hid (show Below w5.heap.size w5 wR from (Below.refl _ _).drew.trans hbR); have HdR := Lib.hid hdR; obtain ⟨pR, qR, rfl, -, -⟩ := hdR)
        | (go_at_call 18; refine (eqCi _ _ n _ _ l _ (Hx0.out.below HbR.out).sl HdR.out hnl).mono ?_; rintro e w6 ⟨rfl, hbR⟩; have HbQ := Lib.hid hbR))
    have hb6 : Below w5.heap.size w5 w6 := below_nx HbR.out HbQ.out
    clear hS HbR HbQ HdR
    have Hx0 := Lib.hid (Hx0.out.below hb6)
    have Hb := Lib.hid (below_nx Hb.out hb6)
    have hz6 := hb6.size
    have HX := Lib.hid (below_blk hb6 (lt_of_block HX.out) HX.out)
    have HBo := Lib.hid (below_blk hb6 (lt_of_block HBo.out) HBo.out)
    clear hb6
    clear cX0 cX1 lX
    obtain ⟨cX0, cX1⟩ := blk_cells2 HX.out
    have lX := lt_of_block HX.out
    clear bo0 bo1 bol
    obtain ⟨bo0, bo1⟩ := blk_cells2 HBo.out
    have bol := lt_of_block HBo.out
    go_wp2_with fail
    go_ret
    exact ⟨rfl, Hb.out⟩
  · clear hin
    go_enter Tryd.func5, Tryd.ntmps5
    go_wp2_with fail
    refine (szCiBig n la l.length lc 1048576 _ hm (by omega) (by omega) (by omega)).mono ?_
    rintro e w1 ⟨rfl, hb1⟩
    have Hb := Lib.hid (below_nx Hb.out hb1)
    clear hb1
    go_wp2_with fail
    go_ret
    exact ⟨rfl, Hb.out⟩
open Go.ChangeMaps (open_string shut_string)
theorem laidOut : laidOutB Tryd.prog = true := by kernel_rfl
theorem own : ownKnob Tryd.prog.godebug = none := by kernel_rfl
set_option maxRecDepth 100000 in
/-- What the walk gives, for every argument and every world that holds the tables. -/
theorem contract (H : Type) (enc : TypeId × Value → H) (W : World) (base : Nat) (args : Array Value) (ds gs : List (DataW H)) (before : List MemPlace)
    (hval : ∀ (j : Nat) t v, Tryd.f5.params[j]? = some t → args[j]? = some v → Value.okWide Tryd.prog W .any base t v)
    (hW : DataW.Whole enc Tryd.prog Tryd.f5.params.toList Rows.fnExactFormatCircuitSpec.vars false W args.toList ds gs before) (hL : laidMetH Tryd.prog Rows.fnExactFormatCircuitRow.laid W) :
    Calls Tryd.prog 5 args W fun e W' => ∃ v, e = .returned v ∧ Rows.fnExactFormatCircuitSpec.post enc Tryd.prog Tryd.f5 false true false false W args v W' := by
  have hW' := hW
  obtain ⟨p, q, hA0, hV, rfl, hfz, hnd⟩ := hW
  have hA : DataW.TrodAll enc Tryd.prog W 0 (fun _ => true) true Tryd.f5.params.toList args.toList ds p := hA0
  rw [Tryd.params5] at hA hval
  obtain ⟨v0, vs0, d0, ds0, p0, q0, hargs, rfl, rfl, h0, r0⟩ := trodAll_cons hA
  obtain ⟨rfl, rfl, rfl⟩ := trodAll_nil r0
  obtain rfl : args = #[v0] := by cases args; simp_all
  obtain ⟨vg0, vt0, vc0, vf0, dv0, vp0, rfl, -, -, -, -, -⟩ := trodVars_one hV
  have k0 := h0
  have lt0 : ∀ x ∈ p0, x.block < W.heap.size := by obtain ⟨m, hm⟩ := k0; exact DataW.trod_lt m _ _ _ hm
  obtain ⟨l0, l1, ly0, ly1, lm, rfl, rfl, rfl, lt0, lt1⟩ := Go.Joins.open_agg2 Tryd.underlying34 (by kernel_rfl) (by kernel_rfl) (hval 0 34 v0 rfl rfl) h0
  obtain ⟨lN, ela, -, wlN⟩ := DataW.trod_int Tryd.underlying3 lt0
  obtain rfl := List.head_eq_of_cons_eq ela
  obtain ⟨la, lc, l, rfl, lh⟩ := open_gs1 lt1
  clear ela lt0 lt1
  clear hA0
  refine (walk lN la lc l W (bounds_i64 wlN).1 (bounds_i64 wlN).2 lh (laid4 hL)).mono fun e W' ⟨he, hg⟩ => ?_
  subst he
  exact ⟨_, rfl, _, _, _, [], _, _, hW', trodAll_mk1 (shut_bool Tryd.underlying4 _), (trodAll_cons_mk (Below.trod laidOut (by kernel_rfl) (of_decide_eq_true (by kernel_rfl)) k0 hg lt0) trodAll_mk0), Below.trodVars laidOut hg (by kernel_rfl) hV, hg.frame _, fun h => by cases h⟩
/-- A world for the witness: what the program's own start lays. -/
noncomputable def laidWorld (os : Os) : World := World.doorLaid Tryd.prog 77 os
theorem laid_met (os : Os) : laidMetH Tryd.prog Rows.fnExactFormatCircuitRow.laid ((laidWorld os).forCall (fun _ _ => 0) ⟨#[], #[.agg #[.int .i64 0, .slice none 0 0]], []⟩).memory :=
  laidMetH_of_parts3 (fuel := 8) (laidMet_of_run' 8 (by kernel_rfl) (by kernel_rfl)) (by kernel_rfl) (by kernel_rfl)
theorem reads (os : Os) {H : Type} (enc : TypeId × Value → H) : ∃ places, DataW.whole enc Tryd.prog ((laidWorld os).forCall (fun _ _ => 0) ⟨#[], #[.agg #[.int .i64 0, .slice none 0 0]], []⟩).memory Tryd.f5.params.toList Rows.fnExactFormatCircuitSpec.vars false #[Value.agg #[.int .i64 0, .slice none 0 0]].toList 8 = some ([.agg [.lit (.int .i64 0), .nil]], [Rows.laid_loop_example_g00506_impl_gateNames], places) :=
  ⟨MemPlace.row ⟨0, 0, none⟩ 13, by kernel_rfl⟩
set_option maxRecDepth 100000 in
theorem lifted (os : Os) (started : os.Started) (H : Type) (enc : TypeId × Value → H) (F : Stop.Interp) :
    ReturnsInHanded {} Tryd.checked os 5 .any ((OpenSpec.ofChange Rows.fnExactFormatCircuitSpec).preRow enc Tryd.prog Tryd.f5 Rows.fnExactFormatCircuitRow.domain false Rows.fnExactFormatCircuitRow.laid) (((OpenSpec.ofChange Rows.fnExactFormatCircuitSpec).at F).post enc Tryd.prog Tryd.f5 false true false false) := by
  obtain ⟨places, hx⟩ := reads os enc
  refine returnsInHanded_of_row (C := Tryd.checked) (s := OpenSpec.ofChange Rows.fnExactFormatCircuitSpec) own started (by kernel_rfl) Tryd.func5
    (witness_row_at (enc := enc) (C := Tryd.checked) false (laidWorld os) #[.agg #[.int .i64 0, .slice none 0 0]] rfl (by kernel_rfl) (by kernel_rfl) (by kernel_rfl)
      (OpenSpec.preRow_of_cond 8 hx (by kernel_rfl) (fun k hk => by cases hk) (by kernel_rfl) (laid_met os))) ?_
  intro W base args ds gs before hval hW _ _ _ hL _ _
  exact contract H enc W base args ds gs before hval hW hL
theorem said : Rows.FnExactFormatCircuitSaid :=
  OpenClaim.holds_of_cond 5 Tryd.f5 rfl rfl rfl rfl rfl rfl rfl ⟨rfl, rfl, rfl, rfl, rfl⟩ rfl rfl rfl rfl rfl (by kernel_rfl) Tryd.func5 (by kernel_rfl)
    (of_decide_eq_true (by kernel_rfl)) (by unfold Func.isWrapper; first | (rw [if_pos (by decide +kernel)]; kernel_rfl) | (rw [if_neg (by decide +kernel)]; exact ⟨rfl, rfl⟩))
    (fun os started H enc _ F => by rw [OpenClaim.pre_eq_preRow]; exact lifted os started H enc F)
theorem plain (f : FuncId) (fn : Func) (hf : Tryd.pinned.checked.prog.funcNamed "loop.example/g00506/laws.FnExactFormatCircuit" = some f) (hfn : Tryd.pinned.checked.prog.funcs[f]? = some fn) :
    true = Tryd.pinned.checked.prog.looks [] ∧ ∀ (j : Nat) t, fn.params[j]? = some t → Tryd.pinned.checked.prog.wantsStandIn t = false := by
  obtain rfl : f = 5 := Option.some.inj ((show Tryd.prog.funcNamed "loop.example/g00506/laws.FnExactFormatCircuit" = some 5 by kernel_rfl).symm.trans hf) |>.symm
  obtain rfl : fn = Tryd.f5 := (Option.some.inj (Tryd.func5.symm.trans hfn)).symm
  refine ⟨by kernel_rfl, fun j t ht => ?_⟩
  rw [Tryd.params5] at ht
  have hm : t ∈ [34] := by simpa using Array.mem_of_getElem? ht
  have hall : ([34].all fun u => !Tryd.prog.wantsStandIn u) = true := by kernel_rfl
  exact (show Tryd.prog.wantsStandIn t = false by simpa using List.all_eq_true.1 hall t hm)
theorem card : Rows.FnExactFormatCircuitCardSaid :=
  Claim7.holds_tied_plain_at .later [] _ _ _ _ said (fun _ h => by cases h) (by kernel_rfl) (fun _ h => by cases h) fnExactFormatCircuit_row_tie rfl ⟨rfl, rfl⟩ (by kernel_rfl) rfl plain (by kernel_rfl)
end Go.Proofs.YtbnkanlebjpkfaaDoor.fnExactFormatCircuit
