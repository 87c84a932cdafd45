/- The law FnExactCircuitDepth: CircuitDepth answers as its model, at every circuit. No condition. -/
import Derived.Test.YtckfklpgnneodaaInit
import Derived.Test.YtckfklpgnneodaaLyKl
import Derived.Test.YtckfklpgnneodaaLyF
import Derived.Test.YtckfklpgnneodaaLyC
import Derived.Test.YtckfklpgnneodaaCiL
import Derived.Test.YtckfklpgnneodaaBaseB09
import Derived.Test.YtckfklpgnneodaaBaseB15
import Derived.Test.YtckfklpgnneodaaBaseB08
import Derived.Lib.SmallJoins
import Derived.WalkKit
import Derived.ProofKit
import Derived.OpenShut
import Derived.Deep.DeepHandedRow
import Derived.Lib.LaidTab
import Derived.LaidMore
import Derived.LaidHandle
import Derived.Lay
import Derived.Stop.LaidErr
namespace Go.Proofs.Ytckfklpgnneodaa.fnExactCircuitDepth
open Go.ChangeShapes Go.WideShapes Go.ChangeAt Go.RowKit Go.Lib
attribute [local irreducible] World.cell?
set_option maxRecDepth 100000 in
set_option maxHeartbeats 6400000 in
theorem walk (n : Int) (la : Option Addr) (lc : Nat) (l : List Gt) (w : World) (n0 : -9223372036854775808 ≤ n) (n1 : n ≤ 9223372036854775807) (hin : GsIn w w.heap.size la l) :
    Calls Try.prog 7 #[.agg #[.int .i64 n, .slice la l.length lc]] w fun e w' => e = .returned (.bool true) ∧ Below w.heap.size w w' := by
  have hm := hin.1
  have HX := Lib.hid (heap_alloc_new w (.cells #[.int .i64 n, .slice la l.length lc] 34))
  obtain ⟨cX0, cX1⟩ := blk_cells2 HX.out
  have lX := lt_of_block HX.out
  have Hb := Lib.hid (show Below w.heap.size w (w.alloc (.cells #[.int .i64 n, .slice la l.length lc] 34)) by go_grown)
  have ha0 := size_alloc1 w (.cells #[.int .i64 n, .slice la l.length lc] 34)
  by_cases hnl : l.length ≤ 1048576
  · have Hto := Lib.hid (fun W (hb : Below w.heap.size w W) => toCi n la lc w.heap.size l W (hin.below hb) hb.size hnl)
    have Hsp := Lib.hid (fun W B v (h : gtE.Sl W B v l) => sdepth B n v l W h hnl)
    have Him := Lib.hid (fun W B v (h : gtE.Sl W B v l) => idepth B n v l W h hnl n0 n1)
    generalize (lysM n l).length = t at *
    clear hin
    go_enter Try.func7, Try.ntmps7
    go_wp2_with fail
    refine (szCiFit n la l.length lc 1048576 _ (by omega) (by omega) (by omega)).mono ?_
    rintro e w1 ⟨rfl, hb1⟩
    have Hb := Lib.hid (below_nx Hb.out hb1)
    have hz1 := hb1.size
    have HX := Lib.hid (below_blk hb1 (lt_of_block HX.out) HX.out)
    clear hb1
    clear cX0 cX1 lX
    obtain ⟨cX0, cX1⟩ := blk_cells2 HX.out
    have lX := lt_of_block HX.out
    go_wp2_with fail
    refine (Hto.out _ Hb.out).mono ?_
    rintro e w2 ⟨vs0, rfl, hd2, hb2⟩
    obtain ⟨ps0, qs0, rfl, -, -⟩ := id hd2
    have Hs0 := Lib.hid hd2.upto
    have Hb := Lib.hid (below_nx Hb.out hb2)
    have hz2 := hb2.size
    have HX := Lib.hid (below_blk hb2 (lt_of_block HX.out) HX.out)
    clear hb2 hd2
    clear cX0 cX1 lX
    obtain ⟨cX0, cX1⟩ := blk_cells2 HX.out
    have lX := lt_of_block HX.out
    go_wp2_with fail
    refine (Hsp.out _ _ _ Hs0.out.sl).mono ?_
    rintro e w3 ⟨rfl, hb3⟩
    have Hs0 := Lib.hid (Hs0.out.below hb3)
    have Hb := Lib.hid (below_nx Hb.out hb3)
    have hz3 := hb3.size
    have HX := Lib.hid (below_blk hb3 (lt_of_block HX.out) HX.out)
    clear hb3
    clear cX0 cX1 lX
    obtain ⟨cX0, cX1⟩ := blk_cells2 HX.out
    have lX := lt_of_block HX.out
    go_wp2_with fail
    refine (Hto.out _ Hb.out).mono ?_
    rintro e w4 ⟨vx0, rfl, hd4, hb4⟩
    obtain ⟨px0, qx0, rfl, -, -⟩ := id hd4
    have Hx0 := Lib.hid hd4.upto
    have Hx0 := Lib.hid (Hx0.out.below ((Below.refl _ _).alloc (Nat.le_refl _) (.cells #[.int .i64 n, .slice px0 l.length qx0] 26)))
    have hy4 := hb4.size
    have hb4 := hb4.alloc hb4.size (.cells #[.int .i64 n, .slice px0 l.length qx0] 26)
    have Hb := Lib.hid (below_nx Hb.out hb4)
    have hz4 := hb4.size
    simp only [size_alloc1] at hz4
    have ha4 := size_alloc1 w4 (.cells #[.int .i64 n, .slice px0 l.length qx0] 26)
    have HX := Lib.hid (below_blk hb4 (lt_of_block HX.out) HX.out)
    have HBo := Lib.hid (heap_alloc_new w4 (.cells #[.int .i64 n, .slice px0 l.length qx0] 26))
    clear hb4 hd4
    clear cX0 cX1 lX
    obtain ⟨cX0, cX1⟩ := blk_cells2 HX.out
    have lX := lt_of_block HX.out
    obtain ⟨bo0, bo1⟩ := blk_cells2 HBo.out
    have bol := lt_of_block HBo.out
    go_wp2_with fail
    refine (Him.out _ _ _ Hx0.out.sl).mono ?_
    rintro e w5 ⟨rfl, hb5⟩
    have Hx0 := Lib.hid (Hx0.out.below hb5)
    have Hb := Lib.hid (below_nx Hb.out hb5)
    have hz5 := hb5.size
    simp only [size_alloc1] at hz5
    have HX := Lib.hid (below_blk hb5 (lt_of_block HX.out) HX.out)
    have HBo := Lib.hid (below_blk hb5 (lt_of_block HBo.out) HBo.out)
    clear hb5
    clear cX0 cX1 lX
    obtain ⟨cX0, cX1⟩ := blk_cells2 HX.out
    have lX := lt_of_block HX.out
    clear bo0 bo1 bol
    obtain ⟨bo0, bo1⟩ := blk_cells2 HBo.out
    have bol := lt_of_block HBo.out
    have hS : CB2 w5 (w.heap.size) w4.heap.size n n (.slice la l.length lc) (.slice px0 l.length qx0) w5 := ⟨cX0, cX1, bo0, bo1, lX, bol, Below.refl _ _⟩
    go_upto_region 10 with fail
    go_region_held3 (fun w' => w'.cell? ⟨w.heap.size, 0, none⟩ = some (.int .i64 n) ∧ w'.cell? ⟨w.heap.size, 1, none⟩ = some (.slice la l.length lc) ∧ w'.cell? ⟨w4.heap.size, 0, none⟩ = some (.int .i64 n) ∧ w'.cell? ⟨w4.heap.size, 1, none⟩ = some (.slice px0 l.length qx0) ∧ w.heap.size < w'.heap.size ∧ w4.heap.size < w'.heap.size ∧ Below w5.heap.size w5 w') (first | (show CB2 _ _ _ _ _ _ _ _; (with_reducible exact hS.drew)) | (show CB2 _ _ _ _ _ _ _ _; (with_reducible refine CB2.below ?_ hbR); first | assumption | exact ⟨by assumption, by assumption, by assumption, by assumption, by assumption, by assumption, by assumption⟩))
      (first
        | (go_at_call 19; refine (Hto.out _ Hb.out.drew).mono ?_; rintro e wR ⟨vR, rfl, hdR, hbR⟩; have HbR := Lib.hid (show Below w5.heap.size w5 wR from (Below.refl _ _).drew.trans hbR); have HdR := Lib.hid hdR; obtain ⟨pR, qR, rfl, -, -⟩ := hdR)
        | (go_at_call 21; refine (eqCi _ _ n _ _ l _ (Hx0.out.below HbR.out).sl HdR.out hnl).mono ?_; rintro e w6 ⟨rfl, hbR⟩; have HbQ := Lib.hid hbR))
    have hb6 : Below w5.heap.size w5 w6 := below_nx HbR.out HbQ.out
    clear hS HbR HbQ HdR
    have Hx0 := Lib.hid (Hx0.out.below hb6)
    have Hb := Lib.hid (below_nx Hb.out hb6)
    have hz6 := hb6.size
    have HX := Lib.hid (below_blk hb6 (lt_of_block HX.out) HX.out)
    have HBo := Lib.hid (below_blk hb6 (lt_of_block HBo.out) HBo.out)
    clear hb6
    clear cX0 cX1 lX
    obtain ⟨cX0, cX1⟩ := blk_cells2 HX.out
    have lX := lt_of_block HX.out
    clear bo0 bo1 bol
    obtain ⟨bo0, bo1⟩ := blk_cells2 HBo.out
    have bol := lt_of_block HBo.out
    go_wp2_with fail
    go_ret
    exact ⟨rfl, Hb.out⟩
  · clear hin
    go_enter Try.func7, Try.ntmps7
    go_wp2_with fail
    refine (szCiBig n la l.length lc 1048576 _ hm (by omega) (by omega) (by omega)).mono ?_
    rintro e w1 ⟨rfl, hb1⟩
    have Hb := Lib.hid (below_nx Hb.out hb1)
    clear hb1
    go_wp2_with fail
    go_ret
    exact ⟨rfl, Hb.out⟩
open Go.ChangeMaps (open_string shut_string)
theorem laidOut : laidOutB Try.prog = true := by kernel_rfl
theorem own : ownKnob Try.prog.godebug = none := by kernel_rfl
set_option maxRecDepth 100000 in
/-- What the walk gives, for every argument. -/
theorem contract (H : Type) (enc : TypeId × Value → H) (W : World) (base : Nat) (args : Array Value) (ds gs : List (DataW H)) (before : List MemPlace)
    (hval : ∀ (j : Nat) t v, Try.f7.params[j]? = some t → args[j]? = some v → Value.okWide Try.prog W .any base t v)
    (hW : DataW.Whole enc Try.prog Try.f7.params.toList Rows.fnExactCircuitDepthSpec.vars false W args.toList ds gs before) :
    Calls Try.prog 7 args W fun e W' => ∃ v, e = .returned v ∧ Rows.fnExactCircuitDepthSpec.post enc Try.prog Try.f7 false true false false W args v W' := by
  have hW' := hW
  obtain ⟨p, q, hA0, hV, rfl, hfz, hnd⟩ := hW
  have hA : DataW.TrodAll enc Try.prog W 0 (fun _ => true) true Try.f7.params.toList args.toList ds p := hA0
  rw [Try.params7] at hA hval
  obtain ⟨v0, vs0, d0, ds0, p0, q0, hargs, rfl, rfl, h0, r0⟩ := trodAll_cons hA
  obtain ⟨rfl, rfl, rfl⟩ := trodAll_nil r0
  obtain rfl : args = #[v0] := by cases args; simp_all
  obtain ⟨rfl, rfl⟩ := trodVars_none hV
  have k0 := h0
  have lt0 : ∀ x ∈ p0, x.block < W.heap.size := by obtain ⟨m, hm⟩ := k0; exact DataW.trod_lt m _ _ _ hm
  obtain ⟨l0, l1, ly0, ly1, lm, rfl, rfl, rfl, lt0, lt1⟩ := Go.Joins.open_agg2 Try.underlying34 (by kernel_rfl) (by kernel_rfl) (hval 0 34 v0 rfl rfl) h0
  obtain ⟨lN, ela, -, wlN⟩ := DataW.trod_int Try.underlying3 lt0
  obtain rfl := List.head_eq_of_cons_eq ela
  obtain ⟨la, lc, l, rfl, lh⟩ := open_gs1 lt1
  clear ela lt0 lt1
  clear hA0
  simp only [List.append_nil] at hW'
  refine (walk lN la lc l W (bounds_i64 wlN).1 (bounds_i64 wlN).2 lh).mono fun e W' ⟨he, hg⟩ => ?_
  subst he
  exact ⟨_, rfl, _, _, _, [], _, [], hW', trodAll_mk1 (shut_bool Try.underlying4 _), (trodAll_cons_mk (Below.trod laidOut (by kernel_rfl) (of_decide_eq_true (by kernel_rfl)) k0 hg lt0) trodAll_mk0), rfl, hg.frame _, fun h => by cases h⟩
set_option maxRecDepth 100000 in
theorem lifted (os : Os) (started : os.Started) (H : Type) (enc : TypeId × Value → H) :
    ReturnsInHanded {} Try.checked os 7 .any (Rows.fnExactCircuitDepthSpec.pre6 enc Try.prog Try.f7 Rows.fnExactCircuitDepthRow.domain false) (Rows.fnExactCircuitDepthSpec.post enc Try.prog Try.f7 false true false false) := by
  refine returnsInHanded_of_change (C := Try.checked) own started (by kernel_rfl) Try.func7
    (ChangeSpec.witness6 (enc := enc) (C := Try.checked) false ⟨#[], #[.agg #[.int .i64 0, .slice none 0 0]], []⟩ 8 (by kernel_rfl) (by kernel_rfl) (by kernel_rfl) (by kernel_rfl)) ?_
  intro W base args ds gs before hval hW _ _
  exact contract H enc W base args ds gs before hval hW
theorem closedFacts : joinedFacts Try.pinned.checked.prog 7 Try.f7 Rows.fnExactCircuitDepthSpec Rows.fnExactCircuitDepthRow = true := by
  unfold joinedFacts
  rw [init_may, init_facts.2.1, init_facts.2.2]
  kernel_rfl
theorem said : Rows.FnExactCircuitDepthSaid :=
  OpenClaim.holds_of_wide 7 Try.f7 rfl rfl rfl rfl rfl rfl rfl ⟨rfl, rfl, rfl, rfl, rfl⟩ rfl rfl rfl rfl rfl (by kernel_rfl) Try.func7 closedFacts
    (of_decide_eq_true (by kernel_rfl)) (by unfold Func.isWrapper; first | (rw [if_pos (by decide +kernel)]; kernel_rfl) | (rw [if_neg (by decide +kernel)]; exact ⟨rfl, rfl⟩))
    (fun os started H enc _ => lifted os started H enc)
end Go.Proofs.Ytckfklpgnneodaa.fnExactCircuitDepth
