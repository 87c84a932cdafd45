/- The law FnExactPermutationMatrix: PermutationMatrix answers as its model, at every argument. No condition. -/
import Derived.Test.YtkcpemkahkkcmaaInit
import Derived.Test.YtkcpemkahkkcmaaBaseB24
import Derived.Test.YtkcpemkahkkcmaaPmU
import Derived.Test.YtkcpemkahkkcmaaBaseB27
import Derived.Test.YtkcpemkahkkcmaaBaseB04
import Derived.Lib.SmallJoins
import Derived.WalkKit
import Derived.ProofKit
import Derived.OpenShut
import Derived.Deep.DeepHandedRow
import Derived.Lib.LaidTab
import Derived.LaidMore
import Derived.LaidHandle
import Derived.Lay
import Derived.Stop.LaidErr
namespace Go.Proofs.Ytkcpemkahkkcmaa.fnExactPermutationMatrix
open Go.ChangeShapes Go.WideShapes Go.ChangeAt Go.RowKit Go.Lib
attribute [local irreducible] World.cell?
set_option maxRecDepth 100000 in
set_option maxHeartbeats 6400000 in
theorem walk (pa : Option Addr) (pc : Nat) (p : List Int) (w : World) (hinp : IsIn w w.heap.size pa p) :
    Calls Try.prog 11 #[.slice pa p.length pc] w fun e w' => e = .returned (.bool true) ∧ Below w.heap.size w w' := by
  have Hinp := Lib.hid hinp
  have hEp := hinp.2.1
  have hMp := hinp.1
  clear hinp
  unfold maxLen at hMp
  by_cases hlp : p.length ≤ 1048576
  · have hnp : p.length ≤ 1048576 := hlp
    clear hlp
    have Hb := Lib.hid (Below.refl w.heap.size w)
    go_enter Try.func11, Try.ntmps11
    go_wp2_with fail
    have hr := pmM_amps p
    have hnR : (pmM p).length ≤ 1048576 := by omega
    have hmR : amps (pmM p) ≤ 1048576 := by omega
    have Hsp := Lib.hid (fun P v W (h1 : intE.Sl W P v p) => spmM P v p W h1 hEp hnp)
    have Him := Lib.hid (fun P v W (h1 : intE.Sl W P v p) => ipmM P v p W h1 hEp hnp)
    clear hr
    generalize pmM p = R at *
    have hk0 : ¬ (1 + (p.length : Int) < 0) := by omega
    have hk1 : ¬ (1 + (amps R : Int) * 5 < 0) := by omega
    refine (toIs pa pc w.heap.size p _ (Hinp.out.below Hb.out) Hb.out.size hnp).mono ?_
    rintro e w1 ⟨vs0, rfl, hd1, hb1⟩
    have Hs0 := Lib.hid hd1.upto
    have Hb := Lib.hid (below_nx Hb.out hb1)
    have hz1 := hb1.size
    clear hb1 hd1
    go_wp2_with fail
    refine (Hsp.out _ _ _ Hs0.out.sl).mono ?_
    rintro e w2 ⟨v0, rfl, hd2, hb2⟩
    have Hw0 := Lib.hid hd2.upto
    have Hs0 := Lib.hid (Hs0.out.below hb2)
    have Hb := Lib.hid (below_nx Hb.out hb2)
    have hz2 := hb2.size
    clear hb2 hd2
    go_wp2_with fail
    refine (toIs pa pc w.heap.size p _ (Hinp.out.below Hb.out) Hb.out.size hnp).mono ?_
    rintro e w3 ⟨vx0, rfl, hd3, hb3⟩
    have Hx0 := Lib.hid hd3.upto
    have Hw0 := Lib.hid (Hw0.out.below hb3)
    have Hb := Lib.hid (below_nx Hb.out hb3)
    have hz3 := hb3.size
    clear hb3 hd3
    go_wp2_with fail
    refine (Him.out _ _ _ Hx0.out.sl).mono ?_
    rintro e w4 ⟨vg, rfl, hd4, hb4⟩
    have Hg0 := Lib.hid hd4.upto
    have Hw0 := Lib.hid (Hw0.out.below hb4)
    have Hx0 := Lib.hid (Hx0.out.below hb4)
    have Hb := Lib.hid (below_nx Hb.out hb4)
    have hz4 := hb4.size
    clear hb4 hd4
    go_wp2_with fail
    refine (eqMt _ _ _ _ _ _ R _ Hg0.out Hw0.out hnR hmR).mono ?_
    rintro e w5 ⟨rfl, hb5⟩
    have Hw0 := Lib.hid (Hw0.out.below hb5)
    have Hx0 := Lib.hid (Hx0.out.below hb5)
    have Hg0 := Lib.hid (Hg0.out.below hb5)
    have Hb := Lib.hid (below_nx Hb.out hb5)
    have hz5 := hb5.size
    clear hb5
    go_wp2_with fail
    refine (toIs pa pc w.heap.size p _ (Hinp.out.below Hb.out) Hb.out.size hnp).mono ?_
    rintro e w6 ⟨vs2, rfl, hd6, hb6⟩
    have Hs2 := Lib.hid hd6.upto
    have Hw0 := Lib.hid (Hw0.out.below hb6)
    have Hx0 := Lib.hid (Hx0.out.below hb6)
    have Hg0 := Lib.hid (Hg0.out.below hb6)
    have Hb := Lib.hid (below_nx Hb.out hb6)
    have hz6 := hb6.size
    clear hb6 hd6
    go_wp2_with fail
    refine (eqI_self _ _ _ _ p _ Hx0.out.sl Hs2.out.sl hnp).mono ?_
    rintro e w7 ⟨rfl, hb7⟩
    have Hw0 := Lib.hid (Hw0.out.below hb7)
    have Hx0 := Lib.hid (Hx0.out.below hb7)
    have Hg0 := Lib.hid (Hg0.out.below hb7)
    have Hs2 := Lib.hid (Hs2.out.below hb7)
    have Hb := Lib.hid (below_nx Hb.out hb7)
    have hz7 := hb7.size
    clear hb7
    go_wp2_with fail
    refine (markI1 _ _ _ p _ Hx0.out hnp).mono ?_
    rintro e w8 ⟨rfl, hd8, hm8⟩
    have Hw0 := Lib.hid (show DSM w8 _ _ _ _ by first | exact hm8.dsm_lo Hw0.out (by omega) | exact hm8.dsm_hi Hw0.out (by omega))
    have Hg0 := Lib.hid (show DSM w8 _ _ _ _ by first | exact hm8.dsm_lo Hg0.out (by omega) | exact hm8.dsm_hi Hg0.out (by omega))
    have Hx0 := Lib.hid hd8
    have hz8 := hm8.1.size
    have Hb := Lib.hid (mid_low Hb.out hm8 (by omega))
    clear hd8 hm8
    go_wp2_with fail
    refine (eqMt _ _ _ _ _ _ R _ Hg0.out Hw0.out hnR hmR).mono ?_
    rintro e w9 ⟨rfl, hb9⟩
    have Hw0 := Lib.hid (Hw0.out.below hb9)
    have Hg0 := Lib.hid (Hg0.out.below hb9)
    have Hb := Lib.hid (below_nx Hb.out hb9)
    have hz9 := hb9.size
    clear hb9
    go_wp2_with fail
    refine (markM1 _ _ _ R _ Hg0.out hnR hmR).mono ?_
    rintro e w10 ⟨rfl, hd10, hm10⟩
    have Hw0 := Lib.hid (show DSM w10 _ _ _ _ by first | exact hm10.dsm_lo Hw0.out (by omega) | exact hm10.dsm_hi Hw0.out (by omega))
    have Hg0 := Lib.hid hd10
    have hz10 := hm10.1.size
    have Hb := Lib.hid (mid_low Hb.out hm10 (by omega))
    clear hd10 hm10
    go_wp2_with fail
    refine (heldM1 _ _ _ R _ Hg0.out hnR hmR).mono ?_
    rintro e w11 ⟨rfl, rfl⟩
    go_wp2_with fail
    refine (toIs pa pc w.heap.size p _ (Hinp.out.below Hb.out) Hb.out.size hnp).mono ?_
    rintro e w12 ⟨vs4, rfl, hd12, hb12⟩
    have Hs4 := Lib.hid hd12.upto
    have Hw0 := Lib.hid (Hw0.out.below hb12)
    have Hg0 := Lib.hid (Hg0.out.below hb12)
    have Hb := Lib.hid (below_nx Hb.out hb12)
    have hz12 := hb12.size
    clear hb12 hd12
    go_wp2_with fail
    refine (Him.out _ _ _ Hs4.out.sl).mono ?_
    rintro e w13 ⟨vh, rfl, hd13, hb13⟩
    have Hh0 := Lib.hid hd13.upto
    have Hw0 := Lib.hid (Hw0.out.below hb13)
    have Hg0 := Lib.hid (Hg0.out.below hb13)
    have Hs4 := Lib.hid (Hs4.out.below hb13)
    have Hb := Lib.hid (below_nx Hb.out hb13)
    have hz13 := hb13.size
    clear hb13 hd13
    go_wp2_with fail
    refine (eqMt _ _ _ _ _ _ R _ Hh0.out Hw0.out hnR hmR).mono ?_
    rintro e w14 ⟨rfl, hb14⟩
    have Hw0 := Lib.hid (Hw0.out.below hb14)
    have Hg0 := Lib.hid (Hg0.out.below hb14)
    have Hh0 := Lib.hid (Hh0.out.below hb14)
    have Hb := Lib.hid (below_nx Hb.out hb14)
    have hz14 := hb14.size
    clear hb14
    go_wp2_with fail
    refine (heldM1 _ _ _ R _ Hg0.out hnR hmR).mono ?_
    rintro e w15 ⟨rfl, rfl⟩
    go_wp2_with fail
    go_ret
    exact ⟨rfl, Hb.out⟩
  · go_enter Try.func11, Try.ntmps11
    go_wp2_with fail
    go_ret
    exact ⟨rfl, Below.refl _ _⟩
open Go.ChangeMaps (open_string shut_string)
theorem laidOut : laidOutB Try.prog = true := by kernel_rfl
theorem own : ownKnob Try.prog.godebug = none := by kernel_rfl
set_option maxRecDepth 100000 in
/-- What the walk gives, for every argument. -/
theorem contract (H : Type) (enc : TypeId × Value → H) (W : World) (base : Nat) (args : Array Value) (ds gs : List (DataW H)) (before : List MemPlace)
    (hval : ∀ (j : Nat) t v, Try.f11.params[j]? = some t → args[j]? = some v → Value.okWide Try.prog W .any base t v)
    (hW : DataW.Whole enc Try.prog Try.f11.params.toList Rows.fnExactPermutationMatrixSpec.vars false W args.toList ds gs before) :
    Calls Try.prog 11 args W fun e W' => ∃ v, e = .returned v ∧ Rows.fnExactPermutationMatrixSpec.post enc Try.prog Try.f11 false true false false W args v W' := by
  have hW' := hW
  obtain ⟨p, q, hA0, hV, rfl, hfz, hnd⟩ := hW
  have hA : DataW.TrodAll enc Try.prog W 0 (fun _ => true) true Try.f11.params.toList args.toList ds p := hA0
  rw [Try.params11] at hA hval
  obtain ⟨v0, vs0, d0, ds0, p0, q0, hargs, rfl, rfl, h0, r0⟩ := trodAll_cons hA
  obtain ⟨rfl, rfl, rfl⟩ := trodAll_nil r0
  obtain rfl : args = #[v0] := by cases args; simp_all
  obtain ⟨rfl, rfl⟩ := trodVars_none hV
  have k0 := h0
  have lt0 : ∀ x ∈ p0, x.block < W.heap.size := by obtain ⟨m, hm⟩ := k0; exact DataW.trod_lt m _ _ _ hm
  obtain ⟨pa, pc, p, rfl, ph⟩ := open_is (hval 0 39 v0 rfl rfl) h0
  clear hA0
  simp only [List.append_nil] at hW'
  refine (walk pa pc p W ph).mono fun e W' ⟨he, hg⟩ => ?_
  subst he
  exact ⟨_, rfl, _, _, _, [], _, [], hW', trodAll_mk1 (shut_bool Try.underlying4 _), (trodAll_cons_mk (Below.trod laidOut (by kernel_rfl) (of_decide_eq_true (by kernel_rfl)) k0 hg lt0) trodAll_mk0), rfl, hg.frame _, fun h => by cases h⟩
set_option maxRecDepth 100000 in
theorem lifted (os : Os) (started : os.Started) (H : Type) (enc : TypeId × Value → H) :
    ReturnsInHanded {} Try.checked os 11 .any (Rows.fnExactPermutationMatrixSpec.pre6 enc Try.prog Try.f11 Rows.fnExactPermutationMatrixRow.domain false) (Rows.fnExactPermutationMatrixSpec.post enc Try.prog Try.f11 false true false false) := by
  refine returnsInHanded_of_change (C := Try.checked) own started (by kernel_rfl) Try.func11
    (ChangeSpec.witness6 (enc := enc) (C := Try.checked) false ⟨#[], #[.slice none 0 0], []⟩ 8 (by kernel_rfl) (by kernel_rfl) (by kernel_rfl) (by kernel_rfl)) ?_
  intro W base args ds gs before hval hW _ _
  exact contract H enc W base args ds gs before hval hW
theorem closedFacts : joinedFacts Try.pinned.checked.prog 11 Try.f11 Rows.fnExactPermutationMatrixSpec Rows.fnExactPermutationMatrixRow = true := by
  unfold joinedFacts
  rw [init_may, init_facts.2.1, init_facts.2.2]
  kernel_rfl
theorem said : Rows.FnExactPermutationMatrixSaid :=
  OpenClaim.holds_of_wide 11 Try.f11 rfl rfl rfl rfl rfl rfl rfl ⟨rfl, rfl, rfl, rfl, rfl⟩ rfl rfl rfl rfl rfl (by kernel_rfl) Try.func11 closedFacts
    (of_decide_eq_true (by kernel_rfl)) (by unfold Func.isWrapper; first | (rw [if_pos (by decide +kernel)]; kernel_rfl) | (rw [if_neg (by decide +kernel)]; exact ⟨rfl, rfl⟩))
    (fun os started H enc _ => lifted os started H enc)
end Go.Proofs.Ytkcpemkahkkcmaa.fnExactPermutationMatrix
