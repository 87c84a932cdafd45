/- The law FnExactComposePermutations: ComposePermutations answers as its model, at every argument. No condition. -/
import Derived.Test.YtfmgjhaofbdlpaaInit
import Derived.Test.YtfmgjhaofbdlpaaPmK
import Derived.Test.YtfmgjhaofbdlpaaPmU
import Derived.Test.YtfmgjhaofbdlpaaBaseB14
import Derived.Test.YtfmgjhaofbdlpaaBaseB08
import Derived.Lib.SmallJoins
import Derived.WalkKit
import Derived.ProofKit
import Derived.OpenShut
import Derived.Deep.DeepHandedRow
import Derived.Lib.LaidTab
import Derived.LaidMore
import Derived.LaidHandle
import Derived.Lay
import Derived.Stop.LaidErr
namespace Go.Proofs.Ytfmgjhaofbdlpaa.fnExactComposePermutations
open Go.ChangeShapes Go.WideShapes Go.ChangeAt Go.RowKit Go.Lib
attribute [local irreducible] World.cell?
set_option maxRecDepth 100000 in
set_option maxHeartbeats 6400000 in
theorem walk (pa : Option Addr) (pc : Nat) (p : List Int) (qa : Option Addr) (qc : Nat) (q : List Int) (w : World) (hinp : IsIn w w.heap.size pa p) (hinq : IsIn w w.heap.size qa q) :
    Calls Try.prog 8 #[.slice pa p.length pc, .slice qa q.length qc] w fun e w' => e = .returned (.bool true) ∧ Below w.heap.size w w' := by
  have Hinp := Lib.hid hinp
  have hEp := hinp.2.1
  have hMp := hinp.1
  have Hinq := Lib.hid hinq
  have hEq := hinq.2.1
  have hMq := hinq.1
  clear hinp hinq
  unfold maxLen at hMp hMq
  by_cases hlp : p.length ≤ 1048576
  · have hnp : p.length ≤ 1048576 := hlp
    by_cases hlq : q.length ≤ 1048576
    · have hnq : q.length ≤ 1048576 := hlq
      clear hlp hlq
      have Hb := Lib.hid (Below.refl w.heap.size w)
      go_enter Try.func8, Try.ntmps8
      go_wp2_with fail
      have hr := cmpP_len p q
      have hnR : (cmpP p q).length ≤ 1048576 := by omega
      have Hsp := Lib.hid (fun P Q v u W (h1 : intE.Sl W P v p) (h2 : intE.Sl W Q u q) => scmpP P Q v u p q W h1 h2 hEp hEq hnp hnq)
      have Him := Lib.hid (fun P Q v u W (h1 : intE.Sl W P v p) (h2 : intE.Sl W Q u q) => icmpP P Q v u p q W h1 h2 hEp hEq hnp hnq)
      clear hr
      generalize cmpP p q = R at *
      have hk0 : ¬ (1 + (p.length : Int) + (q.length : Int) < 0) := by omega
      have hk1 : ¬ (1 + (R.length : Int) < 0) := by omega
      refine (toIs pa pc w.heap.size p _ (Hinp.out.below Hb.out) Hb.out.size hnp).mono ?_
      rintro e w1 ⟨vs0, rfl, hd1, hb1⟩
      have Hs0 := Lib.hid hd1.upto
      have Hb := Lib.hid (below_nx Hb.out hb1)
      have hz1 := hb1.size
      clear hb1 hd1
      go_wp2_with fail
      refine (toIs qa qc w.heap.size q _ (Hinq.out.below Hb.out) Hb.out.size hnq).mono ?_
      rintro e w2 ⟨vs1, rfl, hd2, hb2⟩
      have Hs1 := Lib.hid hd2.upto
      have Hs0 := Lib.hid (Hs0.out.below hb2)
      have Hb := Lib.hid (below_nx Hb.out hb2)
      have hz2 := hb2.size
      clear hb2 hd2
      go_wp2_with fail
      refine (Hsp.out _ _ _ _ _ Hs0.out.sl Hs1.out.sl).mono ?_
      rintro e w3 ⟨v0, rfl, hd3, hb3⟩
      have Hw0 := Lib.hid hd3.upto
      have Hs0 := Lib.hid (Hs0.out.below hb3)
      have Hs1 := Lib.hid (Hs1.out.below hb3)
      have Hb := Lib.hid (below_nx Hb.out hb3)
      have hz3 := hb3.size
      clear hb3 hd3
      go_wp2_with fail
      refine (toIs pa pc w.heap.size p _ (Hinp.out.below Hb.out) Hb.out.size hnp).mono ?_
      rintro e w4 ⟨vx0, rfl, hd4, hb4⟩
      have Hx0 := Lib.hid hd4.upto
      have Hw0 := Lib.hid (Hw0.out.below hb4)
      have Hb := Lib.hid (below_nx Hb.out hb4)
      have hz4 := hb4.size
      clear hb4 hd4
      go_wp2_with fail
      refine (toIs qa qc w.heap.size q _ (Hinq.out.below Hb.out) Hb.out.size hnq).mono ?_
      rintro e w5 ⟨vx1, rfl, hd5, hb5⟩
      have Hx1 := Lib.hid hd5.upto
      have Hw0 := Lib.hid (Hw0.out.below hb5)
      have Hx0 := Lib.hid (Hx0.out.below hb5)
      have Hb := Lib.hid (below_nx Hb.out hb5)
      have hz5 := hb5.size
      clear hb5 hd5
      go_wp2_with fail
      refine (Him.out _ _ _ _ _ Hx0.out.sl Hx1.out.sl).mono ?_
      rintro e w6 ⟨vg, rfl, hd6, hb6⟩
      have Hg0 := Lib.hid hd6.upto
      have Hw0 := Lib.hid (Hw0.out.below hb6)
      have Hx0 := Lib.hid (Hx0.out.below hb6)
      have Hx1 := Lib.hid (Hx1.out.below hb6)
      have Hb := Lib.hid (below_nx Hb.out hb6)
      have hz6 := hb6.size
      clear hb6 hd6
      go_wp2_with fail
      refine (eqI_self _ _ _ _ R _ Hg0.out.sl Hw0.out.sl hnR).mono ?_
      rintro e w7 ⟨rfl, hb7⟩
      have Hw0 := Lib.hid (Hw0.out.below hb7)
      have Hx0 := Lib.hid (Hx0.out.below hb7)
      have Hx1 := Lib.hid (Hx1.out.below hb7)
      have Hg0 := Lib.hid (Hg0.out.below hb7)
      have Hb := Lib.hid (below_nx Hb.out hb7)
      have hz7 := hb7.size
      clear hb7
      go_wp2_with fail
      refine (toIs pa pc w.heap.size p _ (Hinp.out.below Hb.out) Hb.out.size hnp).mono ?_
      rintro e w8 ⟨vs2, rfl, hd8, hb8⟩
      have Hs2 := Lib.hid hd8.upto
      have Hw0 := Lib.hid (Hw0.out.below hb8)
      have Hx0 := Lib.hid (Hx0.out.below hb8)
      have Hx1 := Lib.hid (Hx1.out.below hb8)
      have Hg0 := Lib.hid (Hg0.out.below hb8)
      have Hb := Lib.hid (below_nx Hb.out hb8)
      have hz8 := hb8.size
      clear hb8 hd8
      go_wp2_with fail
      refine (eqI_self _ _ _ _ p _ Hx0.out.sl Hs2.out.sl hnp).mono ?_
      rintro e w9 ⟨rfl, hb9⟩
      have Hw0 := Lib.hid (Hw0.out.below hb9)
      have Hx0 := Lib.hid (Hx0.out.below hb9)
      have Hx1 := Lib.hid (Hx1.out.below hb9)
      have Hg0 := Lib.hid (Hg0.out.below hb9)
      have Hs2 := Lib.hid (Hs2.out.below hb9)
      have Hb := Lib.hid (below_nx Hb.out hb9)
      have hz9 := hb9.size
      clear hb9
      go_wp2_with fail
      refine (toIs qa qc w.heap.size q _ (Hinq.out.below Hb.out) Hb.out.size hnq).mono ?_
      rintro e w10 ⟨vs3, rfl, hd10, hb10⟩
      have Hs3 := Lib.hid hd10.upto
      have Hw0 := Lib.hid (Hw0.out.below hb10)
      have Hx0 := Lib.hid (Hx0.out.below hb10)
      have Hx1 := Lib.hid (Hx1.out.below hb10)
      have Hg0 := Lib.hid (Hg0.out.below hb10)
      have Hb := Lib.hid (below_nx Hb.out hb10)
      have hz10 := hb10.size
      clear hb10 hd10
      go_wp2_with fail
      refine (eqI_self _ _ _ _ q _ Hx1.out.sl Hs3.out.sl hnq).mono ?_
      rintro e w11 ⟨rfl, hb11⟩
      have Hw0 := Lib.hid (Hw0.out.below hb11)
      have Hx0 := Lib.hid (Hx0.out.below hb11)
      have Hx1 := Lib.hid (Hx1.out.below hb11)
      have Hg0 := Lib.hid (Hg0.out.below hb11)
      have Hs3 := Lib.hid (Hs3.out.below hb11)
      have Hb := Lib.hid (below_nx Hb.out hb11)
      have hz11 := hb11.size
      clear hb11
      go_wp2_with fail
      refine (markI1 _ _ _ p _ Hx0.out hnp).mono ?_
      rintro e w12 ⟨rfl, hd12, hm12⟩
      have Hw0 := Lib.hid (show intE.Sc w12 _ _ _ _ by first | exact Hw0.out.lo hm12 (by omega) | exact Hw0.out.hi hm12 (by omega))
      have Hx1 := Lib.hid (show intE.Sc w12 _ _ _ _ by first | exact Hx1.out.lo hm12 (by omega) | exact Hx1.out.hi hm12 (by omega))
      have Hg0 := Lib.hid (show intE.Sc w12 _ _ _ _ by first | exact Hg0.out.lo hm12 (by omega) | exact Hg0.out.hi hm12 (by omega))
      have Hx0 := Lib.hid hd12
      have hz12 := hm12.1.size
      have Hb := Lib.hid (mid_low Hb.out hm12 (by omega))
      clear hd12 hm12
      go_wp2_with fail
      refine (markI2 _ _ p.length _ q _ Hx1.out hnq hnp).mono ?_
      rintro e w13 ⟨rfl, hd13, hm13⟩
      have Hw0 := Lib.hid (show intE.Sc w13 _ _ _ _ by first | exact Hw0.out.lo hm13 (by omega) | exact Hw0.out.hi hm13 (by omega))
      have Hx0 := Lib.hid (show intE.Sc w13 _ _ _ _ by first | exact Hx0.out.lo hm13 (by omega) | exact Hx0.out.hi hm13 (by omega))
      have Hg0 := Lib.hid (show intE.Sc w13 _ _ _ _ by first | exact Hg0.out.lo hm13 (by omega) | exact Hg0.out.hi hm13 (by omega))
      have Hx1 := Lib.hid hd13
      have hz13 := hm13.1.size
      have Hb := Lib.hid (mid_low Hb.out hm13 (by omega))
      clear hd13 hm13
      go_wp2_with fail
      refine (eqI_self _ _ _ _ R _ Hg0.out.sl Hw0.out.sl hnR).mono ?_
      rintro e w14 ⟨rfl, hb14⟩
      have Hw0 := Lib.hid (Hw0.out.below hb14)
      have Hg0 := Lib.hid (Hg0.out.below hb14)
      have Hb := Lib.hid (below_nx Hb.out hb14)
      have hz14 := hb14.size
      clear hb14
      go_wp2_with fail
      refine (markI1 _ _ _ R _ Hg0.out hnR).mono ?_
      rintro e w15 ⟨rfl, hd15, hm15⟩
      have Hw0 := Lib.hid (show intE.Sc w15 _ _ _ _ by first | exact Hw0.out.lo hm15 (by omega) | exact Hw0.out.hi hm15 (by omega))
      have Hg0 := Lib.hid hd15
      have hz15 := hm15.1.size
      have Hb := Lib.hid (mid_low Hb.out hm15 (by omega))
      clear hd15 hm15
      go_wp2_with fail
      refine (heldI1 _ R.length _ _ Hg0.out.sl hnR).mono ?_
      rintro e w16 ⟨rfl, rfl⟩
      go_wp2_with fail
      refine (toIs pa pc w.heap.size p _ (Hinp.out.below Hb.out) Hb.out.size hnp).mono ?_
      rintro e w17 ⟨vs4, rfl, hd17, hb17⟩
      have Hs4 := Lib.hid hd17.upto
      have Hw0 := Lib.hid (Hw0.out.below hb17)
      have Hg0 := Lib.hid (Hg0.out.below hb17)
      have Hb := Lib.hid (below_nx Hb.out hb17)
      have hz17 := hb17.size
      clear hb17 hd17
      go_wp2_with fail
      refine (toIs qa qc w.heap.size q _ (Hinq.out.below Hb.out) Hb.out.size hnq).mono ?_
      rintro e w18 ⟨vs5, rfl, hd18, hb18⟩
      have Hs5 := Lib.hid hd18.upto
      have Hw0 := Lib.hid (Hw0.out.below hb18)
      have Hg0 := Lib.hid (Hg0.out.below hb18)
      have Hs4 := Lib.hid (Hs4.out.below hb18)
      have Hb := Lib.hid (below_nx Hb.out hb18)
      have hz18 := hb18.size
      clear hb18 hd18
      go_wp2_with fail
      refine (Him.out _ _ _ _ _ Hs4.out.sl Hs5.out.sl).mono ?_
      rintro e w19 ⟨vh, rfl, hd19, hb19⟩
      have Hh0 := Lib.hid hd19.upto
      have Hw0 := Lib.hid (Hw0.out.below hb19)
      have Hg0 := Lib.hid (Hg0.out.below hb19)
      have Hs4 := Lib.hid (Hs4.out.below hb19)
      have Hs5 := Lib.hid (Hs5.out.below hb19)
      have Hb := Lib.hid (below_nx Hb.out hb19)
      have hz19 := hb19.size
      clear hb19 hd19
      go_wp2_with fail
      refine (eqI_self _ _ _ _ R _ Hh0.out.sl Hw0.out.sl hnR).mono ?_
      rintro e w20 ⟨rfl, hb20⟩
      have Hw0 := Lib.hid (Hw0.out.below hb20)
      have Hg0 := Lib.hid (Hg0.out.below hb20)
      have Hh0 := Lib.hid (Hh0.out.below hb20)
      have Hb := Lib.hid (below_nx Hb.out hb20)
      have hz20 := hb20.size
      clear hb20
      go_wp2_with fail
      refine (heldI1 _ R.length _ _ Hg0.out.sl hnR).mono ?_
      rintro e w21 ⟨rfl, rfl⟩
      go_wp2_with fail
      go_ret
      exact ⟨rfl, Hb.out⟩
    · go_enter Try.func8, Try.ntmps8
      go_wp2_with fail
      go_ret
      exact ⟨rfl, Below.refl _ _⟩
  · go_enter Try.func8, Try.ntmps8
    go_wp2_with fail
    go_ret
    exact ⟨rfl, Below.refl _ _⟩

open Go.ChangeMaps (open_string shut_string)
theorem laidOut : laidOutB Try.prog = true := by kernel_rfl
theorem own : ownKnob Try.prog.godebug = none := by kernel_rfl
set_option maxRecDepth 100000 in
/-- What the walk gives, for every argument. -/
theorem contract (H : Type) (enc : TypeId × Value → H) (W : World) (base : Nat) (args : Array Value) (ds gs : List (DataW H)) (before : List MemPlace)
    (hval : ∀ (j : Nat) t v, Try.f8.params[j]? = some t → args[j]? = some v → Value.okWide Try.prog W .any base t v)
    (hW : DataW.Whole enc Try.prog Try.f8.params.toList Rows.fnExactComposePermutationsSpec.vars false W args.toList ds gs before) :
    Calls Try.prog 8 args W fun e W' => ∃ v, e = .returned v ∧ Rows.fnExactComposePermutationsSpec.post enc Try.prog Try.f8 false true false false W args v W' := by
  have hW' := hW
  obtain ⟨p, q, hA0, hV, rfl, hfz, hnd⟩ := hW
  have hA : DataW.TrodAll enc Try.prog W 0 (fun _ => true) true Try.f8.params.toList args.toList ds p := hA0
  rw [Try.params8] at hA hval
  obtain ⟨v0, vs0, d0, ds0, p0, q0, hargs, rfl, rfl, h0, r0⟩ := trodAll_cons hA
  obtain ⟨v1, vs1, d1, ds1, p1, q1, rfl, rfl, rfl, h1, r1⟩ := trodAll_cons r0
  obtain ⟨rfl, rfl, rfl⟩ := trodAll_nil r1
  obtain rfl : args = #[v0, v1] := by cases args; simp_all
  obtain ⟨rfl, rfl⟩ := trodVars_none hV
  have k0 := h0
  have lt0 : ∀ x ∈ p0, x.block < W.heap.size := by obtain ⟨m, hm⟩ := k0; exact DataW.trod_lt m _ _ _ hm
  obtain ⟨pa, pc, p, rfl, ph⟩ := open_is (hval 0 24 v0 rfl rfl) h0
  have k1 := h1
  have lt1 : ∀ x ∈ p1, x.block < W.heap.size := by obtain ⟨m, hm⟩ := k1; exact DataW.trod_lt m _ _ _ hm
  obtain ⟨qa, qc, q, rfl, qh⟩ := open_is (hval 1 24 v1 rfl rfl) h1
  clear hA0
  simp only [List.append_nil] at hW'
  refine (walk pa pc p qa qc q W ph qh).mono fun e W' ⟨he, hg⟩ => ?_
  subst he
  exact ⟨_, rfl, _, _, _, [], _, [], hW', trodAll_mk1 (shut_bool Try.underlying4 _), (trodAll_cons_mk (Below.trod laidOut (by kernel_rfl) (of_decide_eq_true (by kernel_rfl)) k0 hg lt0) (trodAll_cons_mk (Below.trod laidOut (by kernel_rfl) (of_decide_eq_true (by kernel_rfl)) k1 hg lt1) trodAll_mk0)), rfl, hg.frame _, fun h => by cases h⟩

set_option maxRecDepth 100000 in
theorem lifted (os : Os) (started : os.Started) (H : Type) (enc : TypeId × Value → H) :
    ReturnsInHanded {} Try.checked os 8 .any (Rows.fnExactComposePermutationsSpec.pre6 enc Try.prog Try.f8 Rows.fnExactComposePermutationsRow.domain false) (Rows.fnExactComposePermutationsSpec.post enc Try.prog Try.f8 false true false false) := by
  refine returnsInHanded_of_change (C := Try.checked) own started (by kernel_rfl) Try.func8
    (ChangeSpec.witness6 (enc := enc) (C := Try.checked) false ⟨#[], #[.slice none 0 0, .slice none 0 0], []⟩ 8 (by kernel_rfl) (by kernel_rfl) (by kernel_rfl) (by kernel_rfl)) ?_
  intro W base args ds gs before hval hW _ _
  exact contract H enc W base args ds gs before hval hW
theorem closedFacts : joinedFacts Try.pinned.checked.prog 8 Try.f8 Rows.fnExactComposePermutationsSpec Rows.fnExactComposePermutationsRow = true := by
  unfold joinedFacts
  rw [init_may, init_facts.2.1, init_facts.2.2]
  kernel_rfl
theorem said : Rows.FnExactComposePermutationsSaid :=
  OpenClaim.holds_of_wide 8 Try.f8 rfl rfl rfl rfl rfl rfl rfl ⟨rfl, rfl, rfl, rfl, rfl⟩ rfl rfl rfl rfl rfl (by kernel_rfl) Try.func8 closedFacts
    (of_decide_eq_true (by kernel_rfl)) (by unfold Func.isWrapper; first | (rw [if_pos (by decide +kernel)]; kernel_rfl) | (rw [if_neg (by decide +kernel)]; exact ⟨rfl, rfl⟩))
    (fun os started H enc _ => lifted os started H enc)
end Go.Proofs.Ytfmgjhaofbdlpaa.fnExactComposePermutations
