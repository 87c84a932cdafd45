/- The law FnExactMulMatrix: MulMatrix answers as its model, at every two arguments. No condition. -/
import Derived.Test.YtkcpemkahkkcmaaInit
import Derived.Test.YtkcpemkahkkcmaaBaseB23
import Derived.Test.YtkcpemkahkkcmaaBaseB04
import Derived.Test.YtkcpemkahkkcmaaBaseB11
import Derived.Lib.SmallJoins
import Derived.WalkKit
import Derived.ProofKit
import Derived.OpenShut
import Derived.Deep.DeepHandedRow
import Derived.Lib.LaidTab
import Derived.LaidMore
import Derived.LaidHandle
import Derived.Lay
import Derived.Stop.LaidErr
namespace Go.Proofs.Ytkcpemkahkkcmaa.fnExactMulMatrix
open Go.ChangeShapes Go.WideShapes Go.ChangeAt Go.RowKit Go.Lib
attribute [local irreducible] World.cell?
set_option maxRecDepth 100000 in
set_option maxHeartbeats 6400000 in
theorem walk (Aa : Option Addr) (Ac : Nat) (A : List (List Dw)) (Ba : Option Addr) (Bc : Nat) (B : List (List Dw)) (w : World) (hina : MtIn w w.heap.size Aa A) (hinb : MtIn w w.heap.size Ba B) :
    Calls Try.prog 8 #[.slice Aa A.length Ac, .slice Ba B.length Bc] w fun e w' => e = .returned (.bool true) ∧ Below w.heap.size w w' := by
  have HinA := Lib.hid hina
  have HinB := Lib.hid hinb
  by_cases hs : (A.length : Int) + amps A + (B.length + amps B) ≤ 1048576
  · have hnA : A.length ≤ 1048576 := by omega
    have hmA : amps A ≤ 1048576 := by omega
    have hnB : B.length ≤ 1048576 := by omega
    have hmB : amps B ≤ 1048576 := by omega
    have hEA := hina.eb
    have hEB := hinb.eb
    have Hb := Lib.hid (Below.refl w.heap.size w)
    clear hina hinb
    go_enter Try.func8, Try.ntmps8
    go_wp2_with fail
    refine (szMFit Aa Ac w.heap.size A 1048576 _ HinA.out (by omega) (by omega)).mono ?_
    rintro e w1 ⟨rfl, rfl⟩
    go_wp2_with fail
    refine (szMFit Ba Bc w.heap.size B _ _ HinB.out (by omega) (by omega)).mono ?_
    rintro e w2 ⟨rfl, rfl⟩
    go_wp2_with fail
    have hr := mulM_amps A B
    have hnR : (mulM A B).length ≤ 1048576 := by omega
    have hmR : amps (mulM A B) ≤ 1048576 := by omega
    have Hsp := Lib.hid (fun P Q R S v u W (h1 : DSM W P Q v A) (h2 : DSM W R S u B) => smulM P Q R S v u A B W h1 h2 hnA hnB hmA hmB)
    have Him := Lib.hid (fun P Q R S v u W (h1 : DSM W P Q v A) (h2 : DSM W R S u B) => imulM P Q R S v u A B W h1 h2 hEA hEB hnA hnB hmA hmB)
    clear hr
    generalize mulM A B = R at *
    generalize mulMB A B = t at *
    have hk0 : ¬ (1 + (amps A : Int) * 5 + (amps B : Int) * 5 < 0) := by omega
    have hk1 : ¬ (1 + (amps R : Int) * 5 < 0) := by omega
    refine (toMtB Aa Ac w.heap.size A _ (HinA.out.below Hb.out) Hb.out.size hnA hmA).mono ?_
    rintro e w3 ⟨vs0, rfl, hd3, hb3⟩
    have Hs0 := Lib.hid hd3.upto
    have Hb := Lib.hid (below_nx Hb.out hb3)
    have hz3 := hb3.size
    clear hb3 hd3
    go_wp2_with fail
    refine (toMtB Ba Bc w.heap.size B _ (HinB.out.below Hb.out) Hb.out.size hnB hmB).mono ?_
    rintro e w4 ⟨vs1, rfl, hd4, hb4⟩
    have Hs1 := Lib.hid hd4.upto
    have Hs0 := Lib.hid (Hs0.out.below hb4)
    have Hb := Lib.hid (below_nx Hb.out hb4)
    have hz4 := hb4.size
    clear hb4 hd4
    go_wp2_with fail
    refine (Hsp.out _ _ _ _ _ _ _ Hs0.out Hs1.out).mono ?_
    rintro e w5 ⟨⟨v0, rfl, hd5⟩, hb5⟩
    have Hw0 := Lib.hid hd5.upto
    have Hs0 := Lib.hid (Hs0.out.below hb5)
    have Hs1 := Lib.hid (Hs1.out.below hb5)
    have Hb := Lib.hid (below_nx Hb.out hb5)
    have hz5 := hb5.size
    clear hb5 hd5
    go_wp2_with fail
    refine (toMtB Aa Ac w.heap.size A _ (HinA.out.below Hb.out) Hb.out.size hnA hmA).mono ?_
    rintro e w6 ⟨vx0, rfl, hd6, hb6⟩
    have Hx0 := Lib.hid hd6.upto
    have Hw0 := Lib.hid (Hw0.out.below hb6)
    have Hb := Lib.hid (below_nx Hb.out hb6)
    have hz6 := hb6.size
    clear hb6 hd6
    go_wp2_with fail
    refine (toMtB Ba Bc w.heap.size B _ (HinB.out.below Hb.out) Hb.out.size hnB hmB).mono ?_
    rintro e w7 ⟨vx1, rfl, hd7, hb7⟩
    have Hx1 := Lib.hid hd7.upto
    have Hw0 := Lib.hid (Hw0.out.below hb7)
    have Hx0 := Lib.hid (Hx0.out.below hb7)
    have Hb := Lib.hid (below_nx Hb.out hb7)
    have hz7 := hb7.size
    clear hb7 hd7
    go_wp2_with fail
    refine (Him.out _ _ _ _ _ _ _ Hx0.out Hx1.out).mono ?_
    rintro e w8 ⟨⟨vg, rfl, hd8⟩, hb8⟩
    have Hg0 := Lib.hid hd8.upto
    have Hw0 := Lib.hid (Hw0.out.below hb8)
    have Hx0 := Lib.hid (Hx0.out.below hb8)
    have Hx1 := Lib.hid (Hx1.out.below hb8)
    have Hb := Lib.hid (below_nx Hb.out hb8)
    have hz8 := hb8.size
    clear hb8 hd8
    go_wp2_with fail
    refine (eqMt _ _ _ _ _ _ R _ Hg0.out Hw0.out hnR hmR).mono ?_
    rintro e w9 ⟨rfl, hb9⟩
    have Hw0 := Lib.hid (Hw0.out.below hb9)
    have Hx0 := Lib.hid (Hx0.out.below hb9)
    have Hx1 := Lib.hid (Hx1.out.below hb9)
    have Hg0 := Lib.hid (Hg0.out.below hb9)
    have Hb := Lib.hid (below_nx Hb.out hb9)
    have hz9 := hb9.size
    clear hb9
    go_wp2_with fail
    refine (toMtB Aa Ac w.heap.size A _ (HinA.out.below Hb.out) Hb.out.size hnA hmA).mono ?_
    rintro e w10 ⟨vs2, rfl, hd10, hb10⟩
    have Hs2 := Lib.hid hd10.upto
    have Hw0 := Lib.hid (Hw0.out.below hb10)
    have Hx0 := Lib.hid (Hx0.out.below hb10)
    have Hx1 := Lib.hid (Hx1.out.below hb10)
    have Hg0 := Lib.hid (Hg0.out.below hb10)
    have Hb := Lib.hid (below_nx Hb.out hb10)
    have hz10 := hb10.size
    clear hb10 hd10
    go_wp2_with fail
    refine (eqMt _ _ _ _ _ _ A _ Hx0.out Hs2.out hnA hmA).mono ?_
    rintro e w11 ⟨rfl, hb11⟩
    have Hw0 := Lib.hid (Hw0.out.below hb11)
    have Hx0 := Lib.hid (Hx0.out.below hb11)
    have Hx1 := Lib.hid (Hx1.out.below hb11)
    have Hg0 := Lib.hid (Hg0.out.below hb11)
    have Hs2 := Lib.hid (Hs2.out.below hb11)
    have Hb := Lib.hid (below_nx Hb.out hb11)
    have hz11 := hb11.size
    clear hb11
    go_wp2_with fail
    refine (toMtB Ba Bc w.heap.size B _ (HinB.out.below Hb.out) Hb.out.size hnB hmB).mono ?_
    rintro e w12 ⟨vs3, rfl, hd12, hb12⟩
    have Hs3 := Lib.hid hd12.upto
    have Hw0 := Lib.hid (Hw0.out.below hb12)
    have Hx0 := Lib.hid (Hx0.out.below hb12)
    have Hx1 := Lib.hid (Hx1.out.below hb12)
    have Hg0 := Lib.hid (Hg0.out.below hb12)
    have Hb := Lib.hid (below_nx Hb.out hb12)
    have hz12 := hb12.size
    clear hb12 hd12
    go_wp2_with fail
    refine (eqMt _ _ _ _ _ _ B _ Hx1.out Hs3.out hnB hmB).mono ?_
    rintro e w13 ⟨rfl, hb13⟩
    have Hw0 := Lib.hid (Hw0.out.below hb13)
    have Hx0 := Lib.hid (Hx0.out.below hb13)
    have Hx1 := Lib.hid (Hx1.out.below hb13)
    have Hg0 := Lib.hid (Hg0.out.below hb13)
    have Hs3 := Lib.hid (Hs3.out.below hb13)
    have Hb := Lib.hid (below_nx Hb.out hb13)
    have hz13 := hb13.size
    clear hb13
    go_wp2_with fail
    refine (markM1 _ _ _ A _ Hx0.out hnA hmA).mono ?_
    rintro e w14 ⟨rfl, hd14, hm14⟩
    have Hw0 := Lib.hid (show DSM w14 _ _ _ _ by first | exact hm14.dsm_lo Hw0.out (by omega) | exact hm14.dsm_hi Hw0.out (by omega))
    have Hx1 := Lib.hid (show DSM w14 _ _ _ _ by first | exact hm14.dsm_lo Hx1.out (by omega) | exact hm14.dsm_hi Hx1.out (by omega))
    have Hg0 := Lib.hid (show DSM w14 _ _ _ _ by first | exact hm14.dsm_lo Hg0.out (by omega) | exact hm14.dsm_hi Hg0.out (by omega))
    have Hx0 := Lib.hid hd14
    have hz14 := hm14.low
    have Hb := Lib.hid (mid_low Hb.out hm14 (by omega))
    clear hd14 hm14
    go_wp2_with fail
    refine (markM2 _ _ (amps A) _ B _ Hx1.out hnB hmB hmA).mono ?_
    rintro e w15 ⟨rfl, hd15, hm15⟩
    have Hw0 := Lib.hid (show DSM w15 _ _ _ _ by first | exact hm15.dsm_lo Hw0.out (by omega) | exact hm15.dsm_hi Hw0.out (by omega))
    have Hx0 := Lib.hid (show DSM w15 _ _ _ _ by first | exact hm15.dsm_lo Hx0.out (by omega) | exact hm15.dsm_hi Hx0.out (by omega))
    have Hg0 := Lib.hid (show DSM w15 _ _ _ _ by first | exact hm15.dsm_lo Hg0.out (by omega) | exact hm15.dsm_hi Hg0.out (by omega))
    have Hx1 := Lib.hid hd15
    have hz15 := hm15.low
    have Hb := Lib.hid (mid_low Hb.out hm15 (by omega))
    clear hd15 hm15
    go_wp2_with fail
    refine (eqMt _ _ _ _ _ _ R _ Hg0.out Hw0.out hnR hmR).mono ?_
    rintro e w16 ⟨rfl, hb16⟩
    have Hw0 := Lib.hid (Hw0.out.below hb16)
    have Hg0 := Lib.hid (Hg0.out.below hb16)
    have Hb := Lib.hid (below_nx Hb.out hb16)
    have hz16 := hb16.size
    clear hb16
    go_wp2_with fail
    refine (markM1 _ _ _ R _ Hg0.out hnR hmR).mono ?_
    rintro e w17 ⟨rfl, hd17, hm17⟩
    have Hw0 := Lib.hid (show DSM w17 _ _ _ _ by first | exact hm17.dsm_lo Hw0.out (by omega) | exact hm17.dsm_hi Hw0.out (by omega))
    have Hg0 := Lib.hid hd17
    have hz17 := hm17.low
    have Hb := Lib.hid (mid_low Hb.out hm17 (by omega))
    clear hd17 hm17
    go_wp2_with fail
    refine (heldM1 _ _ _ R _ Hg0.out hnR hmR).mono ?_
    rintro e w18 ⟨rfl, rfl⟩
    go_wp2_with fail
    refine (toMtB Aa Ac w.heap.size A _ (HinA.out.below Hb.out) Hb.out.size hnA hmA).mono ?_
    rintro e w19 ⟨vs4, rfl, hd19, hb19⟩
    have Hs4 := Lib.hid hd19.upto
    have Hw0 := Lib.hid (Hw0.out.below hb19)
    have Hg0 := Lib.hid (Hg0.out.below hb19)
    have Hb := Lib.hid (below_nx Hb.out hb19)
    have hz19 := hb19.size
    clear hb19 hd19
    go_wp2_with fail
    refine (toMtB Ba Bc w.heap.size B _ (HinB.out.below Hb.out) Hb.out.size hnB hmB).mono ?_
    rintro e w20 ⟨vs5, rfl, hd20, hb20⟩
    have Hs5 := Lib.hid hd20.upto
    have Hw0 := Lib.hid (Hw0.out.below hb20)
    have Hg0 := Lib.hid (Hg0.out.below hb20)
    have Hs4 := Lib.hid (Hs4.out.below hb20)
    have Hb := Lib.hid (below_nx Hb.out hb20)
    have hz20 := hb20.size
    clear hb20 hd20
    go_wp2_with fail
    refine (Him.out _ _ _ _ _ _ _ Hs4.out Hs5.out).mono ?_
    rintro e w21 ⟨⟨vh, rfl, hd21⟩, hb21⟩
    have Hh0 := Lib.hid hd21.upto
    have Hw0 := Lib.hid (Hw0.out.below hb21)
    have Hg0 := Lib.hid (Hg0.out.below hb21)
    have Hs4 := Lib.hid (Hs4.out.below hb21)
    have Hs5 := Lib.hid (Hs5.out.below hb21)
    have Hb := Lib.hid (below_nx Hb.out hb21)
    have hz21 := hb21.size
    clear hb21 hd21
    go_wp2_with fail
    refine (eqMt _ _ _ _ _ _ R _ Hh0.out Hw0.out hnR hmR).mono ?_
    rintro e w22 ⟨rfl, hb22⟩
    have Hw0 := Lib.hid (Hw0.out.below hb22)
    have Hg0 := Lib.hid (Hg0.out.below hb22)
    have Hh0 := Lib.hid (Hh0.out.below hb22)
    have Hb := Lib.hid (below_nx Hb.out hb22)
    have hz22 := hb22.size
    clear hb22
    go_wp2_with fail
    refine (heldM1 _ _ _ R _ Hg0.out hnR hmR).mono ?_
    rintro e w23 ⟨rfl, rfl⟩
    go_wp2_with fail
    go_ret
    exact ⟨rfl, Hb.out⟩
  · clear hina hinb
    by_cases ha : (A.length : Int) + amps A ≤ 1048576
    · go_enter Try.func8, Try.ntmps8
      go_wp2_with fail
      refine (szMFit Aa Ac w.heap.size A 1048576 _ HinA.out (by omega) (by omega)).mono ?_
      rintro e w1 ⟨rfl, rfl⟩
      go_wp2_with fail
      refine (szMBig Ba Bc w.heap.size B _ _ HinB.out (by omega) (by omega) (by omega)).mono ?_
      rintro e w1 ⟨rfl, rfl⟩
      go_wp2_with fail
      go_ret
      exact ⟨rfl, Below.refl _ _⟩
    · go_enter Try.func8, Try.ntmps8
      go_wp2_with fail
      refine (szMBig Aa Ac w.heap.size A 1048576 _ HinA.out (by omega) (by omega) (by omega)).mono ?_
      rintro e w1 ⟨rfl, rfl⟩
      go_wp2_with fail
      go_ret
      exact ⟨rfl, Below.refl _ _⟩
open Go.ChangeMaps (open_string shut_string)
theorem laidOut : laidOutB Try.prog = true := by kernel_rfl
theorem own : ownKnob Try.prog.godebug = none := by kernel_rfl
set_option maxRecDepth 100000 in
/-- What the walk gives, for every argument. -/
theorem contract (H : Type) (enc : TypeId × Value → H) (W : World) (base : Nat) (args : Array Value) (ds gs : List (DataW H)) (before : List MemPlace)
    (hval : ∀ (j : Nat) t v, Try.f8.params[j]? = some t → args[j]? = some v → Value.okWide Try.prog W .any base t v)
    (hW : DataW.Whole enc Try.prog Try.f8.params.toList Rows.fnExactMulMatrixSpec.vars false W args.toList ds gs before) :
    Calls Try.prog 8 args W fun e W' => ∃ v, e = .returned v ∧ Rows.fnExactMulMatrixSpec.post enc Try.prog Try.f8 false true false false W args v W' := by
  have hW' := hW
  obtain ⟨p, q, hA0, hV, rfl, hfz, hnd⟩ := hW
  have hA : DataW.TrodAll enc Try.prog W 0 (fun _ => true) true Try.f8.params.toList args.toList ds p := hA0
  rw [Try.params8] at hA hval
  obtain ⟨v0, vs0, d0, ds0, p0, q0, hargs, rfl, rfl, h0, r0⟩ := trodAll_cons hA
  obtain ⟨v1, vs1, d1, ds1, p1, q1, rfl, rfl, rfl, h1, r1⟩ := trodAll_cons r0
  obtain ⟨rfl, rfl, rfl⟩ := trodAll_nil r1
  obtain rfl : args = #[v0, v1] := by cases args; simp_all
  obtain ⟨rfl, rfl⟩ := trodVars_none hV
  have k0 := h0
  have lt0 : ∀ x ∈ p0, x.block < W.heap.size := by obtain ⟨m, hm⟩ := k0; exact DataW.trod_lt m _ _ _ hm
  obtain ⟨Aa, Ac, A, rfl, Ah⟩ := open_mt (hval 0 53 v0 rfl rfl) h0
  have k1 := h1
  have lt1 : ∀ x ∈ p1, x.block < W.heap.size := by obtain ⟨m, hm⟩ := k1; exact DataW.trod_lt m _ _ _ hm
  obtain ⟨Ba, Bc, B, rfl, Bh⟩ := open_mt (hval 1 53 v1 rfl rfl) h1
  clear hA0
  simp only [List.append_nil] at hW'
  refine (walk Aa Ac A Ba Bc B W Ah Bh).mono fun e W' ⟨he, hg⟩ => ?_
  subst he
  exact ⟨_, rfl, _, _, _, [], _, [], hW', trodAll_mk1 (shut_bool Try.underlying4 _), (trodAll_cons_mk (Below.trod laidOut (by kernel_rfl) (of_decide_eq_true (by kernel_rfl)) k0 hg lt0) (trodAll_cons_mk (Below.trod laidOut (by kernel_rfl) (of_decide_eq_true (by kernel_rfl)) k1 hg lt1) trodAll_mk0)), rfl, hg.frame _, fun h => by cases h⟩
set_option maxRecDepth 100000 in
theorem lifted (os : Os) (started : os.Started) (H : Type) (enc : TypeId × Value → H) :
    ReturnsInHanded {} Try.checked os 8 .any (Rows.fnExactMulMatrixSpec.pre6 enc Try.prog Try.f8 Rows.fnExactMulMatrixRow.domain false) (Rows.fnExactMulMatrixSpec.post enc Try.prog Try.f8 false true false false) := by
  refine returnsInHanded_of_change (C := Try.checked) own started (by kernel_rfl) Try.func8
    (ChangeSpec.witness6 (enc := enc) (C := Try.checked) false ⟨#[], #[.slice none 0 0, .slice none 0 0], []⟩ 8 (by kernel_rfl) (by kernel_rfl) (by kernel_rfl) (by kernel_rfl)) ?_
  intro W base args ds gs before hval hW _ _
  exact contract H enc W base args ds gs before hval hW
theorem closedFacts : joinedFacts Try.pinned.checked.prog 8 Try.f8 Rows.fnExactMulMatrixSpec Rows.fnExactMulMatrixRow = true := by
  unfold joinedFacts
  rw [init_may, init_facts.2.1, init_facts.2.2]
  kernel_rfl
theorem said : Rows.FnExactMulMatrixSaid :=
  OpenClaim.holds_of_wide 8 Try.f8 rfl rfl rfl rfl rfl rfl rfl ⟨rfl, rfl, rfl, rfl, rfl⟩ rfl rfl rfl rfl rfl (by kernel_rfl) Try.func8 closedFacts
    (of_decide_eq_true (by kernel_rfl)) (by unfold Func.isWrapper; first | (rw [if_pos (by decide +kernel)]; kernel_rfl) | (rw [if_neg (by decide +kernel)]; exact ⟨rfl, rfl⟩))
    (fun os started H enc _ => lifted os started H enc)
end Go.Proofs.Ytkcpemkahkkcmaa.fnExactMulMatrix
