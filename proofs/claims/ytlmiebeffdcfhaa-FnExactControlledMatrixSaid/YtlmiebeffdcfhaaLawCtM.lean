/- The law FnExactControlledMatrix: ControlledMatrix answers as its model, at every integer and matrix. No condition. -/
import Derived.Test.YtlmiebeffdcfhaaInit
import Derived.Test.YtlmiebeffdcfhaaCtKm
import Derived.Test.YtlmiebeffdcfhaaCtN
import Derived.Test.YtlmiebeffdcfhaaMtS
import Derived.Test.YtlmiebeffdcfhaaCtY
import Derived.Lib.SmallJoins
import Derived.WalkKit
import Derived.ProofKit
import Derived.OpenShut
import Derived.Deep.DeepHandedRow
import Derived.Lib.LaidTab
import Derived.LaidMore
import Derived.LaidHandle
import Derived.Lay
import Derived.Stop.LaidErr
namespace Go.Proofs.Ytlmiebeffdcfhaa.fnExactControlledMatrix
open Go.ChangeShapes Go.WideShapes Go.ChangeAt Go.RowKit Go.Lib
attribute [local irreducible] World.cell?
set_option maxRecDepth 100000 in
set_option maxHeartbeats 6400000 in
theorem walk (q : Int) (Ma : Option Addr) (Mc : Nat) (M : List (List Dw)) (w : World) (_ : -9223372036854775808 ≤ q) (_ : q ≤ 9223372036854775807) (hin : MtIn w w.heap.size Ma M) :
    Calls Try.prog 5 #[.int .i64 q, .slice Ma M.length Mc] w fun e w' => e = .returned (.bool true) ∧ Below w.heap.size w w' := by
  by_cases hl : (M.length : Int) + amps M ≤ 1048576
  · have hnM : M.length ≤ 1048576 := by omega
    have hmM : amps M ≤ 1048576 := by omega
    have HinM := Lib.hid hin
    have hEM := hin.eb
    have Hb := Lib.hid (Below.refl w.heap.size w)
    obtain ⟨hr1, hr2, -⟩ := ctM_amps q M
    have hnR : (ctM q M).length ≤ 1048576 := by omega
    have hmR : amps (ctM q M) ≤ 1048576 := by omega
    have Hsp := Lib.hid (fun P Q v W (h1 : DSM W P Q v M) => sctM P Q q v M W h1 hnM hmM)
    have Him := Lib.hid (fun P Q v W (h1 : DSM W P Q v M) => ictM P Q q v M W h1 hEM hnM hmM)
    clear hin hr1 hr2
    generalize ctM q M = R at *
    generalize ctMB q M = t at *
    have htt : (t != t) = false := by simp
    have hk0 : ¬ (1 + (amps M : Int) * 5 < 0) := by omega
    have hk1 : ¬ (1 + (amps R : Int) * 5 < 0) := by omega
    go_enter Try.func5, Try.ntmps5
    go_wp2_with fail
    refine (szMFit Ma Mc w.heap.size M 1048576 _ HinM.out (by omega) (by omega)).mono ?_
    rintro e w1 ⟨rfl, rfl⟩
    go_wp2_with fail
    refine (toMtB Ma Mc w.heap.size M _ (HinM.out.below Hb.out) Hb.out.size hnM hmM).mono ?_
    rintro e w2 ⟨vs0, rfl, hd2, hb2⟩
    have Hs0 := Lib.hid hd2.upto
    have Hb := Lib.hid (below_nx Hb.out hb2)
    have hz2 := hb2.size
    clear hb2 hd2
    go_wp2_with fail
    refine (Hsp.out _ _ _ _ Hs0.out).mono ?_
    rintro e w3 ⟨v0, rfl, hd3, hb3⟩
    have Hw0 := Lib.hid hd3.upto
    have Hs0 := Lib.hid (Hs0.out.below hb3)
    have Hb := Lib.hid (below_nx Hb.out hb3)
    have hz3 := hb3.size
    clear hb3 hd3
    go_wp2_with fail
    refine (toMtB Ma Mc w.heap.size M _ (HinM.out.below Hb.out) Hb.out.size hnM hmM).mono ?_
    rintro e w4 ⟨vx0, rfl, hd4, hb4⟩
    have Hx0 := Lib.hid hd4.upto
    have Hw0 := Lib.hid (Hw0.out.below hb4)
    have Hb := Lib.hid (below_nx Hb.out hb4)
    have hz4 := hb4.size
    clear hb4 hd4
    go_wp2_with fail
    refine (Him.out _ _ _ _ Hx0.out).mono ?_
    rintro e w5 ⟨vg, rfl, hd5, hb5⟩
    have Hg0 := Lib.hid hd5.upto
    have Hw0 := Lib.hid (Hw0.out.below hb5)
    have Hx0 := Lib.hid (Hx0.out.below hb5)
    have Hb := Lib.hid (below_nx Hb.out hb5)
    have hz5 := hb5.size
    clear hb5 hd5
    go_wp2_with fail
    refine (eqMt _ _ _ _ _ _ R _ Hg0.out Hw0.out hnR hmR).mono ?_
    rintro e w6 ⟨rfl, hb6⟩
    have Hw0 := Lib.hid (Hw0.out.below hb6)
    have Hx0 := Lib.hid (Hx0.out.below hb6)
    have Hg0 := Lib.hid (Hg0.out.below hb6)
    have Hb := Lib.hid (below_nx Hb.out hb6)
    have hz6 := hb6.size
    clear hb6
    go_wp2_with fail
    refine (toMtB Ma Mc w.heap.size M _ (HinM.out.below Hb.out) Hb.out.size hnM hmM).mono ?_
    rintro e w7 ⟨vs2, rfl, hd7, hb7⟩
    have Hs2 := Lib.hid hd7.upto
    have Hw0 := Lib.hid (Hw0.out.below hb7)
    have Hx0 := Lib.hid (Hx0.out.below hb7)
    have Hg0 := Lib.hid (Hg0.out.below hb7)
    have Hb := Lib.hid (below_nx Hb.out hb7)
    have hz7 := hb7.size
    clear hb7 hd7
    go_wp2_with fail
    refine (eqMt _ _ _ _ _ _ M _ Hx0.out Hs2.out hnM hmM).mono ?_
    rintro e w8 ⟨rfl, hb8⟩
    have Hw0 := Lib.hid (Hw0.out.below hb8)
    have Hx0 := Lib.hid (Hx0.out.below hb8)
    have Hg0 := Lib.hid (Hg0.out.below hb8)
    have Hs2 := Lib.hid (Hs2.out.below hb8)
    have Hb := Lib.hid (below_nx Hb.out hb8)
    have hz8 := hb8.size
    clear hb8
    go_wp2_with fail
    refine (markM1 _ _ _ M _ Hx0.out hnM hmM).mono ?_
    rintro e w9 ⟨rfl, hd9, hm9⟩
    have Hw0 := Lib.hid (show DSM w9 _ _ _ _ by first | exact hm9.dsm_lo Hw0.out (by omega) | exact hm9.dsm_hi Hw0.out (by omega))
    have Hg0 := Lib.hid (show DSM w9 _ _ _ _ by first | exact hm9.dsm_lo Hg0.out (by omega) | exact hm9.dsm_hi Hg0.out (by omega))
    have Hx0 := Lib.hid hd9
    have hz9 := hm9.low
    have Hb := Lib.hid (mid_low Hb.out hm9 (by omega))
    clear hd9 hm9
    go_wp2_with fail
    refine (eqMt _ _ _ _ _ _ R _ Hg0.out Hw0.out hnR hmR).mono ?_
    rintro e w10 ⟨rfl, hb10⟩
    have Hw0 := Lib.hid (Hw0.out.below hb10)
    have Hg0 := Lib.hid (Hg0.out.below hb10)
    have Hb := Lib.hid (below_nx Hb.out hb10)
    have hz10 := hb10.size
    clear hb10
    go_wp2_with fail
    refine (markM1 _ _ _ R _ Hg0.out hnR hmR).mono ?_
    rintro e w11 ⟨rfl, hd11, hm11⟩
    have Hw0 := Lib.hid (show DSM w11 _ _ _ _ by first | exact hm11.dsm_lo Hw0.out (by omega) | exact hm11.dsm_hi Hw0.out (by omega))
    have Hg0 := Lib.hid hd11
    have hz11 := hm11.low
    have Hb := Lib.hid (mid_low Hb.out hm11 (by omega))
    clear hd11 hm11
    go_wp2_with fail
    refine (heldM1 _ _ _ R _ Hg0.out hnR hmR).mono ?_
    rintro e w12 ⟨rfl, rfl⟩
    go_wp2_with fail
    refine (toMtB Ma Mc w.heap.size M _ (HinM.out.below Hb.out) Hb.out.size hnM hmM).mono ?_
    rintro e w13 ⟨vs4, rfl, hd13, hb13⟩
    have Hs4 := Lib.hid hd13.upto
    have Hw0 := Lib.hid (Hw0.out.below hb13)
    have Hg0 := Lib.hid (Hg0.out.below hb13)
    have Hb := Lib.hid (below_nx Hb.out hb13)
    have hz13 := hb13.size
    clear hb13 hd13
    go_wp2_with fail
    refine (Him.out _ _ _ _ Hs4.out).mono ?_
    rintro e w14 ⟨vh, rfl, hd14, hb14⟩
    have Hh0 := Lib.hid hd14.upto
    have Hw0 := Lib.hid (Hw0.out.below hb14)
    have Hg0 := Lib.hid (Hg0.out.below hb14)
    have Hs4 := Lib.hid (Hs4.out.below hb14)
    have Hb := Lib.hid (below_nx Hb.out hb14)
    have hz14 := hb14.size
    clear hb14 hd14
    go_wp2_with fail
    refine (eqMt _ _ _ _ _ _ R _ Hh0.out Hw0.out hnR hmR).mono ?_
    rintro e w15 ⟨rfl, hb15⟩
    have Hw0 := Lib.hid (Hw0.out.below hb15)
    have Hg0 := Lib.hid (Hg0.out.below hb15)
    have Hh0 := Lib.hid (Hh0.out.below hb15)
    have Hb := Lib.hid (below_nx Hb.out hb15)
    have hz15 := hb15.size
    clear hb15
    go_wp2_with fail
    refine (heldM1 _ _ _ R _ Hg0.out hnR hmR).mono ?_
    rintro e w16 ⟨rfl, rfl⟩
    go_wp2_with fail
    go_ret
    exact ⟨rfl, Hb.out⟩
  · have HinM := Lib.hid hin
    clear hin
    go_enter Try.func5, Try.ntmps5
    go_wp2_with fail
    refine (szMBig Ma Mc w.heap.size M 1048576 _ HinM.out (by omega) (by omega) (by omega)).mono ?_
    rintro e w1 ⟨rfl, rfl⟩
    go_wp2_with fail
    go_ret
    exact ⟨rfl, Below.refl _ _⟩

open Go.ChangeMaps (open_string shut_string)
theorem laidOut : laidOutB Try.prog = true := by kernel_rfl
theorem own : ownKnob Try.prog.godebug = none := by kernel_rfl
set_option maxRecDepth 100000 in
/-- What the walk gives, for every argument. -/
theorem contract (H : Type) (enc : TypeId × Value → H) (W : World) (base : Nat) (args : Array Value) (ds gs : List (DataW H)) (before : List MemPlace)
    (hval : ∀ (j : Nat) t v, Try.f5.params[j]? = some t → args[j]? = some v → Value.okWide Try.prog W .any base t v)
    (hW : DataW.Whole enc Try.prog Try.f5.params.toList Rows.fnExactControlledMatrixSpec.vars false W args.toList ds gs before) :
    Calls Try.prog 5 args W fun e W' => ∃ v, e = .returned v ∧ Rows.fnExactControlledMatrixSpec.post enc Try.prog Try.f5 false true false false W args v W' := by
  have hW' := hW
  obtain ⟨p, q, hA0, hV, rfl, hfz, hnd⟩ := hW
  have hA : DataW.TrodAll enc Try.prog W 0 (fun _ => true) true Try.f5.params.toList args.toList ds p := hA0
  rw [Try.params5] at hA hval
  obtain ⟨v0, vs0, d0, ds0, p0, q0, hargs, rfl, rfl, h0, r0⟩ := trodAll_cons hA
  obtain ⟨v1, vs1, d1, ds1, p1, q1, rfl, rfl, rfl, h1, r1⟩ := trodAll_cons r0
  obtain ⟨rfl, rfl, rfl⟩ := trodAll_nil r1
  obtain rfl : args = #[v0, v1] := by cases args; simp_all
  obtain ⟨rfl, rfl⟩ := trodVars_none hV
  obtain ⟨q, rfl, rfl, rfl, wq⟩ := open_int Try.underlying3 (hval 0 3 v0 rfl rfl) h0
  have k1 := h1
  have lt1 : ∀ x ∈ p1, x.block < W.heap.size := by obtain ⟨m, hm⟩ := k1; exact DataW.trod_lt m _ _ _ hm
  obtain ⟨Ma, Mc, M, rfl, Mh⟩ := open_mt (hval 1 37 v1 rfl rfl) h1
  clear hA0
  simp only [List.append_nil] at hW'
  refine (walk q Ma Mc M W (bounds_i64 wq).1 (bounds_i64 wq).2 Mh).mono fun e W' ⟨he, hg⟩ => ?_
  subst he
  exact ⟨_, rfl, _, _, _, [], _, [], hW', trodAll_mk1 (shut_bool Try.underlying4 _), (trodAll_cons_mk (shut_int Try.underlying3 wq) (trodAll_cons_mk (Below.trod laidOut (by kernel_rfl) (of_decide_eq_true (by kernel_rfl)) k1 hg lt1) trodAll_mk0)), rfl, hg.frame _, fun h => by cases h⟩

set_option maxRecDepth 100000 in
theorem lifted (os : Os) (started : os.Started) (H : Type) (enc : TypeId × Value → H) :
    ReturnsInHanded {} Try.checked os 5 .any (Rows.fnExactControlledMatrixSpec.pre6 enc Try.prog Try.f5 Rows.fnExactControlledMatrixRow.domain false) (Rows.fnExactControlledMatrixSpec.post enc Try.prog Try.f5 false true false false) := by
  refine returnsInHanded_of_change (C := Try.checked) own started (by kernel_rfl) Try.func5
    (ChangeSpec.witness6 (enc := enc) (C := Try.checked) false ⟨#[], #[.int .i64 0, .slice none 0 0], []⟩ 8 (by kernel_rfl) (by kernel_rfl) (by kernel_rfl) (by kernel_rfl)) ?_
  intro W base args ds gs before hval hW _ _
  exact contract H enc W base args ds gs before hval hW
theorem closedFacts : joinedFacts Try.pinned.checked.prog 5 Try.f5 Rows.fnExactControlledMatrixSpec Rows.fnExactControlledMatrixRow = true := by
  unfold joinedFacts
  rw [init_may, init_facts.2.1, init_facts.2.2]
  kernel_rfl
theorem said : Rows.FnExactControlledMatrixSaid :=
  OpenClaim.holds_of_wide 5 Try.f5 rfl rfl rfl rfl rfl rfl rfl ⟨rfl, rfl, rfl, rfl, rfl⟩ rfl rfl rfl rfl rfl (by kernel_rfl) Try.func5 closedFacts
    (of_decide_eq_true (by kernel_rfl)) (by unfold Func.isWrapper; first | (rw [if_pos (by decide +kernel)]; kernel_rfl) | (rw [if_neg (by decide +kernel)]; exact ⟨rfl, rfl⟩))
    (fun os started H enc _ => lifted os started H enc)
end Go.Proofs.Ytlmiebeffdcfhaa.fnExactControlledMatrix
