/- The law FnExactIsUnitary: IsUnitary answers as its model, at every matrix. No condition. -/
import Derived.Test.YtkcpemkahkkcmaaInit
import Derived.Test.YtkcpemkahkkcmaaBaseB23
import Derived.Test.YtkcpemkahkkcmaaBaseB04
import Derived.Test.YtkcpemkahkkcmaaBaseB11
import Derived.Lib.SmallJoins
import Derived.WalkKit
import Derived.ProofKit
import Derived.OpenShut
import Derived.Deep.DeepHandedRow
import Derived.Lib.LaidTab
import Derived.LaidMore
import Derived.LaidHandle
import Derived.Lay
import Derived.Stop.LaidErr
namespace Go.Proofs.Ytkcpemkahkkcmaa.fnExactIsUnitary
open Go.ChangeShapes Go.WideShapes Go.ChangeAt Go.RowKit Go.Lib
attribute [local irreducible] World.cell?
set_option maxRecDepth 100000 in
set_option maxHeartbeats 6400000 in
theorem walk (Ma : Option Addr) (Mc : Nat) (M : List (List Dw)) (w : World) (hin : MtIn w w.heap.size Ma M) :
    Calls Try.prog 9 #[.slice Ma M.length Mc] w fun e w' => e = .returned (.bool true) ∧ Below w.heap.size w w' := by
  by_cases hl : (M.length : Int) + amps M ≤ 1048576
  · have hnM : M.length ≤ 1048576 := by omega
    have hmM : amps M ≤ 1048576 := by omega
    have HinM := Lib.hid hin
    have hEM := hin.eb
    have Hb := Lib.hid (Below.refl w.heap.size w)
    clear hin
    go_enter Try.func9, Try.ntmps9
    go_wp2_with fail
    refine (szMFit Ma Mc w.heap.size M 1048576 _ HinM.out (by omega) (by omega)).mono ?_
    rintro e w1 ⟨rfl, rfl⟩
    go_wp2_with fail
    refine (toMtB Ma Mc w.heap.size M _ (HinM.out.below Hb.out) Hb.out.size hnM hmM).mono ?_
    rintro e w2 ⟨vs0, rfl, hd2, hb2⟩
    have Hs0 := Lib.hid hd2.upto
    have Hb := Lib.hid (below_nx Hb.out hb2)
    have hz2 := hb2.size
    clear hb2 hd2
    go_wp2_with fail
    refine (suni _ _ _ M _ Hs0.out hnM hmM).mono ?_
    rintro e w3 ⟨rfl, hb3⟩
    have Hs0 := Lib.hid (Hs0.out.below hb3)
    have Hb := Lib.hid (below_nx Hb.out hb3)
    have hz3 := hb3.size
    clear hb3
    go_wp2_with fail
    refine (toMtB Ma Mc w.heap.size M _ (HinM.out.below Hb.out) Hb.out.size hnM hmM).mono ?_
    rintro e w4 ⟨vx0, rfl, hd4, hb4⟩
    have Hx0 := Lib.hid hd4.upto
    have Hb := Lib.hid (below_nx Hb.out hb4)
    have hz4 := hb4.size
    clear hb4 hd4
    go_wp2_with fail
    refine (iuni _ _ _ M _ Hx0.out hEM hnM hmM).mono ?_
    rintro e w5 ⟨rfl, hb5⟩
    have Hx0 := Lib.hid (Hx0.out.below hb5)
    have Hb := Lib.hid (below_nx Hb.out hb5)
    have hz5 := hb5.size
    clear hb5
    go_wp2_with fail
    refine (toMtB Ma Mc w.heap.size M _ (HinM.out.below Hb.out) Hb.out.size hnM hmM).mono ?_
    rintro e w6 ⟨vs1, rfl, hd6, hb6⟩
    have Hs1 := Lib.hid hd6.upto
    have Hx0 := Lib.hid (Hx0.out.below hb6)
    have Hb := Lib.hid (below_nx Hb.out hb6)
    have hz6 := hb6.size
    clear hb6 hd6
    go_wp2_with fail
    refine (eqMt _ _ _ _ _ _ M _ Hx0.out Hs1.out hnM hmM).mono ?_
    rintro e w7 ⟨rfl, hb7⟩
    have Hx0 := Lib.hid (Hx0.out.below hb7)
    have Hs1 := Lib.hid (Hs1.out.below hb7)
    have Hb := Lib.hid (below_nx Hb.out hb7)
    have hz7 := hb7.size
    clear hb7
    go_wp2_with fail
    go_ret
    exact ⟨rfl, Hb.out⟩
  · have HinM := Lib.hid hin
    clear hin
    go_enter Try.func9, Try.ntmps9
    go_wp2_with fail
    refine (szMBig Ma Mc w.heap.size M 1048576 _ HinM.out (by omega) (by omega) (by omega)).mono ?_
    rintro e w1 ⟨rfl, rfl⟩
    go_wp2_with fail
    go_ret
    exact ⟨rfl, Below.refl _ _⟩
open Go.ChangeMaps (open_string shut_string)
theorem laidOut : laidOutB Try.prog = true := by kernel_rfl
theorem own : ownKnob Try.prog.godebug = none := by kernel_rfl
set_option maxRecDepth 100000 in
/-- What the walk gives, for every argument. -/
theorem contract (H : Type) (enc : TypeId × Value → H) (W : World) (base : Nat) (args : Array Value) (ds gs : List (DataW H)) (before : List MemPlace)
    (hval : ∀ (j : Nat) t v, Try.f9.params[j]? = some t → args[j]? = some v → Value.okWide Try.prog W .any base t v)
    (hW : DataW.Whole enc Try.prog Try.f9.params.toList Rows.fnExactIsUnitarySpec.vars false W args.toList ds gs before) :
    Calls Try.prog 9 args W fun e W' => ∃ v, e = .returned v ∧ Rows.fnExactIsUnitarySpec.post enc Try.prog Try.f9 false true false false W args v W' := by
  have hW' := hW
  obtain ⟨p, q, hA0, hV, rfl, hfz, hnd⟩ := hW
  have hA : DataW.TrodAll enc Try.prog W 0 (fun _ => true) true Try.f9.params.toList args.toList ds p := hA0
  rw [Try.params9] at hA hval
  obtain ⟨v0, vs0, d0, ds0, p0, q0, hargs, rfl, rfl, h0, r0⟩ := trodAll_cons hA
  obtain ⟨rfl, rfl, rfl⟩ := trodAll_nil r0
  obtain rfl : args = #[v0] := by cases args; simp_all
  obtain ⟨rfl, rfl⟩ := trodVars_none hV
  have k0 := h0
  have lt0 : ∀ x ∈ p0, x.block < W.heap.size := by obtain ⟨m, hm⟩ := k0; exact DataW.trod_lt m _ _ _ hm
  obtain ⟨Ma, Mc, M, rfl, Mh⟩ := open_mt (hval 0 53 v0 rfl rfl) h0
  clear hA0
  simp only [List.append_nil] at hW'
  refine (walk Ma Mc M W Mh).mono fun e W' ⟨he, hg⟩ => ?_
  subst he
  exact ⟨_, rfl, _, _, _, [], _, [], hW', trodAll_mk1 (shut_bool Try.underlying4 _), (trodAll_cons_mk (Below.trod laidOut (by kernel_rfl) (of_decide_eq_true (by kernel_rfl)) k0 hg lt0) trodAll_mk0), rfl, hg.frame _, fun h => by cases h⟩
set_option maxRecDepth 100000 in
theorem lifted (os : Os) (started : os.Started) (H : Type) (enc : TypeId × Value → H) :
    ReturnsInHanded {} Try.checked os 9 .any (Rows.fnExactIsUnitarySpec.pre6 enc Try.prog Try.f9 Rows.fnExactIsUnitaryRow.domain false) (Rows.fnExactIsUnitarySpec.post enc Try.prog Try.f9 false true false false) := by
  refine returnsInHanded_of_change (C := Try.checked) own started (by kernel_rfl) Try.func9
    (ChangeSpec.witness6 (enc := enc) (C := Try.checked) false ⟨#[], #[.slice none 0 0], []⟩ 8 (by kernel_rfl) (by kernel_rfl) (by kernel_rfl) (by kernel_rfl)) ?_
  intro W base args ds gs before hval hW _ _
  exact contract H enc W base args ds gs before hval hW
theorem closedFacts : joinedFacts Try.pinned.checked.prog 9 Try.f9 Rows.fnExactIsUnitarySpec Rows.fnExactIsUnitaryRow = true := by
  unfold joinedFacts
  rw [init_may, init_facts.2.1, init_facts.2.2]
  kernel_rfl
theorem said : Rows.FnExactIsUnitarySaid :=
  OpenClaim.holds_of_wide 9 Try.f9 rfl rfl rfl rfl rfl rfl rfl ⟨rfl, rfl, rfl, rfl, rfl⟩ rfl rfl rfl rfl rfl (by kernel_rfl) Try.func9 closedFacts
    (of_decide_eq_true (by kernel_rfl)) (by unfold Func.isWrapper; first | (rw [if_pos (by decide +kernel)]; kernel_rfl) | (rw [if_neg (by decide +kernel)]; exact ⟨rfl, rfl⟩))
    (fun os started H enc _ => lifted os started H enc)
end Go.Proofs.Ytkcpemkahkkcmaa.fnExactIsUnitary
