/- The law FnExactIdentityPermutation: IdentityPermutation answers as its model, at every integer. No condition. -/
import Derived.Test.YtfmgjhaofbdlpaaInit
import Derived.Test.YtfmgjhaofbdlpaaPmK
import Derived.Test.YtfmgjhaofbdlpaaPmU
import Derived.Test.YtfmgjhaofbdlpaaBaseB14
import Derived.Test.YtfmgjhaofbdlpaaBaseB08
import Derived.Lib.SmallJoins
import Derived.WalkKit
import Derived.ProofKit
import Derived.OpenShut
import Derived.Deep.DeepHandedRow
import Derived.Lib.LaidTab
import Derived.LaidMore
import Derived.LaidHandle
import Derived.Lay
import Derived.Stop.LaidErr
namespace Go.Proofs.Ytfmgjhaofbdlpaa.fnExactIdentityPermutation
open Go.ChangeShapes Go.WideShapes Go.ChangeAt Go.RowKit Go.Lib
attribute [local irreducible] World.cell?
set_option maxRecDepth 100000 in
set_option maxHeartbeats 6400000 in
theorem walk (n : Int) (w : World) (n0 : -9223372036854775808 ≤ n) (n1 : n ≤ 9223372036854775807) :
    Calls Try.prog 7 #[.int .i64 n] w fun e w' => e = .returned (.bool true) ∧ Below w.heap.size w w' := by
  have hnR : (idP n).length ≤ 1048576 := by have := idP_len n; omega
  have Hs := Lib.hid (fun W => sidP n W)
  have Hi := Lib.hid (fun W => iidP n W n0 n1)
  have Hb := Lib.hid (Below.refl w.heap.size w)
  generalize idP n = R at *
  go_enter Try.func7, Try.ntmps7
  go_wp2_with fail
  refine (Hs.out _).mono ?_
  rintro e w1 ⟨v0, rfl, hd1, hb1⟩
  have Hw0 := Lib.hid hd1.upto
  have Hb := Lib.hid (below_nx Hb.out hb1)
  have hz1 := hb1.size
  clear hb1 hd1
  go_wp2_with fail
  refine (Hi.out _).mono ?_
  rintro e w2 ⟨vg, rfl, hd2, hb2⟩
  have Hg0 := Lib.hid hd2.upto
  have Hw0 := Lib.hid (Hw0.out.below hb2)
  have Hb := Lib.hid (below_nx Hb.out hb2)
  have hz2 := hb2.size
  clear hb2 hd2
  go_wp2_with fail
  refine (eqI_self _ _ _ _ R _ Hg0.out.sl Hw0.out.sl hnR).mono ?_
  rintro e w3 ⟨rfl, hb3⟩
  have Hw0 := Lib.hid (Hw0.out.below hb3)
  have Hg0 := Lib.hid (Hg0.out.below hb3)
  have Hb := Lib.hid (below_nx Hb.out hb3)
  have hz3 := hb3.size
  clear hb3
  go_wp2_with fail
  refine (markI1 _ _ _ R _ Hg0.out hnR).mono ?_
  rintro e w4 ⟨rfl, hd4, hm4⟩
  have Hw0 := Lib.hid (show intE.Sc w4 _ _ _ _ by first | exact Hw0.out.lo hm4 (by omega) | exact Hw0.out.hi hm4 (by omega))
  have Hg0 := Lib.hid hd4
  have hz4 := hm4.1.size
  have Hb := Lib.hid (mid_low Hb.out hm4 (by omega))
  clear hd4 hm4
  go_wp2_with fail
  refine (heldI1 _ R.length _ _ Hg0.out.sl hnR).mono ?_
  rintro e w5 ⟨rfl, rfl⟩
  go_wp2_with fail
  refine (Hi.out _).mono ?_
  rintro e w6 ⟨vh, rfl, hd6, hb6⟩
  have Hh0 := Lib.hid hd6.upto
  have Hw0 := Lib.hid (Hw0.out.below hb6)
  have Hg0 := Lib.hid (Hg0.out.below hb6)
  have Hb := Lib.hid (below_nx Hb.out hb6)
  have hz6 := hb6.size
  clear hb6 hd6
  go_wp2_with fail
  refine (eqI_self _ _ _ _ R _ Hh0.out.sl Hw0.out.sl hnR).mono ?_
  rintro e w7 ⟨rfl, hb7⟩
  have Hw0 := Lib.hid (Hw0.out.below hb7)
  have Hg0 := Lib.hid (Hg0.out.below hb7)
  have Hh0 := Lib.hid (Hh0.out.below hb7)
  have Hb := Lib.hid (below_nx Hb.out hb7)
  have hz7 := hb7.size
  clear hb7
  go_wp2_with fail
  refine (heldI1 _ R.length _ _ Hg0.out.sl hnR).mono ?_
  rintro e w8 ⟨rfl, rfl⟩
  go_wp2_with fail
  go_ret
  exact ⟨rfl, Hb.out⟩

open Go.ChangeMaps (open_string shut_string)
theorem own : ownKnob Try.prog.godebug = none := by kernel_rfl
set_option maxRecDepth 100000 in
/-- What the walk gives, for every argument. -/
theorem contract (H : Type) (enc : TypeId × Value → H) (W : World) (base : Nat) (args : Array Value) (ds gs : List (DataW H)) (before : List MemPlace)
    (hval : ∀ (j : Nat) t v, Try.f7.params[j]? = some t → args[j]? = some v → Value.okWide Try.prog W .any base t v)
    (hW : DataW.Whole enc Try.prog Try.f7.params.toList Rows.fnExactIdentityPermutationSpec.vars false W args.toList ds gs before) :
    Calls Try.prog 7 args W fun e W' => ∃ v, e = .returned v ∧ Rows.fnExactIdentityPermutationSpec.post enc Try.prog Try.f7 false true false false W args v W' := by
  have hW' := hW
  obtain ⟨p, q, hA0, hV, rfl, hfz, hnd⟩ := hW
  have hA : DataW.TrodAll enc Try.prog W 0 (fun _ => true) true Try.f7.params.toList args.toList ds p := hA0
  rw [Try.params7] at hA hval
  obtain ⟨v0, vs0, d0, ds0, p0, q0, hargs, rfl, rfl, h0, r0⟩ := trodAll_cons hA
  obtain ⟨rfl, rfl, rfl⟩ := trodAll_nil r0
  obtain rfl : args = #[v0] := by cases args; simp_all
  obtain ⟨rfl, rfl⟩ := trodVars_none hV
  obtain ⟨n, rfl, rfl, rfl, wn⟩ := open_int Try.underlying3 (hval 0 3 v0 rfl rfl) h0
  clear hA0
  simp only [List.append_nil] at hW'
  refine (walk n W (bounds_i64 wn).1 (bounds_i64 wn).2).mono fun e W' ⟨he, hg⟩ => ?_
  subst he
  exact ⟨_, rfl, _, _, _, [], [], [], hW', trodAll_mk1 (shut_bool Try.underlying4 _), (trodAll_cons_mk (shut_int Try.underlying3 wn) trodAll_mk0), rfl, hg.frame _, fun h => by cases h⟩

set_option maxRecDepth 100000 in
theorem lifted (os : Os) (started : os.Started) (H : Type) (enc : TypeId × Value → H) :
    ReturnsInHanded {} Try.checked os 7 .any (Rows.fnExactIdentityPermutationSpec.pre6 enc Try.prog Try.f7 Rows.fnExactIdentityPermutationRow.domain false) (Rows.fnExactIdentityPermutationSpec.post enc Try.prog Try.f7 false true false false) := by
  refine returnsInHanded_of_change (C := Try.checked) own started (by kernel_rfl) Try.func7
    (ChangeSpec.witness6 (enc := enc) (C := Try.checked) false ⟨#[], #[.int .i64 0], []⟩ 8 (by kernel_rfl) (by kernel_rfl) (by kernel_rfl) (by kernel_rfl)) ?_
  intro W base args ds gs before hval hW _ _
  exact contract H enc W base args ds gs before hval hW
theorem closedFacts : joinedFacts Try.pinned.checked.prog 7 Try.f7 Rows.fnExactIdentityPermutationSpec Rows.fnExactIdentityPermutationRow = true := by
  unfold joinedFacts
  rw [init_may, init_facts.2.1, init_facts.2.2]
  kernel_rfl
theorem said : Rows.FnExactIdentityPermutationSaid :=
  OpenClaim.holds_of_wide 7 Try.f7 rfl rfl rfl rfl rfl rfl rfl ⟨rfl, rfl, rfl, rfl, rfl⟩ rfl rfl rfl rfl rfl (by kernel_rfl) Try.func7 closedFacts
    (of_decide_eq_true (by kernel_rfl)) (by unfold Func.isWrapper; first | (rw [if_pos (by decide +kernel)]; kernel_rfl) | (rw [if_neg (by decide +kernel)]; exact ⟨rfl, rfl⟩))
    (fun os started H enc _ => lifted os started H enc)
end Go.Proofs.Ytfmgjhaofbdlpaa.fnExactIdentityPermutation
