/- The law FnExactPermuteIndex: PermuteIndex answers as its model, at every argument. No condition. -/
import Derived.Test.YtkcpemkahkkcmaaInit
import Derived.Test.YtkcpemkahkkcmaaBaseB24
import Derived.Test.YtkcpemkahkkcmaaPmU
import Derived.Test.YtkcpemkahkkcmaaBaseB27
import Derived.Test.YtkcpemkahkkcmaaBaseB04
import Derived.Lib.SmallJoins
import Derived.WalkKit
import Derived.ProofKit
import Derived.OpenShut
import Derived.Deep.DeepHandedRow
import Derived.Lib.LaidTab
import Derived.LaidMore
import Derived.LaidHandle
import Derived.Lay
import Derived.Stop.LaidErr
namespace Go.Proofs.Ytkcpemkahkkcmaa.fnExactPermuteIndex
open Go.ChangeShapes Go.WideShapes Go.ChangeAt Go.RowKit Go.Lib
attribute [local irreducible] World.cell?
set_option maxRecDepth 100000 in
set_option maxHeartbeats 6400000 in
theorem walk (pa : Option Addr) (pc : Nat) (p : List Int) (i : Int) (w : World) (hinp : IsIn w w.heap.size pa p) (hi0 : -9223372036854775808 ≤ i) (hi1 : i ≤ 9223372036854775807) :
    Calls Try.prog 10 #[.slice pa p.length pc, .int .i64 i] w fun e w' => e = .returned (.bool true) ∧ Below w.heap.size w w' := by
  have Hinp := Lib.hid hinp
  have hEp := hinp.2.1
  have hMp := hinp.1
  clear hinp
  unfold maxLen at hMp
  by_cases hlp : p.length ≤ 1048576
  · have hnp : p.length ≤ 1048576 := hlp
    clear hlp
    have Hb := Lib.hid (Below.refl w.heap.size w)
    go_enter Try.func10, Try.ntmps10
    go_wp2_with fail
    refine (toIs pa pc w.heap.size p _ (Hinp.out.below Hb.out) Hb.out.size hnp).mono ?_
    rintro e w1 ⟨vs0, rfl, hd1, hb1⟩
    have Hs0 := Lib.hid hd1.upto
    have Hb := Lib.hid (below_nx Hb.out hb1)
    have hz1 := hb1.size
    clear hb1 hd1
    go_wp2_with fail
    refine (spix _ _ p i _ Hs0.out.sl hEp hnp hi0 hi1).mono ?_
    rintro e w2 ⟨rfl, hb2⟩
    have Hs0 := Lib.hid (Hs0.out.below hb2)
    have Hb := Lib.hid (below_nx Hb.out hb2)
    have hz2 := hb2.size
    clear hb2
    go_wp2_with fail
    refine (toIs pa pc w.heap.size p _ (Hinp.out.below Hb.out) Hb.out.size hnp).mono ?_
    rintro e w3 ⟨vx0, rfl, hd3, hb3⟩
    have Hx0 := Lib.hid hd3.upto
    have Hb := Lib.hid (below_nx Hb.out hb3)
    have hz3 := hb3.size
    clear hb3 hd3
    go_wp2_with fail
    refine (ipix _ _ p i _ Hx0.out.sl hEp hnp hi0 hi1).mono ?_
    rintro e w4 ⟨rfl, hb4⟩
    have Hx0 := Lib.hid (Hx0.out.below hb4)
    have Hb := Lib.hid (below_nx Hb.out hb4)
    have hz4 := hb4.size
    clear hb4
    go_wp2_with fail
    refine (toIs pa pc w.heap.size p _ (Hinp.out.below Hb.out) Hb.out.size hnp).mono ?_
    rintro e w5 ⟨vs1, rfl, hd5, hb5⟩
    have Hs1 := Lib.hid hd5.upto
    have Hx0 := Lib.hid (Hx0.out.below hb5)
    have Hb := Lib.hid (below_nx Hb.out hb5)
    have hz5 := hb5.size
    clear hb5 hd5
    go_wp2_with fail
    refine (eqI_self _ _ _ _ p _ Hx0.out.sl Hs1.out.sl hnp).mono ?_
    rintro e w6 ⟨rfl, hb6⟩
    have Hx0 := Lib.hid (Hx0.out.below hb6)
    have Hs1 := Lib.hid (Hs1.out.below hb6)
    have Hb := Lib.hid (below_nx Hb.out hb6)
    have hz6 := hb6.size
    clear hb6
    go_wp2_with fail
    go_ret
    exact ⟨rfl, Hb.out⟩
  · go_enter Try.func10, Try.ntmps10
    go_wp2_with fail
    go_ret
    exact ⟨rfl, Below.refl _ _⟩
open Go.ChangeMaps (open_string shut_string)
theorem laidOut : laidOutB Try.prog = true := by kernel_rfl
theorem own : ownKnob Try.prog.godebug = none := by kernel_rfl
set_option maxRecDepth 100000 in
/-- What the walk gives, for every argument. -/
theorem contract (H : Type) (enc : TypeId × Value → H) (W : World) (base : Nat) (args : Array Value) (ds gs : List (DataW H)) (before : List MemPlace)
    (hval : ∀ (j : Nat) t v, Try.f10.params[j]? = some t → args[j]? = some v → Value.okWide Try.prog W .any base t v)
    (hW : DataW.Whole enc Try.prog Try.f10.params.toList Rows.fnExactPermuteIndexSpec.vars false W args.toList ds gs before) :
    Calls Try.prog 10 args W fun e W' => ∃ v, e = .returned v ∧ Rows.fnExactPermuteIndexSpec.post enc Try.prog Try.f10 false true false false W args v W' := by
  have hW' := hW
  obtain ⟨p, q, hA0, hV, rfl, hfz, hnd⟩ := hW
  have hA : DataW.TrodAll enc Try.prog W 0 (fun _ => true) true Try.f10.params.toList args.toList ds p := hA0
  rw [Try.params10] at hA hval
  obtain ⟨v0, vs0, d0, ds0, p0, q0, hargs, rfl, rfl, h0, r0⟩ := trodAll_cons hA
  obtain ⟨v1, vs1, d1, ds1, p1, q1, rfl, rfl, rfl, h1, r1⟩ := trodAll_cons r0
  obtain ⟨rfl, rfl, rfl⟩ := trodAll_nil r1
  obtain rfl : args = #[v0, v1] := by cases args; simp_all
  obtain ⟨rfl, rfl⟩ := trodVars_none hV
  have k0 := h0
  have lt0 : ∀ x ∈ p0, x.block < W.heap.size := by obtain ⟨m, hm⟩ := k0; exact DataW.trod_lt m _ _ _ hm
  obtain ⟨pa, pc, p, rfl, ph⟩ := open_is (hval 0 39 v0 rfl rfl) h0
  obtain ⟨i, rfl, rfl, rfl, wi⟩ := open_int Try.underlying3 (hval 1 3 v1 rfl rfl) h1
  clear hA0
  simp only [List.append_nil] at hW'
  refine (walk pa pc p i W ph (bounds_i64 wi).1 (bounds_i64 wi).2).mono fun e W' ⟨he, hg⟩ => ?_
  subst he
  exact ⟨_, rfl, _, _, _, [], _, [], hW', trodAll_mk1 (shut_bool Try.underlying4 _), (trodAll_cons_mk (Below.trod laidOut (by kernel_rfl) (of_decide_eq_true (by kernel_rfl)) k0 hg lt0) (trodAll_cons_mk (shut_int Try.underlying3 wi) trodAll_mk0)), rfl, hg.frame _, fun h => by cases h⟩
set_option maxRecDepth 100000 in
theorem lifted (os : Os) (started : os.Started) (H : Type) (enc : TypeId × Value → H) :
    ReturnsInHanded {} Try.checked os 10 .any (Rows.fnExactPermuteIndexSpec.pre6 enc Try.prog Try.f10 Rows.fnExactPermuteIndexRow.domain false) (Rows.fnExactPermuteIndexSpec.post enc Try.prog Try.f10 false true false false) := by
  refine returnsInHanded_of_change (C := Try.checked) own started (by kernel_rfl) Try.func10
    (ChangeSpec.witness6 (enc := enc) (C := Try.checked) false ⟨#[], #[.slice none 0 0, .int .i64 0], []⟩ 8 (by kernel_rfl) (by kernel_rfl) (by kernel_rfl) (by kernel_rfl)) ?_
  intro W base args ds gs before hval hW _ _
  exact contract H enc W base args ds gs before hval hW
theorem closedFacts : joinedFacts Try.pinned.checked.prog 10 Try.f10 Rows.fnExactPermuteIndexSpec Rows.fnExactPermuteIndexRow = true := by
  unfold joinedFacts
  rw [init_may, init_facts.2.1, init_facts.2.2]
  kernel_rfl
theorem said : Rows.FnExactPermuteIndexSaid :=
  OpenClaim.holds_of_wide 10 Try.f10 rfl rfl rfl rfl rfl rfl rfl ⟨rfl, rfl, rfl, rfl, rfl⟩ rfl rfl rfl rfl rfl (by kernel_rfl) Try.func10 closedFacts
    (of_decide_eq_true (by kernel_rfl)) (by unfold Func.isWrapper; first | (rw [if_pos (by decide +kernel)]; kernel_rfl) | (rw [if_neg (by decide +kernel)]; exact ⟨rfl, rfl⟩))
    (fun os started H enc _ => lifted os started H enc)
end Go.Proofs.Ytkcpemkahkkcmaa.fnExactPermuteIndex
