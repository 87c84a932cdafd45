/- The law FnExactTokenize: Tokenize answers as its model, at every string. No condition. -/
import Derived.Test.YtgicldokglpimaaInit
import Derived.Test.YtgicldokglpimaaTkK
import Derived.Test.YtgicldokglpimaaTkV
import Derived.Test.YtgicldokglpimaaTkN
import Derived.Test.YtgicldokglpimaaTkO
import Derived.Lib.SmallJoins
import Derived.WalkKit
import Derived.ProofKit
import Derived.OpenShut
import Derived.Deep.DeepHandedRow
import Derived.Lib.LaidTab
import Derived.LaidMore
import Derived.LaidHandle
import Derived.Lay
import Derived.Stop.LaidErr
namespace Go.Proofs.Ytgicldokglpimaa.fnExactTokenize
open Go.ChangeShapes Go.WideShapes Go.ChangeAt Go.RowKit Go.Lib
attribute [local irreducible] World.cell?
set_option maxRecDepth 100000 in
set_option maxHeartbeats 6400000 in
theorem walk (s : ByteArray) (w : World) (hs : s.size ≤ maxLen) :
    Calls Try.prog 6 #[.string s] w fun e w' => e = .returned (.bool true) ∧ Below w.heap.size w w' := by
  unfold maxLen at hs
  by_cases hn : s.size ≤ 1048576
  · have hlR : ((tz (bs s) []).getD []).length ≤ 160 := by
      cases h : tz (bs s) [] with
      | none => exact Nat.zero_le _
      | some L => exact (tz_ok _ (bs s) [] L (Nat.le_refl _) h (fun t ht => absurd ht List.not_mem_nil) (Nat.zero_le _)).2
    have Hsp := Lib.hid (fun W => stok s W (by omega))
    have Him := Lib.hid (fun W => itok s W (by omega))
    have hn' : ¬ (1048576 : Int) < (s.size : Int) := by omega
    have Hb := Lib.hid (Below.refl w.heap.size w)
    generalize (tz (bs s) []).getD [] = R at *
    generalize (tz (bs s) []).isSome = t at *
    have hr : R.length ≤ 1048576 := by omega
    have hk1 : ¬ (1 + (R.length : Int) * 2 < 0) := by omega
    have htt : (t != t) = false := by simp
    clear hlR
    go_enter Try.func6, Try.ntmps6
    go_wp2_with fail
    refine (Hsp.out _).mono ?_
    rintro e w1 ⟨v0, rfl, hd1, hb1⟩
    have Hw0 := Lib.hid hd1.upto
    have Hb := Lib.hid (below_nx Hb.out hb1)
    have hz1 := hb1.size
    clear hb1 hd1
    go_wp2_with fail
    refine (Him.out _).mono ?_
    rintro e w2 ⟨vg, rfl, hd2, hb2⟩
    have Hg0 := Lib.hid hd2.upto
    have Hw0 := Lib.hid (Hw0.out.below hb2)
    have Hb := Lib.hid (below_nx Hb.out hb2)
    have hz2 := hb2.size
    clear hb2 hd2
    go_wp2_with fail
    refine (eqTks _ _ _ _ R _ Hg0.out.sl Hw0.out.sl hr).mono ?_
    rintro e w3 ⟨rfl, hb3⟩
    have Hw0 := Lib.hid (Hw0.out.below hb3)
    have Hg0 := Lib.hid (Hg0.out.below hb3)
    have Hb := Lib.hid (below_nx Hb.out hb3)
    have hz3 := hb3.size
    clear hb3
    go_wp2_with fail
    refine (markT1 _ _ _ R _ Hg0.out hr).mono ?_
    rintro e w4 ⟨rfl, hd4, hm4⟩
    have Hw0 := Lib.hid (show tkE.Sc w4 _ _ _ _ by first | exact Hw0.out.lo hm4 (by omega) | exact Hw0.out.hi hm4 (by omega))
    have Hg0 := Lib.hid hd4
    have hz4 := hm4.1.size
    have Hb := Lib.hid (mid_low Hb.out hm4 (by omega))
    clear hd4 hm4
    go_wp2_with fail
    refine (heldT1 _ R.length _ _ Hg0.out.sl hr).mono ?_
    rintro e w5 ⟨rfl, hb5⟩
    have Hw0 := Lib.hid (Hw0.out.below hb5)
    have Hg0 := Lib.hid (Hg0.out.below hb5)
    have Hb := Lib.hid (below_nx Hb.out hb5)
    have hz5 := hb5.size
    clear hb5
    go_wp2_with fail
    refine (Him.out _).mono ?_
    rintro e w6 ⟨vh, rfl, hd6, hb6⟩
    have Hh0 := Lib.hid hd6.upto
    have Hw0 := Lib.hid (Hw0.out.below hb6)
    have Hg0 := Lib.hid (Hg0.out.below hb6)
    have Hb := Lib.hid (below_nx Hb.out hb6)
    have hz6 := hb6.size
    clear hb6 hd6
    go_wp2_with fail
    refine (eqTks _ _ _ _ R _ Hh0.out.sl Hw0.out.sl hr).mono ?_
    rintro e w7 ⟨rfl, hb7⟩
    have Hw0 := Lib.hid (Hw0.out.below hb7)
    have Hg0 := Lib.hid (Hg0.out.below hb7)
    have Hh0 := Lib.hid (Hh0.out.below hb7)
    have Hb := Lib.hid (below_nx Hb.out hb7)
    have hz7 := hb7.size
    clear hb7
    go_wp2_with fail
    refine (heldT1 _ R.length _ _ Hg0.out.sl hr).mono ?_
    rintro e w8 ⟨rfl, hb8⟩
    have Hw0 := Lib.hid (Hw0.out.below hb8)
    have Hg0 := Lib.hid (Hg0.out.below hb8)
    have Hh0 := Lib.hid (Hh0.out.below hb8)
    have Hb := Lib.hid (below_nx Hb.out hb8)
    have hz8 := hb8.size
    clear hb8
    go_wp2_with fail
    go_ret
    exact ⟨rfl, Hb.out⟩
  · have hn' : (1048576 : Int) < (s.size : Int) := by omega
    go_enter Try.func6, Try.ntmps6
    go_wp2_with fail
    go_ret
    exact ⟨rfl, Below.refl _ _⟩

open Go.ChangeMaps (open_string shut_string)
theorem own : ownKnob Try.prog.godebug = none := by kernel_rfl
set_option maxRecDepth 100000 in
/-- What the walk gives, for every argument. -/
theorem contract (H : Type) (enc : TypeId × Value → H) (W : World) (base : Nat) (args : Array Value) (ds gs : List (DataW H)) (before : List MemPlace)
    (hval : ∀ (j : Nat) t v, Try.f6.params[j]? = some t → args[j]? = some v → Value.okWide Try.prog W .any base t v)
    (hW : DataW.Whole enc Try.prog Try.f6.params.toList Rows.fnExactTokenizeSpec.vars false W args.toList ds gs before) :
    Calls Try.prog 6 args W fun e W' => ∃ v, e = .returned v ∧ Rows.fnExactTokenizeSpec.post enc Try.prog Try.f6 false true false false W args v W' := by
  have hW' := hW
  obtain ⟨p, q, hA0, hV, rfl, hfz, hnd⟩ := hW
  have hA : DataW.TrodAll enc Try.prog W 0 (fun _ => true) true Try.f6.params.toList args.toList ds p := hA0
  rw [Try.params6] at hA hval
  obtain ⟨v0, vs0, d0, ds0, p0, q0, hargs, rfl, rfl, h0, r0⟩ := trodAll_cons hA
  obtain ⟨rfl, rfl, rfl⟩ := trodAll_nil r0
  obtain rfl : args = #[v0] := by cases args; simp_all
  obtain ⟨rfl, rfl⟩ := trodVars_none hV
  obtain ⟨s, rfl, rfl, rfl, ws⟩ := open_string Try.underlying9 (hval 0 9 v0 rfl rfl) h0
  clear hA0
  simp only [List.append_nil] at hW'
  refine (walk s W ws).mono fun e W' ⟨he, hg⟩ => ?_
  subst he
  exact ⟨_, rfl, _, _, _, [], [], [], hW', trodAll_mk1 (shut_bool Try.underlying4 _), (trodAll_cons_mk (shut_string Try.underlying9 ws) trodAll_mk0), rfl, hg.frame _, fun h => by cases h⟩

set_option maxRecDepth 100000 in
theorem lifted (os : Os) (started : os.Started) (H : Type) (enc : TypeId × Value → H) :
    ReturnsInHanded {} Try.checked os 6 .any (Rows.fnExactTokenizeSpec.pre6 enc Try.prog Try.f6 Rows.fnExactTokenizeRow.domain false) (Rows.fnExactTokenizeSpec.post enc Try.prog Try.f6 false true false false) := by
  refine returnsInHanded_of_change (C := Try.checked) own started (by kernel_rfl) Try.func6
    (ChangeSpec.witness6 (enc := enc) (C := Try.checked) false ⟨#[], #[.string ⟨#[]⟩], []⟩ 8 (by kernel_rfl) (by kernel_rfl) (by kernel_rfl) (by kernel_rfl)) ?_
  intro W base args ds gs before hval hW _ _
  exact contract H enc W base args ds gs before hval hW
theorem closedFacts : joinedFacts Try.pinned.checked.prog 6 Try.f6 Rows.fnExactTokenizeSpec Rows.fnExactTokenizeRow = true := by
  unfold joinedFacts
  rw [init_may, init_facts.2.1, init_facts.2.2]
  kernel_rfl
theorem said : Rows.FnExactTokenizeSaid :=
  OpenClaim.holds_of_wide 6 Try.f6 rfl rfl rfl rfl rfl rfl rfl ⟨rfl, rfl, rfl, rfl, rfl⟩ rfl rfl rfl rfl rfl (by kernel_rfl) Try.func6 closedFacts
    (of_decide_eq_true (by kernel_rfl)) (by unfold Func.isWrapper; first | (rw [if_pos (by decide +kernel)]; kernel_rfl) | (rw [if_neg (by decide +kernel)]; exact ⟨rfl, rfl⟩))
    (fun os started H enc _ => lifted os started H enc)
end Go.Proofs.Ytgicldokglpimaa.fnExactTokenize
