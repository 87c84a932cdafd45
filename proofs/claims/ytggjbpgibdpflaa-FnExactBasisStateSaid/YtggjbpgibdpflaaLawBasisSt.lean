/- The law FnExactBasisState: BasisState answers as its model, at every two integers. No condition. -/
import Derived.Test.YtggjbpgibdpflaaBaseB02
import Derived.Test.YtggjbpgibdpflaaBaseB21
import Derived.Test.YtggjbpgibdpflaaBaseB06
import Derived.Lib.SmallJoins
import Derived.WalkKit
import Derived.ProofKit
import Derived.OpenShut
import Derived.Deep.DeepHandedRow
import Derived.Lib.LaidTab
import Derived.LaidMore
import Derived.LaidHandle
import Derived.Lay
import Derived.Stop.LaidErr
namespace Go.Proofs.Ytggjbpgibdpflaa.fnExactBasisState
open Go.ChangeShapes Go.WideShapes Go.ChangeAt Go.RowKit Go.Lib
attribute [local irreducible] World.cell?
set_option maxRecDepth 100000 in
set_option maxHeartbeats 3200000 in
theorem walk (n i : Int) (w : World) (n0 : -9223372036854775808 ≤ n) (n1 : n ≤ 9223372036854775807) (i0 : -9223372036854775808 ≤ i) (i1 : i ≤ 9223372036854775807) :
    Calls Try.prog 17 #[.int .i64 n, .int .i64 i] w fun e w' => e = .returned (.bool true) ∧ Below w.heap.size w w' := by
  have hl : (basisL n i).length ≤ 1048576 := by
    unfold basisL
    split
    · rename_i h
      simp only [List.length_set, List.length_replicate]
      obtain ⟨h0, h1, _⟩ := h
      rcases (show n = 1 ∨ n = 2 ∨ n = 3 ∨ n = 4 by omega) with rfl | rfl | rfl | rfl <;> decide
    · exact Nat.zero_le _
  have Hs := Lib.hid (sbasis n i)
  have Hi := Lib.hid (fun W => ibasis n i W n0 n1 i0 i1)
  have Hb := Lib.hid (Below.refl w.heap.size w)
  generalize basisL n i = l at *
  have hk0 : ¬ (1 + (l.length : Int) * 5 < 0) := by omega
  go_enter Try.func17, Try.ntmps17
  go_wp2_with fail
  refine (Hs.out _).mono ?_
  rintro e w1 ⟨v0, rfl, hd1, hb1⟩
  have Hw0 := Lib.hid hd1.upto
  have Hb := Lib.hid (below_nx Hb.out hb1)
  have hz1 := hb1.size
  clear hb1 hd1
  go_wp2_with fail
  refine (Hi.out _).mono ?_
  rintro e w2 ⟨vg, rfl, hd2, hb2⟩
  have Hg0 := Lib.hid hd2.upto
  have Hw0 := Lib.hid (Hw0.out.below hb2)
  have Hb := Lib.hid (below_nx Hb.out hb2)
  have hz2 := hb2.size
  clear hb2 hd2
  go_wp2_with fail
  refine (eqDs _ _ _ _ l _ Hg0.out.dsl Hw0.out.dsl hl).mono ?_
  rintro e w3 ⟨rfl, hb3⟩
  have Hw0 := Lib.hid (Hw0.out.below hb3)
  have Hg0 := Lib.hid (Hg0.out.below hb3)
  have Hb := Lib.hid (below_nx Hb.out hb3)
  have hz3 := hb3.size
  clear hb3
  go_wp2_with fail
  refine (mark1 _ _ _ l _ Hg0.out hl).mono ?_
  rintro e w4 ⟨rfl, hd4, hm4⟩
  have Hw0 := Lib.hid (show DSc w4 _ _ _ _ by first | exact hm4.dsc_lo Hw0.out (by first | omega | (simp at *; omega)) | exact hm4.dsc_hi Hw0.out (by first | omega | (simp at *; omega)))
  have Hg0 := Lib.hid hd4
  have hz4 := hm4.1.size
  have Hb := Lib.hid (mid_low Hb.out hm4 (by omega))
  clear hd4 hm4
  go_wp2_with fail
  refine (held1 _ l.length _ _ Hg0.out.dsl hl).mono ?_
  rintro e w5 ⟨rfl, rfl⟩
  go_wp2_with fail
  refine (Hi.out _).mono ?_
  rintro e w6 ⟨vh, rfl, hd6, hb6⟩
  have Hh0 := Lib.hid hd6.upto
  have Hw0 := Lib.hid (Hw0.out.below hb6)
  have Hg0 := Lib.hid (Hg0.out.below hb6)
  have Hb := Lib.hid (below_nx Hb.out hb6)
  have hz6 := hb6.size
  clear hb6 hd6
  go_wp2_with fail
  refine (eqDs _ _ _ _ l _ Hh0.out.dsl Hw0.out.dsl hl).mono ?_
  rintro e w7 ⟨rfl, hb7⟩
  have Hw0 := Lib.hid (Hw0.out.below hb7)
  have Hg0 := Lib.hid (Hg0.out.below hb7)
  have Hh0 := Lib.hid (Hh0.out.below hb7)
  have Hb := Lib.hid (below_nx Hb.out hb7)
  have hz7 := hb7.size
  clear hb7
  go_wp2_with fail
  refine (held1 _ l.length _ _ Hg0.out.dsl hl).mono ?_
  rintro e w8 ⟨rfl, rfl⟩
  go_wp2_with fail
  go_ret
  exact ⟨rfl, Hb.out⟩

open Go.ChangeMaps (open_string shut_string)
theorem own : ownKnob Try.prog.godebug = none := by kernel_rfl
set_option maxRecDepth 100000 in
/-- What the walk gives, for every argument. -/
theorem contract (H : Type) (enc : TypeId × Value → H) (W : World) (base : Nat) (args : Array Value) (ds gs : List (DataW H)) (before : List MemPlace)
    (hval : ∀ (j : Nat) t v, Try.f17.params[j]? = some t → args[j]? = some v → Value.okWide Try.prog W .any base t v)
    (hW : DataW.Whole enc Try.prog Try.f17.params.toList Rows.fnExactBasisStateSpec.vars false W args.toList ds gs before) :
    Calls Try.prog 17 args W fun e W' => ∃ v, e = .returned v ∧ Rows.fnExactBasisStateSpec.post enc Try.prog Try.f17 false true false false W args v W' := by
  have hW' := hW
  obtain ⟨p, q, hA0, hV, rfl, hfz, hnd⟩ := hW
  have hA : DataW.TrodAll enc Try.prog W 0 (fun _ => true) true Try.f17.params.toList args.toList ds p := hA0
  rw [Try.params17] at hA hval
  obtain ⟨v0, vs0, d0, ds0, p0, q0, hargs, rfl, rfl, h0, r0⟩ := trodAll_cons hA
  obtain ⟨v1, vs1, d1, ds1, p1, q1, rfl, rfl, rfl, h1, r1⟩ := trodAll_cons r0
  obtain ⟨rfl, rfl, rfl⟩ := trodAll_nil r1
  obtain rfl : args = #[v0, v1] := by cases args; simp_all
  obtain ⟨rfl, rfl⟩ := trodVars_none hV
  obtain ⟨n, rfl, rfl, rfl, wn⟩ := open_int Try.underlying3 (hval 0 3 v0 rfl rfl) h0
  obtain ⟨i, rfl, rfl, rfl, wi⟩ := open_int Try.underlying3 (hval 1 3 v1 rfl rfl) h1
  clear hA0
  simp only [List.append_nil] at hW'
  refine (walk n i W (bounds_i64 wn).1 (bounds_i64 wn).2 (bounds_i64 wi).1 (bounds_i64 wi).2).mono fun e W' ⟨he, hg⟩ => ?_
  subst he
  exact ⟨_, rfl, _, _, _, [], [], [], hW', trodAll_mk1 (shut_bool Try.underlying4 _), (trodAll_cons_mk (shut_int Try.underlying3 wn) (trodAll_cons_mk (shut_int Try.underlying3 wi) trodAll_mk0)), rfl, hg.frame _, fun h => by cases h⟩

set_option maxRecDepth 100000 in
theorem lifted (os : Os) (started : os.Started) (H : Type) (enc : TypeId × Value → H) :
    ReturnsInHanded {} Try.checked os 17 .any (Rows.fnExactBasisStateSpec.pre6 enc Try.prog Try.f17 Rows.fnExactBasisStateRow.domain false) (Rows.fnExactBasisStateSpec.post enc Try.prog Try.f17 false true false false) := by
  refine returnsInHanded_of_change (C := Try.checked) own started (by kernel_rfl) Try.func17
    (ChangeSpec.witness6 (enc := enc) (C := Try.checked) false ⟨#[], #[.int .i64 0, .int .i64 0], []⟩ 8 (by kernel_rfl) (by kernel_rfl) (by kernel_rfl) (by kernel_rfl)) ?_
  intro W base args ds gs before hval hW _ _
  exact contract H enc W base args ds gs before hval hW
theorem closedFacts : joinedFacts Try.pinned.checked.prog 17 Try.f17 Rows.fnExactBasisStateSpec Rows.fnExactBasisStateRow = true := by
  unfold joinedFacts
  rw [init_may, init_facts.2.1, init_facts.2.2]
  kernel_rfl
theorem said : Rows.FnExactBasisStateSaid :=
  OpenClaim.holds_of_wide 17 Try.f17 rfl rfl rfl rfl rfl rfl rfl ⟨rfl, rfl, rfl, rfl, rfl⟩ rfl rfl rfl rfl rfl (by kernel_rfl) Try.func17 closedFacts
    (of_decide_eq_true (by kernel_rfl)) (by unfold Func.isWrapper; first | (rw [if_pos (by decide +kernel)]; kernel_rfl) | (rw [if_neg (by decide +kernel)]; exact ⟨rfl, rfl⟩))
    (fun os started H enc _ => lifted os started H enc)
end Go.Proofs.Ytggjbpgibdpflaa.fnExactBasisState
