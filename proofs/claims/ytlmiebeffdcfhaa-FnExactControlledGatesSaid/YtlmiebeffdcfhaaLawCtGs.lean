/- The law FnExactControlledGates: ControlledGates answers as its model, at every integer and list of gates. No condition. -/
import Derived.Test.YtlmiebeffdcfhaaInit
import Derived.Test.YtlmiebeffdcfhaaCtKs
import Derived.Test.YtlmiebeffdcfhaaCtM
import Derived.Test.YtlmiebeffdcfhaaBaseB11
import Derived.Test.YtlmiebeffdcfhaaGsO
import Derived.Test.YtlmiebeffdcfhaaGsB
import Derived.Test.YtlmiebeffdcfhaaBaseB12
import Derived.Test.YtlmiebeffdcfhaaSzG
import Derived.Lib.SmallJoins
import Derived.WalkKit
import Derived.ProofKit
import Derived.OpenShut
import Derived.Deep.DeepHandedRow
import Derived.Lib.LaidTab
import Derived.LaidMore
import Derived.LaidHandle
import Derived.Lay
import Derived.Stop.LaidErr
namespace Go.Proofs.Ytlmiebeffdcfhaa.fnExactControlledGates
open Go.ChangeShapes Go.WideShapes Go.ChangeAt Go.RowKit Go.Lib
attribute [local irreducible] World.cell?
set_option maxRecDepth 100000 in
set_option maxHeartbeats 6400000 in
theorem walk (q : Int) (ga : Option Addr) (gc : Nat) (g : List Gt) (w : World) (_ : -9223372036854775808 ≤ q) (_ : q ≤ 9223372036854775807) (hing : GsIn w w.heap.size ga g) :
    Calls Try.prog 4 #[.int .i64 q, .slice ga g.length gc] w fun e w' => e = .returned (.bool true) ∧ Below w.heap.size w w' := by
  by_cases hng : g.length ≤ 1048576
  · have Hing := Lib.hid hing
    have hl7 := ctRs_len q g
    have Hsp := Lib.hid (fun W C v (h1 : gtE.Sl W C v g) => sctGs C q v g W h1 hng)
    have Him := Lib.hid (fun W C v (h1 : gtE.Sl W C v g) => ictGs C q v g W h1 hng)
    generalize ctRs q g = R at *
    generalize ctBs q g = t at *
    have hr : R.length ≤ 16777216 := by omega
    have hk0 : ¬ (1 + (g.length : Int) * 4 < 0) := by omega
    have hk1 : ¬ (1 + (R.length : Int) * 4 < 0) := by omega
    have htt : (t != t) = false := by simp
    have Hb := Lib.hid (Below.refl w.heap.size w)
    clear hing hl7
    go_enter Try.func4, Try.ntmps4
    go_wp2_with fail
    refine (szGfit ga g.length gc 1048576 _ (by omega) (by omega) (by omega)).mono ?_
    rintro e w1 ⟨rfl, rfl⟩
    go_wp2_with fail
    refine (toGs ga gc w.heap.size g _ (Hing.out.below Hb.out) Hb.out.size hng).mono ?_
    rintro e w2 ⟨vp0, rfl, hd2, hb2⟩
    have Hp0 := Lib.hid hd2.upto
    have Hb := Lib.hid (below_nx Hb.out hb2)
    have hz2 := hb2.size
    clear hb2 hd2
    go_wp2_with fail
    refine (Hsp.out _ _ _ Hp0.out.sl).mono ?_
    rintro e w3 ⟨v0, rfl, hd3, hb3⟩
    have Hw0 := Lib.hid hd3.upto
    have Hp0 := Lib.hid (Hp0.out.below hb3)
    have Hb := Lib.hid (below_nx Hb.out hb3)
    have hz3 := hb3.size
    clear hb3 hd3
    go_wp2_with fail
    refine (toGs ga gc w.heap.size g _ (Hing.out.below Hb.out) Hb.out.size hng).mono ?_
    rintro e w4 ⟨vx0, rfl, hd4, hb4⟩
    have Hx0 := Lib.hid hd4.upto
    have Hw0 := Lib.hid (Hw0.out.below hb4)
    have Hb := Lib.hid (below_nx Hb.out hb4)
    have hz4 := hb4.size
    clear hb4 hd4
    go_wp2_with fail
    refine (Him.out _ _ _ Hx0.out.sl).mono ?_
    rintro e w5 ⟨vg, rfl, hd5, hb5⟩
    have Hg0 := Lib.hid hd5.upto
    have Hw0 := Lib.hid (Hw0.out.below hb5)
    have Hx0 := Lib.hid (Hx0.out.below hb5)
    have Hb := Lib.hid (below_nx Hb.out hb5)
    have hz5 := hb5.size
    clear hb5 hd5
    go_wp2_with fail
    refine (eqGsB _ _ _ _ R _ Hg0.out.sl Hw0.out.sl hr).mono ?_
    rintro e w6 ⟨rfl, hb6⟩
    have Hw0 := Lib.hid (Hw0.out.below hb6)
    have Hx0 := Lib.hid (Hx0.out.below hb6)
    have Hg0 := Lib.hid (Hg0.out.below hb6)
    have Hb := Lib.hid (below_nx Hb.out hb6)
    have hz6 := hb6.size
    clear hb6
    go_wp2_with fail
    refine (toGs ga gc w.heap.size g _ (Hing.out.below Hb.out) Hb.out.size hng).mono ?_
    rintro e w7 ⟨vp2, rfl, hd7, hb7⟩
    have Hp2 := Lib.hid hd7.upto
    have Hw0 := Lib.hid (Hw0.out.below hb7)
    have Hx0 := Lib.hid (Hx0.out.below hb7)
    have Hg0 := Lib.hid (Hg0.out.below hb7)
    have Hb := Lib.hid (below_nx Hb.out hb7)
    have hz7 := hb7.size
    clear hb7 hd7
    go_wp2_with fail
    refine (eqGs _ _ _ _ g _ Hx0.out.sl Hp2.out.sl hng).mono ?_
    rintro e w8 ⟨rfl, hb8⟩
    have Hw0 := Lib.hid (Hw0.out.below hb8)
    have Hx0 := Lib.hid (Hx0.out.below hb8)
    have Hg0 := Lib.hid (Hg0.out.below hb8)
    have Hp2 := Lib.hid (Hp2.out.below hb8)
    have Hb := Lib.hid (below_nx Hb.out hb8)
    have hz8 := hb8.size
    clear hb8
    go_wp2_with fail
    refine (markG1 _ _ _ g _ Hx0.out hng).mono ?_
    rintro e w9 ⟨rfl, hd9, hm9⟩
    have Hw0 := Lib.hid (show gtE.Sc w9 _ _ _ _ by first | exact Hw0.out.lo hm9 (by omega) | exact Hw0.out.hi hm9 (by omega))
    have Hg0 := Lib.hid (show gtE.Sc w9 _ _ _ _ by first | exact Hg0.out.lo hm9 (by omega) | exact Hg0.out.hi hm9 (by omega))
    have Hx0 := Lib.hid hd9
    have hz9 := hm9.1.size
    have Hb := Lib.hid (mid_low Hb.out hm9 (by omega))
    clear hd9 hm9
    go_wp2_with fail
    refine (eqGsB _ _ _ _ R _ Hg0.out.sl Hw0.out.sl hr).mono ?_
    rintro e w10 ⟨rfl, hb10⟩
    have Hw0 := Lib.hid (Hw0.out.below hb10)
    have Hg0 := Lib.hid (Hg0.out.below hb10)
    have Hb := Lib.hid (below_nx Hb.out hb10)
    have hz10 := hb10.size
    clear hb10
    go_wp2_with fail
    refine (markG1B _ _ _ R _ Hg0.out hr).mono ?_
    rintro e w11 ⟨rfl, hd11, hm11⟩
    have Hw0 := Lib.hid (show gtE.Sc w11 _ _ _ _ by first | exact Hw0.out.lo hm11 (by omega) | exact Hw0.out.hi hm11 (by omega))
    have Hg0 := Lib.hid hd11
    have hz11 := hm11.1.size
    have Hb := Lib.hid (mid_low Hb.out hm11 (by omega))
    clear hd11 hm11
    go_wp2_with fail
    refine (heldG1B _ R.length _ _ Hg0.out.sl hr).mono ?_
    rintro e w12 ⟨rfl, rfl⟩
    go_wp2_with fail
    refine (toGs ga gc w.heap.size g _ (Hing.out.below Hb.out) Hb.out.size hng).mono ?_
    rintro e w13 ⟨vp4, rfl, hd13, hb13⟩
    have Hp4 := Lib.hid hd13.upto
    have Hw0 := Lib.hid (Hw0.out.below hb13)
    have Hg0 := Lib.hid (Hg0.out.below hb13)
    have Hb := Lib.hid (below_nx Hb.out hb13)
    have hz13 := hb13.size
    clear hb13 hd13
    go_wp2_with fail
    refine (Him.out _ _ _ Hp4.out.sl).mono ?_
    rintro e w14 ⟨vh, rfl, hd14, hb14⟩
    have Hh0 := Lib.hid hd14.upto
    have Hw0 := Lib.hid (Hw0.out.below hb14)
    have Hg0 := Lib.hid (Hg0.out.below hb14)
    have Hp4 := Lib.hid (Hp4.out.below hb14)
    have Hb := Lib.hid (below_nx Hb.out hb14)
    have hz14 := hb14.size
    clear hb14 hd14
    go_wp2_with fail
    refine (eqGsB _ _ _ _ R _ Hh0.out.sl Hw0.out.sl hr).mono ?_
    rintro e w15 ⟨rfl, hb15⟩
    have Hw0 := Lib.hid (Hw0.out.below hb15)
    have Hg0 := Lib.hid (Hg0.out.below hb15)
    have Hh0 := Lib.hid (Hh0.out.below hb15)
    have Hb := Lib.hid (below_nx Hb.out hb15)
    have hz15 := hb15.size
    clear hb15
    go_wp2_with fail
    refine (heldG1B _ R.length _ _ Hg0.out.sl hr).mono ?_
    rintro e w16 ⟨rfl, rfl⟩
    go_wp2_with fail
    go_ret
    exact ⟨rfl, Hb.out⟩
  · have hmg := hing.1
    clear hing
    go_enter Try.func4, Try.ntmps4
    go_wp2_with fail
    refine (szGbig ga g.length gc 1048576 _ hmg (by omega) (by omega) (by omega)).mono ?_
    rintro e w1 ⟨rfl, rfl⟩
    go_wp2_with fail
    go_ret
    exact ⟨rfl, Below.refl _ _⟩

open Go.ChangeMaps (open_string shut_string)
theorem laidOut : laidOutB Try.prog = true := by kernel_rfl
theorem own : ownKnob Try.prog.godebug = none := by kernel_rfl
set_option maxRecDepth 100000 in
/-- What the walk gives, for every argument. -/
theorem contract (H : Type) (enc : TypeId × Value → H) (W : World) (base : Nat) (args : Array Value) (ds gs : List (DataW H)) (before : List MemPlace)
    (hval : ∀ (j : Nat) t v, Try.f4.params[j]? = some t → args[j]? = some v → Value.okWide Try.prog W .any base t v)
    (hW : DataW.Whole enc Try.prog Try.f4.params.toList Rows.fnExactControlledGatesSpec.vars false W args.toList ds gs before) :
    Calls Try.prog 4 args W fun e W' => ∃ v, e = .returned v ∧ Rows.fnExactControlledGatesSpec.post enc Try.prog Try.f4 false true false false W args v W' := by
  have hW' := hW
  obtain ⟨p, q, hA0, hV, rfl, hfz, hnd⟩ := hW
  have hA : DataW.TrodAll enc Try.prog W 0 (fun _ => true) true Try.f4.params.toList args.toList ds p := hA0
  rw [Try.params4] at hA hval
  obtain ⟨v0, vs0, d0, ds0, p0, q0, hargs, rfl, rfl, h0, r0⟩ := trodAll_cons hA
  obtain ⟨v1, vs1, d1, ds1, p1, q1, rfl, rfl, rfl, h1, r1⟩ := trodAll_cons r0
  obtain ⟨rfl, rfl, rfl⟩ := trodAll_nil r1
  obtain rfl : args = #[v0, v1] := by cases args; simp_all
  obtain ⟨rfl, rfl⟩ := trodVars_none hV
  obtain ⟨q, rfl, rfl, rfl, wq⟩ := open_int Try.underlying3 (hval 0 3 v0 rfl rfl) h0
  have k1 := h1
  have lt1 : ∀ x ∈ p1, x.block < W.heap.size := by obtain ⟨m, hm⟩ := k1; exact DataW.trod_lt m _ _ _ hm
  obtain ⟨ga, gc, g, rfl, gh⟩ := open_gs (hval 1 32 v1 rfl rfl) h1
  clear hA0
  simp only [List.append_nil] at hW'
  refine (walk q ga gc g W (bounds_i64 wq).1 (bounds_i64 wq).2 gh).mono fun e W' ⟨he, hg⟩ => ?_
  subst he
  exact ⟨_, rfl, _, _, _, [], _, [], hW', trodAll_mk1 (shut_bool Try.underlying4 _), (trodAll_cons_mk (shut_int Try.underlying3 wq) (trodAll_cons_mk (Below.trod laidOut (by kernel_rfl) (of_decide_eq_true (by kernel_rfl)) k1 hg lt1) trodAll_mk0)), rfl, hg.frame _, fun h => by cases h⟩

set_option maxRecDepth 100000 in
theorem lifted (os : Os) (started : os.Started) (H : Type) (enc : TypeId × Value → H) :
    ReturnsInHanded {} Try.checked os 4 .any (Rows.fnExactControlledGatesSpec.pre6 enc Try.prog Try.f4 Rows.fnExactControlledGatesRow.domain false) (Rows.fnExactControlledGatesSpec.post enc Try.prog Try.f4 false true false false) := by
  refine returnsInHanded_of_change (C := Try.checked) own started (by kernel_rfl) Try.func4
    (ChangeSpec.witness6 (enc := enc) (C := Try.checked) false ⟨#[], #[.int .i64 0, .slice none 0 0], []⟩ 8 (by kernel_rfl) (by kernel_rfl) (by kernel_rfl) (by kernel_rfl)) ?_
  intro W base args ds gs before hval hW _ _
  exact contract H enc W base args ds gs before hval hW
theorem closedFacts : joinedFacts Try.pinned.checked.prog 4 Try.f4 Rows.fnExactControlledGatesSpec Rows.fnExactControlledGatesRow = true := by
  unfold joinedFacts
  rw [init_may, init_facts.2.1, init_facts.2.2]
  kernel_rfl
theorem said : Rows.FnExactControlledGatesSaid :=
  OpenClaim.holds_of_wide 4 Try.f4 rfl rfl rfl rfl rfl rfl rfl ⟨rfl, rfl, rfl, rfl, rfl⟩ rfl rfl rfl rfl rfl (by kernel_rfl) Try.func4 closedFacts
    (of_decide_eq_true (by kernel_rfl)) (by unfold Func.isWrapper; first | (rw [if_pos (by decide +kernel)]; kernel_rfl) | (rw [if_neg (by decide +kernel)]; exact ⟨rfl, rfl⟩))
    (fun os started H enc _ => lifted os started H enc)
end Go.Proofs.Ytlmiebeffdcfhaa.fnExactControlledGates
