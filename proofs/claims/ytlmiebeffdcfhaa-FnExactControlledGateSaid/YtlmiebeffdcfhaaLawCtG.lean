/- The law FnExactControlledGate: ControlledGate answers as its model, at every integer and gate. No condition. -/
import Derived.Test.YtlmiebeffdcfhaaInit
import Derived.Test.YtlmiebeffdcfhaaCtKg
import Derived.Test.YtlmiebeffdcfhaaCtM
import Derived.Test.YtlmiebeffdcfhaaBaseB11
import Derived.Test.YtlmiebeffdcfhaaGsO
import Derived.Test.YtlmiebeffdcfhaaGsB
import Derived.Test.YtlmiebeffdcfhaaBaseB12
import Derived.Lib.SmallJoins
import Derived.WalkKit
import Derived.ProofKit
import Derived.OpenShut
import Derived.Deep.DeepHandedRow
import Derived.Lib.LaidTab
import Derived.LaidMore
import Derived.LaidHandle
import Derived.Lay
import Derived.Stop.LaidErr
namespace Go.Proofs.Ytlmiebeffdcfhaa.fnExactControlledGate
open Go.ChangeShapes Go.WideShapes Go.ChangeAt Go.RowKit Go.Lib
attribute [local irreducible] World.cell?
set_option maxRecDepth 100000 in
set_option maxHeartbeats 6400000 in
theorem walk (q : Int) (g : Gt) (w : World) (_ : -9223372036854775808 ≤ q) (_ : q ≤ 9223372036854775807) :
    Calls Try.prog 3 #[.int .i64 q, (.agg #[.int .i64 g.k, .int .i64 g.a, .int .i64 g.b, .int .i64 g.c])] w fun e w' => e = .returned (.bool true) ∧ Below w.heap.size w w' := by
  have HX := Lib.hid (heap_alloc_new w (.cells #[.int .i64 g.k, .int .i64 g.a, .int .i64 g.b, .int .i64 g.c] 23))
  obtain ⟨c0, c1, c2, c3⟩ := blk_cells HX.out
  have Hb := Lib.hid (show Below w.heap.size w (w.alloc (.cells #[.int .i64 g.k, .int .i64 g.a, .int .i64 g.b, .int .i64 g.c] 23)) by go_grown)
  have hl7 := ctR_len q g
  have Hs := Lib.hid (fun W => sctG q g W)
  have Hi := Lib.hid (fun W => ictG q g W)
  generalize ctR q g = R at *
  generalize ctB q g = t at *
  have hr : R.length ≤ 16777216 := by omega
  have hk1 : ¬ (1 + (R.length : Int) * 4 < 0) := by omega
  have htt : (t != t) = false := by simp
  clear hl7
  go_enter Try.func3, Try.ntmps3
  go_wp2_with fail
  refine (toG g _).mono ?_
  rintro e w1 ⟨rfl, hb1⟩
  have Hb := Lib.hid (below_nx Hb.out hb1)
  have hz1 := hb1.size
  have HX := Lib.hid (below_blk hb1 (lt_of_block HX.out) HX.out)
  clear c0 c1 c2 c3
  obtain ⟨c0, c1, c2, c3⟩ := blk_cells HX.out
  have hxl := lt_of_block HX.out
  clear hb1
  go_wp2_with fail
  refine (Hs.out _).mono ?_
  rintro e w2 ⟨v0, rfl, hd2, hb2⟩
  have Hw0 := Lib.hid hd2.upto
  have Hb := Lib.hid (below_nx Hb.out hb2)
  have hz2 := hb2.size
  have HX := Lib.hid (below_blk hb2 (lt_of_block HX.out) HX.out)
  clear c0 c1 c2 c3
  obtain ⟨c0, c1, c2, c3⟩ := blk_cells HX.out
  have hxl := lt_of_block HX.out
  clear hb2 hd2
  go_wp2_with fail
  refine (toG g _).mono ?_
  rintro e w3 ⟨rfl, hb3⟩
  have Hw0 := Lib.hid (Hw0.out.below hb3)
  have Hb := Lib.hid (below_nx Hb.out hb3)
  have hz3 := hb3.size
  have HX := Lib.hid (below_blk hb3 (lt_of_block HX.out) HX.out)
  clear c0 c1 c2 c3
  obtain ⟨c0, c1, c2, c3⟩ := blk_cells HX.out
  have hxl := lt_of_block HX.out
  clear hb3
  go_wp2_with fail
  refine (Hi.out _).mono ?_
  rintro e w4 ⟨vg, rfl, hd4, hb4⟩
  have Hg0 := Lib.hid hd4.upto
  have Hw0 := Lib.hid (Hw0.out.below hb4)
  have Hb := Lib.hid (below_nx Hb.out hb4)
  have hz4 := hb4.size
  have HX := Lib.hid (below_blk hb4 (lt_of_block HX.out) HX.out)
  clear c0 c1 c2 c3
  obtain ⟨c0, c1, c2, c3⟩ := blk_cells HX.out
  have hxl := lt_of_block HX.out
  clear hb4 hd4
  go_wp2_with fail
  refine (eqGsB _ _ _ _ R _ Hg0.out.sl Hw0.out.sl hr).mono ?_
  rintro e w5 ⟨rfl, hb5⟩
  have Hw0 := Lib.hid (Hw0.out.below hb5)
  have Hg0 := Lib.hid (Hg0.out.below hb5)
  have Hb := Lib.hid (below_nx Hb.out hb5)
  have hz5 := hb5.size
  have HX := Lib.hid (below_blk hb5 (lt_of_block HX.out) HX.out)
  clear c0 c1 c2 c3
  obtain ⟨c0, c1, c2, c3⟩ := blk_cells HX.out
  have hxl := lt_of_block HX.out
  clear hb5
  go_wp2_with fail
  refine (markG1B _ _ _ R _ Hg0.out hr).mono ?_
  rintro e w6 ⟨rfl, hd6, hm6⟩
  have Hw0 := Lib.hid (show gtE.Sc w6 _ _ _ _ by first | exact Hw0.out.lo hm6 (by omega) | exact Hw0.out.hi hm6 (by omega))
  have Hg0 := Lib.hid hd6
  have hz6 := hm6.1.size
  have Hb := Lib.hid (mid_low Hb.out hm6 (by omega))
  have HX := Lib.hid ((hm6.1.block w.heap.size (by omega)).trans HX.out)
  clear c0 c1 c2 c3
  obtain ⟨c0, c1, c2, c3⟩ := blk_cells HX.out
  have hxl := lt_of_block HX.out
  clear hd6 hm6
  go_wp2_with fail
  refine (heldG1B _ R.length _ _ Hg0.out.sl hr).mono ?_
  rintro e w7 ⟨rfl, rfl⟩
  go_wp2_with fail
  refine (toG g _).mono ?_
  rintro e w8 ⟨rfl, hb8⟩
  have Hw0 := Lib.hid (Hw0.out.below hb8)
  have Hg0 := Lib.hid (Hg0.out.below hb8)
  have Hb := Lib.hid (below_nx Hb.out hb8)
  have hz8 := hb8.size
  have HX := Lib.hid (below_blk hb8 (lt_of_block HX.out) HX.out)
  clear c0 c1 c2 c3
  obtain ⟨c0, c1, c2, c3⟩ := blk_cells HX.out
  have hxl := lt_of_block HX.out
  clear hb8
  go_wp2_with fail
  refine (Hi.out _).mono ?_
  rintro e w9 ⟨vh, rfl, hd9, hb9⟩
  have Hh0 := Lib.hid hd9.upto
  have Hw0 := Lib.hid (Hw0.out.below hb9)
  have Hg0 := Lib.hid (Hg0.out.below hb9)
  have Hb := Lib.hid (below_nx Hb.out hb9)
  have hz9 := hb9.size
  have HX := Lib.hid (below_blk hb9 (lt_of_block HX.out) HX.out)
  clear c0 c1 c2 c3
  obtain ⟨c0, c1, c2, c3⟩ := blk_cells HX.out
  have hxl := lt_of_block HX.out
  clear hb9 hd9
  go_wp2_with fail
  refine (eqGsB _ _ _ _ R _ Hh0.out.sl Hw0.out.sl hr).mono ?_
  rintro e w10 ⟨rfl, hb10⟩
  have Hw0 := Lib.hid (Hw0.out.below hb10)
  have Hg0 := Lib.hid (Hg0.out.below hb10)
  have Hh0 := Lib.hid (Hh0.out.below hb10)
  have Hb := Lib.hid (below_nx Hb.out hb10)
  have hz10 := hb10.size
  have HX := Lib.hid (below_blk hb10 (lt_of_block HX.out) HX.out)
  clear c0 c1 c2 c3
  obtain ⟨c0, c1, c2, c3⟩ := blk_cells HX.out
  have hxl := lt_of_block HX.out
  clear hb10
  go_wp2_with fail
  refine (heldG1B _ R.length _ _ Hg0.out.sl hr).mono ?_
  rintro e w11 ⟨rfl, rfl⟩
  go_wp2_with fail
  go_ret
  exact ⟨rfl, Hb.out⟩

open Go.ChangeMaps (open_string shut_string)
theorem laidOut : laidOutB Try.prog = true := by kernel_rfl
theorem own : ownKnob Try.prog.godebug = none := by kernel_rfl
set_option maxRecDepth 100000 in
/-- What the walk gives, for every argument. -/
theorem contract (H : Type) (enc : TypeId × Value → H) (W : World) (base : Nat) (args : Array Value) (ds gs : List (DataW H)) (before : List MemPlace)
    (hval : ∀ (j : Nat) t v, Try.f3.params[j]? = some t → args[j]? = some v → Value.okWide Try.prog W .any base t v)
    (hW : DataW.Whole enc Try.prog Try.f3.params.toList Rows.fnExactControlledGateSpec.vars false W args.toList ds gs before) :
    Calls Try.prog 3 args W fun e W' => ∃ v, e = .returned v ∧ Rows.fnExactControlledGateSpec.post enc Try.prog Try.f3 false true false false W args v W' := by
  have hW' := hW
  obtain ⟨p, q, hA0, hV, rfl, hfz, hnd⟩ := hW
  have hA : DataW.TrodAll enc Try.prog W 0 (fun _ => true) true Try.f3.params.toList args.toList ds p := hA0
  rw [Try.params3] at hA hval
  obtain ⟨v0, vs0, d0, ds0, p0, q0, hargs, rfl, rfl, h0, r0⟩ := trodAll_cons hA
  obtain ⟨v1, vs1, d1, ds1, p1, q1, rfl, rfl, rfl, h1, r1⟩ := trodAll_cons r0
  obtain ⟨rfl, rfl, rfl⟩ := trodAll_nil r1
  obtain rfl : args = #[v0, v1] := by cases args; simp_all
  obtain ⟨rfl, rfl⟩ := trodVars_none hV
  obtain ⟨q, rfl, rfl, rfl, wq⟩ := open_int Try.underlying3 (hval 0 3 v0 rfl rfl) h0
  have k1 := h1
  have lt1 : ∀ x ∈ p1, x.block < W.heap.size := by obtain ⟨m, hm⟩ := k1; exact DataW.trod_lt m _ _ _ hm
  obtain ⟨g0, g1, g2, g3, gy0, gy1, gy2, gy3, gm, rfl, rfl, rfl, gt0, gt1, gt2, gt3⟩ := Go.Joins.open_agg4 Try.underlying23 (by kernel_rfl) (by kernel_rfl) (hval 1 23 v1 rfl rfl) h1
  obtain ⟨ga, ega, -, -⟩ := DataW.trod_int Try.underlying3 gt0
  obtain ⟨gb, egb, -, -⟩ := DataW.trod_int Try.underlying3 gt1
  obtain ⟨gc, egc, -, -⟩ := DataW.trod_int Try.underlying3 gt2
  obtain ⟨gd, egd, -, -⟩ := DataW.trod_int Try.underlying3 gt3
  obtain rfl := List.head_eq_of_cons_eq ega
  obtain rfl := List.head_eq_of_cons_eq egb
  obtain rfl := List.head_eq_of_cons_eq egc
  obtain rfl := List.head_eq_of_cons_eq egd
  clear ega egb egc egd gt0 gt1 gt2 gt3
  clear hA0
  simp only [List.append_nil] at hW'
  refine (walk q (Gt.mk ga gb gc gd) W (bounds_i64 wq).1 (bounds_i64 wq).2).mono fun e W' ⟨he, hg⟩ => ?_
  subst he
  exact ⟨_, rfl, _, _, _, [], _, [], hW', trodAll_mk1 (shut_bool Try.underlying4 _), (trodAll_cons_mk (shut_int Try.underlying3 wq) (trodAll_cons_mk (Below.trod laidOut (by kernel_rfl) (of_decide_eq_true (by kernel_rfl)) k1 hg lt1) trodAll_mk0)), rfl, hg.frame _, fun h => by cases h⟩

set_option maxRecDepth 100000 in
theorem lifted (os : Os) (started : os.Started) (H : Type) (enc : TypeId × Value → H) :
    ReturnsInHanded {} Try.checked os 3 .any (Rows.fnExactControlledGateSpec.pre6 enc Try.prog Try.f3 Rows.fnExactControlledGateRow.domain false) (Rows.fnExactControlledGateSpec.post enc Try.prog Try.f3 false true false false) := by
  refine returnsInHanded_of_change (C := Try.checked) own started (by kernel_rfl) Try.func3
    (ChangeSpec.witness6 (enc := enc) (C := Try.checked) false ⟨#[], #[.int .i64 0, .agg #[.int .i64 0, .int .i64 0, .int .i64 0, .int .i64 0]], []⟩ 8 (by kernel_rfl) (by kernel_rfl) (by kernel_rfl) (by kernel_rfl)) ?_
  intro W base args ds gs before hval hW _ _
  exact contract H enc W base args ds gs before hval hW
theorem closedFacts : joinedFacts Try.pinned.checked.prog 3 Try.f3 Rows.fnExactControlledGateSpec Rows.fnExactControlledGateRow = true := by
  unfold joinedFacts
  rw [init_may, init_facts.2.1, init_facts.2.2]
  kernel_rfl
theorem said : Rows.FnExactControlledGateSaid :=
  OpenClaim.holds_of_wide 3 Try.f3 rfl rfl rfl rfl rfl rfl rfl ⟨rfl, rfl, rfl, rfl, rfl⟩ rfl rfl rfl rfl rfl (by kernel_rfl) Try.func3 closedFacts
    (of_decide_eq_true (by kernel_rfl)) (by unfold Func.isWrapper; first | (rw [if_pos (by decide +kernel)]; kernel_rfl) | (rw [if_neg (by decide +kernel)]; exact ⟨rfl, rfl⟩))
    (fun os started H enc _ => lifted os started H enc)
end Go.Proofs.Ytlmiebeffdcfhaa.fnExactControlledGate
