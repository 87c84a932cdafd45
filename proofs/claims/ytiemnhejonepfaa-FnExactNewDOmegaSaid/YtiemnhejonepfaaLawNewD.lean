/- The law FnExactNewDOmega: NewDOmega answers as its model, at every numerator and exponent. No condition. -/
import Derived.Test.YtiemnhejonepfaaDwN
import Derived.Test.YtiemnhejonepfaaDwO
import Derived.Lib.SmallJoins
import Derived.WalkKit
import Derived.ProofKit
import Derived.OpenShut
import Derived.Deep.DeepHandedRow
import Derived.Lib.LaidTab
import Derived.LaidMore
import Derived.LaidHandle
import Derived.Lay
import Derived.Stop.LaidErr
namespace Go.Proofs.Ytiemnhejonepfaa.fnExactNewDOmega
open Go.ChangeShapes Go.WideShapes Go.ChangeAt Go.RowKit Go.Lib
attribute [local irreducible] World.cell?
set_option maxRecDepth 100000 in
set_option maxHeartbeats 800000 in
theorem walk (x : Zw) (k : Int) (w : World) (h0 : -9223372036854775808 ≤ k) (h1 : k ≤ 9223372036854775807) :
    Calls Try.prog 8 #[(.agg #[.int .i64 x.a, .int .i64 x.b, .int .i64 x.c, .int .i64 x.d]), .int .i64 k] w fun e w' => e = .returned (.bool true) ∧ Below w.heap.size w w' := by
  have Hs := Lib.hid (fun w => snew_any x k w h0 h1)
  have Hi := Lib.hid (fun w => inew_any x k w h0 h1)
  have He := Lib.hid (eqDw (newV x k))
  generalize newV x k = r at *
  generalize newB x k = t at *
  have Hr0_0 := Lib.hid (heap_alloc_new w (.cells #[.int .i64 x.a, .int .i64 x.b, .int .i64 x.c, .int .i64 x.d] 41))
  go_enter Try.func8, Try.ntmps8
  go_wp2_with fail
  refine (toZ x _).mono ?_
  rintro e w1 ⟨rfl, hb1⟩
  have hr0 := below_blk hb1 (lt_of_block Hr0_0.out) Hr0_0.out
  have zg0 := lt_of_block hr0
  obtain ⟨c0_0, c0_1, c0_2, c0_3⟩ := blk_cells hr0
  have Hr1_0 := Lib.hid hr0
  have hb1 := below_up (B := w.heap.size) (w := w) (by go_grown) hb1 (by simp <;> omega)
  have Hp1 := Lib.hid hb1
  have Hb1 := Lib.hid hb1
  clear hr0
  clear hb1
  go_wp2_with fail
  refine (Hs.out _).mono ?_
  rintro e w2 ⟨rfl, hb2⟩
  clear zg0 c0_0 c0_1 c0_2 c0_3
  have hr0 := below_blk hb2 (lt_of_block Hr1_0.out) Hr1_0.out
  have zg0 := lt_of_block hr0
  obtain ⟨c0_0, c0_1, c0_2, c0_3⟩ := blk_cells hr0
  have Hr2_0 := Lib.hid (alloc_blk (.cells #[.int .i64 r.n.a, .int .i64 r.n.b, .int .i64 r.n.c, .int .i64 r.n.d, .int .i64 r.e] 29) hr0)
  have hb2 := below_nx Hb1.out hb2
  have Hp2 := Lib.hid hb2
  have Hb2 := Lib.hid (Below.alloc hb2 (Below.size hb2) (.cells #[.int .i64 r.n.a, .int .i64 r.n.b, .int .i64 r.n.c, .int .i64 r.n.d, .int .i64 r.e] 29))
  have Hr2_1 := Lib.hid (heap_alloc_new w2 (.cells #[.int .i64 r.n.a, .int .i64 r.n.b, .int .i64 r.n.c, .int .i64 r.n.d, .int .i64 r.e] 29))
  clear hr0
  clear hb2
  go_wp2_with fail
  refine (toZ x _).mono ?_
  rintro e w3 ⟨rfl, hb3⟩
  clear zg0 c0_0 c0_1 c0_2 c0_3
  have hr0 := below_blk hb3 (lt_of_block Hr2_0.out) Hr2_0.out
  have zg0 := lt_of_block hr0
  obtain ⟨c0_0, c0_1, c0_2, c0_3⟩ := blk_cells hr0
  have Hr3_0 := Lib.hid hr0
  have hr1 := below_blk hb3 (lt_of_block Hr2_1.out) Hr2_1.out
  have zg1 := lt_of_block hr1
  obtain ⟨c1_0, c1_1, c1_2, c1_3, c1_4⟩ := blk_cells5 hr1
  have Hr3_1 := Lib.hid hr1
  have hb3 := below_nx Hb2.out hb3
  have Hp3 := Lib.hid hb3
  have Hb3 := Lib.hid hb3
  clear hr0 hr1
  clear hb3
  go_wp2_with fail
  refine (Hi.out _).mono ?_
  rintro e w4 ⟨rfl, hb4⟩
  clear zg0 c0_0 c0_1 c0_2 c0_3 zg1 c1_0 c1_1 c1_2 c1_3 c1_4
  have hr0 := below_blk hb4 (lt_of_block Hr3_0.out) Hr3_0.out
  have zg0 := lt_of_block hr0
  obtain ⟨c0_0, c0_1, c0_2, c0_3⟩ := blk_cells hr0
  have Hr4_0 := Lib.hid (alloc_blk (.cells #[.int .i64 r.n.a, .int .i64 r.n.b, .int .i64 r.n.c, .int .i64 r.n.d, .int .i64 r.e] 29) hr0)
  have hr1 := below_blk hb4 (lt_of_block Hr3_1.out) Hr3_1.out
  have zg1 := lt_of_block hr1
  obtain ⟨c1_0, c1_1, c1_2, c1_3, c1_4⟩ := blk_cells5 hr1
  have Hr4_1 := Lib.hid (alloc_blk (.cells #[.int .i64 r.n.a, .int .i64 r.n.b, .int .i64 r.n.c, .int .i64 r.n.d, .int .i64 r.e] 29) hr1)
  have hb4 := below_nx Hb3.out hb4
  have Hp4 := Lib.hid hb4
  have Hb4 := Lib.hid (Below.alloc hb4 (Below.size hb4) (.cells #[.int .i64 r.n.a, .int .i64 r.n.b, .int .i64 r.n.c, .int .i64 r.n.d, .int .i64 r.e] 29))
  have Hr4_2 := Lib.hid (heap_alloc_new w4 (.cells #[.int .i64 r.n.a, .int .i64 r.n.b, .int .i64 r.n.c, .int .i64 r.n.d, .int .i64 r.e] 29))
  clear hr0 hr1
  clear hb4
  go_wp2_with fail
  refine (He.out _).mono ?_
  rintro e w5 ⟨rfl, hb5⟩
  clear zg0 c0_0 c0_1 c0_2 c0_3 zg1 c1_0 c1_1 c1_2 c1_3 c1_4
  have hr0 := below_blk hb5 (lt_of_block Hr4_0.out) Hr4_0.out
  have zg0 := lt_of_block hr0
  obtain ⟨c0_0, c0_1, c0_2, c0_3⟩ := blk_cells hr0
  have Hr5_0 := Lib.hid hr0
  have hr1 := below_blk hb5 (lt_of_block Hr4_1.out) Hr4_1.out
  have zg1 := lt_of_block hr1
  obtain ⟨c1_0, c1_1, c1_2, c1_3, c1_4⟩ := blk_cells5 hr1
  have Hr5_1 := Lib.hid hr1
  have hr2 := below_blk hb5 (lt_of_block Hr4_2.out) Hr4_2.out
  have zg2 := lt_of_block hr2
  obtain ⟨c2_0, c2_1, c2_2, c2_3, c2_4⟩ := blk_cells5 hr2
  have Hr5_2 := Lib.hid hr2
  have hb5 := below_nx Hb4.out hb5
  have Hp5 := Lib.hid hb5
  have Hb5 := Lib.hid hb5
  clear hr0 hr1 hr2
  clear hb5
  go_wp2_with fail
  go_returns
  exact ⟨rfl, by have := Hp5.out; go_grown⟩

open Go.ChangeMaps (open_string shut_string)
theorem laidOut : laidOutB Try.prog = true := by kernel_rfl
theorem own : ownKnob Try.prog.godebug = none := by kernel_rfl
set_option maxRecDepth 100000 in
/-- What the walk gives, for every argument. -/
theorem contract (H : Type) (enc : TypeId × Value → H) (W : World) (base : Nat) (args : Array Value) (ds gs : List (DataW H)) (before : List MemPlace)
    (hval : ∀ (j : Nat) t v, Try.f8.params[j]? = some t → args[j]? = some v → Value.okWide Try.prog W .any base t v)
    (hW : DataW.Whole enc Try.prog Try.f8.params.toList Rows.fnExactNewDOmegaSpec.vars false W args.toList ds gs before) :
    Calls Try.prog 8 args W fun e W' => ∃ v, e = .returned v ∧ Rows.fnExactNewDOmegaSpec.post enc Try.prog Try.f8 false true false false W args v W' := by
  have hW' := hW
  obtain ⟨p, q, hA0, hV, rfl, hfz, hnd⟩ := hW
  have hA : DataW.TrodAll enc Try.prog W 0 (fun _ => true) true Try.f8.params.toList args.toList ds p := hA0
  rw [Try.params8] at hA hval
  obtain ⟨v0, vs0, d0, ds0, p0, q0, hargs, rfl, rfl, h0, r0⟩ := trodAll_cons hA
  obtain ⟨v1, vs1, d1, ds1, p1, q1, rfl, rfl, rfl, h1, r1⟩ := trodAll_cons r0
  obtain ⟨rfl, rfl, rfl⟩ := trodAll_nil r1
  obtain rfl : args = #[v0, v1] := by cases args; simp_all
  obtain ⟨rfl, rfl⟩ := trodVars_none hV
  have k0 := h0
  have lt0 : ∀ x ∈ p0, x.block < W.heap.size := by obtain ⟨m, hm⟩ := k0; exact DataW.trod_lt m _ _ _ hm
  obtain ⟨x0, x1, x2, x3, xy0, xy1, xy2, xy3, xm, rfl, rfl, rfl, xt0, xt1, xt2, xt3⟩ := Go.Joins.open_agg4 Try.underlying41 (by kernel_rfl) (by kernel_rfl) (hval 0 41 v0 rfl rfl) h0
  obtain ⟨xa, exa, -, -⟩ := DataW.trod_int Try.underlying3 xt0
  obtain ⟨xb, exb, -, -⟩ := DataW.trod_int Try.underlying3 xt1
  obtain ⟨xc, exc, -, -⟩ := DataW.trod_int Try.underlying3 xt2
  obtain ⟨xd, exd, -, -⟩ := DataW.trod_int Try.underlying3 xt3
  obtain rfl := List.head_eq_of_cons_eq exa
  obtain rfl := List.head_eq_of_cons_eq exb
  obtain rfl := List.head_eq_of_cons_eq exc
  obtain rfl := List.head_eq_of_cons_eq exd
  clear exa exb exc exd xt0 xt1 xt2 xt3
  obtain ⟨k, rfl, rfl, rfl, wk⟩ := open_int Try.underlying3 (hval 1 3 v1 rfl rfl) h1
  clear hA0
  simp only [List.append_nil] at hW'
  refine (walk (Zw.mk xa xb xc xd) k W (bounds_i64 wk).1 (bounds_i64 wk).2).mono fun e W' ⟨he, hg⟩ => ?_
  subst he
  exact ⟨_, rfl, _, _, _, [], _, [], hW', trodAll_mk1 (shut_bool Try.underlying4 _), (trodAll_cons_mk (Below.trod laidOut (by kernel_rfl) (of_decide_eq_true (by kernel_rfl)) k0 hg lt0) (trodAll_cons_mk (shut_int Try.underlying3 wk) trodAll_mk0)), rfl, hg.frame _, fun h => by cases h⟩

set_option maxRecDepth 100000 in
theorem lifted (os : Os) (started : os.Started) (H : Type) (enc : TypeId × Value → H) :
    ReturnsInHanded {} Try.checked os 8 .any (Rows.fnExactNewDOmegaSpec.pre6 enc Try.prog Try.f8 Rows.fnExactNewDOmegaRow.domain false) (Rows.fnExactNewDOmegaSpec.post enc Try.prog Try.f8 false true false false) := by
  refine returnsInHanded_of_change (C := Try.checked) own started (by kernel_rfl) Try.func8
    (ChangeSpec.witness6 (enc := enc) (C := Try.checked) false ⟨#[], #[.agg #[.int .i64 0, .int .i64 0, .int .i64 0, .int .i64 0], .int .i64 0], []⟩ 8 (by kernel_rfl) (by kernel_rfl) (by kernel_rfl) (by kernel_rfl)) ?_
  intro W base args ds gs before hval hW _ _
  exact contract H enc W base args ds gs before hval hW
theorem said : Rows.FnExactNewDOmegaSaid :=
  OpenClaim.holds_of_wide 8 Try.f8 rfl rfl rfl rfl rfl rfl rfl ⟨rfl, rfl, rfl, rfl, rfl⟩ rfl rfl rfl rfl rfl (by kernel_rfl) Try.func8 (by kernel_rfl)
    (of_decide_eq_true (by kernel_rfl)) (by unfold Func.isWrapper; first | (rw [if_pos (by decide +kernel)]; kernel_rfl) | (rw [if_neg (by decide +kernel)]; exact ⟨rfl, rfl⟩))
    (fun os started H enc _ => lifted os started H enc)
end Go.Proofs.Ytiemnhejonepfaa.fnExactNewDOmega
