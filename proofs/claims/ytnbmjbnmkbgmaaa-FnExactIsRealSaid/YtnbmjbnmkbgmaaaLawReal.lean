/- The law FnExactIsReal: IsReal answers as its model, at every argument. No condition. -/
import Derived.Test.YtnbmjbnmkbgmaaaPhJ
import Derived.Test.YtnbmjbnmkbgmaaaDwO
import Derived.Lib.SmallJoins
import Derived.WalkKit
import Derived.ProofKit
import Derived.OpenShut
import Derived.Deep.DeepHandedRow
import Derived.Lib.LaidTab
import Derived.LaidMore
import Derived.LaidHandle
import Derived.Lay
import Derived.Stop.LaidErr
namespace Go.Proofs.Ytnbmjbnmkbgmaaa.fnExactIsReal
open Go.ChangeShapes Go.WideShapes Go.ChangeAt Go.RowKit Go.Lib
attribute [local irreducible] World.cell?
set_option maxRecDepth 100000 in
set_option maxHeartbeats 800000 in
theorem walk (x : Dw) (w : World) (hx0 : -9223372036854775808 ≤ x.e) (hx1 : x.e ≤ 9223372036854775807) :
    Calls Try.prog 7 #[(.agg #[.int .i64 x.n.a, .int .i64 x.n.b, .int .i64 x.n.c, .int .i64 x.n.d, .int .i64 x.e])] w fun e w' => e = .returned (.bool true) ∧ Below w.heap.size w w' := by
  have Hs := Lib.hid (sreal x)
  have Hi := Lib.hid (fun w => ireal x w ⟨hx0, hx1⟩)
  generalize reB x = r at *
  have Hr0_0 := Lib.hid (heap_alloc_new w (.cells #[.int .i64 x.n.a, .int .i64 x.n.b, .int .i64 x.n.c, .int .i64 x.n.d, .int .i64 x.e] 40))
  go_enter Try.func7, Try.ntmps7
  go_wp2_with fail
  refine (toD x _).mono ?_
  rintro e w1 ⟨rfl, hb1⟩
  have hr0 := below_blk hb1 (lt_of_block Hr0_0.out) Hr0_0.out
  have zg0 := lt_of_block hr0
  obtain ⟨c0_0, c0_1, c0_2, c0_3, c0_4⟩ := blk_cells5 hr0
  have Hr1_0 := Lib.hid hr0
  have hb1 := below_up (B := w.heap.size) (w := w) (by go_grown) hb1 (by simp <;> omega)
  have Hp1 := Lib.hid hb1
  have Hb1 := Lib.hid hb1
  clear hr0
  clear hb1
  go_wp2_with fail
  refine (Hs.out _).mono ?_
  rintro e w2 ⟨rfl, hb2⟩
  clear zg0 c0_0 c0_1 c0_2 c0_3 c0_4
  have hr0 := below_blk hb2 (lt_of_block Hr1_0.out) Hr1_0.out
  have zg0 := lt_of_block hr0
  obtain ⟨c0_0, c0_1, c0_2, c0_3, c0_4⟩ := blk_cells5 hr0
  have Hr2_0 := Lib.hid hr0
  have hb2 := below_nx Hb1.out hb2
  have Hp2 := Lib.hid hb2
  have Hb2 := Lib.hid hb2
  clear hr0
  clear hb2
  go_wp2_with fail
  refine (toD x _).mono ?_
  rintro e w3 ⟨rfl, hb3⟩
  clear zg0 c0_0 c0_1 c0_2 c0_3 c0_4
  have hr0 := below_blk hb3 (lt_of_block Hr2_0.out) Hr2_0.out
  have zg0 := lt_of_block hr0
  obtain ⟨c0_0, c0_1, c0_2, c0_3, c0_4⟩ := blk_cells5 hr0
  have Hr3_0 := Lib.hid hr0
  have hb3 := below_nx Hb2.out hb3
  have Hp3 := Lib.hid hb3
  have Hb3 := Lib.hid hb3
  clear hr0
  clear hb3
  go_wp2_with fail
  refine (Hi.out _).mono ?_
  rintro e w4 ⟨rfl, hb4⟩
  clear zg0 c0_0 c0_1 c0_2 c0_3 c0_4
  have hr0 := below_blk hb4 (lt_of_block Hr3_0.out) Hr3_0.out
  have zg0 := lt_of_block hr0
  obtain ⟨c0_0, c0_1, c0_2, c0_3, c0_4⟩ := blk_cells5 hr0
  have Hr4_0 := Lib.hid hr0
  have hb4 := below_nx Hb3.out hb4
  have Hp4 := Lib.hid hb4
  have Hb4 := Lib.hid hb4
  clear hr0
  clear hb4
  go_wp2_with fail
  go_returns
  have hsz := Hp4.out.size
  exact ⟨rfl, by have := Hp4.out; go_grown⟩

open Go.ChangeMaps (open_string shut_string)
theorem laidOut : laidOutB Try.prog = true := by kernel_rfl
theorem own : ownKnob Try.prog.godebug = none := by kernel_rfl
set_option maxRecDepth 100000 in
/-- What the walk gives, for every argument. -/
theorem contract (H : Type) (enc : TypeId × Value → H) (W : World) (base : Nat) (args : Array Value) (ds gs : List (DataW H)) (before : List MemPlace)
    (hval : ∀ (j : Nat) t v, Try.f7.params[j]? = some t → args[j]? = some v → Value.okWide Try.prog W .any base t v)
    (hW : DataW.Whole enc Try.prog Try.f7.params.toList Rows.fnExactIsRealSpec.vars false W args.toList ds gs before) :
    Calls Try.prog 7 args W fun e W' => ∃ v, e = .returned v ∧ Rows.fnExactIsRealSpec.post enc Try.prog Try.f7 false true false false W args v W' := by
  have hW' := hW
  obtain ⟨p, q, hA0, hV, rfl, hfz, hnd⟩ := hW
  have hA : DataW.TrodAll enc Try.prog W 0 (fun _ => true) true Try.f7.params.toList args.toList ds p := hA0
  rw [Try.params7] at hA hval
  obtain ⟨v0, vs0, d0, ds0, p0, q0, hargs, rfl, rfl, h0, r0⟩ := trodAll_cons hA
  obtain ⟨rfl, rfl, rfl⟩ := trodAll_nil r0
  obtain rfl : args = #[v0] := by cases args; simp_all
  obtain ⟨rfl, rfl⟩ := trodVars_none hV
  have k0 := h0
  have lt0 : ∀ x ∈ p0, x.block < W.heap.size := by obtain ⟨m, hm⟩ := k0; exact DataW.trod_lt m _ _ _ hm
  obtain ⟨x, rfl, xb0, xb1⟩ := open_dw (hval 0 40 v0 rfl rfl) h0
  clear hA0
  simp only [List.append_nil] at hW'
  refine (walk x W xb0 xb1).mono fun e W' ⟨he, hg⟩ => ?_
  subst he
  exact ⟨_, rfl, _, _, _, [], _, [], hW', trodAll_mk1 (shut_bool Try.underlying4 _), (trodAll_cons_mk (Below.trod laidOut (by kernel_rfl) (of_decide_eq_true (by kernel_rfl)) k0 hg lt0) trodAll_mk0), rfl, hg.frame _, fun h => by cases h⟩

set_option maxRecDepth 100000 in
theorem lifted (os : Os) (started : os.Started) (H : Type) (enc : TypeId × Value → H) :
    ReturnsInHanded {} Try.checked os 7 .any (Rows.fnExactIsRealSpec.pre6 enc Try.prog Try.f7 Rows.fnExactIsRealRow.domain false) (Rows.fnExactIsRealSpec.post enc Try.prog Try.f7 false true false false) := by
  refine returnsInHanded_of_change (C := Try.checked) own started (by kernel_rfl) Try.func7
    (ChangeSpec.witness6 (enc := enc) (C := Try.checked) false ⟨#[], #[.agg #[.int .i64 0, .int .i64 0, .int .i64 0, .int .i64 0, .int .i64 0]], []⟩ 8 (by kernel_rfl) (by kernel_rfl) (by kernel_rfl) (by kernel_rfl)) ?_
  intro W base args ds gs before hval hW _ _
  exact contract H enc W base args ds gs before hval hW
theorem said : Rows.FnExactIsRealSaid :=
  OpenClaim.holds_of_wide 7 Try.f7 rfl rfl rfl rfl rfl rfl rfl ⟨rfl, rfl, rfl, rfl, rfl⟩ rfl rfl rfl rfl rfl (by kernel_rfl) Try.func7 (by kernel_rfl)
    (of_decide_eq_true (by kernel_rfl)) (by unfold Func.isWrapper; first | (rw [if_pos (by decide +kernel)]; kernel_rfl) | (rw [if_neg (by decide +kernel)]; exact ⟨rfl, rfl⟩))
    (fun os started H enc _ => lifted os started H enc)
end Go.Proofs.Ytnbmjbnmkbgmaaa.fnExactIsReal
