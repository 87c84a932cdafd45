/- The law FnExactFormatDOmega: FormatDOmega answers as its model, at every element. No condition. -/
import Derived.Test.YtggmcahglcnleaaDoorTxI
import Derived.Test.YtggmcahglcnleaaDoorDwO
import Derived.Test.YtggmcahglcnleaaDoorCards
import Derived.Test.YtggmcahglcnleaaDoorTie
import Derived.Lib.SmallJoins
import Derived.WalkKit
import Derived.ProofKit
import Derived.OpenShut
import Derived.Deep.DeepHandedRow
import Derived.Lib.LaidTab
import Derived.LaidMore
import Derived.LaidHandle
import Derived.Lay
import Derived.Stop.LaidErr
namespace Go.Proofs.YtggmcahglcnleaaDoor.fnExactFormatDOmega
open Go.ChangeShapes Go.WideShapes Go.ChangeAt Go.RowKit Go.Lib
attribute [local irreducible] World.cell?
set_option maxRecDepth 100000 in
set_option maxHeartbeats 800000 in
theorem walk (x : Dw) (w : World) (hx0 : -9223372036854775808 ≤ x.e) (hx1 : x.e ≤ 9223372036854775807) (hL : HasPow w) :
    Calls Tryd.prog 4 #[(.agg #[.int .i64 x.n.a, .int .i64 x.n.b, .int .i64 x.n.c, .int .i64 x.n.d, .int .i64 x.e])] w fun e w' => e = .returned (.bool true) ∧ Below w.heap.size w w' := by
  have HL := Lib.hid hL
  have Hs := Lib.hid (sformat_any x)
  have Hi := Lib.hid (fun w h => iformat_any x w hx0 hx1 h)
  clear hL
  generalize textD x = T at *
  have Hr0_0 := Lib.hid (heap_alloc_new w (.cells #[.int .i64 x.n.a, .int .i64 x.n.b, .int .i64 x.n.c, .int .i64 x.n.d, .int .i64 x.e] 36))
  go_enter Tryd.func4, Tryd.ntmps4
  go_wp2_with fail
  refine (toD x _).mono ?_
  rintro e w1 ⟨rfl, hb1⟩
  have hr0 := below_blk hb1 (lt_of_block Hr0_0.out) Hr0_0.out
  have zg0 := lt_of_block hr0
  obtain ⟨c0_0, c0_1, c0_2, c0_3, c0_4⟩ := blk_cells5 hr0
  have Hr1_0 := Lib.hid hr0
  have hb1 := below_up (B := w.heap.size) (w := w) (by go_grown) hb1 (by simp <;> omega)
  have Hp1 := Lib.hid hb1
  have Hb1 := Lib.hid hb1
  clear hr0
  clear hb1
  go_wp2_with fail
  refine (Hs.out _).mono ?_
  rintro e w2 ⟨rfl, hb2⟩
  clear zg0 c0_0 c0_1 c0_2 c0_3 c0_4
  have hr0 := below_blk hb2 (lt_of_block Hr1_0.out) Hr1_0.out
  have zg0 := lt_of_block hr0
  obtain ⟨c0_0, c0_1, c0_2, c0_3, c0_4⟩ := blk_cells5 hr0
  have Hr2_0 := Lib.hid hr0
  have hb2 := below_nx Hb1.out hb2
  have Hp2 := Lib.hid hb2
  have Hb2 := Lib.hid hb2
  clear hr0
  clear hb2
  go_wp2_with fail
  refine (toD x _).mono ?_
  rintro e w3 ⟨rfl, hb3⟩
  clear zg0 c0_0 c0_1 c0_2 c0_3 c0_4
  have hr0 := below_blk hb3 (lt_of_block Hr2_0.out) Hr2_0.out
  have zg0 := lt_of_block hr0
  obtain ⟨c0_0, c0_1, c0_2, c0_3, c0_4⟩ := blk_cells5 hr0
  have Hr3_0 := Lib.hid hr0
  have hb3 := below_nx Hb2.out hb3
  have Hp3 := Lib.hid hb3
  have Hb3 := Lib.hid hb3
  clear hr0
  clear hb3
  go_wp2_with fail
  refine (Hi.out _ (HL.out.below Hb3.out)).mono ?_
  rintro e w4 ⟨rfl, hb4⟩
  clear zg0 c0_0 c0_1 c0_2 c0_3 c0_4
  have hr0 := below_blk hb4 (lt_of_block Hr3_0.out) Hr3_0.out
  have zg0 := lt_of_block hr0
  obtain ⟨c0_0, c0_1, c0_2, c0_3, c0_4⟩ := blk_cells5 hr0
  have Hr4_0 := Lib.hid hr0
  have hb4 := below_nx Hb3.out hb4
  have Hp4 := Lib.hid hb4
  have Hb4 := Lib.hid hb4
  clear hr0
  clear hb4
  go_wp2_with fail
  go_returns
  have hsz := Hp4.out.size
  exact ⟨rfl, by have := Hp4.out; go_grown⟩

open Go.ChangeMaps (open_string shut_string)
theorem laidOut : laidOutB Tryd.prog = true := by kernel_rfl
theorem own : ownKnob Tryd.prog.godebug = none := by kernel_rfl
set_option maxRecDepth 100000 in
/-- What the walk gives, for every argument and every world that holds the tables. -/
theorem contract (H : Type) (enc : TypeId × Value → H) (W : World) (base : Nat) (args : Array Value) (ds gs : List (DataW H)) (before : List MemPlace)
    (hval : ∀ (j : Nat) t v, Tryd.f4.params[j]? = some t → args[j]? = some v → Value.okWide Tryd.prog W .any base t v)
    (hW : DataW.Whole enc Tryd.prog Tryd.f4.params.toList Rows.fnExactFormatDOmegaSpec.vars false W args.toList ds gs before) (hL : laidMetH Tryd.prog Rows.fnExactFormatDOmegaRow.laid W) :
    Calls Tryd.prog 4 args W fun e W' => ∃ v, e = .returned v ∧ Rows.fnExactFormatDOmegaSpec.post enc Tryd.prog Tryd.f4 false true false false W args v W' := by
  have hW' := hW
  obtain ⟨p, q, hA0, hV, rfl, hfz, hnd⟩ := hW
  have hA : DataW.TrodAll enc Tryd.prog W 0 (fun _ => true) true Tryd.f4.params.toList args.toList ds p := hA0
  rw [Tryd.params4] at hA hval
  obtain ⟨v0, vs0, d0, ds0, p0, q0, hargs, rfl, rfl, h0, r0⟩ := trodAll_cons hA
  obtain ⟨rfl, rfl, rfl⟩ := trodAll_nil r0
  obtain rfl : args = #[v0] := by cases args; simp_all
  obtain ⟨rfl, rfl⟩ := trodVars_none hV
  have k0 := h0
  have lt0 : ∀ x ∈ p0, x.block < W.heap.size := by obtain ⟨m, hm⟩ := k0; exact DataW.trod_lt m _ _ _ hm
  obtain ⟨x, rfl, xb0, xb1⟩ := open_dw (hval 0 36 v0 rfl rfl) h0
  clear hA0
  simp only [List.append_nil] at hW'
  refine (walk x W xb0 xb1 (laid3 hL)).mono fun e W' ⟨he, hg⟩ => ?_
  subst he
  exact ⟨_, rfl, _, _, _, [], _, [], hW', trodAll_mk1 (shut_bool Tryd.underlying4 _), (trodAll_cons_mk (Below.trod laidOut (by kernel_rfl) (of_decide_eq_true (by kernel_rfl)) k0 hg lt0) trodAll_mk0), rfl, hg.frame _, fun h => by cases h⟩

/-- A world for the witness: what the program's own start lays. -/
noncomputable def laidWorld (os : Os) : World := World.doorLaid Tryd.prog 72 os
theorem laid_met (os : Os) : laidMetH Tryd.prog Rows.fnExactFormatDOmegaRow.laid ((laidWorld os).forCall (fun _ _ => 0) ⟨#[], #[.agg #[.int .i64 0, .int .i64 0, .int .i64 0, .int .i64 0, .int .i64 0]], []⟩).memory :=
  laidMetH_of_parts3 (fuel := 8) (laidMet_of_run' 8 (by kernel_rfl) (by kernel_rfl)) (by kernel_rfl) (by kernel_rfl)
theorem reads (os : Os) {H : Type} (enc : TypeId × Value → H) : ∃ places, DataW.whole enc Tryd.prog ((laidWorld os).forCall (fun _ _ => 0) ⟨#[], #[.agg #[.int .i64 0, .int .i64 0, .int .i64 0, .int .i64 0, .int .i64 0]], []⟩).memory Tryd.f4.params.toList Rows.fnExactFormatDOmegaSpec.vars false #[Value.agg #[.int .i64 0, .int .i64 0, .int .i64 0, .int .i64 0, .int .i64 0]].toList 8 = some ([.agg [.agg [.lit (.int .i64 0), .lit (.int .i64 0), .lit (.int .i64 0), .lit (.int .i64 0)], .lit (.int .i64 0)]], [], places) :=
  ⟨[], by kernel_rfl⟩
set_option maxRecDepth 100000 in
theorem lifted (os : Os) (started : os.Started) (H : Type) (enc : TypeId × Value → H) (F : Stop.Interp) :
    ReturnsInHanded {} Tryd.checked os 4 .any ((OpenSpec.ofChange Rows.fnExactFormatDOmegaSpec).preRow enc Tryd.prog Tryd.f4 Rows.fnExactFormatDOmegaRow.domain false Rows.fnExactFormatDOmegaRow.laid) (((OpenSpec.ofChange Rows.fnExactFormatDOmegaSpec).at F).post enc Tryd.prog Tryd.f4 false true false false) := by
  obtain ⟨places, hx⟩ := reads os enc
  refine returnsInHanded_of_row (C := Tryd.checked) (s := OpenSpec.ofChange Rows.fnExactFormatDOmegaSpec) own started (by kernel_rfl) Tryd.func4
    (witness_row_at (enc := enc) (C := Tryd.checked) false (laidWorld os) #[.agg #[.int .i64 0, .int .i64 0, .int .i64 0, .int .i64 0, .int .i64 0]] rfl (by kernel_rfl) (by kernel_rfl) (by kernel_rfl)
      (OpenSpec.preRow_of_cond 8 hx (by kernel_rfl) (fun k hk => by cases hk) (by kernel_rfl) (laid_met os))) ?_
  intro W base args ds gs before hval hW _ _ _ hL _ _
  exact contract H enc W base args ds gs before hval hW hL
theorem said : Rows.FnExactFormatDOmegaSaid :=
  OpenClaim.holds_of_cond 4 Tryd.f4 rfl rfl rfl rfl rfl rfl rfl ⟨rfl, rfl, rfl, rfl, rfl⟩ rfl rfl rfl rfl rfl (by kernel_rfl) Tryd.func4 (by kernel_rfl)
    (of_decide_eq_true (by kernel_rfl)) (by unfold Func.isWrapper; first | (rw [if_pos (by decide +kernel)]; kernel_rfl) | (rw [if_neg (by decide +kernel)]; exact ⟨rfl, rfl⟩))
    (fun os started H enc _ F => by rw [OpenClaim.pre_eq_preRow]; exact lifted os started H enc F)
theorem plain (f : FuncId) (fn : Func) (hf : Tryd.pinned.checked.prog.funcNamed "loop.example/g00506/laws.FnExactFormatDOmega" = some f) (hfn : Tryd.pinned.checked.prog.funcs[f]? = some fn) :
    true = Tryd.pinned.checked.prog.looks [] ∧ ∀ (j : Nat) t, fn.params[j]? = some t → Tryd.pinned.checked.prog.wantsStandIn t = false := by
  obtain rfl : f = 4 := Option.some.inj ((show Tryd.prog.funcNamed "loop.example/g00506/laws.FnExactFormatDOmega" = some 4 by kernel_rfl).symm.trans hf) |>.symm
  obtain rfl : fn = Tryd.f4 := (Option.some.inj (Tryd.func4.symm.trans hfn)).symm
  refine ⟨by kernel_rfl, fun j t ht => ?_⟩
  rw [Tryd.params4] at ht
  have hm : t ∈ [36] := by simpa using Array.mem_of_getElem? ht
  have hall : ([36].all fun u => !Tryd.prog.wantsStandIn u) = true := by kernel_rfl
  exact (show Tryd.prog.wantsStandIn t = false by simpa using List.all_eq_true.1 hall t hm)
theorem card : Rows.FnExactFormatDOmegaCardSaid :=
  Claim7.holds_tied_plain_at .later [] _ _ _ _ said (fun _ h => by cases h) (by kernel_rfl) (fun _ h => by cases h) fnExactFormatDOmega_row_tie rfl ⟨rfl, rfl⟩ (by kernel_rfl) rfl plain (by kernel_rfl)
end Go.Proofs.YtggmcahglcnleaaDoor.fnExactFormatDOmega
