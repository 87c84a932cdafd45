/- The law FnExactParseDOmega: ParseDOmega answers as its model, at every string. No condition. -/
import Derived.Test.YtggmcahglcnleaaDoorTxI
import Derived.Test.YtggmcahglcnleaaDoorDwO
import Derived.Test.YtggmcahglcnleaaDoorCards
import Derived.Test.YtggmcahglcnleaaDoorTie
import Derived.Lib.SmallJoins
import Derived.WalkKit
import Derived.ProofKit
import Derived.OpenShut
import Derived.Deep.DeepHandedRow
import Derived.Lib.LaidTab
import Derived.LaidMore
import Derived.LaidHandle
import Derived.Lay
import Derived.Stop.LaidErr
namespace Go.Proofs.YtggmcahglcnleaaDoor.fnExactParseDOmega
open Go.ChangeShapes Go.WideShapes Go.ChangeAt Go.RowKit Go.Lib
attribute [local irreducible] World.cell?
set_option maxRecDepth 100000 in
set_option maxHeartbeats 800000 in
theorem walk (s : ByteArray) (w : World) (hs : s.size ≤ maxLen) (hL : LW w) :
    Calls Tryd.prog 5 #[.string s] w fun e w' => e = .returned (.bool true) ∧ Below w.heap.size w w' := by
  unfold maxLen at hs
  by_cases hbig : 1048576 < s.size
  · go_enter Tryd.func5, Tryd.ntmps5
    go_wp2_with fail
    go_ret
    exact ⟨rfl, Below.refl _ _⟩
  · have hsm : s.size ≤ 1048576 := by omega
    have HL := Lib.hid hL
    have Hs := Lib.hid (fun w => sparse_any s w hsm)
    have Hi := Lib.hid (fun w h => iparse_lw s w hsm h)
    have He := Lib.hid (eqDw (parseV s))
    clear hL
    generalize parseV s = r at *
    generalize parseB s = t at *
    go_enter Tryd.func5, Tryd.ntmps5
    go_wp2_with fail
    refine (Hs.out _).mono ?_
    rintro e w1 ⟨rfl, hb1⟩
    have hb1 := below_up (B := w.heap.size) (w := w) (by go_grown) hb1 (by simp <;> omega)
    have Hp1 := Lib.hid hb1
    have Hb1 := Lib.hid (Below.alloc hb1 (Below.size hb1) (.cells #[.int .i64 r.n.a, .int .i64 r.n.b, .int .i64 r.n.c, .int .i64 r.n.d, .int .i64 r.e] 27))
    have Hr1_0 := Lib.hid (heap_alloc_new w1 (.cells #[.int .i64 r.n.a, .int .i64 r.n.b, .int .i64 r.n.c, .int .i64 r.n.d, .int .i64 r.e] 27))
    clear hb1
    go_wp2_with fail
    refine (Hi.out _ (HL.out.below Hb1.out)).mono ?_
    rintro e w2 ⟨rfl, hb2⟩
    have hr0 := below_blk hb2 (lt_of_block Hr1_0.out) Hr1_0.out
    have zg0 := lt_of_block hr0
    obtain ⟨c0_0, c0_1, c0_2, c0_3, c0_4⟩ := blk_cells5 hr0
    have Hr2_0 := Lib.hid (alloc_blk (.cells #[.int .i64 r.n.a, .int .i64 r.n.b, .int .i64 r.n.c, .int .i64 r.n.d, .int .i64 r.e] 27) hr0)
    have hb2 := below_nx Hb1.out hb2
    have Hp2 := Lib.hid hb2
    have Hb2 := Lib.hid (Below.alloc hb2 (Below.size hb2) (.cells #[.int .i64 r.n.a, .int .i64 r.n.b, .int .i64 r.n.c, .int .i64 r.n.d, .int .i64 r.e] 27))
    have Hr2_1 := Lib.hid (heap_alloc_new w2 (.cells #[.int .i64 r.n.a, .int .i64 r.n.b, .int .i64 r.n.c, .int .i64 r.n.d, .int .i64 r.e] 27))
    clear hr0
    clear hb2
    go_wp2_with fail
    refine (He.out _).mono ?_
    rintro e w3 ⟨rfl, hb3⟩
    clear zg0 c0_0 c0_1 c0_2 c0_3 c0_4
    have hr0 := below_blk hb3 (lt_of_block Hr2_0.out) Hr2_0.out
    have zg0 := lt_of_block hr0
    obtain ⟨c0_0, c0_1, c0_2, c0_3, c0_4⟩ := blk_cells5 hr0
    have Hr3_0 := Lib.hid hr0
    have hr1 := below_blk hb3 (lt_of_block Hr2_1.out) Hr2_1.out
    have zg1 := lt_of_block hr1
    obtain ⟨c1_0, c1_1, c1_2, c1_3, c1_4⟩ := blk_cells5 hr1
    have Hr3_1 := Lib.hid hr1
    have hb3 := below_nx Hb2.out hb3
    have Hp3 := Lib.hid hb3
    have Hb3 := Lib.hid hb3
    clear hr0 hr1
    clear hb3
    go_wp2_with fail
    go_returns
    have hsz := Hp3.out.size
    exact ⟨rfl, by have := Hp3.out; go_grown⟩

open Go.ChangeMaps (open_string shut_string)
theorem own : ownKnob Tryd.prog.godebug = none := by kernel_rfl
set_option maxRecDepth 100000 in
/-- What the walk gives, for every argument and every world that holds the tables. -/
theorem contract (H : Type) (enc : TypeId × Value → H) (W : World) (base : Nat) (args : Array Value) (ds gs : List (DataW H)) (before : List MemPlace)
    (hval : ∀ (j : Nat) t v, Tryd.f5.params[j]? = some t → args[j]? = some v → Value.okWide Tryd.prog W .any base t v)
    (hW : DataW.Whole enc Tryd.prog Tryd.f5.params.toList Rows.fnExactParseDOmegaSpec.vars false W args.toList ds gs before) (hL : laidMetH Tryd.prog Rows.fnExactParseDOmegaRow.laid W) :
    Calls Tryd.prog 5 args W fun e W' => ∃ v, e = .returned v ∧ Rows.fnExactParseDOmegaSpec.post enc Tryd.prog Tryd.f5 false true false false W args v W' := by
  have hW' := hW
  obtain ⟨p, q, hA0, hV, rfl, hfz, hnd⟩ := hW
  have hA : DataW.TrodAll enc Tryd.prog W 0 (fun _ => true) true Tryd.f5.params.toList args.toList ds p := hA0
  rw [Tryd.params5] at hA hval
  obtain ⟨v0, vs0, d0, ds0, p0, q0, hargs, rfl, rfl, h0, r0⟩ := trodAll_cons hA
  obtain ⟨rfl, rfl, rfl⟩ := trodAll_nil r0
  obtain rfl : args = #[v0] := by cases args; simp_all
  obtain ⟨rfl, rfl⟩ := trodVars_none hV
  obtain ⟨s, rfl, rfl, rfl, ws⟩ := open_string Tryd.underlying9 (hval 0 9 v0 rfl rfl) h0
  clear hA0
  simp only [List.append_nil] at hW'
  refine (walk s W ws (laid5 hL)).mono fun e W' ⟨he, hg⟩ => ?_
  subst he
  exact ⟨_, rfl, _, _, _, [], [], [], hW', trodAll_mk1 (shut_bool Tryd.underlying4 _), (trodAll_cons_mk (shut_string Tryd.underlying9 ws) trodAll_mk0), rfl, hg.frame _, fun h => by cases h⟩

/-- A world for the witness: what the program's own start lays. -/
noncomputable def laidWorld (os : Os) : World := World.doorLaid Tryd.prog 72 os
theorem laid_met (os : Os) : laidMetH Tryd.prog Rows.fnExactParseDOmegaRow.laid ((laidWorld os).forCall (fun _ _ => 0) ⟨#[], #[.string ⟨#[]⟩], []⟩).memory :=
  laidMetH_of_parts3 (fuel := 8) (laidMet_of_run' 8 (by kernel_rfl) (by kernel_rfl)) (by kernel_rfl) (by kernel_rfl)
theorem reads (os : Os) {H : Type} (enc : TypeId × Value → H) : ∃ places, DataW.whole enc Tryd.prog ((laidWorld os).forCall (fun _ _ => 0) ⟨#[], #[.string ⟨#[]⟩], []⟩).memory Tryd.f5.params.toList Rows.fnExactParseDOmegaSpec.vars false #[Value.string ⟨#[]⟩].toList 8 = some ([.lit (.string [])], [], places) :=
  ⟨[], by kernel_rfl⟩
set_option maxRecDepth 100000 in
theorem lifted (os : Os) (started : os.Started) (H : Type) (enc : TypeId × Value → H) (F : Stop.Interp) :
    ReturnsInHanded {} Tryd.checked os 5 .any ((OpenSpec.ofChange Rows.fnExactParseDOmegaSpec).preRow enc Tryd.prog Tryd.f5 Rows.fnExactParseDOmegaRow.domain false Rows.fnExactParseDOmegaRow.laid) (((OpenSpec.ofChange Rows.fnExactParseDOmegaSpec).at F).post enc Tryd.prog Tryd.f5 false true false false) := by
  obtain ⟨places, hx⟩ := reads os enc
  refine returnsInHanded_of_row (C := Tryd.checked) (s := OpenSpec.ofChange Rows.fnExactParseDOmegaSpec) own started (by kernel_rfl) Tryd.func5
    (witness_row_at (enc := enc) (C := Tryd.checked) false (laidWorld os) #[.string ⟨#[]⟩] rfl (by kernel_rfl) (by kernel_rfl) (by kernel_rfl)
      (OpenSpec.preRow_of_cond 8 hx (by kernel_rfl) (fun k hk => by cases hk) (by kernel_rfl) (laid_met os))) ?_
  intro W base args ds gs before hval hW _ _ _ hL _ _
  exact contract H enc W base args ds gs before hval hW hL
theorem said : Rows.FnExactParseDOmegaSaid :=
  OpenClaim.holds_of_cond 5 Tryd.f5 rfl rfl rfl rfl rfl rfl rfl ⟨rfl, rfl, rfl, rfl, rfl⟩ rfl rfl rfl rfl rfl (by kernel_rfl) Tryd.func5 (by kernel_rfl)
    (of_decide_eq_true (by kernel_rfl)) (by unfold Func.isWrapper; first | (rw [if_pos (by decide +kernel)]; kernel_rfl) | (rw [if_neg (by decide +kernel)]; exact ⟨rfl, rfl⟩))
    (fun os started H enc _ F => by rw [OpenClaim.pre_eq_preRow]; exact lifted os started H enc F)
theorem plain (f : FuncId) (fn : Func) (hf : Tryd.pinned.checked.prog.funcNamed "loop.example/g00506/laws.FnExactParseDOmega" = some f) (hfn : Tryd.pinned.checked.prog.funcs[f]? = some fn) :
    true = Tryd.pinned.checked.prog.looks [] ∧ ∀ (j : Nat) t, fn.params[j]? = some t → Tryd.pinned.checked.prog.wantsStandIn t = false := by
  obtain rfl : f = 5 := Option.some.inj ((show Tryd.prog.funcNamed "loop.example/g00506/laws.FnExactParseDOmega" = some 5 by kernel_rfl).symm.trans hf) |>.symm
  obtain rfl : fn = Tryd.f5 := (Option.some.inj (Tryd.func5.symm.trans hfn)).symm
  refine ⟨by kernel_rfl, fun j t ht => ?_⟩
  rw [Tryd.params5] at ht
  have hm : t ∈ [9] := by simpa using Array.mem_of_getElem? ht
  have hall : ([9].all fun u => !Tryd.prog.wantsStandIn u) = true := by kernel_rfl
  exact (show Tryd.prog.wantsStandIn t = false by simpa using List.all_eq_true.1 hall t hm)
theorem card : Rows.FnExactParseDOmegaCardSaid :=
  Claim7.holds_tied_plain_at .later [] _ _ _ _ said (fun _ h => by cases h) (by kernel_rfl) (fun _ h => by cases h) fnExactParseDOmega_row_tie rfl ⟨rfl, rfl⟩ (by kernel_rfl) rfl plain (by kernel_rfl)
end Go.Proofs.YtggmcahglcnleaaDoor.fnExactParseDOmega
