/- The law FnExactParseCircuit: ParseCircuit answers as its model, at every string, taking that the tables that the row lists read as the program's text lays them (the card ties them to that text). No other condition. -/
import Derived.Test.YtbnkanlebjpkfaaDoorTcLq
import Derived.Test.YtbnkanlebjpkfaaDoorB05
import Derived.Test.YtbnkanlebjpkfaaDoorTcI
import Derived.Test.YtbnkanlebjpkfaaDoorCiL
import Derived.Test.YtbnkanlebjpkfaaDoorB16
import Derived.Test.YtbnkanlebjpkfaaDoorB17
import Derived.Test.YtbnkanlebjpkfaaDoorB12
import Derived.Test.YtbnkanlebjpkfaaDoorB04
import Derived.Test.YtbnkanlebjpkfaaDoorTie
import Derived.Test.YtbnkanlebjpkfaaDoorCards
import Derived.Lib.SmallJoins
import Derived.SevenTiedAt
import Derived.WalkKit
import Derived.ProofKit
import Derived.OpenShut
import Derived.Deep.DeepHandedRow
import Derived.Lib.LaidTab
import Derived.LaidMore
import Derived.LaidHandle
import Derived.Lay
import Derived.Stop.LaidErr
import Derived.OpenVars
namespace Go.Proofs.YtbnkanlebjpkfaaDoor.fnExactParseCircuit
open Go.ChangeShapes Go.WideShapes Go.ChangeAt Go.RowKit Go.Lib
attribute [local irreducible] World.cell?
set_option maxRecDepth 100000 in
set_option maxHeartbeats 6400000 in
theorem walk (s : ByteArray) (w : World) (hs : s.size ≤ maxLen) (hL : LW w) :
    Calls Tryd.prog 6 #[.string s] w fun e w' => e = .returned (.bool true) ∧ Below w.heap.size w w' := by
  unfold maxLen at hs
  by_cases hbig : 1048576 < s.size
  · go_enter Tryd.func6, Tryd.ntmps6
    go_wp2_with fail
    go_ret
    exact ⟨rfl, Below.refl _ _⟩
  · have hsm : s.size ≤ 1048576 := by omega
    have HL := Lib.hid hL
    have Hsp := Lib.hid (fun w => sparseC s w hsm)
    have Him := Lib.hid (fun w h => iparC s w hsm h)
    have hr60 := pcV_len s
    have hr : (pcV s).2.length ≤ 1048576 := by omega
    clear hL
    generalize (pcV s).2 = r at *
    generalize (pcV s).1 = m at *
    generalize pcB s = t at *
    have htt : (t != t) = false := by simp
    have Hb := Lib.hid (Below.refl w.heap.size w)
    go_enter Tryd.func6, Tryd.ntmps6
    go_wp2_with fail
    refine (Hsp.out _).mono ?_
    rintro e w1 ⟨⟨vw, rfl, hd1⟩, hb1⟩
    obtain ⟨pw0, qw0, rfl, -, -⟩ := id hd1
    have Hw0 := Lib.hid hd1.upto
    have Hw0 := Lib.hid (Hw0.out.below ((Below.refl _ _).alloc (Nat.le_refl _) (.cells #[.int .i64 m, .slice pw0 r.length qw0] 39)))
    have hy1 := hb1.size
    have hb1 := hb1.alloc hb1.size (.cells #[.int .i64 m, .slice pw0 r.length qw0] 39)
    have Hb := Lib.hid (below_nx Hb.out hb1)
    have hz1 := hb1.size
    simp only [size_alloc1] at hz1
    have ha1 := size_alloc1 w1 (.cells #[.int .i64 m, .slice pw0 r.length qw0] 39)
    have HBa := Lib.hid (heap_alloc_new w1 (.cells #[.int .i64 m, .slice pw0 r.length qw0] 39))
    clear hb1 hd1
    obtain ⟨ba0, ba1⟩ := blk_cells2 HBa.out
    have bal := lt_of_block HBa.out
    go_wp2_with fail
    refine (Him.out _ (HL.out.below Hb.out)).mono ?_
    rintro e w2 ⟨⟨vg, rfl, hd2⟩, hb2⟩
    obtain ⟨pg0, qg0, rfl, -, -⟩ := id hd2
    have Hg0 := Lib.hid hd2.upto
    have Hg0 := Lib.hid (Hg0.out.below ((Below.refl _ _).alloc (Nat.le_refl _) (.cells #[.int .i64 m, .slice pg0 r.length qg0] 39)))
    have hy2 := hb2.size
    have hb2 := hb2.alloc hb2.size (.cells #[.int .i64 m, .slice pg0 r.length qg0] 39)
    have Hw0 := Lib.hid (Hw0.out.below hb2)
    have Hb := Lib.hid (below_nx Hb.out hb2)
    have hz2 := hb2.size
    simp only [size_alloc1] at hz2
    have ha2 := size_alloc1 w2 (.cells #[.int .i64 m, .slice pg0 r.length qg0] 39)
    have HBa := Lib.hid (below_blk hb2 (lt_of_block HBa.out) HBa.out)
    have HBb := Lib.hid (heap_alloc_new w2 (.cells #[.int .i64 m, .slice pg0 r.length qg0] 39))
    clear hb2 hd2
    clear ba0 ba1 bal
    obtain ⟨ba0, ba1⟩ := blk_cells2 HBa.out
    have bal := lt_of_block HBa.out
    obtain ⟨bb0, bb1⟩ := blk_cells2 HBb.out
    have bbl := lt_of_block HBb.out
    go_wp2_with fail
    refine (eqCi _ _ m _ _ r _ Hg0.out.sl Hw0.out.sl hr).mono ?_
    rintro e w3 ⟨rfl, hb3⟩
    have Hw0 := Lib.hid (Hw0.out.below hb3)
    have Hg0 := Lib.hid (Hg0.out.below hb3)
    have Hb := Lib.hid (below_nx Hb.out hb3)
    have hz3 := hb3.size
    simp only [size_alloc1] at hz3
    have HBa := Lib.hid (below_blk hb3 (lt_of_block HBa.out) HBa.out)
    have HBb := Lib.hid (below_blk hb3 (lt_of_block HBb.out) HBb.out)
    clear hb3
    clear ba0 ba1 bal
    obtain ⟨ba0, ba1⟩ := blk_cells2 HBa.out
    have bal := lt_of_block HBa.out
    clear bb0 bb1 bbl
    obtain ⟨bb0, bb1⟩ := blk_cells2 HBb.out
    have bbl := lt_of_block HBb.out
    go_wp2_with fail
    refine (markCi1 _ _ m _ r _ Hg0.out (by omega) hr).mono ?_
    rintro e w4 ⟨rfl, hd4, hm4⟩
    have Hw0 := Lib.hid (show gtE.Sc w4 _ _ _ _ by first | exact Hw0.out.lo hm4 (by omega) | exact Hw0.out.hi hm4 (by omega))
    have Hg0 := Lib.hid hd4
    have hz4 := hm4.1.size
    have Hb := Lib.hid (mid_low Hb.out hm4 (by omega))
    have HBa := Lib.hid (show w4.heap[w1.heap.size]? = _ by first | exact (hm4.1.block w1.heap.size (by omega)).trans HBa.out | exact (hm4.2 w1.heap.size (by omega) (lt_of_block HBa.out)).trans HBa.out)
    have HBb := Lib.hid (show w4.heap[w2.heap.size]? = _ by first | exact (hm4.1.block w2.heap.size (by omega)).trans HBb.out | exact (hm4.2 w2.heap.size (by omega) (lt_of_block HBb.out)).trans HBb.out)
    clear hd4 hm4
    clear ba0 ba1 bal
    obtain ⟨ba0, ba1⟩ := blk_cells2 HBa.out
    have bal := lt_of_block HBa.out
    clear bb0 bb1 bbl
    obtain ⟨bb0, bb1⟩ := blk_cells2 HBb.out
    have bbl := lt_of_block HBb.out
    go_wp2_with fail
    refine (heldCi1 _ r.length m _ _ Hg0.out.sl hr).mono ?_
    rintro e w5 ⟨rfl, hb5⟩
    have Hw0 := Lib.hid (Hw0.out.below hb5)
    have Hg0 := Lib.hid (Hg0.out.below hb5)
    have Hb := Lib.hid (below_nx Hb.out hb5)
    have hz5 := hb5.size
    have HBa := Lib.hid (below_blk hb5 (lt_of_block HBa.out) HBa.out)
    have HBb := Lib.hid (below_blk hb5 (lt_of_block HBb.out) HBb.out)
    clear hb5
    clear ba0 ba1 bal
    obtain ⟨ba0, ba1⟩ := blk_cells2 HBa.out
    have bal := lt_of_block HBa.out
    clear bb0 bb1 bbl
    obtain ⟨bb0, bb1⟩ := blk_cells2 HBb.out
    have bbl := lt_of_block HBb.out
    go_wp2_with fail
    refine (Him.out _ (HL.out.below Hb.out)).mono ?_
    rintro e w6 ⟨⟨vh, rfl, hd6⟩, hb6⟩
    obtain ⟨ph0, qh0, rfl, -, -⟩ := id hd6
    have Hh0 := Lib.hid hd6.upto
    have Hh0 := Lib.hid (Hh0.out.below ((Below.refl _ _).alloc (Nat.le_refl _) (.cells #[.int .i64 m, .slice ph0 r.length qh0] 39)))
    have hy6 := hb6.size
    have hb6 := hb6.alloc hb6.size (.cells #[.int .i64 m, .slice ph0 r.length qh0] 39)
    have Hw0 := Lib.hid (Hw0.out.below hb6)
    have Hg0 := Lib.hid (Hg0.out.below hb6)
    have Hb := Lib.hid (below_nx Hb.out hb6)
    have hz6 := hb6.size
    simp only [size_alloc1] at hz6
    have ha6 := size_alloc1 w6 (.cells #[.int .i64 m, .slice ph0 r.length qh0] 39)
    have HBa := Lib.hid (below_blk hb6 (lt_of_block HBa.out) HBa.out)
    have HBb := Lib.hid (below_blk hb6 (lt_of_block HBb.out) HBb.out)
    have HBe := Lib.hid (heap_alloc_new w6 (.cells #[.int .i64 m, .slice ph0 r.length qh0] 39))
    clear hb6 hd6
    clear ba0 ba1 bal
    obtain ⟨ba0, ba1⟩ := blk_cells2 HBa.out
    have bal := lt_of_block HBa.out
    clear bb0 bb1 bbl
    obtain ⟨bb0, bb1⟩ := blk_cells2 HBb.out
    have bbl := lt_of_block HBb.out
    obtain ⟨be0, be1⟩ := blk_cells2 HBe.out
    have bel := lt_of_block HBe.out
    go_wp2_with fail
    refine (eqCi _ _ m _ _ r _ Hh0.out.sl Hw0.out.sl hr).mono ?_
    rintro e w7 ⟨rfl, hb7⟩
    have Hw0 := Lib.hid (Hw0.out.below hb7)
    have Hg0 := Lib.hid (Hg0.out.below hb7)
    have Hh0 := Lib.hid (Hh0.out.below hb7)
    have Hb := Lib.hid (below_nx Hb.out hb7)
    have hz7 := hb7.size
    simp only [size_alloc1] at hz7
    have HBa := Lib.hid (below_blk hb7 (lt_of_block HBa.out) HBa.out)
    have HBb := Lib.hid (below_blk hb7 (lt_of_block HBb.out) HBb.out)
    have HBe := Lib.hid (below_blk hb7 (lt_of_block HBe.out) HBe.out)
    clear hb7
    clear ba0 ba1 bal
    obtain ⟨ba0, ba1⟩ := blk_cells2 HBa.out
    have bal := lt_of_block HBa.out
    clear bb0 bb1 bbl
    obtain ⟨bb0, bb1⟩ := blk_cells2 HBb.out
    have bbl := lt_of_block HBb.out
    clear be0 be1 bel
    obtain ⟨be0, be1⟩ := blk_cells2 HBe.out
    have bel := lt_of_block HBe.out
    go_wp2_with fail
    refine (heldCi1 _ r.length m _ _ Hg0.out.sl hr).mono ?_
    rintro e w8 ⟨rfl, hb8⟩
    have Hw0 := Lib.hid (Hw0.out.below hb8)
    have Hg0 := Lib.hid (Hg0.out.below hb8)
    have Hh0 := Lib.hid (Hh0.out.below hb8)
    have Hb := Lib.hid (below_nx Hb.out hb8)
    have hz8 := hb8.size
    have HBa := Lib.hid (below_blk hb8 (lt_of_block HBa.out) HBa.out)
    have HBb := Lib.hid (below_blk hb8 (lt_of_block HBb.out) HBb.out)
    have HBe := Lib.hid (below_blk hb8 (lt_of_block HBe.out) HBe.out)
    clear hb8
    clear ba0 ba1 bal
    obtain ⟨ba0, ba1⟩ := blk_cells2 HBa.out
    have bal := lt_of_block HBa.out
    clear bb0 bb1 bbl
    obtain ⟨bb0, bb1⟩ := blk_cells2 HBb.out
    have bbl := lt_of_block HBb.out
    clear be0 be1 bel
    obtain ⟨be0, be1⟩ := blk_cells2 HBe.out
    have bel := lt_of_block HBe.out
    go_wp2_with fail
    go_ret
    exact ⟨rfl, Hb.out⟩
open Go.ChangeMaps (open_string shut_string)
theorem laidOut : laidOutB Tryd.prog = true := by kernel_rfl
theorem own : ownKnob Tryd.prog.godebug = none := by kernel_rfl
set_option maxRecDepth 100000 in
/-- What the walk gives, for every argument and every world that holds the tables. -/
theorem contract (H : Type) (enc : TypeId × Value → H) (W : World) (base : Nat) (args : Array Value) (ds gs : List (DataW H)) (before : List MemPlace)
    (hval : ∀ (j : Nat) t v, Tryd.f6.params[j]? = some t → args[j]? = some v → Value.okWide Tryd.prog W .any base t v)
    (hW : DataW.Whole enc Tryd.prog Tryd.f6.params.toList Rows.fnExactParseCircuitSpec.vars false W args.toList ds gs before) (hL : laidMetH Tryd.prog Rows.fnExactParseCircuitRow.laid W) (hS : W.ShapedOpen Tryd.prog) :
    Calls Tryd.prog 6 args W fun e W' => ∃ v, e = .returned v ∧ Rows.fnExactParseCircuitSpec.post enc Tryd.prog Tryd.f6 false true false false W args v W' := by
  have hW' := hW
  obtain ⟨p, q, hA0, hV, rfl, hfz, hnd⟩ := hW
  have hA : DataW.TrodAll enc Tryd.prog W 0 (fun _ => true) true Tryd.f6.params.toList args.toList ds p := hA0
  rw [Tryd.params6] at hA hval
  obtain ⟨v0, vs0, d0, ds0, p0, q0, hargs, rfl, rfl, h0, r0⟩ := trodAll_cons hA
  obtain ⟨rfl, rfl, rfl⟩ := trodAll_nil r0
  obtain rfl : args = #[v0] := by cases args; simp_all
  obtain ⟨vg0, vt0, vc0, vf0, dv0, vp0, rfl, -, -, -, -, -⟩ := trodVars_one hV
  obtain ⟨s, rfl, rfl, rfl, ws⟩ := open_string Tryd.underlying9 (hval 0 9 v0 rfl rfl) h0
  clear hA0
  refine (walk s W ws (lw_of ((MakeChecks.laidMetH_plain _ _ _ (by kernel_rfl)).mp hL) hS)).mono fun e W' ⟨he, hg⟩ => ?_
  subst he
  exact ⟨_, rfl, _, _, _, [], _, _, hW', trodAll_mk1 (shut_bool Tryd.underlying4 _), (trodAll_cons_mk (shut_string Tryd.underlying9 ws) trodAll_mk0), Below.trodVars laidOut hg (by kernel_rfl) hV, hg.frame _, fun h => by cases h⟩
/-- A world for the witness: what the program's own start lays. -/
noncomputable def laidWorld (os : Os) : World := World.laidAll Tryd.prog os Rows.fnExactParseCircuitRow.laid
theorem laid_met (os : Os) : laidMetH Tryd.prog Rows.fnExactParseCircuitRow.laid ((laidWorld os).forCall (fun _ _ => 0) ⟨#[], #[.string ⟨#[]⟩], []⟩).memory :=
  by rw [MakeChecks.laidMetH_plain _ _ _ (by kernel_rfl)]; exact laidMet_laidAll _ (by kernel_rfl) (by kernel_rfl)
theorem reads (os : Os) {H : Type} (enc : TypeId × Value → H) : ∃ places, DataW.whole enc Tryd.prog ((laidWorld os).forCall (fun _ _ => 0) ⟨#[], #[.string ⟨#[]⟩], []⟩).memory Tryd.f6.params.toList Rows.fnExactParseCircuitSpec.vars false #[Value.string ⟨#[]⟩].toList 8 = some ([.lit (.string [])], [Rows.laid_loop_example_g00506_impl_gateNames], places) :=
  ⟨MemPlace.row ⟨0, 0, none⟩ 13, by kernel_rfl⟩
set_option maxRecDepth 100000 in
theorem lifted (os : Os) (started : os.Started) (H : Type) (enc : TypeId × Value → H) (F : Stop.Interp) :
    ReturnsInHanded {} Tryd.checked os 6 .any ((OpenSpec.ofChange Rows.fnExactParseCircuitSpec).preRow enc Tryd.prog Tryd.f6 Rows.fnExactParseCircuitRow.domain false Rows.fnExactParseCircuitRow.laid) (((OpenSpec.ofChange Rows.fnExactParseCircuitSpec).at F).post enc Tryd.prog Tryd.f6 false true false false) := by
  obtain ⟨places, hx⟩ := reads os enc
  refine returnsInHanded_of_row (C := Tryd.checked) (s := OpenSpec.ofChange Rows.fnExactParseCircuitSpec) own started (by kernel_rfl) Tryd.func6
    (witness_row_at (enc := enc) (C := Tryd.checked) false (laidWorld os) #[.string ⟨#[]⟩] (World.laidAll_os _ _ _) (by kernel_rfl) (by kernel_rfl) (by kernel_rfl)
      (OpenSpec.preRow_of_cond 8 hx (by kernel_rfl) (fun k hk => by cases hk) (by kernel_rfl) (laid_met os))) ?_
  intro W base args ds gs before hval hW _ _ _ hL hS _
  exact contract H enc W base args ds gs before hval hW hL hS
theorem said : Rows.FnExactParseCircuitSaid :=
  OpenClaim.holds_of_cond 6 Tryd.f6 rfl rfl rfl rfl rfl rfl rfl ⟨rfl, rfl, rfl, rfl, rfl⟩ rfl rfl rfl rfl rfl (by kernel_rfl) Tryd.func6 (by kernel_rfl)
    (of_decide_eq_true (by kernel_rfl)) (by unfold Func.isWrapper; first | (rw [if_pos (by decide +kernel)]; kernel_rfl) | (rw [if_neg (by decide +kernel)]; exact ⟨rfl, rfl⟩))
    (fun os started H enc _ F => by rw [OpenClaim.pre_eq_preRow]; exact lifted os started H enc F)
theorem plain (f : FuncId) (fn : Func) (hf : Tryd.pinned.checked.prog.funcNamed "loop.example/g00506/laws.FnExactParseCircuit" = some f) (hfn : Tryd.pinned.checked.prog.funcs[f]? = some fn) :
    true = Tryd.pinned.checked.prog.looks [] ∧ ∀ (j : Nat) t, fn.params[j]? = some t → Tryd.pinned.checked.prog.wantsStandIn t = false := by
  obtain rfl : f = 6 := Option.some.inj ((show Tryd.prog.funcNamed "loop.example/g00506/laws.FnExactParseCircuit" = some 6 by kernel_rfl).symm.trans hf) |>.symm
  obtain rfl : fn = Tryd.f6 := (Option.some.inj (Tryd.func6.symm.trans hfn)).symm
  refine ⟨by kernel_rfl, fun j t ht => ?_⟩
  rw [Tryd.params6] at ht
  have hm : t ∈ [9] := by simpa using Array.mem_of_getElem? ht
  have hall : ([9].all fun u => !Tryd.prog.wantsStandIn u) = true := by kernel_rfl
  exact (show Tryd.prog.wantsStandIn t = false by simpa using List.all_eq_true.1 hall t hm)
theorem card : Rows.FnExactParseCircuitCardSaid :=
  Claim7.holds_tied_plain_at .later [] _ _ _ _ said (fun _ h => by cases h) (by kernel_rfl) (fun _ h => by cases h) fnExactParseCircuit_row_tie rfl ⟨rfl, rfl⟩ (by kernel_rfl) rfl plain (by kernel_rfl)
end Go.Proofs.YtbnkanlebjpkfaaDoor.fnExactParseCircuit
