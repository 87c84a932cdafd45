/- The law FnExactSplitByte: impl.SplitByte and its model give the same pieces, and the answer owns its memory, at every string and byte. Conditions: what the card ties (the library's tables as its own text lays them). -/
import Derived.Test.YtlbgkdkgembkkaaDoorCards
import Derived.Test.YtlbgkdkgembkkaaDoorTie
import Derived.Test.YtlbgkdkgembkkaaDoorSplitI
import Derived.WalkKit
import Derived.ProofKit
import Derived.OpenShut
import Derived.Deep.DeepHandedRow
import Derived.Lib.LaidTab
import Derived.LaidMore
import Derived.Lay
import Derived.LaidHandle
import Derived.Stop.LaidErr
namespace Go.Proofs.YtlbgkdkgembkkaaDoor.fnSplitByte
open Go.ChangeShapes Go.WideShapes Go.ChangeAt Go.RowKit Go.Lib
set_option maxRecDepth 100000 in
set_option maxHeartbeats 800000 in
theorem core (s : ByteArray) (c : UInt8) (w : World) (hs : s.size ≤ 1048576) (hmax : HasMax w) :
    Calls Tryd.prog 8 #[.string s, .int .u8 c.toNat] w fun e w' => e = .returned (.bool true) ∧ Below w.heap.size w w' := by
  have hlen := pcs_len_le c s
  have hpos : 0 < (pcs c s).length := by rw [pcs_len]; omega
  obtain ⟨L, hL⟩ : ∃ L, L = pcs c s := ⟨_, rfl⟩
  have HL := Lib.hid hL
  rw [← hL] at hlen hpos
  clear hL
  go_enter Tryd.func8, Tryd.ntmps8
  go_wp2_with fail
  refine (split_any s c _ hs).mono ?_
  rintro e w1 ⟨⟨v, rfl, hown⟩, hb1⟩
  rw [← HL.out] at hown
  obtain ⟨b0, cap0, rfl, hB0, hr0⟩ := row_of_owns L hown hpos
  have hlt0 := hr0.lt
  have Hr0 := Lib.hid hr0
  clear hown hr0
  go_wp2_with fail
  refine (isplit_any s c _ hs (hmax.below hb1)).mono ?_
  rintro e w2 ⟨⟨b1, rfl, hB1, hr1⟩, hb2⟩
  rw [← HL.out] at hr1 ⊢
  have hr02 := Hr0.out.below hb2 hlt0
  have hlt1 := hr1.lt
  have Hr1 := Lib.hid hr1
  have Hr02 := Lib.hid hr02
  clear hr1 hr02
  go_wp2_with fail
  refine (eqS_any b1 b0 _ _ _ _ _ _ _ Hr1.out Hr02.out (by omega) (by omega) rfl (fun _ _ => rfl)).mono ?_
  rintro e w3 ⟨rfl, hb3⟩
  have hr13 := Hr1.out.below hb3 hlt1
  have hr03 := Hr02.out.below hb3 Hr02.out.lt
  have Hr13 := Lib.hid hr13
  have Hr03 := Lib.hid hr03
  clear hr13 hr03
  go_wp2_with fail
  refine (markS_any b1 _ _ 1 _ _ Hr13.out (by omega) (by omega) (by omega)).mono ?_
  rintro e w4 ⟨rfl, hr14, ho4⟩
  have hr04 := Hr03.out.own ho4 (by omega)
  have Hr14 := Lib.hid hr14
  have Hr04 := Lib.hid hr04
  have Ho4 := Lib.hid ho4
  clear hr14 hr04 ho4
  go_wp2_with fail
  refine (heldS_any b1 _ _ 1 _ Hr14.out (by omega) (by omega) (by omega)).mono ?_
  rintro e w5 ⟨rfl, hb5⟩
  have hr15 := Hr14.out.below hb5 Hr14.out.lt
  have hr05 := Hr04.out.below hb5 Hr04.out.lt
  have Hr15 := Lib.hid hr15
  have Hr05 := Lib.hid hr05
  clear hr15 hr05
  have hb13 := hb1.trans ((hb2.trans (hb3.mono hb2.size)).mono hb1.size)
  have hb15 := (below_own hb13 Ho4.out (by have := hb1.size; omega) hb13.size).trans (hb5.mono (Nat.le_trans hb13.size Ho4.out.size))
  have hmax5 := hmax.below hb15
  clear hb13 hb1 hb2 hb3 hb5
  go_wp2_with fail
  refine (isplit_any s c _ hs hmax5).mono ?_
  rintro e w6 ⟨⟨b2, rfl, hB2, hr2⟩, hb6⟩
  rw [← HL.out] at hr2 ⊢
  have hr06 := Hr05.out.below hb6 Hr05.out.lt
  have hr16 := Hr15.out.below hb6 Hr15.out.lt
  have Hr06 := Lib.hid hr06
  have Hr16 := Lib.hid hr16
  have Hr2 := Lib.hid hr2
  clear hr06 hr16 hr2
  go_wp2_with fail
  refine (eqS_any b2 b0 _ _ _ _ _ _ _ Hr2.out Hr06.out (by omega) (by omega) rfl (fun _ _ => rfl)).mono ?_
  rintro e w7 ⟨rfl, hb7⟩
  have hr17 := Hr16.out.below hb7 Hr16.out.lt
  have Hr17 := Lib.hid hr17
  clear hr17
  go_wp2_with fail
  refine (heldS_any b1 _ _ 1 _ Hr17.out (by omega) (by omega) (by omega)).mono ?_
  rintro e w8 ⟨rfl, hb8⟩
  go_wp2_with fail
  go_ret
  exact ⟨rfl, hb15.trans ((hb6.trans ((hb7.trans (hb8.mono hb7.size)).mono hb6.size)).mono hb15.size)⟩
set_option maxRecDepth 100000 in
set_option maxHeartbeats 400000 in
theorem walk (s : ByteArray) (b : Int) (w : World) (hs : s.size ≤ maxLen) (b0 : 0 ≤ b) (b1 : b ≤ 255) (hmax : HasMax w) :
    Calls Tryd.prog 8 #[.string s, .int .u8 b] w fun e w' => e = .returned (.bool true) ∧ Below w.heap.size w w' := by
  by_cases h : s.size ≤ 1048576
  · have e : b = ((UInt8.ofNat b.toNat).toNat : Int) := by simp; omega
    rw [e]
    exact core s _ w h hmax
  · unfold maxLen at hs
    go_enter Tryd.func8, Tryd.ntmps8
    go_wp2_with fail
    go_ret
    exact ⟨rfl, Below.refl _ _⟩

open Go.ChangeMaps (open_string shut_string)
theorem own : ownKnob Tryd.prog.godebug = none := by kernel_rfl
set_option maxRecDepth 100000 in
/-- What the walk gives, for every argument and every world that holds the tables. -/
theorem contract (H : Type) (enc : TypeId × Value → H) (W : World) (base : Nat) (args : Array Value) (ds gs : List (DataW H)) (before : List MemPlace)
    (hval : ∀ (j : Nat) t v, Tryd.f8.params[j]? = some t → args[j]? = some v → Value.okWide Tryd.prog W .any base t v)
    (hW : DataW.Whole enc Tryd.prog Tryd.f8.params.toList Rows.fnExactSplitByteSpec.vars false W args.toList ds gs before) (_hL : laidMetH Tryd.prog Rows.fnExactSplitByteRow.laid W) (hS : W.ShapedOpen Tryd.prog) :
    Calls Tryd.prog 8 args W fun e W' => ∃ v, e = .returned v ∧ Rows.fnExactSplitByteSpec.post enc Tryd.prog Tryd.f8 false true false false W args v W' := by
  have hW' := hW
  obtain ⟨p, q, hA0, hV, rfl, hfz, hnd⟩ := hW
  have hA : DataW.TrodAll enc Tryd.prog W 0 (fun _ => true) true Tryd.f8.params.toList args.toList ds p := hA0
  rw [Tryd.params8] at hA hval
  obtain ⟨v0, vs0, d0, ds0, p0, q0, hargs, rfl, rfl, h0, r0⟩ := trodAll_cons hA
  obtain ⟨v1, vs1, d1, ds1, p1, q1, rfl, rfl, rfl, h1, r1⟩ := trodAll_cons r0
  obtain ⟨rfl, rfl, rfl⟩ := trodAll_nil r1
  obtain rfl : args = #[v0, v1] := by cases args; simp_all
  obtain ⟨rfl, rfl⟩ := trodVars_none hV
  obtain ⟨s, rfl, rfl, rfl, ws⟩ := open_string Tryd.underlying9 (hval 0 9 v0 rfl rfl) h0
  obtain ⟨b, rfl, rfl, rfl, wb⟩ := open_int Tryd.underlying5 (hval 1 5 v1 rfl rfl) h1
  clear hA0
  simp only [List.append_nil] at hW'
  refine (walk s b W ws (bounds_u8 wb).1 (bounds_u8 wb).2 (HasMax.of hS)).mono fun e W' ⟨he, hg⟩ => ?_
  subst he
  exact ⟨_, rfl, _, _, _, [], [], [], hW', trodAll_mk1 (shut_bool Tryd.underlying4 _), (trodAll_cons_mk (shut_string Tryd.underlying9 ws) (trodAll_cons_mk (shut_int Tryd.underlying5 wb) trodAll_mk0)), rfl, hg.frame _, fun h => by cases h⟩

/-- A world for the witness: what the program's own start lays. -/
noncomputable def laidWorld (os : Os) : World := World.laidAll Tryd.prog os Rows.fnExactSplitByteRow.laid
theorem laid_met (os : Os) : laidMetH Tryd.prog Rows.fnExactSplitByteRow.laid ((laidWorld os).forCall (fun _ _ => 0) ⟨#[], #[.string ⟨#[]⟩, .int .u8 0], []⟩).memory :=
  by rw [MakeChecks.laidMetH_plain _ _ _ (by kernel_rfl)]; exact laidMet_laidAll _ (by kernel_rfl) (by kernel_rfl)
theorem reads (os : Os) {H : Type} (enc : TypeId × Value → H) : ∃ places, DataW.whole enc Tryd.prog ((laidWorld os).forCall (fun _ _ => 0) ⟨#[], #[.string ⟨#[]⟩, .int .u8 0], []⟩).memory Tryd.f8.params.toList Rows.fnExactSplitByteSpec.vars false #[Value.string ⟨#[]⟩, .int .u8 0].toList 8 = some ([.lit (.string []), .lit (.int .u8 0)], [], places) :=
  ⟨[], by kernel_rfl⟩
set_option maxRecDepth 100000 in
theorem lifted (os : Os) (started : os.Started) (H : Type) (enc : TypeId × Value → H) (F : Stop.Interp) :
    ReturnsInHanded {} Tryd.checked os 8 .any ((OpenSpec.ofChange Rows.fnExactSplitByteSpec).preRow enc Tryd.prog Tryd.f8 Rows.fnExactSplitByteRow.domain false Rows.fnExactSplitByteRow.laid) (((OpenSpec.ofChange Rows.fnExactSplitByteSpec).at F).post enc Tryd.prog Tryd.f8 false true false false) := by
  obtain ⟨places, hx⟩ := reads os enc
  refine returnsInHanded_of_row (C := Tryd.checked) (s := OpenSpec.ofChange Rows.fnExactSplitByteSpec) own started (by kernel_rfl) Tryd.func8
    (witness_row_at (enc := enc) (C := Tryd.checked) false (laidWorld os) #[.string ⟨#[]⟩, .int .u8 0] (World.laidAll_os _ _ _) (by kernel_rfl) (by kernel_rfl) (by kernel_rfl)
      (OpenSpec.preRow_of_cond 8 hx (by kernel_rfl) (fun k hk => by cases hk) (by kernel_rfl) (laid_met os))) ?_
  intro W base args ds gs before hval hW _ _ _ hL hS _
  exact contract H enc W base args ds gs before hval hW hL hS
theorem said : Rows.FnExactSplitByteSaid :=
  OpenClaim.holds_of_cond 8 Tryd.f8 rfl rfl rfl rfl rfl rfl rfl ⟨rfl, rfl, rfl, rfl, rfl⟩ rfl rfl rfl rfl rfl (by kernel_rfl) Tryd.func8 (by kernel_rfl)
    (of_decide_eq_true (by kernel_rfl)) (by unfold Func.isWrapper; first | (rw [if_pos (by decide +kernel)]; kernel_rfl) | (rw [if_neg (by decide +kernel)]; exact ⟨rfl, rfl⟩))
    (fun os started H enc _ F => by rw [OpenClaim.pre_eq_preRow]; exact lifted os started H enc F)
theorem plain (f : FuncId) (fn : Func) (hf : Tryd.pinned.checked.prog.funcNamed "loop.example/g00506/laws.FnExactSplitByte" = some f) (hfn : Tryd.pinned.checked.prog.funcs[f]? = some fn) :
    true = Tryd.pinned.checked.prog.looks [] ∧ ∀ (j : Nat) t, fn.params[j]? = some t → Tryd.pinned.checked.prog.wantsStandIn t = false := by
  obtain rfl : f = 8 := Option.some.inj ((show Tryd.prog.funcNamed "loop.example/g00506/laws.FnExactSplitByte" = some 8 by kernel_rfl).symm.trans hf) |>.symm
  obtain rfl : fn = Tryd.f8 := (Option.some.inj (Tryd.func8.symm.trans hfn)).symm
  refine ⟨by kernel_rfl, fun j t ht => ?_⟩
  rw [Tryd.params8] at ht
  have hm : t ∈ [9, 5] := by simpa using Array.mem_of_getElem? ht
  have hall : ([9, 5].all fun u => !Tryd.prog.wantsStandIn u) = true := by kernel_rfl
  exact (show Tryd.prog.wantsStandIn t = false by simpa using List.all_eq_true.1 hall t hm)
theorem card : Rows.FnExactSplitByteCardSaid :=
  Claim7.holds_tied_plain_at .later [] _ _ _ _ said (fun _ h => by cases h) (by kernel_rfl) (fun _ h => by cases h) fnExactSplitByte_row_tie rfl ⟨rfl, rfl⟩ (by kernel_rfl) rfl plain (by kernel_rfl)
end Go.Proofs.YtlbgkdkgembkkaaDoor.fnSplitByte
