/- The law FnParts: Join undoes SplitByte, at every code. Conditions: what the card ties (the library's tables as its own text lays them). -/
import Derived.Test.YtlbgkdkgembkkaaDoorCards
import Derived.Test.YtlbgkdkgembkkaaDoorTie
import Derived.Test.YtlbgkdkgembkkaaDoorSplitI
import Derived.Test.YtlbgkdkgembkkaaDoorStdJoin
import Derived.Test.YtlbgkdkgembkkaaDoorJoinP
import Derived.Test.YtlbgkdkgembkkaaDoorDrawSplit
import Derived.WalkKit
import Derived.ProofKit
import Derived.OpenShut
import Derived.Deep.DeepHandedRow
import Derived.Lib.LaidTab
import Derived.LaidMore
import Derived.LaidHandle
import Derived.Lay
import Derived.Stop.LaidErr
namespace Go.Proofs.YtlbgkdkgembkkaaDoor.fnParts
open Go.ChangeShapes Go.WideShapes Go.ChangeAt Go.RowKit Go.Lib
set_option maxRecDepth 100000 in
set_option maxHeartbeats 400000 in
theorem ijoin_pcs (s : ByteArray) (c : UInt8) (b cap : Nat) (hcap : (pcs c s).length ≤ cap) (w : World) (hs : s.size ≤ 1048576) (hr : StrRow w b (pcs c s).length (fun j => (pcs c s).getD j ByteArray.empty)) :
    Calls Tryd.prog 19 #[.slice (some ⟨b, 0, none⟩) (pcs c s).length cap, .string ⟨#[c]⟩] w fun e w' => e = .returned (.string s) ∧ Below w.heap.size w w' := by
  have hl := pcs_len_le c s
  have hj := join_pcs c s.size s (Nat.le_refl _)
  have hc := Tryd.strings_Join b 0 cap (pcs c s) ⟨#[c]⟩ w (fun j x hx => by
    have hjl : j < (pcs c s).length := by
      rcases Nat.lt_or_ge j (pcs c s).length with h' | h'
      · exact h'
      · rw [List.getElem?_eq_none h'] at hx; cases hx
    rw [Nat.zero_add, hr.cell hjl]
    rw [List.getElem?_eq_getElem hjl] at hx
    injection hx with hx
    simp [List.getD, List.getElem?_eq_getElem hjl, hx]) hr.lt (by omega) hcap (by
      show (join ((pcs c s).map (·.data.toList)) [c]).length ≤ _
      rw [hj]; simp; omega)
  have e : (⟨(join ((pcs c s).map (·.data.toList)) [c]).toArray⟩ : ByteArray) = s := by rw [hj]
  have Hc := Lib.hid (show Calls Tryd.prog 36 #[.slice (some ⟨b, 0, none⟩) (pcs c s).length cap, .string ⟨#[c]⟩] w fun e w' => e = .returned (.string s) ∧ Below w.heap.size w w' from hc.mono (fun x w' ⟨h1, h2⟩ => ⟨by rw [h1]; exact congrArg (fun z => Ending.returned (.string z)) e, h2⟩))
  clear hc e hj hr hl
  generalize (pcs c s).length = n at *
  go_enter Tryd.func19, Tryd.ntmps19
  go_wp2_with fail
  refine Hc.out.mono ?_
  rintro e w1 ⟨rfl, hb⟩
  go_wp2_with fail
  go_ret
  exact ⟨rfl, hb⟩
set_option maxRecDepth 100000 in
set_option maxHeartbeats 800000 in
theorem core (a0 : Option Addr) (len cap : Nat) (hs : len ≤ 1048576) (w : World) (hcode : CodeAt w w.heap.size a0 len) (hmax : HasMax w) :
    Calls Tryd.prog 4 #[.slice a0 len cap] w fun e w' => e = .returned (.bool true) ∧ Below w.heap.size w w' := by
  have Hc := Lib.hid hcode
  clear hcode
  go_enter Tryd.func4, Tryd.ntmps4
  go_wp2_with (go_at_call 9; go_in)
  refine (drawSplitByte_any a0 len cap _ Hc.out).mono ?_
  rintro e w1 ⟨⟨l, c, hl, rfl⟩, hb1⟩
  have hsz : (ByteArray.mk l.toArray).size = l.length := rfl
  obtain ⟨s, hsl⟩ : ∃ s, s = ByteArray.mk l.toArray := ⟨_, rfl⟩
  rw [← hsl] at hsz ⊢
  clear hsl
  have hs2 : s.size ≤ 21 := by omega
  have hpl := pcs_len_le c s
  have hpos : 0 < (pcs c s).length := by rw [pcs_len]; omega
  obtain ⟨n, hn⟩ : ∃ n, n = (pcs c s).length := ⟨_, rfl⟩
  have HN := Lib.hid hn
  rw [← hn] at hpl hpos
  clear hn hsz
  go_wp2_with fail
  refine (isplit_any s c _ (by omega) (hmax.below hb1)).mono ?_
  rintro e w2 ⟨⟨b, rfl, hB, hr⟩, hb2⟩
  have Hr := Lib.hid hr
  clear hr
  rw [← HN.out]
  go_wp2_with fail
  refine (split_any s c _ (by omega)).mono ?_
  rintro e w3 ⟨⟨v, rfl, hown⟩, hb3⟩
  obtain ⟨b3, cap3, rfl, _, _⟩ := row_of_owns _ hown (by rw [← HN.out]; exact hpos)
  clear hown
  rw [← HN.out]
  have Hr3 := Lib.hid (Hr.out.below hb3 Hr.out.lt)
  have hconv := conv_one c c.toNat rfl w3
  go_wp2_with fail
  rw [HN.out]
  refine (ijoin_pcs s c b _ (Nat.le_refl _) _ (by omega) (Hr3.out.below ((Below.refl _ _).alloc (Nat.le_refl _) _) Hr3.out.lt)).mono ?_
  rintro e w4 ⟨rfl, hb4⟩
  have hlt4 := hb4.size
  simp at hlt4
  go_wp2_with fail
  go_ret
  exact ⟨rfl, hb1.trans ((hb2.trans ((hb3.trans ((((Below.refl _ _).alloc (Nat.le_refl _) _).trans (hb4.mono (by simp))).mono hb3.size)).mono hb2.size)).mono hb1.size)⟩
set_option maxRecDepth 100000 in
set_option maxHeartbeats 400000 in
theorem walk (a0 : Option Addr) (len cap : Nat) (w : World) (hm : len ≤ maxLen) (hc : len ≤ 1048576 → CodeAt w w.heap.size a0 len) (hmax : HasMax w) :
    Calls Tryd.prog 4 #[.slice a0 len cap] w fun e w' => e = .returned (.bool true) ∧ Below w.heap.size w w' := by
  by_cases hs : len ≤ 1048576
  · exact core a0 len cap hs w (hc hs) hmax
  · unfold maxLen at hm
    clear hc
    go_enter Tryd.func4, Tryd.ntmps4
    go_wp2_with (go_at_call 9; go_in)
    go_ret
    exact ⟨rfl, Below.refl _ _⟩

open Go.ChangeMaps (open_string shut_string)
theorem laidOut : laidOutB Tryd.prog = true := by kernel_rfl
theorem own : ownKnob Tryd.prog.godebug = none := by kernel_rfl
set_option maxRecDepth 100000 in
/-- What the walk gives, for every argument and every world that holds the tables. -/
theorem contract (H : Type) (enc : TypeId × Value → H) (W : World) (base : Nat) (args : Array Value) (ds gs : List (DataW H)) (before : List MemPlace)
    (hval : ∀ (j : Nat) t v, Tryd.f4.params[j]? = some t → args[j]? = some v → Value.okWide Tryd.prog W .any base t v)
    (hW : DataW.Whole enc Tryd.prog Tryd.f4.params.toList Rows.fnPartsSpec.vars false W args.toList ds gs before) (_hL : laidMetH Tryd.prog Rows.fnPartsRow.laid W) (hS : W.ShapedOpen Tryd.prog) :
    Calls Tryd.prog 4 args W fun e W' => ∃ v, e = .returned v ∧ Rows.fnPartsSpec.post enc Tryd.prog Tryd.f4 false true false false W args v W' := by
  have hW' := hW
  obtain ⟨p, q, hA0, hV, rfl, hfz, hnd⟩ := hW
  have hA : DataW.TrodAll enc Tryd.prog W 0 (fun _ => true) true Tryd.f4.params.toList args.toList ds p := hA0
  rw [Tryd.params4] at hA hval
  obtain ⟨v0, vs0, d0, ds0, p0, q0, hargs, rfl, rfl, h0, r0⟩ := trodAll_cons hA
  obtain ⟨rfl, rfl, rfl⟩ := trodAll_nil r0
  obtain rfl : args = #[v0] := by cases args; simp_all
  obtain ⟨rfl, rfl⟩ := trodVars_none hV
  obtain ⟨ca, cl, cc, rfl⟩ := okWide_slice Tryd.underlying22 (hval 0 22 v0 rfl rfl)
  have k0 := h0
  have lt0 : ∀ x ∈ p0, x.block < W.heap.size := by obtain ⟨m, hm⟩ := k0; exact DataW.trod_lt m _ _ _ hm
  have ch : cl ≤ 1048576 → CodeAt W W.heap.size ca cl := by
    obtain ⟨fuel, hf⟩ := h0
    rcases open_ints Tryd.underlying22 Tryd.underlying5 (by kernel_rfl) hf with ⟨hcs, _⟩ | ⟨x, l, c, zs, hcs, _, hl, hm, hz, _, hcell, hwz⟩
    · simp [Value.cells] at hcs
      obtain ⟨rfl, rfl, rfl⟩ := hcs
      exact fun _ => ⟨by omega, fun h => absurd h (by omega)⟩
    · simp [Value.cells] at hcs
      obtain ⟨rfl, rfl, rfl⟩ := hcs
      have hz2 : zs.length = cc := by simpa using hz
      exact fun hs => code_of hs (by omega) hcell hwz
  have cm : cl ≤ maxLen := by
    obtain ⟨fuel, hf⟩ := h0
    rcases open_ints Tryd.underlying22 Tryd.underlying5 (by kernel_rfl) hf with ⟨hcs, _⟩ | ⟨x, l, c, zs, hcs, _, hl, hm, hz, _, hcell, hwz⟩
    · simp [Value.cells] at hcs
      obtain ⟨rfl, rfl, rfl⟩ := hcs
      exact Nat.zero_le _
    · simp [Value.cells] at hcs
      obtain ⟨rfl, rfl, rfl⟩ := hcs
      omega
  clear hA0
  simp only [List.append_nil] at hW'
  refine (walk ca cl cc W cm ch (HasMax.of hS)).mono fun e W' ⟨he, hg⟩ => ?_
  subst he
  exact ⟨_, rfl, _, _, _, [], _, [], hW', trodAll_mk1 (shut_bool Tryd.underlying4 _), (trodAll_cons_mk (Below.trod laidOut (by kernel_rfl) (of_decide_eq_true (by kernel_rfl)) k0 hg lt0) trodAll_mk0), rfl, hg.frame _, fun h => by cases h⟩

/-- A world for the witness: what the program's own start lays. -/
noncomputable def laidWorld (os : Os) : World := World.laidAll Tryd.prog os Rows.fnPartsRow.laid
theorem laid_met (os : Os) : laidMetH Tryd.prog Rows.fnPartsRow.laid ((laidWorld os).forCall (fun _ _ => 0) ⟨#[], #[.slice none 0 0], []⟩).memory :=
  by rw [MakeChecks.laidMetH_plain _ _ _ (by kernel_rfl)]; exact laidMet_laidAll _ (by kernel_rfl) (by kernel_rfl)
theorem reads (os : Os) {H : Type} (enc : TypeId × Value → H) : ∃ places, DataW.whole enc Tryd.prog ((laidWorld os).forCall (fun _ _ => 0) ⟨#[], #[.slice none 0 0], []⟩).memory Tryd.f4.params.toList Rows.fnPartsSpec.vars false #[Value.slice none 0 0].toList 8 = some ([.nil], [], places) :=
  ⟨[], by kernel_rfl⟩
set_option maxRecDepth 100000 in
theorem lifted (os : Os) (started : os.Started) (H : Type) (enc : TypeId × Value → H) (F : Stop.Interp) :
    ReturnsInHanded {} Tryd.checked os 4 .any ((OpenSpec.ofChange Rows.fnPartsSpec).preRow enc Tryd.prog Tryd.f4 Rows.fnPartsRow.domain false Rows.fnPartsRow.laid) (((OpenSpec.ofChange Rows.fnPartsSpec).at F).post enc Tryd.prog Tryd.f4 false true false false) := by
  obtain ⟨places, hx⟩ := reads os enc
  refine returnsInHanded_of_row (C := Tryd.checked) (s := OpenSpec.ofChange Rows.fnPartsSpec) own started (by kernel_rfl) Tryd.func4
    (witness_row_at (enc := enc) (C := Tryd.checked) false (laidWorld os) #[.slice none 0 0] (World.laidAll_os _ _ _) (by kernel_rfl) (by kernel_rfl) (by kernel_rfl)
      (OpenSpec.preRow_of_cond 8 hx (by kernel_rfl) (fun k hk => by cases hk) (by kernel_rfl) (laid_met os))) ?_
  intro W base args ds gs before hval hW _ _ _ hL hS _
  exact contract H enc W base args ds gs before hval hW hL hS
theorem said : Rows.FnPartsSaid :=
  OpenClaim.holds_of_cond 4 Tryd.f4 rfl rfl rfl rfl rfl rfl rfl ⟨rfl, rfl, rfl, rfl, rfl⟩ rfl rfl rfl rfl rfl (by kernel_rfl) Tryd.func4 (by kernel_rfl)
    (of_decide_eq_true (by kernel_rfl)) (by unfold Func.isWrapper; first | (rw [if_pos (by decide +kernel)]; kernel_rfl) | (rw [if_neg (by decide +kernel)]; exact ⟨rfl, rfl⟩))
    (fun os started H enc _ F => by rw [OpenClaim.pre_eq_preRow]; exact lifted os started H enc F)
theorem plain (f : FuncId) (fn : Func) (hf : Tryd.pinned.checked.prog.funcNamed "loop.example/g00506/laws.FnParts" = some f) (hfn : Tryd.pinned.checked.prog.funcs[f]? = some fn) :
    true = Tryd.pinned.checked.prog.looks [] ∧ ∀ (j : Nat) t, fn.params[j]? = some t → Tryd.pinned.checked.prog.wantsStandIn t = false := by
  obtain rfl : f = 4 := Option.some.inj ((show Tryd.prog.funcNamed "loop.example/g00506/laws.FnParts" = some 4 by kernel_rfl).symm.trans hf) |>.symm
  obtain rfl : fn = Tryd.f4 := (Option.some.inj (Tryd.func4.symm.trans hfn)).symm
  refine ⟨by kernel_rfl, fun j t ht => ?_⟩
  rw [Tryd.params4] at ht
  have hm : t ∈ [22] := by simpa using Array.mem_of_getElem? ht
  have hall : ([22].all fun u => !Tryd.prog.wantsStandIn u) = true := by kernel_rfl
  exact (show Tryd.prog.wantsStandIn t = false by simpa using List.all_eq_true.1 hall t hm)
theorem card : Rows.FnPartsCardSaid :=
  Claim7.holds_tied_plain_at .later [] _ _ _ _ said (fun _ h => by cases h) (by kernel_rfl) (fun _ h => by cases h) fnParts_row_tie rfl ⟨rfl, rfl⟩ (by kernel_rfl) rfl plain (by kernel_rfl)
end Go.Proofs.YtlbgkdkgembkkaaDoor.fnParts
