/- The law FnExactJoin: impl.Join and its model give the same string, and the list reads as it did, at every list and separator. No condition. -/
import Derived.Test.YtlbgkdkgembkkabJoinS
import Derived.Test.YtlbgkdkgembkkabEqS
import Derived.Test.YtlbgkdkgembkkabStdJoin
import Derived.ProofKit
import Derived.OpenShut
namespace Go.Proofs.Ytlbgkdkgembkkab.fnJoin
open Go.ChangeShapes Go.WideShapes Go.ChangeAt Go.RowKit Go.Lib
set_option maxRecDepth 100000 in
set_option maxHeartbeats 400000 in
theorem ijoin_any (b n : Nat) (f : Nat → ByteArray) (by_ : ByteArray) (w : World) (hr : StrRow w b n f) (hn : n ≤ 1048576) (ht : totS f n ≤ 1048576) (hs : by_.size ≤ 1048576) :
    Calls Try.prog 7 #[.slice (some ⟨b, 0, none⟩) n n, .string by_] w fun e w' => e = .returned (.string ⟨(joinK f by_.data.toList n).toArray⟩) ∧ Below w.heap.size w w' := by
  have hm : n * by_.data.toList.length ≤ 1048576 * 1048576 := Nat.mul_le_mul hn (by simpa using hs)
  have hj := joinK_len f by_.data.toList n
  have eL : ((List.range n).map f).length = n := by simp
  have eM : ((List.range n).map f).map (·.data.toList) = (List.range n).map fun j => (f j).data.toList := by simp
  have hc := Try.strings_Join b 0 n ((List.range n).map f) by_ w (fun j x hx => by
    rw [List.getElem?_map] at hx
    rcases Nat.lt_or_ge j n with h' | h'
    · rw [List.getElem?_range h'] at hx
      simp at hx
      rw [Nat.zero_add, hr.cell h', hx]
    · rw [List.getElem?_eq_none (by simpa using h')] at hx; cases hx) hr.lt (by omega) (by omega) (by
      rw [eM]
      show (joinK f by_.data.toList n).length ≤ _
      omega)
  rw [eL, eM] at hc
  have Hc := Lib.hid hc
  clear hc eL eM hj hr hm ht
  go_enter Try.func7, Try.ntmps7
  go_wp2_with fail
  refine Hc.out.mono ?_
  rintro e w1 ⟨rfl, hb⟩
  go_wp2_with fail
  go_ret
  exact ⟨rfl, hb⟩
set_option maxRecDepth 100000 in
set_option maxHeartbeats 800000 in
theorem walk (a0 : Option Addr) (n cap : Nat) (f : Nat → ByteArray) (by_ : ByteArray) (w : World) (hin : StrsIn w w.heap.size a0 n f) (hby : by_.size ≤ maxLen) :
    Calls Try.prog 3 #[.slice a0 n cap, .string by_] w fun e w' => e = .returned (.bool true) ∧ Below w.heap.size w w' := by
  unfold maxLen at hby
  have Hin := Lib.hid hin
  clear hin
  by_cases hbig : 1048576 < by_.size
  · go_enter Try.func3, Try.ntmps3
    go_wp2_with fail
    go_ret
    exact ⟨rfl, Below.refl _ _⟩
  · have hs : by_.size ≤ 1048576 := by omega
    go_enter Try.func3, Try.ntmps3
    go_wp2_with fail
    refine (szS_any a0 n cap f 1048576 _ _ Hin.out (by omega) (by omega)).mono ?_
    rintro e w1 ⟨hsz, rfl⟩
    rcases hsz with ⟨hle, rfl⟩ | rfl
    · have hn : n ≤ 1048576 := by omega
      have ht : totS f n ≤ 1048576 := by omega
      have hdec : 0 ≤ (1048576 : Int) - n - totS f n := by omega
      go_wp2_with fail
      refine (toS_any a0 n cap f _ Hin.out hn).mono ?_
      rintro e w1 ⟨rfl, hr1, hb1⟩
      have Hr1 := Lib.hid hr1
      clear hr1
      go_wp2_with fail
      refine (sjoin_any _ n n f by_ _ Hr1.out hn ht hs).mono ?_
      rintro e w2 ⟨rfl, hb2⟩
      have hb12 := hb1.trans (hb2.mono hb1.size)
      have hin2 := Hin.out.below hb12
      have Hin2 := Lib.hid hin2
      have hb2s := hb12.size
      clear hin2
      go_wp2_with fail
      refine (toS_any a0 n cap f _ (show StrsIn w2 w2.heap.size a0 n f from ⟨Hin2.out.1, Hin2.out.2.1, fun h => by obtain ⟨b, off, e, hl, hc⟩ := Hin2.out.2.2 h; exact ⟨b, off, e, by omega, hc⟩⟩) hn).mono ?_
      rintro e w3 ⟨rfl, hr3, hb3⟩
      have Hr3 := Lib.hid hr3
      clear hr3
      have hb13 := hb12.trans (hb3.mono hb2s)
      go_wp2_with fail
      refine (ijoin_any _ n f by_ _ Hr3.out hn ht hs).mono ?_
      rintro e w4 ⟨rfl, hb4⟩
      have hb14 := hb13.trans (hb4.mono hb13.size)
      have hr4 := Hr3.out.below hb4 Hr3.out.lt
      have Hr4 := Lib.hid hr4
      have hin4 := Hin.out.below hb14
      have Hin4 := Lib.hid hin4
      have hb4s := hb14.size
      clear hr4 hin4
      go_wp2_with fail
      refine (toS_any a0 n cap f _ (show StrsIn w4 w4.heap.size a0 n f from ⟨Hin4.out.1, Hin4.out.2.1, fun h => by obtain ⟨b, off, e, hl, hc⟩ := Hin4.out.2.2 h; exact ⟨b, off, e, by omega, hc⟩⟩) hn).mono ?_
      rintro e w5 ⟨rfl, hr5, hb5⟩
      have Hr5 := Lib.hid hr5
      have Hr45 := Lib.hid (Hr4.out.below hb5 Hr4.out.lt)
      have hb15 := hb14.trans (hb5.mono hb4s)
      clear hr5
      go_wp2_with fail
      refine (eqS_any _ _ n n _ _ f f _ Hr45.out Hr5.out (by omega) (by omega) rfl (fun _ _ => rfl)).mono ?_
      rintro e w6 ⟨rfl, hb6⟩
      go_wp2_with fail
      go_ret
      exact ⟨rfl, hb15.trans (hb6.mono hb15.size)⟩
    · go_wp2_with fail
      go_ret
      exact ⟨rfl, Below.refl _ _⟩

open Go.ChangeMaps (open_string shut_string)
theorem laidOut : laidOutB Try.prog = true := by kernel_rfl
theorem own : ownKnob Try.prog.godebug = none := by kernel_rfl
set_option maxRecDepth 100000 in
/-- What the walk gives, for every argument. -/
theorem contract (H : Type) (enc : TypeId × Value → H) (W : World) (base : Nat) (args : Array Value) (ds gs : List (DataW H)) (before : List MemPlace)
    (hval : ∀ (j : Nat) t v, Try.f3.params[j]? = some t → args[j]? = some v → Value.okWide Try.prog W .any base t v)
    (hW : DataW.Whole enc Try.prog Try.f3.params.toList Rows.fnExactJoinSpec.vars false W args.toList ds gs before) :
    Calls Try.prog 3 args W fun e W' => ∃ v, e = .returned v ∧ Rows.fnExactJoinSpec.post enc Try.prog Try.f3 false true false false W args v W' := by
  have hW' := hW
  obtain ⟨p, q, hA0, hV, rfl, hfz, hnd⟩ := hW
  have hA : DataW.TrodAll enc Try.prog W 0 (fun _ => true) true Try.f3.params.toList args.toList ds p := hA0
  rw [Try.params3] at hA hval
  obtain ⟨v0, vs0, d0, ds0, p0, q0, hargs, rfl, rfl, h0, r0⟩ := trodAll_cons hA
  obtain ⟨v1, vs1, d1, ds1, p1, q1, rfl, rfl, rfl, h1, r1⟩ := trodAll_cons r0
  obtain ⟨rfl, rfl, rfl⟩ := trodAll_nil r1
  obtain rfl : args = #[v0, v1] := by cases args; simp_all
  obtain ⟨rfl, rfl⟩ := trodVars_none hV
  obtain ⟨aa, al, ac, rfl⟩ := okWide_slice Try.underlying22 (hval 0 22 v0 rfl rfl)
  have k0 := h0
  have lt0 : ∀ x ∈ p0, x.block < W.heap.size := by obtain ⟨m, hm⟩ := k0; exact DataW.trod_lt m _ _ _ hm
  obtain ⟨af, ah⟩ : ∃ f, StrsIn W W.heap.size aa al f := by
    obtain ⟨fuel, hf⟩ := h0
    rcases open_strings Try.underlying22 Try.underlying9 (by kernel_rfl) hf with ⟨hcs, _⟩ | ⟨x, l, c, zs, hcs, _, hl, hm, hz, _, hcell, hwz⟩
    · simp [Value.cells] at hcs
      obtain ⟨rfl, rfl, rfl⟩ := hcs
      exact ⟨fun _ => ByteArray.empty, strs_none⟩
    · simp [Value.cells] at hcs
      obtain ⟨rfl, rfl, rfl⟩ := hcs
      have hz2 : zs.length = ac := by simpa using hz
      exact ⟨_, strs_of (by omega) (by omega) hcell hwz⟩
  obtain ⟨s, rfl, rfl, rfl, ws⟩ := open_string Try.underlying9 (hval 1 9 v1 rfl rfl) h1
  clear hA0
  simp only [List.append_nil] at hW'
  refine (walk aa al ac af s W ah ws).mono fun e W' ⟨he, hg⟩ => ?_
  subst he
  exact ⟨_, rfl, _, _, _, [], _, [], hW', trodAll_mk1 (shut_bool Try.underlying4 _), (trodAll_cons_mk (Below.trod laidOut (by kernel_rfl) (of_decide_eq_true (by kernel_rfl)) k0 hg lt0) (trodAll_cons_mk (shut_string Try.underlying9 ws) trodAll_mk0)), rfl, hg.frame _, fun h => by cases h⟩

set_option maxRecDepth 100000 in
theorem lifted (os : Os) (started : os.Started) (H : Type) (enc : TypeId × Value → H) :
    ReturnsInHanded {} Try.checked os 3 .any (Rows.fnExactJoinSpec.pre6 enc Try.prog Try.f3 Rows.fnExactJoinRow.domain false) (Rows.fnExactJoinSpec.post enc Try.prog Try.f3 false true false false) := by
  refine returnsInHanded_of_change (C := Try.checked) own started (by kernel_rfl) Try.func3
    (ChangeSpec.witness6 (enc := enc) (C := Try.checked) false ⟨#[], #[.slice none 0 0, .string ⟨#[]⟩], []⟩ 8 (by kernel_rfl) (by kernel_rfl) (by kernel_rfl) (by kernel_rfl)) ?_
  intro W base args ds gs before hval hW _ _
  exact contract H enc W base args ds gs before hval hW
theorem said : Rows.FnExactJoinSaid :=
  OpenClaim.holds_of_wide 3 Try.f3 rfl rfl rfl rfl rfl rfl rfl ⟨rfl, rfl, rfl, rfl, rfl⟩ rfl rfl rfl rfl rfl (by kernel_rfl) Try.func3 (by kernel_rfl)
    (of_decide_eq_true (by kernel_rfl)) (by unfold Func.isWrapper; first | (rw [if_pos (by decide +kernel)]; kernel_rfl) | (rw [if_neg (by decide +kernel)]; exact ⟨rfl, rfl⟩))
    (fun os started H enc _ => lifted os started H enc)
end Go.Proofs.Ytlbgkdkgembkkab.fnJoin
