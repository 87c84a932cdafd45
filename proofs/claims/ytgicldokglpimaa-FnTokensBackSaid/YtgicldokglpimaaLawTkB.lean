/- The law FnTokensBack: the tokens of a text, formatted, are read as these tokens, at every code. No condition. -/
import Derived.Test.YtgicldokglpimaaInit
import Derived.Test.YtgicldokglpimaaTkK
import Derived.Test.YtgicldokglpimaaTkV
import Derived.Test.YtgicldokglpimaaTkN
import Derived.Test.YtgicldokglpimaaTkO
import Derived.Test.YtgicldokglpimaaTkF
import Derived.Lib.SmallJoins
import Derived.WalkKit
import Derived.ProofKit
import Derived.OpenShut
import Derived.Deep.DeepHandedRow
import Derived.Lib.LaidTab
import Derived.LaidMore
import Derived.LaidHandle
import Derived.Lay
import Derived.Stop.LaidErr
namespace Go.Proofs.Ytgicldokglpimaa.fnTokensBack
open Go.ChangeShapes Go.WideShapes Go.ChangeAt Go.RowKit Go.Lib
attribute [local irreducible] World.cell?
set_option maxRecDepth 100000 in
set_option maxHeartbeats 12800000 in
theorem core (a0 : Option Addr) (len cap : Nat) (hs : len ≤ 1048576) (_ : len ≤ cap) (w : World) (hcode : CodeAt w w.heap.size a0 len) :
    Calls Try.prog 4 #[.slice a0 len cap] w fun e w' => e = .returned (.bool true) ∧ Below w.heap.size w w' := by
  have Hc := Lib.hid hcode
  have Hb := Lib.hid (Below.refl w.heap.size w)
  clear hcode
  go_enter Try.func4, Try.ntmps4
  go_wp2_with (go_at_call 9; go_in)
  refine (drawTz a0 len cap _ Hc.out).mono ?_
  rintro e w1 ⟨⟨X, rfl, hX⟩, hb1⟩
  have Hb := Lib.hid (below_nx Hb.out hb1)
  have Hi := fun W => itok X W (by omega)
  have Hs := fun W => stok X W (by omega)
  obtain ⟨R, hR⟩ : ∃ R, R = (tz (bs X) []).getD [] := ⟨_, rfl⟩
  obtain ⟨t, ht⟩ : ∃ t, t = (tz (bs X) []).isSome := ⟨_, rfl⟩
  have hgood : (∀ x ∈ R, tkT x ≠ []) ∧ R.length ≤ 160 := by
    rw [hR]
    cases h : tz (bs X) [] with
    | none => exact ⟨fun x hx => absurd hx List.not_mem_nil, Nat.zero_le _⟩
    | some L => exact tz_ok _ (bs X) [] L (Nat.le_refl _) h (fun t ht => absurd ht List.not_mem_nil) (Nat.zero_le _)
  have hnil : t = false → R = [] := by
    rw [hR, ht]
    cases tz (bs X) [] with
    | none => intro _; rfl
    | some L => intro h; cases h
  rw [← hR, ← ht] at Hi Hs
  have Hi := Lib.hid Hi
  have Hs := Lib.hid Hs
  have Hm := Lib.hid (fun W B v (h : tkE.Sl W B v R) => ifmtTs B v R W h (by have := hgood.2; omega) (fun x hx => by have := tkT_s (hgood.1 x hx); omega))
  have hsz := tksL_len true R
  have HB := fun W => itok (sb (tksL true R)) W (by rw [sb_size]; have := hgood.2; omega)
  rw [bs_sb, tz_tks R true [] hgood.1 (by simpa using hgood.2), List.nil_append] at HB
  simp only [Option.isSome_some, Option.getD_some] at HB
  have HB := Lib.hid HB
  have hrl : R.length ≤ 1048576 := by have := hgood.2; omega
  generalize sb (tksL true R) = E at *
  clear hb1 hX hR ht hgood hsz
  cases t with
  | false =>
    obtain rfl := hnil rfl
    clear hnil
    go_wp2_with fail
    refine (Hi.out _).mono ?_
    rintro e w2 ⟨v, rfl, hd2, hb2⟩
    have HR := Lib.hid hd2
    obtain ⟨p2, c2', rfl, -, -⟩ := id hd2
    have Hb := Lib.hid (below_nx Hb.out hb2)
    clear hb2 hd2
    go_wp2_with fail
    refine (Hs.out _).mono ?_
    rintro e w3 ⟨u, rfl, hd3, hb3⟩
    have HR := Lib.hid (HR.out.below hb3)
    have HU := Lib.hid hd3
    obtain ⟨p3, c3', rfl, -, -⟩ := id hd3
    have Hb := Lib.hid (below_nx Hb.out hb3)
    clear hb3 hd3
    go_wp2_with fail
    refine (Hm.out _ _ _ HR.out).mono ?_
    rintro e w4 ⟨rfl, hb4⟩
    have HR := Lib.hid (HR.out.below hb4)
    have HU := Lib.hid (HU.out.below hb4)
    have Hb := Lib.hid (below_nx Hb.out hb4)
    clear hb4
    go_wp2_with fail
    refine (HB.out _).mono ?_
    rintro e w5 ⟨k, rfl, hd5, hb5⟩
    have HR := Lib.hid (HR.out.below hb5)
    have HU := Lib.hid (HU.out.below hb5)
    have HK := Lib.hid hd5
    obtain ⟨p5, c5', rfl, -, -⟩ := id hd5
    have Hb := Lib.hid (below_nx Hb.out hb5)
    clear hb5 hd5
    go_wp2_with fail
    refine (lsameT _ _ _ _ _ _ HK.out HR.out hrl).mono ?_
    rintro e w6 ⟨rfl, hb6⟩
    have HR := Lib.hid (HR.out.below hb6)
    have HU := Lib.hid (HU.out.below hb6)
    have HK := Lib.hid (HK.out.below hb6)
    have Hb := Lib.hid (below_nx Hb.out hb6)
    clear hb6
    go_wp2_with fail
    first | go_ret | go_returns
    exact ⟨rfl, Hb.out⟩
  | true =>
    clear hnil
    go_wp2_with fail
    refine (Hi.out _).mono ?_
    rintro e w2 ⟨v, rfl, hd2, hb2⟩
    have HR := Lib.hid hd2
    obtain ⟨p2, c2', rfl, -, -⟩ := id hd2
    have Hb := Lib.hid (below_nx Hb.out hb2)
    clear hb2 hd2
    go_wp2_with fail
    refine (Hs.out _).mono ?_
    rintro e w3 ⟨u, rfl, hd3, hb3⟩
    have HR := Lib.hid (HR.out.below hb3)
    have HU := Lib.hid hd3
    obtain ⟨p3, c3', rfl, -, -⟩ := id hd3
    have Hb := Lib.hid (below_nx Hb.out hb3)
    clear hb3 hd3
    go_wp2_with fail
    refine (Hm.out _ _ _ HR.out).mono ?_
    rintro e w4 ⟨rfl, hb4⟩
    have HR := Lib.hid (HR.out.below hb4)
    have HU := Lib.hid (HU.out.below hb4)
    have Hb := Lib.hid (below_nx Hb.out hb4)
    clear hb4
    go_wp2_with fail
    refine (HB.out _).mono ?_
    rintro e w5 ⟨k, rfl, hd5, hb5⟩
    have HR := Lib.hid (HR.out.below hb5)
    have HU := Lib.hid (HU.out.below hb5)
    have HK := Lib.hid hd5
    obtain ⟨p5, c5', rfl, -, -⟩ := id hd5
    have Hb := Lib.hid (below_nx Hb.out hb5)
    clear hb5 hd5
    go_wp2_with fail
    refine (lsameT _ _ _ _ _ _ HK.out HR.out hrl).mono ?_
    rintro e w6 ⟨rfl, hb6⟩
    have HR := Lib.hid (HR.out.below hb6)
    have HU := Lib.hid (HU.out.below hb6)
    have HK := Lib.hid (HK.out.below hb6)
    have Hb := Lib.hid (below_nx Hb.out hb6)
    clear hb6
    go_wp2_with fail
    first | go_ret | go_returns
    exact ⟨rfl, Hb.out⟩
set_option maxRecDepth 100000 in
set_option maxHeartbeats 400000 in
theorem walk (a0 : Option Addr) (len cap : Nat) (w : World) (hm : len ≤ maxLen) (hlc : len ≤ cap) (hc : len ≤ 1048576 → CodeAt w w.heap.size a0 len) :
    Calls Try.prog 4 #[.slice a0 len cap] w fun e w' => e = .returned (.bool true) ∧ Below w.heap.size w w' := by
  by_cases hs : len ≤ 1048576
  · exact core a0 len cap hs hlc w (hc hs)
  · unfold maxLen at hm
    clear hc
    go_enter Try.func4, Try.ntmps4
    go_wp2_with (go_at_call 9; go_in)
    go_ret
    exact ⟨rfl, Below.refl _ _⟩

open Go.ChangeMaps (open_string shut_string)
theorem laidOut : laidOutB Try.prog = true := by kernel_rfl
theorem own : ownKnob Try.prog.godebug = none := by kernel_rfl
set_option maxRecDepth 100000 in
/-- What the walk gives, for every argument. -/
theorem contract (H : Type) (enc : TypeId × Value → H) (W : World) (base : Nat) (args : Array Value) (ds gs : List (DataW H)) (before : List MemPlace)
    (hval : ∀ (j : Nat) t v, Try.f4.params[j]? = some t → args[j]? = some v → Value.okWide Try.prog W .any base t v)
    (hW : DataW.Whole enc Try.prog Try.f4.params.toList Rows.fnTokensBackSpec.vars false W args.toList ds gs before) :
    Calls Try.prog 4 args W fun e W' => ∃ v, e = .returned v ∧ Rows.fnTokensBackSpec.post enc Try.prog Try.f4 false true false false W args v W' := by
  have hW' := hW
  obtain ⟨p, q, hA0, hV, rfl, hfz, hnd⟩ := hW
  have hA : DataW.TrodAll enc Try.prog W 0 (fun _ => true) true Try.f4.params.toList args.toList ds p := hA0
  rw [Try.params4] at hA hval
  obtain ⟨v0, vs0, d0, ds0, p0, q0, hargs, rfl, rfl, h0, r0⟩ := trodAll_cons hA
  obtain ⟨rfl, rfl, rfl⟩ := trodAll_nil r0
  obtain rfl : args = #[v0] := by cases args; simp_all
  obtain ⟨rfl, rfl⟩ := trodVars_none hV
  obtain ⟨ca, cl, cc, rfl⟩ := okWide_slice Try.underlying22 (hval 0 22 v0 rfl rfl)
  have k0 := h0
  have lt0 : ∀ x ∈ p0, x.block < W.heap.size := by obtain ⟨m, hm⟩ := k0; exact DataW.trod_lt m _ _ _ hm
  have ch : (cl ≤ 1048576 → CodeAt W W.heap.size ca cl) ∧ cl ≤ maxLen ∧ cl ≤ cc := by
    obtain ⟨fuel, hf⟩ := h0
    rcases open_ints Try.underlying22 Try.underlying5 (by kernel_rfl) hf with ⟨hcs, _⟩ | ⟨x, l, c, zs, hcs, _, hl, hm, hz, _, hcell, hwz⟩
    · simp [Value.cells] at hcs
      obtain ⟨rfl, rfl, rfl⟩ := hcs
      exact ⟨fun _ => ⟨by omega, fun h => absurd h (by omega)⟩, Nat.zero_le _, Nat.le_refl _⟩
    · simp [Value.cells] at hcs
      obtain ⟨rfl, rfl, rfl⟩ := hcs
      have hz2 : zs.length = cc := by simpa using hz
      exact ⟨fun hs => code_of hs (by omega) hcell hwz, by omega, hl⟩
  clear hA0
  simp only [List.append_nil] at hW'
  refine (walk ca cl cc W ch.2.1 ch.2.2 ch.1).mono fun e W' ⟨he, hg⟩ => ?_
  subst he
  exact ⟨_, rfl, _, _, _, [], _, [], hW', trodAll_mk1 (shut_bool Try.underlying4 _), (trodAll_cons_mk (Below.trod laidOut (by kernel_rfl) (of_decide_eq_true (by kernel_rfl)) k0 hg lt0) trodAll_mk0), rfl, hg.frame _, fun h => by cases h⟩

set_option maxRecDepth 100000 in
theorem lifted (os : Os) (started : os.Started) (H : Type) (enc : TypeId × Value → H) :
    ReturnsInHanded {} Try.checked os 4 .any (Rows.fnTokensBackSpec.pre6 enc Try.prog Try.f4 Rows.fnTokensBackRow.domain false) (Rows.fnTokensBackSpec.post enc Try.prog Try.f4 false true false false) := by
  refine returnsInHanded_of_change (C := Try.checked) own started (by kernel_rfl) Try.func4
    (ChangeSpec.witness6 (enc := enc) (C := Try.checked) false ⟨#[], #[.slice none 0 0], []⟩ 8 (by kernel_rfl) (by kernel_rfl) (by kernel_rfl) (by kernel_rfl)) ?_
  intro W base args ds gs before hval hW _ _
  exact contract H enc W base args ds gs before hval hW
theorem closedFacts : joinedFacts Try.pinned.checked.prog 4 Try.f4 Rows.fnTokensBackSpec Rows.fnTokensBackRow = true := by
  unfold joinedFacts
  rw [init_may, init_facts.2.1, init_facts.2.2]
  kernel_rfl
theorem said : Rows.FnTokensBackSaid :=
  OpenClaim.holds_of_wide 4 Try.f4 rfl rfl rfl rfl rfl rfl rfl ⟨rfl, rfl, rfl, rfl, rfl⟩ rfl rfl rfl rfl rfl (by kernel_rfl) Try.func4 closedFacts
    (of_decide_eq_true (by kernel_rfl)) (by unfold Func.isWrapper; first | (rw [if_pos (by decide +kernel)]; kernel_rfl) | (rw [if_neg (by decide +kernel)]; exact ⟨rfl, rfl⟩))
    (fun os started H enc _ => lifted os started H enc)
end Go.Proofs.Ytgicldokglpimaa.fnTokensBack
