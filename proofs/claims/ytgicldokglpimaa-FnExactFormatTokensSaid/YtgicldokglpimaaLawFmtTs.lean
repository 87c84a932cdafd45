/- The law FnExactFormatTokens: FormatTokens answers as its model, at every list of tokens. No condition. -/
import Derived.Test.YtgicldokglpimaaInit
import Derived.Test.YtgicldokglpimaaTkK
import Derived.Test.YtgicldokglpimaaTkV
import Derived.Test.YtgicldokglpimaaTkN
import Derived.Test.YtgicldokglpimaaTkO
import Derived.Lib.SmallJoins
import Derived.WalkKit
import Derived.ProofKit
import Derived.OpenShut
import Derived.Deep.DeepHandedRow
import Derived.Lib.LaidTab
import Derived.LaidMore
import Derived.LaidHandle
import Derived.Lay
import Derived.Stop.LaidErr
namespace Go.Proofs.Ytgicldokglpimaa.fnExactFormatTokens
open Go.ChangeShapes Go.WideShapes Go.ChangeAt Go.RowKit Go.Lib
attribute [local irreducible] World.cell?
set_option maxRecDepth 100000 in
set_option maxHeartbeats 6400000 in
theorem walk (la : Option Addr) (lc : Nat) (l : List Tk) (w : World) (hin : TkIn w w.heap.size la l) :
    Calls Try.prog 8 #[.slice la l.length lc] w fun e w' => e = .returned (.bool true) ∧ Below w.heap.size w w' := by
  have Hsz := Lib.hid (szTks la lc w.heap.size l 1048576 w hin (Nat.le_refl _) (by omega) (by omega))
  have Hb := Lib.hid (Below.refl w.heap.size w)
  by_cases hs : (l.length : Int) + tsz l ≤ 1048576
  · rw [if_pos hs] at Hsz
    have hn' : ¬ (1048576 - (l.length : Int) - (tsz l : Int) < 0) := by omega
    have hnl : l.length ≤ 1048576 := by omega
    have Hinl := Lib.hid hin
    have hts : ∀ t ∈ l, t.s.length ≤ 1073741824 := fun t ht => by have := tsz_mem ht; omega
    have Hsp := Lib.hid (fun W C v (h1 : tkE.Sl W C v l) => sfmtTs C v l W h1 hnl hts)
    have Him := Lib.hid (fun W C v (h1 : tkE.Sl W C v l) => ifmtTs C v l W h1 hnl hts)
    generalize sb (tksL true l) = E at *
    have hby := bytes_yes E
    clear hin hts hs
    go_enter Try.func8, Try.ntmps8
    go_wp2_with fail
    refine (Hsz.out).mono ?_
    rintro e w1 ⟨rfl, hb1⟩
    have Hb := Lib.hid (below_nx Hb.out hb1)
    have hz1 := hb1.size
    clear hb1
    go_wp2_with fail
    refine (toTks la lc w.heap.size l _ (Hinl.out.below Hb.out) Hb.out.size hnl).mono ?_
    rintro e w2 ⟨vp0, rfl, hd2, hb2⟩
    have Hp0 := Lib.hid hd2.upto
    have Hb := Lib.hid (below_nx Hb.out hb2)
    have hz2 := hb2.size
    clear hb2 hd2
    go_wp2_with fail
    refine (Hsp.out _ _ _ Hp0.out.sl).mono ?_
    rintro e w3 ⟨rfl, hb3⟩
    have Hp0 := Lib.hid (Hp0.out.below hb3)
    have Hb := Lib.hid (below_nx Hb.out hb3)
    have hz3 := hb3.size
    clear hb3
    go_wp2_with fail
    refine (toTks la lc w.heap.size l _ (Hinl.out.below Hb.out) Hb.out.size hnl).mono ?_
    rintro e w4 ⟨vx0, rfl, hd4, hb4⟩
    have Hx0 := Lib.hid hd4.upto
    have Hb := Lib.hid (below_nx Hb.out hb4)
    have hz4 := hb4.size
    clear hb4 hd4
    go_wp2_with fail
    refine (Him.out _ _ _ Hx0.out.sl).mono ?_
    rintro e w5 ⟨rfl, hb5⟩
    have Hx0 := Lib.hid (Hx0.out.below hb5)
    have Hb := Lib.hid (below_nx Hb.out hb5)
    have hz5 := hb5.size
    clear hb5
    go_wp2_with fail
    refine (toTks la lc w.heap.size l _ (Hinl.out.below Hb.out) Hb.out.size hnl).mono ?_
    rintro e w6 ⟨vp2, rfl, hd6, hb6⟩
    have Hp2 := Lib.hid hd6.upto
    have Hx0 := Lib.hid (Hx0.out.below hb6)
    have Hb := Lib.hid (below_nx Hb.out hb6)
    have hz6 := hb6.size
    clear hb6 hd6
    go_wp2_with fail
    refine (eqTks _ _ _ _ l _ Hx0.out.sl Hp2.out.sl hnl).mono ?_
    rintro e w7 ⟨rfl, hb7⟩
    have Hx0 := Lib.hid (Hx0.out.below hb7)
    have Hp2 := Lib.hid (Hp2.out.below hb7)
    have Hb := Lib.hid (below_nx Hb.out hb7)
    have hz7 := hb7.size
    clear hb7
    go_wp2_with fail
    go_ret
    exact ⟨rfl, Hb.out⟩
  · rw [if_neg hs] at Hsz
    clear hin hs
    go_enter Try.func8, Try.ntmps8
    go_wp2_with fail
    refine (Hsz.out).mono ?_
    rintro e w1 ⟨rfl, hb1⟩
    have Hb := Lib.hid (below_nx Hb.out hb1)
    have hz1 := hb1.size
    clear hb1
    go_wp2_with fail
    go_ret
    exact ⟨rfl, Hb.out⟩

open Go.ChangeMaps (open_string shut_string)
theorem laidOut : laidOutB Try.prog = true := by kernel_rfl
theorem own : ownKnob Try.prog.godebug = none := by kernel_rfl
set_option maxRecDepth 100000 in
/-- What the walk gives, for every argument. -/
theorem contract (H : Type) (enc : TypeId × Value → H) (W : World) (base : Nat) (args : Array Value) (ds gs : List (DataW H)) (before : List MemPlace)
    (hval : ∀ (j : Nat) t v, Try.f8.params[j]? = some t → args[j]? = some v → Value.okWide Try.prog W .any base t v)
    (hW : DataW.Whole enc Try.prog Try.f8.params.toList Rows.fnExactFormatTokensSpec.vars false W args.toList ds gs before) :
    Calls Try.prog 8 args W fun e W' => ∃ v, e = .returned v ∧ Rows.fnExactFormatTokensSpec.post enc Try.prog Try.f8 false true false false W args v W' := by
  have hW' := hW
  obtain ⟨p, q, hA0, hV, rfl, hfz, hnd⟩ := hW
  have hA : DataW.TrodAll enc Try.prog W 0 (fun _ => true) true Try.f8.params.toList args.toList ds p := hA0
  rw [Try.params8] at hA hval
  obtain ⟨v0, vs0, d0, ds0, p0, q0, hargs, rfl, rfl, h0, r0⟩ := trodAll_cons hA
  obtain ⟨rfl, rfl, rfl⟩ := trodAll_nil r0
  obtain rfl : args = #[v0] := by cases args; simp_all
  obtain ⟨rfl, rfl⟩ := trodVars_none hV
  have k0 := h0
  have lt0 : ∀ x ∈ p0, x.block < W.heap.size := by obtain ⟨m, hm⟩ := k0; exact DataW.trod_lt m _ _ _ hm
  obtain ⟨la, lc, l, rfl, lh⟩ := open_tks (hval 0 40 v0 rfl rfl) h0
  clear hA0
  simp only [List.append_nil] at hW'
  refine (walk la lc l W lh).mono fun e W' ⟨he, hg⟩ => ?_
  subst he
  exact ⟨_, rfl, _, _, _, [], _, [], hW', trodAll_mk1 (shut_bool Try.underlying4 _), (trodAll_cons_mk (Below.trod laidOut (by kernel_rfl) (of_decide_eq_true (by kernel_rfl)) k0 hg lt0) trodAll_mk0), rfl, hg.frame _, fun h => by cases h⟩

set_option maxRecDepth 100000 in
theorem lifted (os : Os) (started : os.Started) (H : Type) (enc : TypeId × Value → H) :
    ReturnsInHanded {} Try.checked os 8 .any (Rows.fnExactFormatTokensSpec.pre6 enc Try.prog Try.f8 Rows.fnExactFormatTokensRow.domain false) (Rows.fnExactFormatTokensSpec.post enc Try.prog Try.f8 false true false false) := by
  refine returnsInHanded_of_change (C := Try.checked) own started (by kernel_rfl) Try.func8
    (ChangeSpec.witness6 (enc := enc) (C := Try.checked) false ⟨#[], #[.slice none 0 0], []⟩ 8 (by kernel_rfl) (by kernel_rfl) (by kernel_rfl) (by kernel_rfl)) ?_
  intro W base args ds gs before hval hW _ _
  exact contract H enc W base args ds gs before hval hW
theorem closedFacts : joinedFacts Try.pinned.checked.prog 8 Try.f8 Rows.fnExactFormatTokensSpec Rows.fnExactFormatTokensRow = true := by
  unfold joinedFacts
  rw [init_may, init_facts.2.1, init_facts.2.2]
  kernel_rfl
theorem said : Rows.FnExactFormatTokensSaid :=
  OpenClaim.holds_of_wide 8 Try.f8 rfl rfl rfl rfl rfl rfl rfl ⟨rfl, rfl, rfl, rfl, rfl⟩ rfl rfl rfl rfl rfl (by kernel_rfl) Try.func8 closedFacts
    (of_decide_eq_true (by kernel_rfl)) (by unfold Func.isWrapper; first | (rw [if_pos (by decide +kernel)]; kernel_rfl) | (rw [if_neg (by decide +kernel)]; exact ⟨rfl, rfl⟩))
    (fun os started H enc _ => lifted os started H enc)
end Go.Proofs.Ytgicldokglpimaa.fnExactFormatTokens
