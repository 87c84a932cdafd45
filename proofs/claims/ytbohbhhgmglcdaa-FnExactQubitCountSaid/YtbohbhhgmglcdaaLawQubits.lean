/- The law FnExactQubitCount: QubitCount answers as its model, at every state. No condition. -/
import Derived.Test.YtbohbhhgmglcdaaDsK
import Derived.Test.YtbohbhhgmglcdaaDsN
import Derived.Lib.SmallJoins
import Derived.WalkKit
import Derived.ProofKit
import Derived.OpenShut
import Derived.Deep.DeepHandedRow
import Derived.Lib.LaidTab
import Derived.LaidMore
import Derived.LaidHandle
import Derived.Lay
import Derived.Stop.LaidErr
namespace Go.Proofs.Ytbohbhhgmglcdaa.fnExactQubitCount
open Go.ChangeShapes Go.WideShapes Go.ChangeAt Go.RowKit Go.Lib
attribute [local irreducible] World.cell?
set_option maxRecDepth 100000 in
set_option maxHeartbeats 3200000 in
theorem walk (la : Option Addr) (lc : Nat) (l : List Dw) (w : World) (hin : DsIn w w.heap.size la l) :
    Calls Try.prog 7 #[.slice la l.length lc] w fun e w' => e = .returned (.bool true) ∧ Below w.heap.size w w' := by
  by_cases hl : l.length ≤ 1048576
  · have Hinl := Lib.hid hin
    have hEl := hin.eb
    have Hb := Lib.hid (Below.refl w.heap.size w)
    clear hin
    go_enter Try.func7, Try.ntmps7
    go_wp2_with fail
    refine (szFit la l.length lc 1048576 _ (by omega) (by omega) (by omega)).mono ?_
    rintro e w1 ⟨rfl, rfl⟩
    go_wp2_with fail
    refine (toDsB la lc w.heap.size l _ (Hinl.out.below Hb.out) Hb.out.size hl).mono ?_
    rintro e w2 ⟨vs0, rfl, hd2, hb2⟩
    have Hb := Lib.hid (below_nx Hb.out hb2)
    have Hs0 := Lib.hid hd2
    clear hb2 hd2
    go_wp2_with fail
    obtain ⟨p0, q0, rfl, -, -⟩ := id Hs0.out
    refine (squbits _ _ _ _).mono ?_
    rintro e w3 ⟨rfl, rfl⟩
    go_wp2_with fail
    refine (toDsB la lc w.heap.size l _ (Hinl.out.below Hb.out) Hb.out.size hl).mono ?_
    rintro e w4 ⟨vx0, rfl, hd4, hb4⟩
    have Hb := Lib.hid (below_nx Hb.out hb4)
    have Hx0 := Lib.hid hd4
    clear hb4 hd4
    go_wp2_with fail
    refine (iqubits _ _ l _ Hx0.out hl).mono ?_
    rintro e w5 ⟨rfl, hb5⟩
    have Hx0 := Lib.hid (Hx0.out.below hb5)
    have Hb := Lib.hid (below_nx Hb.out hb5)
    clear hb5
    go_wp2_with fail
    refine (toDsB la lc w.heap.size l _ (Hinl.out.below Hb.out) Hb.out.size hl).mono ?_
    rintro e w6 ⟨vs1, rfl, hd6, hb6⟩
    have Hx0 := Lib.hid (Hx0.out.below hb6)
    have Hb := Lib.hid (below_nx Hb.out hb6)
    have Hs1 := Lib.hid hd6
    clear hb6 hd6
    go_wp2_with fail
    refine (eqDs _ _ _ _ l _ Hx0.out Hs1.out hl).mono ?_
    rintro e w7 ⟨rfl, hb7⟩
    have Hx0 := Lib.hid (Hx0.out.below hb7)
    have Hs1 := Lib.hid (Hs1.out.below hb7)
    have Hb := Lib.hid (below_nx Hb.out hb7)
    clear hb7
    go_wp2_with fail
    go_ret
    exact ⟨rfl, Hb.out⟩
  · have hm := hin.1
    clear hin
    go_enter Try.func7, Try.ntmps7
    go_wp2_with fail
    refine (szBig la l.length lc 1048576 _ hm (by omega) (by omega) (by omega)).mono ?_
    rintro e w1 ⟨rfl, rfl⟩
    go_wp2_with fail
    go_ret
    exact ⟨rfl, Below.refl _ _⟩

open Go.ChangeMaps (open_string shut_string)
theorem laidOut : laidOutB Try.prog = true := by kernel_rfl
theorem own : ownKnob Try.prog.godebug = none := by kernel_rfl
set_option maxRecDepth 100000 in
/-- What the walk gives, for every argument. -/
theorem contract (H : Type) (enc : TypeId × Value → H) (W : World) (base : Nat) (args : Array Value) (ds gs : List (DataW H)) (before : List MemPlace)
    (hval : ∀ (j : Nat) t v, Try.f7.params[j]? = some t → args[j]? = some v → Value.okWide Try.prog W .any base t v)
    (hW : DataW.Whole enc Try.prog Try.f7.params.toList Rows.fnExactQubitCountSpec.vars false W args.toList ds gs before) :
    Calls Try.prog 7 args W fun e W' => ∃ v, e = .returned v ∧ Rows.fnExactQubitCountSpec.post enc Try.prog Try.f7 false true false false W args v W' := by
  have hW' := hW
  obtain ⟨p, q, hA0, hV, rfl, hfz, hnd⟩ := hW
  have hA : DataW.TrodAll enc Try.prog W 0 (fun _ => true) true Try.f7.params.toList args.toList ds p := hA0
  rw [Try.params7] at hA hval
  obtain ⟨v0, vs0, d0, ds0, p0, q0, hargs, rfl, rfl, h0, r0⟩ := trodAll_cons hA
  obtain ⟨rfl, rfl, rfl⟩ := trodAll_nil r0
  obtain rfl : args = #[v0] := by cases args; simp_all
  obtain ⟨rfl, rfl⟩ := trodVars_none hV
  have k0 := h0
  have lt0 : ∀ x ∈ p0, x.block < W.heap.size := by obtain ⟨m, hm⟩ := k0; exact DataW.trod_lt m _ _ _ hm
  obtain ⟨la, lc, l, rfl, lh⟩ := open_ds (hval 0 48 v0 rfl rfl) h0
  clear hA0
  simp only [List.append_nil] at hW'
  refine (walk la lc l W lh).mono fun e W' ⟨he, hg⟩ => ?_
  subst he
  exact ⟨_, rfl, _, _, _, [], _, [], hW', trodAll_mk1 (shut_bool Try.underlying4 _), (trodAll_cons_mk (Below.trod laidOut (by kernel_rfl) (of_decide_eq_true (by kernel_rfl)) k0 hg lt0) trodAll_mk0), rfl, hg.frame _, fun h => by cases h⟩

set_option maxRecDepth 100000 in
theorem lifted (os : Os) (started : os.Started) (H : Type) (enc : TypeId × Value → H) :
    ReturnsInHanded {} Try.checked os 7 .any (Rows.fnExactQubitCountSpec.pre6 enc Try.prog Try.f7 Rows.fnExactQubitCountRow.domain false) (Rows.fnExactQubitCountSpec.post enc Try.prog Try.f7 false true false false) := by
  refine returnsInHanded_of_change (C := Try.checked) own started (by kernel_rfl) Try.func7
    (ChangeSpec.witness6 (enc := enc) (C := Try.checked) false ⟨#[], #[.slice none 0 0], []⟩ 8 (by kernel_rfl) (by kernel_rfl) (by kernel_rfl) (by kernel_rfl)) ?_
  intro W base args ds gs before hval hW _ _
  exact contract H enc W base args ds gs before hval hW
theorem said : Rows.FnExactQubitCountSaid :=
  OpenClaim.holds_of_wide 7 Try.f7 rfl rfl rfl rfl rfl rfl rfl ⟨rfl, rfl, rfl, rfl, rfl⟩ rfl rfl rfl rfl rfl (by kernel_rfl) Try.func7 (by kernel_rfl)
    (of_decide_eq_true (by kernel_rfl)) (by unfold Func.isWrapper; first | (rw [if_pos (by decide +kernel)]; kernel_rfl) | (rw [if_neg (by decide +kernel)]; exact ⟨rfl, rfl⟩))
    (fun os started H enc _ => lifted os started H enc)
end Go.Proofs.Ytbohbhhgmglcdaa.fnExactQubitCount
