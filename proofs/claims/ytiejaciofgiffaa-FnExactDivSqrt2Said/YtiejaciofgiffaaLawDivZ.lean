/- The law FnExactDivSqrt2: DivSqrt2 answers as its model, at every element. No condition. -/
import Derived.Test.YtiejaciofgiffaaZwF
import Derived.Lib.SmallJoins
import Derived.WalkKit
import Derived.ProofKit
import Derived.OpenShut
import Derived.Deep.DeepHandedRow
import Derived.Lib.LaidTab
import Derived.LaidMore
import Derived.LaidHandle
import Derived.Lay
import Derived.Stop.LaidErr
namespace Go.Proofs.Ytiejaciofgiffaa.fnExactDivSqrt2
open Go.ChangeShapes Go.WideShapes Go.ChangeAt Go.RowKit Go.Lib
set_option maxRecDepth 100000 in
set_option maxHeartbeats 800000 in
theorem walk (x : Zw) (w : World) :
    Calls Try.prog 13 #[(.agg #[.int .i64 x.a, .int .i64 x.b, .int .i64 x.c, .int .i64 x.d])] w fun e w' => e = .returned (.bool true) ∧ Below w.heap.size w w' := by
  have Hs := Lib.hid (sdiv_any x)
  have Hi := Lib.hid (idiv_any x)
  have He := Lib.hid (eqZ (divV x))
  generalize divV x = r at *
  generalize divB x = t at *
  go_enter Try.func13, Try.ntmps13
  go_wp2_with fail
  refine (toZ x _).mono ?_
  rintro e w1 ⟨rfl, hb1⟩
  have hs1 := hb1.size
  try simp at hs1
  obtain ⟨hc1, hf1⟩ := bcell hb1
  have z10 : w.heap.size < w1.heap.size := by omega
  have hp1 := below_up (B := w.heap.size) (w := w) (by go_grown) hb1 (by first | omega | (simp; done) | (simp; omega))
  clear hb1
  go_wp2_with fail
  refine (Hs.out _).mono ?_
  rintro e w2 ⟨rfl, hb2⟩
  have hs2 := hb2.size
  try simp at hs2
  obtain ⟨hc2, hf2⟩ := bcell hb2
  have z20 : w.heap.size < w2.heap.size := by omega
  have hp2 := below_up (B := w.heap.size) (w := w) (by go_grown) hb2 (by first | omega | (simp; done) | (simp; omega))
  clear hb2
  go_wp2_with fail
  refine (toZ x _).mono ?_
  rintro e w3 ⟨rfl, hb3⟩
  have hs3 := hb3.size
  try simp at hs3
  obtain ⟨hc3, hf3⟩ := bcell hb3
  have z30 : w.heap.size < w3.heap.size := by omega
  have z31 : w2.heap.size < w3.heap.size := by omega
  have hp3 := below_up (B := w.heap.size) (w := w) (by go_grown) hb3 (by first | omega | (simp; done) | (simp; omega))
  clear hb3
  go_wp2_with fail
  refine (Hi.out _).mono ?_
  rintro e w4 ⟨rfl, hb4⟩
  have hs4 := hb4.size
  try simp at hs4
  obtain ⟨hc4, hf4⟩ := bcell hb4
  have z40 : w.heap.size < w4.heap.size := by omega
  have z41 : w2.heap.size < w4.heap.size := by omega
  have hp4 := below_up (B := w.heap.size) (w := w) (by go_grown) hb4 (by first | omega | (simp; done) | (simp; omega))
  clear hb4
  go_wp2_with fail
  refine (He.out _).mono ?_
  rintro e w5 ⟨rfl, hb5⟩
  have hs5 := hb5.size
  try simp at hs5
  obtain ⟨hc5, hf5⟩ := bcell hb5
  have z50 : w.heap.size < w5.heap.size := by omega
  have hp5 := below_up (B := w.heap.size) (w := w) (by go_grown) hb5 (by first | omega | (simp; done) | (simp; omega))
  clear hb5
  go_wp2_with fail
  go_returns
  exact ⟨rfl, by go_grown⟩

open Go.ChangeMaps (open_string shut_string)
theorem laidOut : laidOutB Try.prog = true := by kernel_rfl
theorem own : ownKnob Try.prog.godebug = none := by kernel_rfl
set_option maxRecDepth 100000 in
/-- What the walk gives, for every argument. -/
theorem contract (H : Type) (enc : TypeId × Value → H) (W : World) (base : Nat) (args : Array Value) (ds gs : List (DataW H)) (before : List MemPlace)
    (hval : ∀ (j : Nat) t v, Try.f13.params[j]? = some t → args[j]? = some v → Value.okWide Try.prog W .any base t v)
    (hW : DataW.Whole enc Try.prog Try.f13.params.toList Rows.fnExactDivSqrt2Spec.vars false W args.toList ds gs before) :
    Calls Try.prog 13 args W fun e W' => ∃ v, e = .returned v ∧ Rows.fnExactDivSqrt2Spec.post enc Try.prog Try.f13 false true false false W args v W' := by
  have hW' := hW
  obtain ⟨p, q, hA0, hV, rfl, hfz, hnd⟩ := hW
  have hA : DataW.TrodAll enc Try.prog W 0 (fun _ => true) true Try.f13.params.toList args.toList ds p := hA0
  rw [Try.params13] at hA hval
  obtain ⟨v0, vs0, d0, ds0, p0, q0, hargs, rfl, rfl, h0, r0⟩ := trodAll_cons hA
  obtain ⟨rfl, rfl, rfl⟩ := trodAll_nil r0
  obtain rfl : args = #[v0] := by cases args; simp_all
  obtain ⟨rfl, rfl⟩ := trodVars_none hV
  have k0 := h0
  have lt0 : ∀ x ∈ p0, x.block < W.heap.size := by obtain ⟨m, hm⟩ := k0; exact DataW.trod_lt m _ _ _ hm
  obtain ⟨x0, x1, x2, x3, xy0, xy1, xy2, xy3, xm, rfl, rfl, rfl, xt0, xt1, xt2, xt3⟩ := Go.Joins.open_agg4 Try.underlying35 (by kernel_rfl) (by kernel_rfl) (hval 0 35 v0 rfl rfl) h0
  obtain ⟨xa, exa, -, -⟩ := DataW.trod_int Try.underlying3 xt0
  obtain ⟨xb, exb, -, -⟩ := DataW.trod_int Try.underlying3 xt1
  obtain ⟨xc, exc, -, -⟩ := DataW.trod_int Try.underlying3 xt2
  obtain ⟨xd, exd, -, -⟩ := DataW.trod_int Try.underlying3 xt3
  obtain rfl := List.head_eq_of_cons_eq exa
  obtain rfl := List.head_eq_of_cons_eq exb
  obtain rfl := List.head_eq_of_cons_eq exc
  obtain rfl := List.head_eq_of_cons_eq exd
  clear exa exb exc exd xt0 xt1 xt2 xt3
  clear hA0
  simp only [List.append_nil] at hW'
  refine (walk (Zw.mk xa xb xc xd) W ).mono fun e W' ⟨he, hg⟩ => ?_
  subst he
  exact ⟨_, rfl, _, _, _, [], _, [], hW', trodAll_mk1 (shut_bool Try.underlying4 _), (trodAll_cons_mk (Below.trod laidOut (by kernel_rfl) (of_decide_eq_true (by kernel_rfl)) k0 hg lt0) trodAll_mk0), rfl, hg.frame _, fun h => by cases h⟩

set_option maxRecDepth 100000 in
theorem lifted (os : Os) (started : os.Started) (H : Type) (enc : TypeId × Value → H) :
    ReturnsInHanded {} Try.checked os 13 .any (Rows.fnExactDivSqrt2Spec.pre6 enc Try.prog Try.f13 Rows.fnExactDivSqrt2Row.domain false) (Rows.fnExactDivSqrt2Spec.post enc Try.prog Try.f13 false true false false) := by
  refine returnsInHanded_of_change (C := Try.checked) own started (by kernel_rfl) Try.func13
    (ChangeSpec.witness6 (enc := enc) (C := Try.checked) false ⟨#[], #[.agg #[.int .i64 0, .int .i64 0, .int .i64 0, .int .i64 0]], []⟩ 8 (by kernel_rfl) (by kernel_rfl) (by kernel_rfl) (by kernel_rfl)) ?_
  intro W base args ds gs before hval hW _ _
  exact contract H enc W base args ds gs before hval hW
theorem said : Rows.FnExactDivSqrt2Said :=
  OpenClaim.holds_of_wide 13 Try.f13 rfl rfl rfl rfl rfl rfl rfl ⟨rfl, rfl, rfl, rfl, rfl⟩ rfl rfl rfl rfl rfl (by kernel_rfl) Try.func13 (by kernel_rfl)
    (of_decide_eq_true (by kernel_rfl)) (by unfold Func.isWrapper; first | (rw [if_pos (by decide +kernel)]; kernel_rfl) | (rw [if_neg (by decide +kernel)]; exact ⟨rfl, rfl⟩))
    (fun os started H enc _ => lifted os started H enc)
end Go.Proofs.Ytiejaciofgiffaa.fnExactDivSqrt2
