/- The law FnExactMulDOmega: MulDOmega answers as its model, at every two elements. No condition. -/
import Derived.Test.YtiemnhejonepfaaDwN
import Derived.Test.YtiemnhejonepfaaDwO
import Derived.Test.YtiemnhejonepfaaDwS
import Derived.Test.YtiemnhejonepfaaDwB
import Derived.Lib.SmallJoins
import Derived.WalkKit
import Derived.ProofKit
import Derived.OpenShut
import Derived.Deep.DeepHandedRow
import Derived.Lib.LaidTab
import Derived.LaidMore
import Derived.LaidHandle
import Derived.Lay
import Derived.Stop.LaidErr
namespace Go.Proofs.Ytiemnhejonepfaa.fnExactMulDOmega
open Go.ChangeShapes Go.WideShapes Go.ChangeAt Go.RowKit Go.Lib
attribute [local irreducible] World.cell?
set_option maxRecDepth 100000 in
set_option maxHeartbeats 3200000 in
theorem walk (x y : Dw) (w : World) (hx0 : -9223372036854775808 ≤ x.e) (hx1 : x.e ≤ 9223372036854775807) (hy0 : -9223372036854775808 ≤ y.e) (hy1 : y.e ≤ 9223372036854775807) :
    Calls Try.prog 10 #[(.agg #[.int .i64 x.n.a, .int .i64 x.n.b, .int .i64 x.n.c, .int .i64 x.n.d, .int .i64 x.e]), (.agg #[.int .i64 y.n.a, .int .i64 y.n.b, .int .i64 y.n.c, .int .i64 y.n.d, .int .i64 y.e])] w fun e w' => e = .returned (.bool true) ∧ Below w.heap.size w w' := by
  have Hs := Lib.hid (smulD_any x y)
  have Hi := Lib.hid (fun w => imulD_any x y w hx0 hx1 hy0 hy1)
  have He := Lib.hid (eqDw (dMulV x y))
  generalize dMulV x y = r at *
  generalize dMulB x y = t at *
  go_enter Try.func10, Try.ntmps10
  go_upto_region 1 with fail
  go_cut [5, 6] (fun s5 s6 wx => ∃ g, s5 = .pointer (some ⟨g, 0, none⟩) ∧ s6 = .bool t ∧ D3 w w.heap.size (w.heap.size + 1) g x y r wx)
  case first =>
    have hS1 : D2 w w.heap.size (w.heap.size + 1) x y (((w.alloc (.cells #[.int .i64 x.n.a, .int .i64 x.n.b, .int .i64 x.n.c, .int .i64 x.n.d, .int .i64 x.e] 43)).alloc (.cells #[.int .i64 y.n.a, .int .i64 y.n.b, .int .i64 y.n.c, .int .i64 y.n.d, .int .i64 y.e] 43))) := by
      refine ⟨?_, ?_, ?_, ?_, ?_, ?_, ?_, ?_, ?_, ?_, ?_, ?_, ?_⟩
      all_goals first | go_grown | (simp [go_sem]; done) | (simp; omega)
    have hn1 : w.heap.size < w.heap.size + 2 ∧ w.heap.size + 1 < w.heap.size + 2 := by omega
    have hw1 : w.heap.size ≤ w.heap.size + 2 := by omega
    go_region_held3 (fun w' => w'.cell? ⟨w.heap.size, 0, none⟩ = some (.int .i64 x.n.a) ∧ w'.cell? ⟨w.heap.size, 1, none⟩ = some (.int .i64 x.n.b) ∧ w'.cell? ⟨w.heap.size, 2, none⟩ = some (.int .i64 x.n.c) ∧ w'.cell? ⟨w.heap.size, 3, none⟩ = some (.int .i64 x.n.d) ∧ w'.cell? ⟨w.heap.size, 4, none⟩ = some (.int .i64 x.e) ∧ w'.cell? ⟨w.heap.size + 1, 0, none⟩ = some (.int .i64 y.n.a) ∧ w'.cell? ⟨w.heap.size + 1, 1, none⟩ = some (.int .i64 y.n.b) ∧ w'.cell? ⟨w.heap.size + 1, 2, none⟩ = some (.int .i64 y.n.c) ∧ w'.cell? ⟨w.heap.size + 1, 3, none⟩ = some (.int .i64 y.n.d) ∧ w'.cell? ⟨w.heap.size + 1, 4, none⟩ = some (.int .i64 y.e) ∧ w.heap.size < w'.heap.size ∧ w.heap.size + 1 < w'.heap.size ∧ Below w.heap.size w w') (first | (show D2 w w.heap.size (w.heap.size + 1) x y _; (with_reducible exact hS1.drew)) | (show D2 w w.heap.size (w.heap.size + 1) x y _; (with_reducible exact (hS1.alloc _).drew)) | (show D2 w w.heap.size (w.heap.size + 1) x y _; (with_reducible refine D2.below ?_ hbR); first | assumption | exact ⟨by assumption, by assumption, by assumption, by assumption, by assumption, by assumption, by assumption, by assumption, by assumption, by assumption, by assumption, by assumption, by assumption⟩) | (show D2 w w.heap.size (w.heap.size + 1) x y _; (with_reducible refine D2.alloc ?_ _); first | assumption | exact ⟨by assumption, by assumption, by assumption, by assumption, by assumption, by assumption, by assumption, by assumption, by assumption, by assumption, by assumption, by assumption, by assumption⟩) | (show D2 w w.heap.size (w.heap.size + 1) x y _; (with_reducible refine D2.realloc (p := .cells #[.int .i64 0, .int .i64 0, .int .i64 0, .int .i64 0, .int .i64 0] 29) ?_ hq hn1 hw1); first | assumption | exact ⟨by assumption, by assumption, by assumption, by assumption, by assumption, by assumption, by assumption, by assumption, by assumption, by assumption, by assumption, by assumption, by assumption⟩) | (show D2 w w.heap.size (w.heap.size + 1) x y _; (with_reducible refine D2.set5 (lim := w.heap.size + 2) ?_ ?_ hn1 hw1); (first | assumption | exact ⟨by assumption, by assumption, by assumption, by assumption, by assumption, by assumption, by assumption, by assumption, by assumption, by assumption, by assumption, by assumption, by assumption⟩); (first | assumption | exact Nat.le_refl _)))
      (first | (go_at_call 31; (first | (with_reducible refine (toD _ _).mono ?_)); rintro e wR ⟨rfl, hbR⟩; (first | (have hq := Nat.le_trans hq hbR.size) | (have hq : w.heap.size + 2 ≤ wR.heap.size := by have := hbR.size; simpa using this) | (have hq : w.heap.size + 2 ≤ wR.heap.size := by have := hbR.size; simp at this; exact Nat.le_of_succ_le this) | (have hq := Nat.le_trans hq (Nat.le_of_succ_le (by have := hbR.size; simpa using this)))); obtain ⟨hcR, hfR, hzR⟩ := bgrow hbR; (first | (have zg := hzR _ zg) | (have zg := hzR _ (lt_alloc _ _); try simp at zg) | skip)) | (go_at_call 27; (first | (with_reducible refine (Hs.out _).mono ?_)); rintro e wR ⟨rfl, hbR⟩; (first | (have hq := Nat.le_trans hq hbR.size) | (have hq : w.heap.size + 2 ≤ wR.heap.size := by have := hbR.size; simpa using this) | (have hq : w.heap.size + 2 ≤ wR.heap.size := by have := hbR.size; simp at this; exact Nat.le_of_succ_le this) | (have hq := Nat.le_trans hq (Nat.le_of_succ_le (by have := hbR.size; simpa using this)))); obtain ⟨hcR, hfR, hzR⟩ := bgrow hbR; (first | (have zg := hzR _ zg) | (have zg := hzR _ (lt_alloc _ _); try simp at zg) | skip)))
    all_goals go_wp2_with fail
    all_goals go_meet
    all_goals refine ⟨_, rfl, rfl, D2.snoc (by assumption) ?_ ?_ ?_ ?_ ?_ ?_⟩
    all_goals (simp [*, go_sem]; done)
  case rest =>
  obtain ⟨g, rfl, rfl, hS⟩ := hcut
  obtain ⟨p0a, p0b, p0c, p0d, p0e, p1a, p1b, p1c, p1d, p1e, p2a, p2b, p2c, p2d, p2e, pz0, pz1, pz2, pl⟩ := hS
  go_upto_region 2 with fail
  go_cut [7, 8] (fun s7 s8 wx => ∃ k, s7 = .pointer (some ⟨k, 0, none⟩) ∧ s8 = .bool t ∧ D4 w w.heap.size (w.heap.size + 1) g k x y r r wx)
  case first =>
    have hS2 : D3 w w.heap.size (w.heap.size + 1) g x y r wc := ⟨p0a, p0b, p0c, p0d, p0e, p1a, p1b, p1c, p1d, p1e, p2a, p2b, p2c, p2d, p2e, pz0, pz1, pz2, pl⟩
    have hq2 : wc.heap.size ≤ wc.heap.size := Nat.le_refl _
    have hn2 : w.heap.size < wc.heap.size ∧ w.heap.size + 1 < wc.heap.size ∧ g < wc.heap.size := by omega
    have hw2 : w.heap.size ≤ wc.heap.size := pl.size
    go_region_held3 (fun w' => w'.cell? ⟨w.heap.size, 0, none⟩ = some (.int .i64 x.n.a) ∧ w'.cell? ⟨w.heap.size, 1, none⟩ = some (.int .i64 x.n.b) ∧ w'.cell? ⟨w.heap.size, 2, none⟩ = some (.int .i64 x.n.c) ∧ w'.cell? ⟨w.heap.size, 3, none⟩ = some (.int .i64 x.n.d) ∧ w'.cell? ⟨w.heap.size, 4, none⟩ = some (.int .i64 x.e) ∧ w'.cell? ⟨w.heap.size + 1, 0, none⟩ = some (.int .i64 y.n.a) ∧ w'.cell? ⟨w.heap.size + 1, 1, none⟩ = some (.int .i64 y.n.b) ∧ w'.cell? ⟨w.heap.size + 1, 2, none⟩ = some (.int .i64 y.n.c) ∧ w'.cell? ⟨w.heap.size + 1, 3, none⟩ = some (.int .i64 y.n.d) ∧ w'.cell? ⟨w.heap.size + 1, 4, none⟩ = some (.int .i64 y.e) ∧ w'.cell? ⟨g, 0, none⟩ = some (.int .i64 r.n.a) ∧ w'.cell? ⟨g, 1, none⟩ = some (.int .i64 r.n.b) ∧ w'.cell? ⟨g, 2, none⟩ = some (.int .i64 r.n.c) ∧ w'.cell? ⟨g, 3, none⟩ = some (.int .i64 r.n.d) ∧ w'.cell? ⟨g, 4, none⟩ = some (.int .i64 r.e) ∧ w.heap.size < w'.heap.size ∧ w.heap.size + 1 < w'.heap.size ∧ g < w'.heap.size ∧ Below w.heap.size w w') (first | (show D3 w w.heap.size (w.heap.size + 1) g x y r _; (with_reducible exact hS2.drew)) | (show D3 w w.heap.size (w.heap.size + 1) g x y r _; (with_reducible exact (hS2.alloc _).drew)) | (show D3 w w.heap.size (w.heap.size + 1) g x y r _; (with_reducible refine D3.below ?_ hbR); first | assumption | exact ⟨by assumption, by assumption, by assumption, by assumption, by assumption, by assumption, by assumption, by assumption, by assumption, by assumption, by assumption, by assumption, by assumption, by assumption, by assumption, by assumption, by assumption, by assumption, by assumption⟩) | (show D3 w w.heap.size (w.heap.size + 1) g x y r _; (with_reducible refine D3.alloc ?_ _); first | assumption | exact ⟨by assumption, by assumption, by assumption, by assumption, by assumption, by assumption, by assumption, by assumption, by assumption, by assumption, by assumption, by assumption, by assumption, by assumption, by assumption, by assumption, by assumption, by assumption, by assumption⟩) | (show D3 w w.heap.size (w.heap.size + 1) g x y r _; (with_reducible refine D3.realloc (p := .cells #[.int .i64 0, .int .i64 0, .int .i64 0, .int .i64 0, .int .i64 0] 29) ?_ hq hn2 hw2); first | assumption | exact ⟨by assumption, by assumption, by assumption, by assumption, by assumption, by assumption, by assumption, by assumption, by assumption, by assumption, by assumption, by assumption, by assumption, by assumption, by assumption, by assumption, by assumption, by assumption, by assumption⟩) | (show D3 w w.heap.size (w.heap.size + 1) g x y r _; (with_reducible refine D3.set5 (lim := wc.heap.size) ?_ ?_ hn2 hw2); (first | assumption | exact ⟨by assumption, by assumption, by assumption, by assumption, by assumption, by assumption, by assumption, by assumption, by assumption, by assumption, by assumption, by assumption, by assumption, by assumption, by assumption, by assumption, by assumption, by assumption, by assumption⟩); (first | assumption | exact Nat.le_refl _)))
      (first | (go_at_call 31; (first | (with_reducible refine (toD _ _).mono ?_)); rintro e wR ⟨rfl, hbR⟩; (first | (have hq := Nat.le_trans hq hbR.size) | (have hq : wc.heap.size ≤ wR.heap.size := by have := hbR.size; simpa using this) | (have hq : wc.heap.size ≤ wR.heap.size := by have := hbR.size; simp at this; exact Nat.le_of_succ_le this) | (have hq := Nat.le_trans hq (Nat.le_of_succ_le (by have := hbR.size; simpa using this)))); obtain ⟨hcR, hfR, hzR⟩ := bgrow hbR; (first | (have zg := hzR _ zg) | (have zg := hzR _ (lt_alloc _ _); try simp at zg) | skip)) | (go_at_call 26; (first | (with_reducible refine (Hi.out _).mono ?_)); rintro e wR ⟨rfl, hbR⟩; (first | (have hq := Nat.le_trans hq hbR.size) | (have hq : wc.heap.size ≤ wR.heap.size := by have := hbR.size; simpa using this) | (have hq : wc.heap.size ≤ wR.heap.size := by have := hbR.size; simp at this; exact Nat.le_of_succ_le this) | (have hq := Nat.le_trans hq (Nat.le_of_succ_le (by have := hbR.size; simpa using this)))); obtain ⟨hcR, hfR, hzR⟩ := bgrow hbR; (first | (have zg := hzR _ zg) | (have zg := hzR _ (lt_alloc _ _); try simp at zg) | skip)))
    all_goals go_wp2_with fail
    all_goals go_meet
    all_goals refine ⟨_, rfl, rfl, D3.snoc (by assumption) ?_ ?_ ?_ ?_ ?_ ?_⟩
    all_goals (simp [*, go_sem]; done)
  case rest =>
  obtain ⟨k, rfl, rfl, hS⟩ := hcut
  clear p0a p0b p0c p0d p0e p1a p1b p1c p1d p1e p2a p2b p2c p2d p2e pz0 pz1 pz2 pl
  obtain ⟨q0a, q0b, q0c, q0d, q0e, q1a, q1b, q1c, q1d, q1e, q2a, q2b, q2c, q2d, q2e, q3a, q3b, q3c, q3d, q3e, qz0, qz1, qz2, qz3, ql⟩ := hS
  go_wp2_with fail
  refine (He.out _).mono ?_
  rintro e w5 ⟨rfl, hb5⟩
  have hp5 := below_nx (w := w) (by go_grown) hb5
  clear hb5
  go_wp2_with fail
  go_returns
  exact ⟨rfl, hp5⟩

open Go.ChangeMaps (open_string shut_string)
theorem laidOut : laidOutB Try.prog = true := by kernel_rfl
theorem own : ownKnob Try.prog.godebug = none := by kernel_rfl
set_option maxRecDepth 100000 in
/-- What the walk gives, for every argument. -/
theorem contract (H : Type) (enc : TypeId × Value → H) (W : World) (base : Nat) (args : Array Value) (ds gs : List (DataW H)) (before : List MemPlace)
    (hval : ∀ (j : Nat) t v, Try.f10.params[j]? = some t → args[j]? = some v → Value.okWide Try.prog W .any base t v)
    (hW : DataW.Whole enc Try.prog Try.f10.params.toList Rows.fnExactMulDOmegaSpec.vars false W args.toList ds gs before) :
    Calls Try.prog 10 args W fun e W' => ∃ v, e = .returned v ∧ Rows.fnExactMulDOmegaSpec.post enc Try.prog Try.f10 false true false false W args v W' := by
  have hW' := hW
  obtain ⟨p, q, hA0, hV, rfl, hfz, hnd⟩ := hW
  have hA : DataW.TrodAll enc Try.prog W 0 (fun _ => true) true Try.f10.params.toList args.toList ds p := hA0
  rw [Try.params10] at hA hval
  obtain ⟨v0, vs0, d0, ds0, p0, q0, hargs, rfl, rfl, h0, r0⟩ := trodAll_cons hA
  obtain ⟨v1, vs1, d1, ds1, p1, q1, rfl, rfl, rfl, h1, r1⟩ := trodAll_cons r0
  obtain ⟨rfl, rfl, rfl⟩ := trodAll_nil r1
  obtain rfl : args = #[v0, v1] := by cases args; simp_all
  obtain ⟨rfl, rfl⟩ := trodVars_none hV
  have k0 := h0
  have lt0 : ∀ x ∈ p0, x.block < W.heap.size := by obtain ⟨m, hm⟩ := k0; exact DataW.trod_lt m _ _ _ hm
  obtain ⟨x, rfl, xb0, xb1⟩ := open_dw (hval 0 43 v0 rfl rfl) h0
  have k1 := h1
  have lt1 : ∀ x ∈ p1, x.block < W.heap.size := by obtain ⟨m, hm⟩ := k1; exact DataW.trod_lt m _ _ _ hm
  obtain ⟨y, rfl, yb0, yb1⟩ := open_dw (hval 1 43 v1 rfl rfl) h1
  clear hA0
  simp only [List.append_nil] at hW'
  refine (walk x y W xb0 xb1 yb0 yb1).mono fun e W' ⟨he, hg⟩ => ?_
  subst he
  exact ⟨_, rfl, _, _, _, [], _, [], hW', trodAll_mk1 (shut_bool Try.underlying4 _), (trodAll_cons_mk (Below.trod laidOut (by kernel_rfl) (of_decide_eq_true (by kernel_rfl)) k0 hg lt0) (trodAll_cons_mk (Below.trod laidOut (by kernel_rfl) (of_decide_eq_true (by kernel_rfl)) k1 hg lt1) trodAll_mk0)), rfl, hg.frame _, fun h => by cases h⟩

set_option maxRecDepth 100000 in
theorem lifted (os : Os) (started : os.Started) (H : Type) (enc : TypeId × Value → H) :
    ReturnsInHanded {} Try.checked os 10 .any (Rows.fnExactMulDOmegaSpec.pre6 enc Try.prog Try.f10 Rows.fnExactMulDOmegaRow.domain false) (Rows.fnExactMulDOmegaSpec.post enc Try.prog Try.f10 false true false false) := by
  refine returnsInHanded_of_change (C := Try.checked) own started (by kernel_rfl) Try.func10
    (ChangeSpec.witness6 (enc := enc) (C := Try.checked) false ⟨#[], #[.agg #[.int .i64 0, .int .i64 0, .int .i64 0, .int .i64 0, .int .i64 0], .agg #[.int .i64 0, .int .i64 0, .int .i64 0, .int .i64 0, .int .i64 0]], []⟩ 8 (by kernel_rfl) (by kernel_rfl) (by kernel_rfl) (by kernel_rfl)) ?_
  intro W base args ds gs before hval hW _ _
  exact contract H enc W base args ds gs before hval hW
theorem said : Rows.FnExactMulDOmegaSaid :=
  OpenClaim.holds_of_wide 10 Try.f10 rfl rfl rfl rfl rfl rfl rfl ⟨rfl, rfl, rfl, rfl, rfl⟩ rfl rfl rfl rfl rfl (by kernel_rfl) Try.func10 (by kernel_rfl)
    (of_decide_eq_true (by kernel_rfl)) (by unfold Func.isWrapper; first | (rw [if_pos (by decide +kernel)]; kernel_rfl) | (rw [if_neg (by decide +kernel)]; exact ⟨rfl, rfl⟩))
    (fun os started H enc _ => lifted os started H enc)
end Go.Proofs.Ytiemnhejonepfaa.fnExactMulDOmega
