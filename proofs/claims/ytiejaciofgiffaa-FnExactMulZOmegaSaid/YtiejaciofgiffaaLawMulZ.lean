/- The law FnExactMulZOmega: MulZOmega answers as its model, at every two elements. No condition. -/
import Derived.Test.YtiejaciofgiffaaZwF
import Derived.Test.YtiejaciofgiffaaZwB
import Derived.Test.YtiejaciofgiffaaZwS
import Derived.Lib.SmallJoins
import Derived.WalkKit
import Derived.ProofKit
import Derived.OpenShut
import Derived.Deep.DeepHandedRow
import Derived.Lib.LaidTab
import Derived.LaidMore
import Derived.LaidHandle
import Derived.Lay
import Derived.Stop.LaidErr
namespace Go.Proofs.Ytiejaciofgiffaa.fnExactMulZOmega
open Go.ChangeShapes Go.WideShapes Go.ChangeAt Go.RowKit Go.Lib
set_option maxRecDepth 100000 in
set_option maxHeartbeats 1600000 in
theorem walk (x y : Zw) (w : World) :
    Calls Try.prog 10 #[(.agg #[.int .i64 x.a, .int .i64 x.b, .int .i64 x.c, .int .i64 x.d]), (.agg #[.int .i64 y.a, .int .i64 y.b, .int .i64 y.c, .int .i64 y.d])] w fun e w' => e = .returned (.bool true) ∧ Below w.heap.size w w' := by
  have Hs := Lib.hid (smul_any x y)
  have Hi := Lib.hid (imul_any x y)
  have He := Lib.hid (eqZ (mulV x y))
  generalize mulV x y = r at *
  generalize mulB x y = t at *
  go_enter Try.func10, Try.ntmps10
  go_upto_region 1 with fail
  go_cut [5, 6] (fun s5 s6 wx => ∃ g, s5 = .pointer (some ⟨g, 0, none⟩) ∧ s6 = .bool t ∧ S3 w w.heap.size (w.heap.size + 1) g x y r wx)
  case first =>
    have hS1 : S2 w w.heap.size (w.heap.size + 1) x y (((w.alloc (.cells #[.int .i64 x.a, .int .i64 x.b, .int .i64 x.c, .int .i64 x.d] 35)).alloc (.cells #[.int .i64 y.a, .int .i64 y.b, .int .i64 y.c, .int .i64 y.d] 35))) := by
      refine ⟨?_, ?_, ?_, ?_, ?_, ?_, ?_, ?_, ?_, ?_, ?_⟩
      all_goals first | go_grown | (simp [go_sem]; done) | (simp; omega)
    have hn1 : w.heap.size < w.heap.size + 2 ∧ w.heap.size + 1 < w.heap.size + 2 := by omega
    have hw1 : w.heap.size ≤ w.heap.size + 2 := by omega
    go_region_held3 (fun w' => w'.cell? ⟨w.heap.size, 0, none⟩ = some (.int .i64 x.a) ∧ w'.cell? ⟨w.heap.size, 1, none⟩ = some (.int .i64 x.b) ∧ w'.cell? ⟨w.heap.size, 2, none⟩ = some (.int .i64 x.c) ∧ w'.cell? ⟨w.heap.size, 3, none⟩ = some (.int .i64 x.d) ∧ w'.cell? ⟨w.heap.size + 1, 0, none⟩ = some (.int .i64 y.a) ∧ w'.cell? ⟨w.heap.size + 1, 1, none⟩ = some (.int .i64 y.b) ∧ w'.cell? ⟨w.heap.size + 1, 2, none⟩ = some (.int .i64 y.c) ∧ w'.cell? ⟨w.heap.size + 1, 3, none⟩ = some (.int .i64 y.d) ∧ w.heap.size < w'.heap.size ∧ w.heap.size + 1 < w'.heap.size ∧ Below w.heap.size w w') (first | (show S2 w w.heap.size (w.heap.size + 1) x y _; (with_reducible exact hS1.drew)) | (show S2 w w.heap.size (w.heap.size + 1) x y _; (with_reducible exact (hS1.alloc _).drew)) | (show S2 w w.heap.size (w.heap.size + 1) x y _; (with_reducible refine S2.below ?_ hb1); first | assumption | exact ⟨by assumption, by assumption, by assumption, by assumption, by assumption, by assumption, by assumption, by assumption, by assumption, by assumption, by assumption⟩) | (show S2 w w.heap.size (w.heap.size + 1) x y _; (with_reducible refine S2.alloc ?_ _); first | assumption | exact ⟨by assumption, by assumption, by assumption, by assumption, by assumption, by assumption, by assumption, by assumption, by assumption, by assumption, by assumption⟩) | (show S2 w w.heap.size (w.heap.size + 1) x y _; (with_reducible refine S2.realloc (p := .cells #[.int .i64 0, .int .i64 0, .int .i64 0, .int .i64 0] 25) ?_ hq hn1 hw1); first | assumption | exact ⟨by assumption, by assumption, by assumption, by assumption, by assumption, by assumption, by assumption, by assumption, by assumption, by assumption, by assumption⟩) | (show S2 w w.heap.size (w.heap.size + 1) x y _; (with_reducible refine S2.set4 (lim := w.heap.size + 2) ?_ ?_ hn1 hw1); (first | assumption | exact ⟨by assumption, by assumption, by assumption, by assumption, by assumption, by assumption, by assumption, by assumption, by assumption, by assumption, by assumption⟩); (first | assumption | exact Nat.le_refl _)))
      (first | (go_at_call 31; (with_reducible refine (toZ _ _).mono ?_); rintro e w1 ⟨rfl, hb1⟩; (first | (have hq := Nat.le_trans hq hb1.size) | (have hq : w.heap.size + 2 ≤ w1.heap.size := by have := hb1.size; simpa using this) | (have hq : w.heap.size + 2 ≤ w1.heap.size := by have := hb1.size; simp at this; exact Nat.le_of_succ_le this) | (have hq := Nat.le_trans hq (Nat.le_of_succ_le (by have := hb1.size; simpa using this)))); obtain ⟨hc1, hf1, hz1⟩ := bgrow hb1; (first | (have zg := hz1 _ zg) | (have zg := hz1 _ (lt_alloc _ _); try simp at zg) | skip)) | (go_at_call 22; (with_reducible refine (Hs.out _).mono ?_); rintro e w1 ⟨rfl, hb1⟩; (first | (have hq := Nat.le_trans hq hb1.size) | (have hq : w.heap.size + 2 ≤ w1.heap.size := by have := hb1.size; simpa using this) | (have hq : w.heap.size + 2 ≤ w1.heap.size := by have := hb1.size; simp at this; exact Nat.le_of_succ_le this) | (have hq := Nat.le_trans hq (Nat.le_of_succ_le (by have := hb1.size; simpa using this)))); obtain ⟨hc1, hf1, hz1⟩ := bgrow hb1; (first | (have zg := hz1 _ zg) | (have zg := hz1 _ (lt_alloc _ _); try simp at zg) | skip)))
    all_goals go_wp2_with fail
    all_goals go_meet
    all_goals refine ⟨_, rfl, rfl, S2.snoc (by assumption) ?_ ?_ ?_ ?_ ?_⟩
    all_goals (simp [*, go_sem]; done)
  case rest =>
  obtain ⟨g, rfl, rfl, hS⟩ := hcut
  obtain ⟨p0a, p0b, p0c, p0d, p1a, p1b, p1c, p1d, p2a, p2b, p2c, p2d, pz0, pz1, pz2, pl⟩ := hS
  go_upto_region 2 with fail
  go_cut [7, 8] (fun s7 s8 wx => ∃ k, s7 = .pointer (some ⟨k, 0, none⟩) ∧ s8 = .bool t ∧ S4 w w.heap.size (w.heap.size + 1) g k x y r r wx)
  case first =>
    have hS2 : S3 w w.heap.size (w.heap.size + 1) g x y r wc := ⟨p0a, p0b, p0c, p0d, p1a, p1b, p1c, p1d, p2a, p2b, p2c, p2d, pz0, pz1, pz2, pl⟩
    have hq2 : wc.heap.size ≤ wc.heap.size := Nat.le_refl _
    have hn2 : w.heap.size < wc.heap.size ∧ w.heap.size + 1 < wc.heap.size ∧ g < wc.heap.size := by omega
    have hw2 : w.heap.size ≤ wc.heap.size := pl.size
    go_region_held3 (fun w' => w'.cell? ⟨w.heap.size, 0, none⟩ = some (.int .i64 x.a) ∧ w'.cell? ⟨w.heap.size, 1, none⟩ = some (.int .i64 x.b) ∧ w'.cell? ⟨w.heap.size, 2, none⟩ = some (.int .i64 x.c) ∧ w'.cell? ⟨w.heap.size, 3, none⟩ = some (.int .i64 x.d) ∧ w'.cell? ⟨w.heap.size + 1, 0, none⟩ = some (.int .i64 y.a) ∧ w'.cell? ⟨w.heap.size + 1, 1, none⟩ = some (.int .i64 y.b) ∧ w'.cell? ⟨w.heap.size + 1, 2, none⟩ = some (.int .i64 y.c) ∧ w'.cell? ⟨w.heap.size + 1, 3, none⟩ = some (.int .i64 y.d) ∧ w'.cell? ⟨g, 0, none⟩ = some (.int .i64 r.a) ∧ w'.cell? ⟨g, 1, none⟩ = some (.int .i64 r.b) ∧ w'.cell? ⟨g, 2, none⟩ = some (.int .i64 r.c) ∧ w'.cell? ⟨g, 3, none⟩ = some (.int .i64 r.d) ∧ w.heap.size < w'.heap.size ∧ w.heap.size + 1 < w'.heap.size ∧ g < w'.heap.size ∧ Below w.heap.size w w') (first | (show S3 w w.heap.size (w.heap.size + 1) g x y r _; (with_reducible exact hS2.drew)) | (show S3 w w.heap.size (w.heap.size + 1) g x y r _; (with_reducible exact (hS2.alloc _).drew)) | (show S3 w w.heap.size (w.heap.size + 1) g x y r _; (with_reducible refine S3.below ?_ hb1); first | assumption | exact ⟨by assumption, by assumption, by assumption, by assumption, by assumption, by assumption, by assumption, by assumption, by assumption, by assumption, by assumption, by assumption, by assumption, by assumption, by assumption, by assumption⟩) | (show S3 w w.heap.size (w.heap.size + 1) g x y r _; (with_reducible refine S3.alloc ?_ _); first | assumption | exact ⟨by assumption, by assumption, by assumption, by assumption, by assumption, by assumption, by assumption, by assumption, by assumption, by assumption, by assumption, by assumption, by assumption, by assumption, by assumption, by assumption⟩) | (show S3 w w.heap.size (w.heap.size + 1) g x y r _; (with_reducible refine S3.realloc (p := .cells #[.int .i64 0, .int .i64 0, .int .i64 0, .int .i64 0] 25) ?_ hq hn2 hw2); first | assumption | exact ⟨by assumption, by assumption, by assumption, by assumption, by assumption, by assumption, by assumption, by assumption, by assumption, by assumption, by assumption, by assumption, by assumption, by assumption, by assumption, by assumption⟩) | (show S3 w w.heap.size (w.heap.size + 1) g x y r _; (with_reducible refine S3.set4 (lim := wc.heap.size) ?_ ?_ hn2 hw2); (first | assumption | exact ⟨by assumption, by assumption, by assumption, by assumption, by assumption, by assumption, by assumption, by assumption, by assumption, by assumption, by assumption, by assumption, by assumption, by assumption, by assumption, by assumption⟩); (first | assumption | exact Nat.le_refl _)))
      (first | (go_at_call 31; (with_reducible refine (toZ _ _).mono ?_); rintro e w1 ⟨rfl, hb1⟩; (first | (have hq := Nat.le_trans hq hb1.size) | (have hq : wc.heap.size ≤ w1.heap.size := by have := hb1.size; simpa using this) | (have hq : wc.heap.size ≤ w1.heap.size := by have := hb1.size; simp at this; exact Nat.le_of_succ_le this) | (have hq := Nat.le_trans hq (Nat.le_of_succ_le (by have := hb1.size; simpa using this)))); obtain ⟨hc1, hf1, hz1⟩ := bgrow hb1; (first | (have zg := hz1 _ zg) | (have zg := hz1 _ (lt_alloc _ _); try simp at zg) | skip)) | (go_at_call 21; (with_reducible refine (Hi.out _).mono ?_); rintro e w1 ⟨rfl, hb1⟩; (first | (have hq := Nat.le_trans hq hb1.size) | (have hq : wc.heap.size ≤ w1.heap.size := by have := hb1.size; simpa using this) | (have hq : wc.heap.size ≤ w1.heap.size := by have := hb1.size; simp at this; exact Nat.le_of_succ_le this) | (have hq := Nat.le_trans hq (Nat.le_of_succ_le (by have := hb1.size; simpa using this)))); obtain ⟨hc1, hf1, hz1⟩ := bgrow hb1; (first | (have zg := hz1 _ zg) | (have zg := hz1 _ (lt_alloc _ _); try simp at zg) | skip)))
    all_goals go_wp2_with fail
    all_goals go_meet
    all_goals refine ⟨_, rfl, rfl, S3.snoc (by assumption) ?_ ?_ ?_ ?_ ?_⟩
    all_goals (simp [*, go_sem]; done)
  case rest =>
  obtain ⟨k, rfl, rfl, hS⟩ := hcut
  clear p0a p0b p0c p0d p1a p1b p1c p1d p2a p2b p2c p2d pz0 pz1 pz2 pl
  obtain ⟨q0a, q0b, q0c, q0d, q1a, q1b, q1c, q1d, q2a, q2b, q2c, q2d, q3a, q3b, q3c, q3d, qz0, qz1, qz2, qz3, ql⟩ := hS
  go_wp2_with fail
  refine (He.out _).mono ?_
  rintro e w5 ⟨rfl, hb5⟩
  have hp5 := below_nx (w := w) (by go_grown) hb5
  clear hb5
  go_wp2_with fail
  go_returns
  exact ⟨rfl, hp5⟩

open Go.ChangeMaps (open_string shut_string)
theorem laidOut : laidOutB Try.prog = true := by kernel_rfl
theorem own : ownKnob Try.prog.godebug = none := by kernel_rfl
set_option maxRecDepth 100000 in
/-- What the walk gives, for every argument. -/
theorem contract (H : Type) (enc : TypeId × Value → H) (W : World) (base : Nat) (args : Array Value) (ds gs : List (DataW H)) (before : List MemPlace)
    (hval : ∀ (j : Nat) t v, Try.f10.params[j]? = some t → args[j]? = some v → Value.okWide Try.prog W .any base t v)
    (hW : DataW.Whole enc Try.prog Try.f10.params.toList Rows.fnExactMulZOmegaSpec.vars false W args.toList ds gs before) :
    Calls Try.prog 10 args W fun e W' => ∃ v, e = .returned v ∧ Rows.fnExactMulZOmegaSpec.post enc Try.prog Try.f10 false true false false W args v W' := by
  have hW' := hW
  obtain ⟨p, q, hA0, hV, rfl, hfz, hnd⟩ := hW
  have hA : DataW.TrodAll enc Try.prog W 0 (fun _ => true) true Try.f10.params.toList args.toList ds p := hA0
  rw [Try.params10] at hA hval
  obtain ⟨v0, vs0, d0, ds0, p0, q0, hargs, rfl, rfl, h0, r0⟩ := trodAll_cons hA
  obtain ⟨v1, vs1, d1, ds1, p1, q1, rfl, rfl, rfl, h1, r1⟩ := trodAll_cons r0
  obtain ⟨rfl, rfl, rfl⟩ := trodAll_nil r1
  obtain rfl : args = #[v0, v1] := by cases args; simp_all
  obtain ⟨rfl, rfl⟩ := trodVars_none hV
  have k0 := h0
  have lt0 : ∀ x ∈ p0, x.block < W.heap.size := by obtain ⟨m, hm⟩ := k0; exact DataW.trod_lt m _ _ _ hm
  obtain ⟨x0, x1, x2, x3, xy0, xy1, xy2, xy3, xm, rfl, rfl, rfl, xt0, xt1, xt2, xt3⟩ := Go.Joins.open_agg4 Try.underlying35 (by kernel_rfl) (by kernel_rfl) (hval 0 35 v0 rfl rfl) h0
  obtain ⟨xa, exa, -, -⟩ := DataW.trod_int Try.underlying3 xt0
  obtain ⟨xb, exb, -, -⟩ := DataW.trod_int Try.underlying3 xt1
  obtain ⟨xc, exc, -, -⟩ := DataW.trod_int Try.underlying3 xt2
  obtain ⟨xd, exd, -, -⟩ := DataW.trod_int Try.underlying3 xt3
  obtain rfl := List.head_eq_of_cons_eq exa
  obtain rfl := List.head_eq_of_cons_eq exb
  obtain rfl := List.head_eq_of_cons_eq exc
  obtain rfl := List.head_eq_of_cons_eq exd
  clear exa exb exc exd xt0 xt1 xt2 xt3
  have k1 := h1
  have lt1 : ∀ x ∈ p1, x.block < W.heap.size := by obtain ⟨m, hm⟩ := k1; exact DataW.trod_lt m _ _ _ hm
  obtain ⟨y0, y1, y2, y3, yy0, yy1, yy2, yy3, ym, rfl, rfl, rfl, yt0, yt1, yt2, yt3⟩ := Go.Joins.open_agg4 Try.underlying35 (by kernel_rfl) (by kernel_rfl) (hval 1 35 v1 rfl rfl) h1
  obtain ⟨ya, eya, -, -⟩ := DataW.trod_int Try.underlying3 yt0
  obtain ⟨yb, eyb, -, -⟩ := DataW.trod_int Try.underlying3 yt1
  obtain ⟨yc, eyc, -, -⟩ := DataW.trod_int Try.underlying3 yt2
  obtain ⟨yd, eyd, -, -⟩ := DataW.trod_int Try.underlying3 yt3
  obtain rfl := List.head_eq_of_cons_eq eya
  obtain rfl := List.head_eq_of_cons_eq eyb
  obtain rfl := List.head_eq_of_cons_eq eyc
  obtain rfl := List.head_eq_of_cons_eq eyd
  clear eya eyb eyc eyd yt0 yt1 yt2 yt3
  clear hA0
  simp only [List.append_nil] at hW'
  refine (walk (Zw.mk xa xb xc xd) (Zw.mk ya yb yc yd) W ).mono fun e W' ⟨he, hg⟩ => ?_
  subst he
  exact ⟨_, rfl, _, _, _, [], _, [], hW', trodAll_mk1 (shut_bool Try.underlying4 _), (trodAll_cons_mk (Below.trod laidOut (by kernel_rfl) (of_decide_eq_true (by kernel_rfl)) k0 hg lt0) (trodAll_cons_mk (Below.trod laidOut (by kernel_rfl) (of_decide_eq_true (by kernel_rfl)) k1 hg lt1) trodAll_mk0)), rfl, hg.frame _, fun h => by cases h⟩

set_option maxRecDepth 100000 in
theorem lifted (os : Os) (started : os.Started) (H : Type) (enc : TypeId × Value → H) :
    ReturnsInHanded {} Try.checked os 10 .any (Rows.fnExactMulZOmegaSpec.pre6 enc Try.prog Try.f10 Rows.fnExactMulZOmegaRow.domain false) (Rows.fnExactMulZOmegaSpec.post enc Try.prog Try.f10 false true false false) := by
  refine returnsInHanded_of_change (C := Try.checked) own started (by kernel_rfl) Try.func10
    (ChangeSpec.witness6 (enc := enc) (C := Try.checked) false ⟨#[], #[.agg #[.int .i64 0, .int .i64 0, .int .i64 0, .int .i64 0], .agg #[.int .i64 0, .int .i64 0, .int .i64 0, .int .i64 0]], []⟩ 8 (by kernel_rfl) (by kernel_rfl) (by kernel_rfl) (by kernel_rfl)) ?_
  intro W base args ds gs before hval hW _ _
  exact contract H enc W base args ds gs before hval hW
theorem said : Rows.FnExactMulZOmegaSaid :=
  OpenClaim.holds_of_wide 10 Try.f10 rfl rfl rfl rfl rfl rfl rfl ⟨rfl, rfl, rfl, rfl, rfl⟩ rfl rfl rfl rfl rfl (by kernel_rfl) Try.func10 (by kernel_rfl)
    (of_decide_eq_true (by kernel_rfl)) (by unfold Func.isWrapper; first | (rw [if_pos (by decide +kernel)]; kernel_rfl) | (rw [if_neg (by decide +kernel)]; exact ⟨rfl, rfl⟩))
    (fun os started H enc _ => lifted os started H enc)
end Go.Proofs.Ytiejaciofgiffaa.fnExactMulZOmega
