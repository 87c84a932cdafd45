/- The law FnPhases: phase exponents add modulo 8 and only powers of omega are phases, at every code. No condition. -/
import Derived.Test.YtnbmjbnmkbgmaaaPhJ
import Derived.Test.YtnbmjbnmkbgmaaaDwS
import Derived.Lib.SmallJoins
import Derived.IntWalk
import Derived.WalkKit
import Derived.ProofKit
import Derived.OpenShut
import Derived.Deep.DeepHandedRow
import Derived.Lib.LaidTab
import Derived.LaidMore
import Derived.LaidHandle
import Derived.Lay
import Derived.Stop.LaidErr
namespace Go.Proofs.Ytnbmjbnmkbgmaaa.fnPhases
open Go.ChangeShapes Go.WideShapes Go.ChangeAt Go.RowKit Go.Lib
attribute [local irreducible] World.cell?
theorem dPh_mod (i : Int) : dPh (i % 8) = dPh i := by
  unfold dPh
  rw [show i % 8 % 8 = i % 8 by omega]
theorem dPh_mod2 (i j : Int) : dPh (i % 8 + j) = dPh (i + j) := by
  unfold dPh
  rw [show (i % 8 + j) % 8 = (i + j) % 8 by omega]
set_option maxRecDepth 100000 in
set_option maxHeartbeats 6400000 in
theorem core (a0 : Option Addr) (len cap : Nat) (hs : len ≤ 1048576) (hl : len ≤ cap) (w : World) (hcode : CodeAt w w.heap.size a0 len) :
    Calls Try.prog 3 #[.slice a0 len cap] w fun e w' => e = .returned (.bool true) ∧ Below w.heap.size w w' := by
  have Hc := Lib.hid hcode
  have HS0 := Lib.hid (show D0 w w from Below.refl _ _)
  clear hcode
  go_enter Try.func3, Try.ntmps3
  go_wp2_with (go_at_call 8; go_in)
  refine (drawPhaseFactor_any a0 len cap _ Hc.out).mono ?_
  rintro e w1 ⟨⟨i, rfl, i0, i1⟩, hb1⟩
  have hS1 := HS0.out.below hb1
  clear hb1
  have HS1 := Lib.hid hS1
  clear hS1
  go_wp2_with fail
  refine (at0_any a0 len cap 3 (by omega) _ hl hs ((Hc.out.below HS1.out.low).mono HS1.out.low.size)).mono ?_
  rintro e w' ⟨⟨j, rfl, j0, j1⟩, rfl⟩
  have Hx := Lib.hid (fun w => iphase i w i0 i1)
  have Hk := Lib.hid (fun w => iexpo (dPh i) w (eb_ok (dPh_ok i)))
  rw [(phF_self i).1, (phF_self i).2] at Hk
  have Hj := Lib.hid (fun w => iphase j w (by omega) (by omega))
  have Hm := Lib.hid (fun w => imulD_any (dPh i) (dPh j) w (eb_ok (dPh_ok i)).1 (eb_ok (dPh_ok i)).2 (eb_ok (dPh_ok j)).1 (eb_ok (dPh_ok j)).2)
  rw [(dPh_mul i j).1, (dPh_mul i j).2] at Hm
  have Hpk := Lib.hid (fun w => iphase (i % 8) w (by omega) (by omega))
  have Hpkj := Lib.hid (fun w => iphase (i % 8 + j) w (by omega) (by omega))
  rw [dPh_mod i] at Hpk
  rw [dPh_mod2 i j] at Hpkj
  have hk0 : 0 ≤ i % 8 := by omega
  have hk1 : i % 8 < 8 := by omega
  have hw1 : IntKind.i64.wrap (i - i % 8) = i - i % 8 := IntWalk.i64_in _ (by omega)
  have hw2 : IntKind.i64.wrap (i % 8 + j) = i % 8 + j := IntWalk.i64_in _ (by omega)
  have hd1 : decide (0 ≤ i % 8) = true := decide_eq_true hk0
  have hd2 : decide (i % 8 < 8) = true := decide_eq_true hk1
  have ht : (i - i % 8).tmod 8 = 0 := by rw [show i - i % 8 = 8 * (i / 8) by omega]; exact Int.mul_tmod_right 8 (i / 8)
  have HW := Lib.hid (And.intro hw1 (And.intro hw2 (And.intro ht (And.intro hd1 hd2))))
  clear hw1 hw2 ht hd1 hd2
  generalize i % 8 = k at *
  generalize dPh (i + j) = p at *
  generalize dPh i = x at *
  generalize dPh j = xj at *
  go_wp2_with fail
  refine (Hx.out _).mono ?_
  rintro e w2 ⟨rfl, hb2⟩
  have hS2 := HS1.out.below hb2
  clear hb2
  have HS2 := Lib.hid (D0.push hS2 x 29 (w2.heap.size) (by simp))
  clear hS2
  go_wp2_with fail
  refine (Hk.out _).mono ?_
  rintro e w3 ⟨rfl, hb3⟩
  have hS3 := HS2.out.below hb3
  clear hb3
  obtain ⟨c3_0a, c3_0b, c3_0c, c3_0d, c3_0e, c3_z0, c3_l⟩ := hS3
  have HS3 := Lib.hid (show D1 w w2.heap.size x w3 from ⟨c3_0a, c3_0b, c3_0c, c3_0d, c3_0e, c3_z0, c3_l⟩)
  go_upto_region 7 with fail
  go_cut [8, 9] (fun s8 s9 wx => ∃ g, s8 = .pointer (some ⟨g, 0, none⟩) ∧ s9 = .bool true ∧ D2 w w2.heap.size g x p wx)
  case first =>
    have hS7 : D1 w w2.heap.size x w3 := ⟨c3_0a, c3_0b, c3_0c, c3_0d, c3_0e, c3_z0, c3_l⟩
    have hq : w3.heap.size ≤ w3.heap.size := Nat.le_refl _
    have hn7 : w2.heap.size < w3.heap.size := by omega
    have hw7 : w.heap.size ≤ w3.heap.size := c3_l.size
    go_region_held3 (fun w' => w'.cell? ⟨w2.heap.size, 0, none⟩ = some (.int .i64 x.n.a) ∧ w'.cell? ⟨w2.heap.size, 1, none⟩ = some (.int .i64 x.n.b) ∧ w'.cell? ⟨w2.heap.size, 2, none⟩ = some (.int .i64 x.n.c) ∧ w'.cell? ⟨w2.heap.size, 3, none⟩ = some (.int .i64 x.n.d) ∧ w'.cell? ⟨w2.heap.size, 4, none⟩ = some (.int .i64 x.e) ∧ w2.heap.size < w'.heap.size ∧ Below w.heap.size w w') (first | (show D1 w w2.heap.size x _; (with_reducible exact hS7.drew)) | (show D1 w w2.heap.size x _; (with_reducible exact (hS7.alloc _).drew)) | (show D1 w w2.heap.size x _; (with_reducible refine D1.below ?_ hbR); first | assumption | exact ⟨by assumption, by assumption, by assumption, by assumption, by assumption, by assumption, by assumption⟩) | (show D1 w w2.heap.size x _; (with_reducible refine D1.alloc ?_ _); first | assumption | exact ⟨by assumption, by assumption, by assumption, by assumption, by assumption, by assumption, by assumption⟩) | (show D1 w w2.heap.size x _; (with_reducible refine D1.realloc (p := .cells #[.int .i64 0, .int .i64 0, .int .i64 0, .int .i64 0, .int .i64 0] 29) ?_ hq hn7 hw7); first | assumption | exact ⟨by assumption, by assumption, by assumption, by assumption, by assumption, by assumption, by assumption⟩) | (show D1 w w2.heap.size x _; (with_reducible refine D1.set5 (lim := w3.heap.size) ?_ ?_ hn7 hw7); (first | assumption | exact ⟨by assumption, by assumption, by assumption, by assumption, by assumption, by assumption, by assumption⟩); (first | assumption | exact Nat.le_refl _)))
      (first | (go_at_call 11; (first | (with_reducible refine (Hj.out _).mono ?_)); rintro e wR ⟨rfl, hbR⟩; (first | (have hq := Nat.le_trans hq hbR.size) | (have hq : w3.heap.size ≤ wR.heap.size := by have := hbR.size; simpa using this) | (have hq : w3.heap.size ≤ wR.heap.size := by have := hbR.size; simp at this; exact Nat.le_of_succ_le this) | (have hq := Nat.le_trans hq (Nat.le_of_succ_le (by have := hbR.size; simpa using this)))); obtain ⟨hcR, hfR, hzR⟩ := bgrow hbR; (first | (have zg := hzR _ zg) | (have zg := hzR _ (lt_alloc _ _); try simp at zg) | skip)) | (go_at_call 13; (first | (with_reducible refine (Hm.out _).mono ?_)); rintro e wR ⟨rfl, hbR⟩; (first | (have hq := Nat.le_trans hq hbR.size) | (have hq : w3.heap.size ≤ wR.heap.size := by have := hbR.size; simpa using this) | (have hq : w3.heap.size ≤ wR.heap.size := by have := hbR.size; simp at this; exact Nat.le_of_succ_le this) | (have hq := Nat.le_trans hq (Nat.le_of_succ_le (by have := hbR.size; simpa using this)))); obtain ⟨hcR, hfR, hzR⟩ := bgrow hbR; (first | (have zg := hzR _ zg) | (have zg := hzR _ (lt_alloc _ _); try simp at zg) | skip)))
    all_goals go_wp2_with fail
    all_goals go_meet
    all_goals refine ⟨_, rfl, rfl, D1.snoc (by assumption) ?_ ?_ ?_ ?_ ?_ ?_⟩
    all_goals (simp [*, go_sem]; done)
  case rest =>
  obtain ⟨g, rfl, rfl, hS⟩ := hcut
  clear c3_0a c3_0b c3_0c c3_0d c3_0e c3_z0 c3_l
  have HS10 := Lib.hid (show D2 w w2.heap.size g x p wc from hS)
  obtain ⟨q0a, q0b, q0c, q0d, q0e, q1a, q1b, q1c, q1d, q1e, qz0, qz1, ql⟩ := hS
  go_wp2_with fail
  refine (drawPhaseExponent_any a0 len cap _ ((Hc.out.below HS10.out.low).mono HS10.out.low.size)).mono ?_
  rintro e w11 ⟨⟨y, rfl, y0, y1⟩, hb11⟩
  have hS11 := HS10.out.below hb11
  clear q0a q0b q0c q0d q0e q1a q1b q1c q1d q1e qz0 qz1 ql
  clear hb11
  obtain ⟨c11_0a, c11_0b, c11_0c, c11_0d, c11_0e, c11_1a, c11_1b, c11_1c, c11_1d, c11_1e, c11_z0, c11_z1, c11_l⟩ := hS11
  have HS11 := Lib.hid (D2.push (show D2 w w2.heap.size g x p w11 from ⟨c11_0a, c11_0b, c11_0c, c11_0d, c11_0e, c11_1a, c11_1b, c11_1c, c11_1d, c11_1e, c11_z0, c11_z1, c11_l⟩) y 29 (w11.heap.size) (by simp))
  have Hy := Lib.hid (fun w => iexpo y w ⟨y0, y1⟩)
  have Hsy := Lib.hid (sexpo y)
  generalize phEV y = yv at *
  generalize phEB y = yb at *
  go_wp2_with fail
  refine (Hy.out _).mono ?_
  rintro e w12 ⟨rfl, hb12⟩
  have hS12 := HS11.out.below hb12
  clear c11_0a c11_0b c11_0c c11_0d c11_0e c11_1a c11_1b c11_1c c11_1d c11_1e c11_z0 c11_z1 c11_l
  clear hb12
  obtain ⟨c12_0a, c12_0b, c12_0c, c12_0d, c12_0e, c12_1a, c12_1b, c12_1c, c12_1d, c12_1e, c12_2a, c12_2b, c12_2c, c12_2d, c12_2e, c12_z0, c12_z1, c12_z2, c12_l⟩ := hS12
  have HS12 := Lib.hid (show D3 w w2.heap.size g w11.heap.size x p y w12 from ⟨c12_0a, c12_0b, c12_0c, c12_0d, c12_0e, c12_1a, c12_1b, c12_1c, c12_1d, c12_1e, c12_2a, c12_2b, c12_2c, c12_2d, c12_2e, c12_z0, c12_z1, c12_z2, c12_l⟩)
  go_wp2_with fail
  refine (Hsy.out _).mono ?_
  rintro e w13 ⟨rfl, hb13⟩
  have hS13 := HS12.out.below hb13
  clear c12_0a c12_0b c12_0c c12_0d c12_0e c12_1a c12_1b c12_1c c12_1d c12_1e c12_2a c12_2b c12_2c c12_2d c12_2e c12_z0 c12_z1 c12_z2 c12_l
  clear hb13
  obtain ⟨c13_0a, c13_0b, c13_0c, c13_0d, c13_0e, c13_1a, c13_1b, c13_1c, c13_1d, c13_1e, c13_2a, c13_2b, c13_2c, c13_2d, c13_2e, c13_z0, c13_z1, c13_z2, c13_l⟩ := hS13
  have HS13 := Lib.hid (show D3 w w2.heap.size g w11.heap.size x p y w13 from ⟨c13_0a, c13_0b, c13_0c, c13_0d, c13_0e, c13_1a, c13_1b, c13_1c, c13_1d, c13_1e, c13_2a, c13_2b, c13_2c, c13_2d, c13_2e, c13_z0, c13_z1, c13_z2, c13_l⟩)
  obtain ⟨hw1, hw2, ht, hd1, hd2⟩ := HW.out
  go_upto_region 11 with fail
  have hS11 : D3 w w2.heap.size g w11.heap.size x p y _ := ⟨c13_0a, c13_0b, c13_0c, c13_0d, c13_0e, c13_1a, c13_1b, c13_1c, c13_1d, c13_1e, c13_2a, c13_2b, c13_2c, c13_2d, c13_2e, c13_z0, c13_z1, c13_z2, c13_l⟩
  go_region_held3 (fun w' => w'.cell? ⟨w2.heap.size, 0, none⟩ = some (.int .i64 x.n.a) ∧ w'.cell? ⟨w2.heap.size, 1, none⟩ = some (.int .i64 x.n.b) ∧ w'.cell? ⟨w2.heap.size, 2, none⟩ = some (.int .i64 x.n.c) ∧ w'.cell? ⟨w2.heap.size, 3, none⟩ = some (.int .i64 x.n.d) ∧ w'.cell? ⟨w2.heap.size, 4, none⟩ = some (.int .i64 x.e) ∧ w'.cell? ⟨g, 0, none⟩ = some (.int .i64 p.n.a) ∧ w'.cell? ⟨g, 1, none⟩ = some (.int .i64 p.n.b) ∧ w'.cell? ⟨g, 2, none⟩ = some (.int .i64 p.n.c) ∧ w'.cell? ⟨g, 3, none⟩ = some (.int .i64 p.n.d) ∧ w'.cell? ⟨g, 4, none⟩ = some (.int .i64 p.e) ∧ w'.cell? ⟨w11.heap.size, 0, none⟩ = some (.int .i64 y.n.a) ∧ w'.cell? ⟨w11.heap.size, 1, none⟩ = some (.int .i64 y.n.b) ∧ w'.cell? ⟨w11.heap.size, 2, none⟩ = some (.int .i64 y.n.c) ∧ w'.cell? ⟨w11.heap.size, 3, none⟩ = some (.int .i64 y.n.d) ∧ w'.cell? ⟨w11.heap.size, 4, none⟩ = some (.int .i64 y.e) ∧ w2.heap.size < w'.heap.size ∧ g < w'.heap.size ∧ w11.heap.size < w'.heap.size ∧ Below w.heap.size w w') (first | (show D3 w w2.heap.size g w11.heap.size x p y _; (with_reducible exact hS11.drew)) | (show D3 w w2.heap.size g w11.heap.size x p y _; (with_reducible refine D3.below ?_ hbR); first | assumption | exact ⟨by assumption, by assumption, by assumption, by assumption, by assumption, by assumption, by assumption, by assumption, by assumption, by assumption, by assumption, by assumption, by assumption, by assumption, by assumption, by assumption, by assumption, by assumption, by assumption⟩))
    (first | (go_at_call 11; (first | (with_reducible refine (Hpk.out _).mono ?_) | (with_reducible refine (Hpkj.out _).mono ?_)); rintro e wR ⟨rfl, hbR⟩))
  all_goals go_wp2_with fail
  all_goals go_returns
  all_goals exact ⟨rfl, D3.low (n0 := w2.heap.size) (n1 := g) (n2 := w11.heap.size) (x0 := x) (x1 := p) (x2 := y) (by assumption)⟩
set_option maxRecDepth 100000 in
set_option maxHeartbeats 400000 in
theorem walk (a0 : Option Addr) (len cap : Nat) (w : World) (hm : len ≤ maxLen) (hl : len ≤ cap) (hc : len ≤ 1048576 → CodeAt w w.heap.size a0 len) :
    Calls Try.prog 3 #[.slice a0 len cap] w fun e w' => e = .returned (.bool true) ∧ Below w.heap.size w w' := by
  by_cases hs : len ≤ 1048576
  · exact core a0 len cap hs hl w (hc hs)
  · unfold maxLen at hm
    clear hc
    go_enter Try.func3, Try.ntmps3
    go_wp2_with (go_at_call 8; go_in)
    go_ret
    exact ⟨rfl, Below.refl _ _⟩

open Go.ChangeMaps (open_string shut_string)
theorem laidOut : laidOutB Try.prog = true := by kernel_rfl
theorem own : ownKnob Try.prog.godebug = none := by kernel_rfl
set_option maxRecDepth 100000 in
/-- What the walk gives, for every argument. -/
theorem contract (H : Type) (enc : TypeId × Value → H) (W : World) (base : Nat) (args : Array Value) (ds gs : List (DataW H)) (before : List MemPlace)
    (hval : ∀ (j : Nat) t v, Try.f3.params[j]? = some t → args[j]? = some v → Value.okWide Try.prog W .any base t v)
    (hW : DataW.Whole enc Try.prog Try.f3.params.toList Rows.fnPhasesSpec.vars false W args.toList ds gs before) :
    Calls Try.prog 3 args W fun e W' => ∃ v, e = .returned v ∧ Rows.fnPhasesSpec.post enc Try.prog Try.f3 false true false false W args v W' := by
  have hW' := hW
  obtain ⟨p, q, hA0, hV, rfl, hfz, hnd⟩ := hW
  have hA : DataW.TrodAll enc Try.prog W 0 (fun _ => true) true Try.f3.params.toList args.toList ds p := hA0
  rw [Try.params3] at hA hval
  obtain ⟨v0, vs0, d0, ds0, p0, q0, hargs, rfl, rfl, h0, r0⟩ := trodAll_cons hA
  obtain ⟨rfl, rfl, rfl⟩ := trodAll_nil r0
  obtain rfl : args = #[v0] := by cases args; simp_all
  obtain ⟨rfl, rfl⟩ := trodVars_none hV
  obtain ⟨ca, cl, cc, rfl⟩ := okWide_slice Try.underlying22 (hval 0 22 v0 rfl rfl)
  have k0 := h0
  have lt0 : ∀ x ∈ p0, x.block < W.heap.size := by obtain ⟨m, hm⟩ := k0; exact DataW.trod_lt m _ _ _ hm
  have ch : (cl ≤ 1048576 → CodeAt W W.heap.size ca cl) ∧ cl ≤ maxLen ∧ cl ≤ cc := by
    obtain ⟨fuel, hf⟩ := h0
    rcases open_ints Try.underlying22 Try.underlying5 (by kernel_rfl) hf with ⟨hcs, _⟩ | ⟨x, l, c, zs, hcs, _, hl, hm, hz, _, hcell, hwz⟩
    · simp [Value.cells] at hcs
      obtain ⟨rfl, rfl, rfl⟩ := hcs
      exact ⟨fun _ => ⟨by omega, fun h => absurd h (by omega)⟩, Nat.zero_le _, Nat.le_refl _⟩
    · simp [Value.cells] at hcs
      obtain ⟨rfl, rfl, rfl⟩ := hcs
      have hz2 : zs.length = cc := by simpa using hz
      exact ⟨fun hs => code_of hs (by omega) hcell hwz, by omega, hl⟩
  clear hA0
  simp only [List.append_nil] at hW'
  refine (walk ca cl cc W ch.2.1 ch.2.2 ch.1).mono fun e W' ⟨he, hg⟩ => ?_
  subst he
  exact ⟨_, rfl, _, _, _, [], _, [], hW', trodAll_mk1 (shut_bool Try.underlying4 _), (trodAll_cons_mk (Below.trod laidOut (by kernel_rfl) (of_decide_eq_true (by kernel_rfl)) k0 hg lt0) trodAll_mk0), rfl, hg.frame _, fun h => by cases h⟩

set_option maxRecDepth 100000 in
theorem lifted (os : Os) (started : os.Started) (H : Type) (enc : TypeId × Value → H) :
    ReturnsInHanded {} Try.checked os 3 .any (Rows.fnPhasesSpec.pre6 enc Try.prog Try.f3 Rows.fnPhasesRow.domain false) (Rows.fnPhasesSpec.post enc Try.prog Try.f3 false true false false) := by
  refine returnsInHanded_of_change (C := Try.checked) own started (by kernel_rfl) Try.func3
    (ChangeSpec.witness6 (enc := enc) (C := Try.checked) false ⟨#[], #[.slice none 0 0], []⟩ 8 (by kernel_rfl) (by kernel_rfl) (by kernel_rfl) (by kernel_rfl)) ?_
  intro W base args ds gs before hval hW _ _
  exact contract H enc W base args ds gs before hval hW
theorem said : Rows.FnPhasesSaid :=
  OpenClaim.holds_of_wide 3 Try.f3 rfl rfl rfl rfl rfl rfl rfl ⟨rfl, rfl, rfl, rfl, rfl⟩ rfl rfl rfl rfl rfl (by kernel_rfl) Try.func3 (by kernel_rfl)
    (of_decide_eq_true (by kernel_rfl)) (by unfold Func.isWrapper; first | (rw [if_pos (by decide +kernel)]; kernel_rfl) | (rw [if_neg (by decide +kernel)]; exact ⟨rfl, rfl⟩))
    (fun os started H enc _ => lifted os started H enc)
end Go.Proofs.Ytnbmjbnmkbgmaaa.fnPhases
