/- The law FnDwProduct: the product in D[omega] commutes, conjugation is a homomorphism, and 1 is neutral, at every code. No condition. -/
import Derived.Test.YtiemnhejonepfaaDwR
import Derived.Test.YtiemnhejonepfaaDwS
import Derived.Test.YtiemnhejonepfaaDwDraw2
import Derived.Test.YtiemnhejonepfaaZwDraw3
import Derived.Lib.SmallJoins
import Derived.WalkKit
import Derived.ProofKit
import Derived.OpenShut
import Derived.Deep.DeepHandedRow
import Derived.Lib.LaidTab
import Derived.LaidMore
import Derived.LaidHandle
import Derived.Lay
import Derived.Stop.LaidErr
namespace Go.Proofs.Ytiemnhejonepfaa.fnDwProduct
open Go.ChangeShapes Go.WideShapes Go.ChangeAt Go.RowKit Go.Lib
attribute [local irreducible] World.cell?
set_option maxRecDepth 100000 in
set_option maxHeartbeats 3200000 in
theorem core (a0 : Option Addr) (len cap : Nat) (hs : len ≤ 1048576) (hl : len ≤ cap) (w : World) (hcode : CodeAt w w.heap.size a0 len) :
    Calls Try.prog 5 #[.slice a0 len cap] w fun e w' => e = .returned (.bool true) ∧ Below w.heap.size w w' := by
  have Hc := Lib.hid hcode
  have HS0 := Lib.hid (show D0 w w from Below.refl _ _)
  clear hcode
  go_enter Try.func5, Try.ntmps5
  go_wp2_with (go_at_call 14; go_in)
  refine (drawMulD_any a0 len cap _ Hc.out).mono ?_
  rintro e w1 ⟨⟨x, y, rfl, ebx, eby⟩, hb1⟩
  have hS1 := HS0.out.below hb1
  clear hb1
  have HS1 := Lib.hid (D1.push (D0.push hS1 x 29 (w1.heap.size) (by simp)) y 29 (w1.heap.size + 1) (by simp))
  clear hS1
  have Ha := Lib.hid (fun w => imulD_any x y w ebx.1 ebx.2 eby.1 eby.2)
  have Hb := Lib.hid (fun w => imulD_any y x w eby.1 eby.2 ebx.1 ebx.2)
  have Hs := Lib.hid (smulD_any x y)
  have Hcx := Lib.hid (fun w => iconjD_any x w ebx.1 ebx.2)
  have Hcy := Lib.hid (fun w => iconjD_any y w eby.1 eby.2)
  have Ho := Lib.hid ione_any
  have Hcm := Lib.hid (fun w => imulD_any (dConjV x) (dConjV y) w (eb_conj x).1 (eb_conj x).2 (eb_conj y).1 (eb_conj y).2)
  have Hom := Lib.hid (fun w => imulD_any x oneD w ebx.1 ebx.2 eb_one.1 eb_one.2)
  have Hcp := Lib.hid (fun w => iconjD_any (dMulV x y) w (eb_mul x y).1 (eb_mul x y).2)
  have Hiv := Lib.hid (fun w => ivalidD (dMulV x y) w (eb_mul x y).1 (eb_mul x y).2)
  have Hh := Lib.hid (@dconj_hom x y)
  have H1 := Lib.hid (@dmul_one x)
  have Hok := Lib.hid (fun h => (@dMulB_iff x y).1 h)
  have Hokp := Lib.hid (@dMulV_ok x y)
  rw [dMulV_comm x y, dMulB_comm x y] at Hb
  clear ebx eby
  generalize dMulV (dConjV x) (dConjV y) = a at *
  generalize dMulB (dConjV x) (dConjV y) = ta at *
  generalize dConjV (dMulV x y) = cp at *
  generalize dMulV x oneD = b at *
  generalize dMulB x oneD = tb at *
  generalize dMulV x y = p at *
  generalize dMulB x y = t at *
  generalize dConjV x = cx at *
  generalize dConjV y = cy at *
  generalize oneD = one at *
  go_wp2_with fail
  refine (Ha.out _).mono ?_
  rintro e w2 ⟨rfl, hb2⟩
  have hS2 := HS1.out.below hb2
  clear hb2
  obtain ⟨c2_0a, c2_0b, c2_0c, c2_0d, c2_0e, c2_1a, c2_1b, c2_1c, c2_1d, c2_1e, c2_z0, c2_z1, c2_l⟩ := hS2
  have HS2 := Lib.hid (D2.push (show D2 w w1.heap.size (w1.heap.size + 1) x y w2 from ⟨c2_0a, c2_0b, c2_0c, c2_0d, c2_0e, c2_1a, c2_1b, c2_1c, c2_1d, c2_1e, c2_z0, c2_z1, c2_l⟩) p 29 (w2.heap.size) (by simp))
  go_wp2_with fail
  refine (Hb.out _).mono ?_
  rintro e w3 ⟨rfl, hb3⟩
  have hS3 := HS2.out.below hb3
  clear c2_0a c2_0b c2_0c c2_0d c2_0e c2_1a c2_1b c2_1c c2_1d c2_1e c2_z0 c2_z1 c2_l
  clear hb3
  obtain ⟨c3_0a, c3_0b, c3_0c, c3_0d, c3_0e, c3_1a, c3_1b, c3_1c, c3_1d, c3_1e, c3_2a, c3_2b, c3_2c, c3_2d, c3_2e, c3_z0, c3_z1, c3_z2, c3_l⟩ := hS3
  have HS3 := Lib.hid (D3.push (show D3 w w1.heap.size (w1.heap.size + 1) w2.heap.size x y p w3 from ⟨c3_0a, c3_0b, c3_0c, c3_0d, c3_0e, c3_1a, c3_1b, c3_1c, c3_1d, c3_1e, c3_2a, c3_2b, c3_2c, c3_2d, c3_2e, c3_z0, c3_z1, c3_z2, c3_l⟩) p 29 (w3.heap.size) (by simp))
  go_wp2_with fail
  refine (Hs.out _).mono ?_
  rintro e w4 ⟨rfl, hb4⟩
  have hS4 := HS3.out.below hb4
  clear c3_0a c3_0b c3_0c c3_0d c3_0e c3_1a c3_1b c3_1c c3_1d c3_1e c3_2a c3_2b c3_2c c3_2d c3_2e c3_z0 c3_z1 c3_z2 c3_l
  clear hb4
  obtain ⟨c4_0a, c4_0b, c4_0c, c4_0d, c4_0e, c4_1a, c4_1b, c4_1c, c4_1d, c4_1e, c4_2a, c4_2b, c4_2c, c4_2d, c4_2e, c4_3a, c4_3b, c4_3c, c4_3d, c4_3e, c4_z0, c4_z1, c4_z2, c4_z3, c4_l⟩ := hS4
  have HS4 := Lib.hid (D4.push (show D4 w w1.heap.size (w1.heap.size + 1) w2.heap.size w3.heap.size x y p p w4 from ⟨c4_0a, c4_0b, c4_0c, c4_0d, c4_0e, c4_1a, c4_1b, c4_1c, c4_1d, c4_1e, c4_2a, c4_2b, c4_2c, c4_2d, c4_2e, c4_3a, c4_3b, c4_3c, c4_3d, c4_3e, c4_z0, c4_z1, c4_z2, c4_z3, c4_l⟩) p 29 (w4.heap.size) (by simp))
  cases t
  · go_wp2_with fail
    go_returns
    exact ⟨rfl, HS4.out.low⟩
  · obtain ⟨rfl, rfl⟩ := Hh.out (by trivial)
    obtain ⟨rfl, rfl⟩ := H1.out (Hok.out (by trivial)).1
    have hok := Hokp.out (by trivial)
    rw [okD_true.2 hok] at Hiv
    clear hok Hok Hokp Hh H1
    go_upto_region 11 with fail
    go_cut [11, 12] (fun s11 s12 wx => ∃ g, s11 = .pointer (some ⟨g, 0, none⟩) ∧ s12 = .bool true ∧ D4 w w1.heap.size (w1.heap.size + 1) w2.heap.size g b y p a wx)
    case first =>
      have hS11 : D3 w w1.heap.size (w1.heap.size + 1) w2.heap.size b y p ((w4.alloc (.cells #[.int .i64 p.n.a, .int .i64 p.n.b, .int .i64 p.n.c, .int .i64 p.n.d, .int .i64 p.e] 29))) := by
        obtain ⟨d0a, d0b, d0c, d0d, d0e, d1a, d1b, d1c, d1d, d1e, d2a, d2b, d2c, d2d, d2e, d3a, d3b, d3c, d3d, d3e, d4a, d4b, d4c, d4d, d4e, dz0, dz1, dz2, dz3, dz4, dl⟩ := HS4.out
        exact ⟨d0a, d0b, d0c, d0d, d0e, d1a, d1b, d1c, d1d, d1e, d2a, d2b, d2c, d2d, d2e, dz0, dz1, dz2, dl⟩
      have hsz := c4_l.size
      have hn11 : w1.heap.size < w4.heap.size + 1 ∧ w1.heap.size + 1 < w4.heap.size + 1 ∧ w2.heap.size < w4.heap.size + 1 := by omega
      have hw11 : w.heap.size ≤ w4.heap.size + 1 := by omega
      go_region_held3 (fun w' => w'.cell? ⟨w1.heap.size, 0, none⟩ = some (.int .i64 b.n.a) ∧ w'.cell? ⟨w1.heap.size, 1, none⟩ = some (.int .i64 b.n.b) ∧ w'.cell? ⟨w1.heap.size, 2, none⟩ = some (.int .i64 b.n.c) ∧ w'.cell? ⟨w1.heap.size, 3, none⟩ = some (.int .i64 b.n.d) ∧ w'.cell? ⟨w1.heap.size, 4, none⟩ = some (.int .i64 b.e) ∧ w'.cell? ⟨w1.heap.size + 1, 0, none⟩ = some (.int .i64 y.n.a) ∧ w'.cell? ⟨w1.heap.size + 1, 1, none⟩ = some (.int .i64 y.n.b) ∧ w'.cell? ⟨w1.heap.size + 1, 2, none⟩ = some (.int .i64 y.n.c) ∧ w'.cell? ⟨w1.heap.size + 1, 3, none⟩ = some (.int .i64 y.n.d) ∧ w'.cell? ⟨w1.heap.size + 1, 4, none⟩ = some (.int .i64 y.e) ∧ w'.cell? ⟨w2.heap.size, 0, none⟩ = some (.int .i64 p.n.a) ∧ w'.cell? ⟨w2.heap.size, 1, none⟩ = some (.int .i64 p.n.b) ∧ w'.cell? ⟨w2.heap.size, 2, none⟩ = some (.int .i64 p.n.c) ∧ w'.cell? ⟨w2.heap.size, 3, none⟩ = some (.int .i64 p.n.d) ∧ w'.cell? ⟨w2.heap.size, 4, none⟩ = some (.int .i64 p.e) ∧ w1.heap.size < w'.heap.size ∧ w1.heap.size + 1 < w'.heap.size ∧ w2.heap.size < w'.heap.size ∧ Below w.heap.size w w') (first | (show D3 w w1.heap.size (w1.heap.size + 1) w2.heap.size b y p _; (with_reducible exact hS11.drew)) | (show D3 w w1.heap.size (w1.heap.size + 1) w2.heap.size b y p _; (with_reducible exact (hS11.alloc _).drew)) | (show D3 w w1.heap.size (w1.heap.size + 1) w2.heap.size b y p _; (with_reducible refine D3.below ?_ hbR); first | assumption | exact ⟨by assumption, by assumption, by assumption, by assumption, by assumption, by assumption, by assumption, by assumption, by assumption, by assumption, by assumption, by assumption, by assumption, by assumption, by assumption, by assumption, by assumption, by assumption, by assumption⟩) | (show D3 w w1.heap.size (w1.heap.size + 1) w2.heap.size b y p _; (with_reducible refine D3.alloc ?_ _); first | assumption | exact ⟨by assumption, by assumption, by assumption, by assumption, by assumption, by assumption, by assumption, by assumption, by assumption, by assumption, by assumption, by assumption, by assumption, by assumption, by assumption, by assumption, by assumption, by assumption, by assumption⟩) | (show D3 w w1.heap.size (w1.heap.size + 1) w2.heap.size b y p _; (with_reducible refine D3.realloc (p := .cells #[.int .i64 0, .int .i64 0, .int .i64 0, .int .i64 0, .int .i64 0] 29) ?_ hq hn11 hw11); first | assumption | exact ⟨by assumption, by assumption, by assumption, by assumption, by assumption, by assumption, by assumption, by assumption, by assumption, by assumption, by assumption, by assumption, by assumption, by assumption, by assumption, by assumption, by assumption, by assumption, by assumption⟩) | (show D3 w w1.heap.size (w1.heap.size + 1) w2.heap.size b y p _; (with_reducible refine D3.set5 (lim := w4.heap.size + 1) ?_ ?_ hn11 hw11); (first | assumption | exact ⟨by assumption, by assumption, by assumption, by assumption, by assumption, by assumption, by assumption, by assumption, by assumption, by assumption, by assumption, by assumption, by assumption, by assumption, by assumption, by assumption, by assumption, by assumption, by assumption⟩); (first | assumption | exact Nat.le_refl _)))
        (first | (go_at_call 28; (first | (with_reducible refine (Hcx.out _).mono ?_) | (with_reducible refine (Hcy.out _).mono ?_)); rintro e wR ⟨rfl, hbR⟩; (first | (have hq := Nat.le_trans hq hbR.size) | (have hq : w4.heap.size + 1 ≤ wR.heap.size := by have := hbR.size; simpa using this) | (have hq : w4.heap.size + 1 ≤ wR.heap.size := by have := hbR.size; simp at this; exact Nat.le_of_succ_le this) | (have hq := Nat.le_trans hq (Nat.le_of_succ_le (by have := hbR.size; simpa using this)))); obtain ⟨hcR, hfR, hzR⟩ := bgrow hbR; (first | (have zg := hzR _ zg) | (have zg := hzR _ (lt_alloc _ _); try simp at zg) | skip)) | (go_at_call 26; (first | (with_reducible refine (Hcm.out _).mono ?_)); rintro e wR ⟨rfl, hbR⟩; (first | (have hq := Nat.le_trans hq hbR.size) | (have hq : w4.heap.size + 1 ≤ wR.heap.size := by have := hbR.size; simpa using this) | (have hq : w4.heap.size + 1 ≤ wR.heap.size := by have := hbR.size; simp at this; exact Nat.le_of_succ_le this) | (have hq := Nat.le_trans hq (Nat.le_of_succ_le (by have := hbR.size; simpa using this)))); obtain ⟨hcR, hfR, hzR⟩ := bgrow hbR; (first | (have zg := hzR _ zg) | (have zg := hzR _ (lt_alloc _ _); try simp at zg) | skip)))
      all_goals go_wp2_with fail
      all_goals go_meet
      all_goals refine ⟨_, rfl, rfl, D3.snoc (by assumption) ?_ ?_ ?_ ?_ ?_ ?_⟩
      all_goals (simp [*, go_sem]; done)
    case rest =>
    obtain ⟨g, rfl, rfl, hS⟩ := hcut
    clear c4_0a c4_0b c4_0c c4_0d c4_0e c4_1a c4_1b c4_1c c4_1d c4_1e c4_2a c4_2b c4_2c c4_2d c4_2e c4_3a c4_3b c4_3c c4_3d c4_3e c4_z0 c4_z1 c4_z2 c4_z3 c4_l
    obtain ⟨q0a, q0b, q0c, q0d, q0e, q1a, q1b, q1c, q1d, q1e, q2a, q2b, q2c, q2d, q2e, q3a, q3b, q3c, q3d, q3e, qz0, qz1, qz2, qz3, ql⟩ := hS
    go_upto_region 12 with fail
    go_cut [13, 14] (fun s13 s14 wx => ∃ k, s13 = .pointer (some ⟨k, 0, none⟩) ∧ s14 = .bool true ∧ D5 w w1.heap.size (w1.heap.size + 1) w2.heap.size g k b y p a b wx)
    case first =>
      have hS12 : D4 w w1.heap.size (w1.heap.size + 1) w2.heap.size g b y p a wc := ⟨q0a, q0b, q0c, q0d, q0e, q1a, q1b, q1c, q1d, q1e, q2a, q2b, q2c, q2d, q2e, q3a, q3b, q3c, q3d, q3e, qz0, qz1, qz2, qz3, ql⟩
      have hsz := ql.size
      have hq : wc.heap.size ≤ wc.heap.size := Nat.le_refl _
      have hn12 : w1.heap.size < wc.heap.size ∧ w1.heap.size + 1 < wc.heap.size ∧ w2.heap.size < wc.heap.size ∧ g < wc.heap.size := by omega
      have hw12 : w.heap.size ≤ wc.heap.size := by omega
      go_region_held3 (fun w' => w'.cell? ⟨w1.heap.size, 0, none⟩ = some (.int .i64 b.n.a) ∧ w'.cell? ⟨w1.heap.size, 1, none⟩ = some (.int .i64 b.n.b) ∧ w'.cell? ⟨w1.heap.size, 2, none⟩ = some (.int .i64 b.n.c) ∧ w'.cell? ⟨w1.heap.size, 3, none⟩ = some (.int .i64 b.n.d) ∧ w'.cell? ⟨w1.heap.size, 4, none⟩ = some (.int .i64 b.e) ∧ w'.cell? ⟨w1.heap.size + 1, 0, none⟩ = some (.int .i64 y.n.a) ∧ w'.cell? ⟨w1.heap.size + 1, 1, none⟩ = some (.int .i64 y.n.b) ∧ w'.cell? ⟨w1.heap.size + 1, 2, none⟩ = some (.int .i64 y.n.c) ∧ w'.cell? ⟨w1.heap.size + 1, 3, none⟩ = some (.int .i64 y.n.d) ∧ w'.cell? ⟨w1.heap.size + 1, 4, none⟩ = some (.int .i64 y.e) ∧ w'.cell? ⟨w2.heap.size, 0, none⟩ = some (.int .i64 p.n.a) ∧ w'.cell? ⟨w2.heap.size, 1, none⟩ = some (.int .i64 p.n.b) ∧ w'.cell? ⟨w2.heap.size, 2, none⟩ = some (.int .i64 p.n.c) ∧ w'.cell? ⟨w2.heap.size, 3, none⟩ = some (.int .i64 p.n.d) ∧ w'.cell? ⟨w2.heap.size, 4, none⟩ = some (.int .i64 p.e) ∧ w'.cell? ⟨g, 0, none⟩ = some (.int .i64 a.n.a) ∧ w'.cell? ⟨g, 1, none⟩ = some (.int .i64 a.n.b) ∧ w'.cell? ⟨g, 2, none⟩ = some (.int .i64 a.n.c) ∧ w'.cell? ⟨g, 3, none⟩ = some (.int .i64 a.n.d) ∧ w'.cell? ⟨g, 4, none⟩ = some (.int .i64 a.e) ∧ w1.heap.size < w'.heap.size ∧ w1.heap.size + 1 < w'.heap.size ∧ w2.heap.size < w'.heap.size ∧ g < w'.heap.size ∧ Below w.heap.size w w') (first | (show D4 w w1.heap.size (w1.heap.size + 1) w2.heap.size g b y p a _; (with_reducible exact hS12.drew)) | (show D4 w w1.heap.size (w1.heap.size + 1) w2.heap.size g b y p a _; (with_reducible exact (hS12.alloc _).drew)) | (show D4 w w1.heap.size (w1.heap.size + 1) w2.heap.size g b y p a _; (with_reducible refine D4.below ?_ hbR); first | assumption | exact ⟨by assumption, by assumption, by assumption, by assumption, by assumption, by assumption, by assumption, by assumption, by assumption, by assumption, by assumption, by assumption, by assumption, by assumption, by assumption, by assumption, by assumption, by assumption, by assumption, by assumption, by assumption, by assumption, by assumption, by assumption, by assumption⟩) | (show D4 w w1.heap.size (w1.heap.size + 1) w2.heap.size g b y p a _; (with_reducible refine D4.alloc ?_ _); first | assumption | exact ⟨by assumption, by assumption, by assumption, by assumption, by assumption, by assumption, by assumption, by assumption, by assumption, by assumption, by assumption, by assumption, by assumption, by assumption, by assumption, by assumption, by assumption, by assumption, by assumption, by assumption, by assumption, by assumption, by assumption, by assumption, by assumption⟩) | (show D4 w w1.heap.size (w1.heap.size + 1) w2.heap.size g b y p a _; (with_reducible refine D4.realloc (p := .cells #[.int .i64 0, .int .i64 0, .int .i64 0, .int .i64 0, .int .i64 0] 29) ?_ hq hn12 hw12); first | assumption | exact ⟨by assumption, by assumption, by assumption, by assumption, by assumption, by assumption, by assumption, by assumption, by assumption, by assumption, by assumption, by assumption, by assumption, by assumption, by assumption, by assumption, by assumption, by assumption, by assumption, by assumption, by assumption, by assumption, by assumption, by assumption, by assumption⟩) | (show D4 w w1.heap.size (w1.heap.size + 1) w2.heap.size g b y p a _; (with_reducible refine D4.set5 (lim := wc.heap.size) ?_ ?_ hn12 hw12); (first | assumption | exact ⟨by assumption, by assumption, by assumption, by assumption, by assumption, by assumption, by assumption, by assumption, by assumption, by assumption, by assumption, by assumption, by assumption, by assumption, by assumption, by assumption, by assumption, by assumption, by assumption, by assumption, by assumption, by assumption, by assumption, by assumption, by assumption⟩); (first | assumption | exact Nat.le_refl _)))
        (first | (go_at_call 29; (first | (with_reducible refine (Ho.out _).mono ?_)); rintro e wR ⟨rfl, hbR⟩; (first | (have hq := Nat.le_trans hq hbR.size) | (have hq : wc.heap.size ≤ wR.heap.size := by have := hbR.size; simpa using this) | (have hq : wc.heap.size ≤ wR.heap.size := by have := hbR.size; simp at this; exact Nat.le_of_succ_le this) | (have hq := Nat.le_trans hq (Nat.le_of_succ_le (by have := hbR.size; simpa using this)))); obtain ⟨hcR, hfR, hzR⟩ := bgrow hbR; (first | (have zg := hzR _ zg) | (have zg := hzR _ (lt_alloc _ _); try simp at zg) | skip)) | (go_at_call 26; (first | (with_reducible refine (Hom.out _).mono ?_)); rintro e wR ⟨rfl, hbR⟩; (first | (have hq := Nat.le_trans hq hbR.size) | (have hq : wc.heap.size ≤ wR.heap.size := by have := hbR.size; simpa using this) | (have hq : wc.heap.size ≤ wR.heap.size := by have := hbR.size; simp at this; exact Nat.le_of_succ_le this) | (have hq := Nat.le_trans hq (Nat.le_of_succ_le (by have := hbR.size; simpa using this)))); obtain ⟨hcR, hfR, hzR⟩ := bgrow hbR; (first | (have zg := hzR _ zg) | (have zg := hzR _ (lt_alloc _ _); try simp at zg) | skip)))
      all_goals go_wp2_with fail
      all_goals go_meet
      all_goals refine ⟨_, rfl, rfl, D4.snoc (by assumption) ?_ ?_ ?_ ?_ ?_ ?_⟩
      all_goals (simp [*, go_sem]; done)
    case rest =>
    obtain ⟨k, rfl, rfl, hS⟩ := hcut
    clear q0a q0b q0c q0d q0e q1a q1b q1c q1d q1e q2a q2b q2c q2d q2e q3a q3b q3c q3d q3e qz0 qz1 qz2 qz3 ql
    obtain ⟨r0a, r0b, r0c, r0d, r0e, r1a, r1b, r1c, r1d, r1e, r2a, r2b, r2c, r2d, r2e, r3a, r3b, r3c, r3d, r3e, r4a, r4b, r4c, r4d, r4e, rz0, rz1, rz2, rz3, rz4, rl⟩ := hS
    go_upto_region 13 with fail
    have hS13 : D4 w w1.heap.size w2.heap.size g k b p a b _ := ⟨r0a, r0b, r0c, r0d, r0e, r2a, r2b, r2c, r2d, r2e, r3a, r3b, r3c, r3d, r3e, r4a, r4b, r4c, r4d, r4e, rz0, rz2, rz3, rz4, rl⟩
    go_region_held3 (fun w' => w'.cell? ⟨w1.heap.size, 0, none⟩ = some (.int .i64 b.n.a) ∧ w'.cell? ⟨w1.heap.size, 1, none⟩ = some (.int .i64 b.n.b) ∧ w'.cell? ⟨w1.heap.size, 2, none⟩ = some (.int .i64 b.n.c) ∧ w'.cell? ⟨w1.heap.size, 3, none⟩ = some (.int .i64 b.n.d) ∧ w'.cell? ⟨w1.heap.size, 4, none⟩ = some (.int .i64 b.e) ∧ w'.cell? ⟨w2.heap.size, 0, none⟩ = some (.int .i64 p.n.a) ∧ w'.cell? ⟨w2.heap.size, 1, none⟩ = some (.int .i64 p.n.b) ∧ w'.cell? ⟨w2.heap.size, 2, none⟩ = some (.int .i64 p.n.c) ∧ w'.cell? ⟨w2.heap.size, 3, none⟩ = some (.int .i64 p.n.d) ∧ w'.cell? ⟨w2.heap.size, 4, none⟩ = some (.int .i64 p.e) ∧ w'.cell? ⟨g, 0, none⟩ = some (.int .i64 a.n.a) ∧ w'.cell? ⟨g, 1, none⟩ = some (.int .i64 a.n.b) ∧ w'.cell? ⟨g, 2, none⟩ = some (.int .i64 a.n.c) ∧ w'.cell? ⟨g, 3, none⟩ = some (.int .i64 a.n.d) ∧ w'.cell? ⟨g, 4, none⟩ = some (.int .i64 a.e) ∧ w'.cell? ⟨k, 0, none⟩ = some (.int .i64 b.n.a) ∧ w'.cell? ⟨k, 1, none⟩ = some (.int .i64 b.n.b) ∧ w'.cell? ⟨k, 2, none⟩ = some (.int .i64 b.n.c) ∧ w'.cell? ⟨k, 3, none⟩ = some (.int .i64 b.n.d) ∧ w'.cell? ⟨k, 4, none⟩ = some (.int .i64 b.e) ∧ w1.heap.size < w'.heap.size ∧ w2.heap.size < w'.heap.size ∧ g < w'.heap.size ∧ k < w'.heap.size ∧ Below w.heap.size w w') (first | (show D4 w w1.heap.size w2.heap.size g k b p a b _; (with_reducible exact hS13.drew)) | (show D4 w w1.heap.size w2.heap.size g k b p a b _; (with_reducible refine D4.below ?_ hbR); first | assumption | exact ⟨by assumption, by assumption, by assumption, by assumption, by assumption, by assumption, by assumption, by assumption, by assumption, by assumption, by assumption, by assumption, by assumption, by assumption, by assumption, by assumption, by assumption, by assumption, by assumption, by assumption, by assumption, by assumption, by assumption, by assumption, by assumption⟩))
      (first | (go_at_call 28; (first | (with_reducible refine (Hcp.out _).mono ?_)); rintro e wR ⟨rfl, hbR⟩) | (go_at_call 19; (first | (with_reducible refine (Hiv.out _).mono ?_)); rintro e wR ⟨rfl, hbR⟩))
    go_wp2_with fail
    go_returns
    exact ⟨rfl, D4.low (n0 := w1.heap.size) (n1 := w2.heap.size) (n2 := g) (n3 := k) (x0 := b) (x1 := p) (x2 := a) (x3 := b) (by assumption)⟩
set_option maxRecDepth 100000 in
set_option maxHeartbeats 400000 in
theorem walk (a0 : Option Addr) (len cap : Nat) (w : World) (hm : len ≤ maxLen) (hl : len ≤ cap) (hc : len ≤ 1048576 → CodeAt w w.heap.size a0 len) :
    Calls Try.prog 5 #[.slice a0 len cap] w fun e w' => e = .returned (.bool true) ∧ Below w.heap.size w w' := by
  by_cases hs : len ≤ 1048576
  · exact core a0 len cap hs hl w (hc hs)
  · unfold maxLen at hm
    clear hc
    go_enter Try.func5, Try.ntmps5
    go_wp2_with (go_at_call 14; go_in)
    go_ret
    exact ⟨rfl, Below.refl _ _⟩

open Go.ChangeMaps (open_string shut_string)
theorem laidOut : laidOutB Try.prog = true := by kernel_rfl
theorem own : ownKnob Try.prog.godebug = none := by kernel_rfl
set_option maxRecDepth 100000 in
/-- What the walk gives, for every argument. -/
theorem contract (H : Type) (enc : TypeId × Value → H) (W : World) (base : Nat) (args : Array Value) (ds gs : List (DataW H)) (before : List MemPlace)
    (hval : ∀ (j : Nat) t v, Try.f5.params[j]? = some t → args[j]? = some v → Value.okWide Try.prog W .any base t v)
    (hW : DataW.Whole enc Try.prog Try.f5.params.toList Rows.fnDwProductSpec.vars false W args.toList ds gs before) :
    Calls Try.prog 5 args W fun e W' => ∃ v, e = .returned v ∧ Rows.fnDwProductSpec.post enc Try.prog Try.f5 false true false false W args v W' := by
  have hW' := hW
  obtain ⟨p, q, hA0, hV, rfl, hfz, hnd⟩ := hW
  have hA : DataW.TrodAll enc Try.prog W 0 (fun _ => true) true Try.f5.params.toList args.toList ds p := hA0
  rw [Try.params5] at hA hval
  obtain ⟨v0, vs0, d0, ds0, p0, q0, hargs, rfl, rfl, h0, r0⟩ := trodAll_cons hA
  obtain ⟨rfl, rfl, rfl⟩ := trodAll_nil r0
  obtain rfl : args = #[v0] := by cases args; simp_all
  obtain ⟨rfl, rfl⟩ := trodVars_none hV
  obtain ⟨ca, cl, cc, rfl⟩ := okWide_slice Try.underlying22 (hval 0 22 v0 rfl rfl)
  have k0 := h0
  have lt0 : ∀ x ∈ p0, x.block < W.heap.size := by obtain ⟨m, hm⟩ := k0; exact DataW.trod_lt m _ _ _ hm
  have ch : (cl ≤ 1048576 → CodeAt W W.heap.size ca cl) ∧ cl ≤ maxLen ∧ cl ≤ cc := by
    obtain ⟨fuel, hf⟩ := h0
    rcases open_ints Try.underlying22 Try.underlying5 (by kernel_rfl) hf with ⟨hcs, _⟩ | ⟨x, l, c, zs, hcs, _, hl, hm, hz, _, hcell, hwz⟩
    · simp [Value.cells] at hcs
      obtain ⟨rfl, rfl, rfl⟩ := hcs
      exact ⟨fun _ => ⟨by omega, fun h => absurd h (by omega)⟩, Nat.zero_le _, Nat.le_refl _⟩
    · simp [Value.cells] at hcs
      obtain ⟨rfl, rfl, rfl⟩ := hcs
      have hz2 : zs.length = cc := by simpa using hz
      exact ⟨fun hs => code_of hs (by omega) hcell hwz, by omega, hl⟩
  clear hA0
  simp only [List.append_nil] at hW'
  refine (walk ca cl cc W ch.2.1 ch.2.2 ch.1).mono fun e W' ⟨he, hg⟩ => ?_
  subst he
  exact ⟨_, rfl, _, _, _, [], _, [], hW', trodAll_mk1 (shut_bool Try.underlying4 _), (trodAll_cons_mk (Below.trod laidOut (by kernel_rfl) (of_decide_eq_true (by kernel_rfl)) k0 hg lt0) trodAll_mk0), rfl, hg.frame _, fun h => by cases h⟩

set_option maxRecDepth 100000 in
theorem lifted (os : Os) (started : os.Started) (H : Type) (enc : TypeId × Value → H) :
    ReturnsInHanded {} Try.checked os 5 .any (Rows.fnDwProductSpec.pre6 enc Try.prog Try.f5 Rows.fnDwProductRow.domain false) (Rows.fnDwProductSpec.post enc Try.prog Try.f5 false true false false) := by
  refine returnsInHanded_of_change (C := Try.checked) own started (by kernel_rfl) Try.func5
    (ChangeSpec.witness6 (enc := enc) (C := Try.checked) false ⟨#[], #[.slice none 0 0], []⟩ 8 (by kernel_rfl) (by kernel_rfl) (by kernel_rfl) (by kernel_rfl)) ?_
  intro W base args ds gs before hval hW _ _
  exact contract H enc W base args ds gs before hval hW
theorem said : Rows.FnDwProductSaid :=
  OpenClaim.holds_of_wide 5 Try.f5 rfl rfl rfl rfl rfl rfl rfl ⟨rfl, rfl, rfl, rfl, rfl⟩ rfl rfl rfl rfl rfl (by kernel_rfl) Try.func5 (by kernel_rfl)
    (of_decide_eq_true (by kernel_rfl)) (by unfold Func.isWrapper; first | (rw [if_pos (by decide +kernel)]; kernel_rfl) | (rw [if_neg (by decide +kernel)]; exact ⟨rfl, rfl⟩))
    (fun os started H enc _ => lifted os started H enc)
end Go.Proofs.Ytiemnhejonepfaa.fnDwProduct
