/- BaseB09: several of our texts in one: GtKc GtKd GtK MtO MtN MtS. -/
import Derived.Test.YtmpafidkpangeaaBaseB06
import Derived.Test.YtmpafidkpangeaaBaseB05
import Derived.Deep.Slices
import Derived.Test.YtmpafidkpangeaaBaseB13
namespace Go.Proofs.Ytmpafidkpangeaa
open Go.RowKit
/-- The box of a gate lies at B. -/
def GB (w : World) (B : Nat) (g : Gt) (w' : World) : Prop := w'.cell? ⟨B, 0, none⟩ = some (.int .i64 g.k) ∧ w'.cell? ⟨B, 1, none⟩ = some (.int .i64 g.a) ∧ w'.cell? ⟨B, 2, none⟩ = some (.int .i64 g.b) ∧ w'.cell? ⟨B, 3, none⟩ = some (.int .i64 g.c) ∧ B < w'.heap.size ∧ Below w.heap.size w w'
theorem GB.drew {w w1 : World} {B : Nat} {g : Gt} (h : GB w B g w1) : GB w B g w1.drew :=
  let ⟨c0, c1, c2, c3, z0, l⟩ := h; ⟨c0, c1, c2, c3, z0, l.drew⟩
theorem GB.alloc {w w1 : World} {B : Nat} {g : Gt} {o : Obj} (h : GB w B g w1) : GB w B g (w1.alloc o) :=
  let ⟨c0, c1, c2, c3, z0, l⟩ := h
  have e : ∀ k, (w1.alloc o).cell? ⟨B, k, none⟩ = w1.cell? ⟨B, k, none⟩ := fun k => (Below.refl w1.heap.size w1).alloc (Nat.le_refl _) o |>.cell (by exact z0)
  ⟨(e 0).trans c0, (e 1).trans c1, (e 2).trans c2, (e 3).trans c3, by simp; omega, l.alloc l.size o⟩
attribute [local irreducible] World.cell?
set_option maxRecDepth 100000 in
set_option maxHeartbeats 1600000 in
theorem iinvG (g : Gt) (w : World) : Calls Try.prog 46 #[(.agg #[.int .i64 g.k, .int .i64 g.a, .int .i64 g.b, .int .i64 g.c])] w fun e w' => e = .returned (.agg #[.int .i64 (invG g).k, .int .i64 (invG g).a, .int .i64 (invG g).b, .int .i64 (invG g).c]) ∧ Below w.heap.size w w' := by
  obtain ⟨k, a, b, c⟩ := g
  have Hk := Lib.hid (fun w => ikind k w)
  rcases kind_cases k with h | h | rfl | h
  · rw [kV_one h] at Hk
    have hk : ar k = 1 := if_pos h
    have h1 := as11
    rw [show invG ⟨k, a, b, c⟩ = ⟨invK k, a, b, c⟩ from rfl]
    clear h hk
    generalize decide (k ≤ 6) = t at *
    generalize invK k = i at *
    go_enter Try.func46, Try.ntmps46
    go_wp2_with fail
    refine (Hk.out _).mono ?_
    rintro e w1 ⟨rfl, rfl⟩
    go_wp2_with fail
    refine bodyPost_ret (v := (.agg #[.int .i64 (Gt.mk i a b c).k, .int .i64 (Gt.mk i a b c).a, .int .i64 (Gt.mk i a b c).b, .int .i64 (Gt.mk i a b c).c])) (by simp [results, Try.results46, go_sem]) rfl ⟨rfl, ?_⟩
    go_grown
  · rw [kV_two h] at Hk
    have hi : invK k = k := by unfold invK; rw [if_neg (by omega), if_neg (by omega), if_neg (by omega), if_neg (by omega)]
    rw [show invG ⟨k, a, b, c⟩ = ⟨k, a, b, c⟩ by unfold invG; rw [hi]]
    have h1 := as21
    clear h hi
    go_enter Try.func46, Try.ntmps46
    go_wp2_with fail
    refine (Hk.out _).mono ?_
    rintro e w1 ⟨rfl, rfl⟩
    go_wp2_with fail
    refine bodyPost_ret (v := (.agg #[.int .i64 (Gt.mk k a b c).k, .int .i64 (Gt.mk k a b c).a, .int .i64 (Gt.mk k a b c).b, .int .i64 (Gt.mk k a b c).c])) (by simp [results, Try.results46, go_sem]) rfl ⟨rfl, ?_⟩
    go_grown
  · have Hk' : Hid (∀ w, Calls Try.prog 83 #[.int .i64 12] w fun e w' => e = .returned (.iface 142 (.agg #[])) ∧ w = w') := Hk
    rw [show invG ⟨12, a, b, c⟩ = ⟨12, a, b, c⟩ from rfl]
    clear Hk
    have h1 := as31
    go_enter Try.func46, Try.ntmps46
    go_wp2_with fail
    refine (Hk'.out _).mono ?_
    rintro e w1 ⟨rfl, rfl⟩
    go_wp2_with fail
    refine bodyPost_ret (v := (.agg #[.int .i64 (Gt.mk 12 a b c).k, .int .i64 (Gt.mk 12 a b c).a, .int .i64 (Gt.mk 12 a b c).b, .int .i64 (Gt.mk 12 a b c).c])) (by simp [results, Try.results46, go_sem]) rfl ⟨rfl, ?_⟩
    go_grown
  · rw [kV_no h] at Hk
    have hi : invK k = k := by unfold invK; rw [if_neg (by omega), if_neg (by omega), if_neg (by omega), if_neg (by omega)]
    rw [show invG ⟨k, a, b, c⟩ = ⟨k, a, b, c⟩ by unfold invG; rw [hi]]
    have h1 := as01
    clear h hi
    go_enter Try.func46, Try.ntmps46
    go_wp2_with fail
    refine (Hk.out _).mono ?_
    rintro e w1 ⟨rfl, rfl⟩
    go_wp2_with fail
    refine bodyPost_ret (v := (.agg #[.int .i64 (Gt.mk k a b c).k, .int .i64 (Gt.mk k a b c).a, .int .i64 (Gt.mk k a b c).b, .int .i64 (Gt.mk k a b c).c])) (by simp [results, Try.results46, go_sem]) rfl ⟨rfl, ?_⟩
    go_grown
set_option maxRecDepth 100000 in
set_option maxHeartbeats 3200000 in
theorem igqs0 (g : Gt) (w : World) : Calls Try.prog 112 #[(.agg #[.int .i64 g.k, .int .i64 g.a, .int .i64 g.b, .int .i64 g.c])] w fun e w' => e = .returned (.slice (some ⟨w.heap.size + 1, 0, none⟩) (ar g.k) 3) ∧ intE.Row w' (w.heap.size + 1) (gqs g) ∧ Below w.heap.size w w' := by
  have Ha := Lib.hid (fun w => iar0 g.k w)
  have HX := Lib.hid (heap_alloc_new w (.cells #[.int .i64 g.k, .int .i64 g.a, .int .i64 g.b, .int .i64 g.c] 44))
  have hb0 : Below w.heap.size w (w.alloc (.cells #[.int .i64 g.k, .int .i64 g.a, .int .i64 g.b, .int .i64 g.c] 44)) := by go_grown
  obtain ⟨c0, c1, c2, c3⟩ := blk_cells HX.out
  have hS : GB w w.heap.size g (w.alloc (.cells #[.int .i64 g.k, .int .i64 g.a, .int .i64 g.b, .int .i64 g.c] 44)) := ⟨c0, c1, c2, c3, by simp, hb0⟩
  have h3 := ar_le g.k
  have hR : intE.Row (((w.alloc (.cells #[.int .i64 g.k, .int .i64 g.a, .int .i64 g.b, .int .i64 g.c] 44)).alloc (.cells #[.int .i64 g.a, .int .i64 g.b, .int .i64 g.c] 3)).drew) (w.heap.size + 1) (gqs g) := by
    have h1 : ((w.alloc (.cells #[.int .i64 g.k, .int .i64 g.a, .int .i64 g.b, .int .i64 g.c] 44)).alloc (.cells #[.int .i64 g.a, .int .i64 g.b, .int .i64 g.c] 3)).drew.heap[w.heap.size + 1]? = some (.cells #[.int .i64 g.a, .int .i64 g.b, .int .i64 g.c] 3 (0, 0)) := by
      have h := heap_alloc_new (w.alloc (.cells #[.int .i64 g.k, .int .i64 g.a, .int .i64 g.b, .int .i64 g.c] 44)) (.cells #[.int .i64 g.a, .int .i64 g.b, .int .i64 g.c] 3)
      rw [show (w.alloc (.cells #[.int .i64 g.k, .int .i64 g.a, .int .i64 g.b, .int .i64 g.c] 44)).heap.size = w.heap.size + 1 by simp] at h
      exact h
    exact Enc.Row.take (E := intE) (l := [g.a, g.b, g.c]) ⟨#[.int .i64 g.a, .int .i64 g.b, .int .i64 g.c], h1, rfl⟩ (ar g.k)
  have hV := Lib.hid hR
  have hB := Lib.hid (show Below w.heap.size w (((w.alloc (.cells #[.int .i64 g.k, .int .i64 g.a, .int .i64 g.b, .int .i64 g.c] 44)).alloc (.cells #[.int .i64 g.a, .int .i64 g.b, .int .i64 g.c] 3)).drew) by go_grown)
  clear hR
  generalize ar g.k = t at *
  have ht : (t : Int) ≤ 3 := by omega
  clear hb0
  go_enter Try.func112, Try.ntmps112
  go_upto_region 1 with fail
  go_region_held3 (fun w' => w'.cell? ⟨w.heap.size, 0, none⟩ = some (.int .i64 g.k) ∧ w'.cell? ⟨w.heap.size, 1, none⟩ = some (.int .i64 g.a) ∧ w'.cell? ⟨w.heap.size, 2, none⟩ = some (.int .i64 g.b) ∧ w'.cell? ⟨w.heap.size, 3, none⟩ = some (.int .i64 g.c) ∧ w.heap.size < w'.heap.size ∧ Below w.heap.size w w') (first | (show GB _ _ _ _; (with_reducible exact hS.drew)) | (show GB _ _ _ _; (with_reducible exact (GB.alloc hS).drew)) | (show GB _ _ _ _; exact (GB.alloc hS).drew) | (show GB _ _ _ _; (with_reducible refine GB.alloc ?_); first | assumption | exact ⟨by assumption, by assumption, by assumption, by assumption, by assumption, by assumption⟩))
    (first | (go_at_call 85; refine (Ha.out _).mono ?_; rintro e wR ⟨rfl, rfl⟩))
  all_goals go_wp2_with fail
  all_goals go_ret
  all_goals exact ⟨rfl, hV.out, hB.out⟩
end Go.Proofs.Ytmpafidkpangeaa
namespace Go.Proofs.Ytmpafidkpangeaa
open Go.RowKit
attribute [local irreducible] World.cell?
set_option maxRecDepth 100000 in
set_option maxHeartbeats 800000 in
theorem ivalidG_no (g : Gt) (n : Int) (w : World) (h : ¬ (1 ≤ n ∧ n ≤ 4)) (n0 : -9223372036854775808 ≤ n) (n1 : n ≤ 9223372036854775807) :
    Calls Try.prog 51 #[(.agg #[.int .i64 g.k, .int .i64 g.a, .int .i64 g.b, .int .i64 g.c]), .int .i64 n] w fun e w' => e = .returned (.bool false) ∧ Below w.heap.size w w' := by
  have Ha := Lib.hid (fun w => iar0 g.k w)
  have Hq := Lib.hid (fun w => iisq_no n w h n0 n1)
  have Hb0 := Lib.hid (show Below w.heap.size w (w.alloc (.cells #[.int .i64 g.k, .int .i64 g.a, .int .i64 g.b, .int .i64 g.c] 44)) by go_grown)
  generalize ar g.k = t at *
  clear h n0 n1
  go_enter Try.func51, Try.ntmps51
  go_wp2_with fail
  refine (Ha.out _).mono ?_
  rintro e w1 ⟨rfl, rfl⟩
  go_wp2_with (first | (go_at_call 50; refine (Hq.out _).mono ?_; rintro e wR ⟨rfl, rfl⟩))
  go_ret
  exact ⟨rfl, Hb0.out⟩
set_option maxRecDepth 100000 in
set_option maxHeartbeats 800000 in
theorem ivalidG_zero (g : Gt) (n : Int) (w : World) (hn : 1 ≤ n ∧ n ≤ 4) (h : ar g.k = 0) :
    Calls Try.prog 51 #[(.agg #[.int .i64 g.k, .int .i64 g.a, .int .i64 g.b, .int .i64 g.c]), .int .i64 n] w fun e w' => e = .returned (.bool false) ∧ Below w.heap.size w w' := by
  have Ha := Lib.hid (fun w => iar0 g.k w)
  have Hq := Lib.hid (fun w => iisq_yes n w hn)
  have Hb0 := Lib.hid (show Below w.heap.size w (w.alloc (.cells #[.int .i64 g.k, .int .i64 g.a, .int .i64 g.b, .int .i64 g.c] 44)) by go_grown)
  rw [h] at Ha
  clear h hn
  go_enter Try.func51, Try.ntmps51
  go_wp2_with fail
  refine (Ha.out _).mono ?_
  rintro e w1 ⟨rfl, rfl⟩
  go_wp2_with (first | (go_at_call 50; refine (Hq.out _).mono ?_; rintro e wR ⟨rfl, rfl⟩))
  go_ret
  exact ⟨rfl, Hb0.out⟩
set_option maxRecDepth 100000 in
set_option maxHeartbeats 3200000 in
theorem ivalidG_10 (k a b c n : Int) (w : World) (hn : 1 ≤ n ∧ n ≤ 4) (h : ar k = 1) (hb : b ≠ 0) :
    Calls Try.prog 51 #[(.agg #[.int .i64 (Gt.mk k a b c).k, .int .i64 (Gt.mk k a b c).a, .int .i64 (Gt.mk k a b c).b, .int .i64 (Gt.mk k a b c).c]), .int .i64 n] w fun e w' => e = .returned (.bool false) ∧ Below w.heap.size w w' := by
  have Ha := Lib.hid (fun w => iar0 k w)
  have Hq := Lib.hid (fun w => iisq_yes n w hn)
  have HB := Lib.hid (show Below w.heap.size w ((w.alloc (.cells #[.int .i64 (Gt.mk k a b c).k, .int .i64 (Gt.mk k a b c).a, .int .i64 (Gt.mk k a b c).b, .int .i64 (Gt.mk k a b c).c] 44)).alloc (.cells #[.int .i64 a, .int .i64 b, .int .i64 c] 113)) by go_grown)
  have eb : (b != 0) = true := by simpa using hb
  rw [h] at Ha
  clear h hn hb
  go_enter Try.func51, Try.ntmps51
  go_wp2_with fail
  refine (Ha.out _).mono ?_
  rintro e w1 ⟨rfl, rfl⟩
  go_wp2_with (first | (go_at_call 50; refine (Hq.out _).mono ?_; rintro e wR ⟨rfl, rfl⟩))
  refine wp_loop_rounds 3 ?_
  repeat any_goals (rw [rounds_succ]; go_wp2_with fail)
  go_ret
  exact ⟨rfl, HB.out⟩
set_option maxRecDepth 100000 in
set_option maxHeartbeats 3200000 in
theorem ivalidG_11 (k a c n : Int) (w : World) (hn : 1 ≤ n ∧ n ≤ 4) (h : ar k = 1) (hc : c ≠ 0) :
    Calls Try.prog 51 #[(.agg #[.int .i64 (Gt.mk k a 0 c).k, .int .i64 (Gt.mk k a 0 c).a, .int .i64 (Gt.mk k a 0 c).b, .int .i64 (Gt.mk k a 0 c).c]), .int .i64 n] w fun e w' => e = .returned (.bool false) ∧ Below w.heap.size w w' := by
  have Ha := Lib.hid (fun w => iar0 k w)
  have Hq := Lib.hid (fun w => iisq_yes n w hn)
  have HB := Lib.hid (show Below w.heap.size w ((w.alloc (.cells #[.int .i64 (Gt.mk k a 0 c).k, .int .i64 (Gt.mk k a 0 c).a, .int .i64 (Gt.mk k a 0 c).b, .int .i64 (Gt.mk k a 0 c).c] 44)).alloc (.cells #[.int .i64 a, .int .i64 0, .int .i64 c] 113)) by go_grown)
  have ec : (c != 0) = true := by simpa using hc
  rw [h] at Ha
  clear h hn hc
  go_enter Try.func51, Try.ntmps51
  go_wp2_with fail
  refine (Ha.out _).mono ?_
  rintro e w1 ⟨rfl, rfl⟩
  go_wp2_with (first | (go_at_call 50; refine (Hq.out _).mono ?_; rintro e wR ⟨rfl, rfl⟩))
  refine wp_loop_rounds 3 ?_
  repeat any_goals (rw [rounds_succ]; go_wp2_with fail)
  go_ret
  exact ⟨rfl, HB.out⟩
set_option maxRecDepth 100000 in
set_option maxHeartbeats 3200000 in
theorem ivalidG_12 (k a n : Int) (w : World) (hn : 1 ≤ n ∧ n ≤ 4) (h : ar k = 1) :
    Calls Try.prog 51 #[(.agg #[.int .i64 (Gt.mk k a 0 0).k, .int .i64 (Gt.mk k a 0 0).a, .int .i64 (Gt.mk k a 0 0).b, .int .i64 (Gt.mk k a 0 0).c]), .int .i64 n] w fun e w' => e = .returned (.bool (dq [a] n)) ∧ Below w.heap.size w w' := by
  have Ha := Lib.hid (fun w => iar0 k w)
  have Hq := Lib.hid (fun w => iisq_yes n w hn)
  have HB := Lib.hid (show Below w.heap.size w ((w.alloc (.cells #[.int .i64 (Gt.mk k a 0 0).k, .int .i64 (Gt.mk k a 0 0).a, .int .i64 (Gt.mk k a 0 0).b, .int .i64 (Gt.mk k a 0 0).c] 44)).alloc (.cells #[.int .i64 a, .int .i64 0, .int .i64 0] 113)) by go_grown)
  have hrow : AR ((w.alloc (.cells #[.int .i64 (Gt.mk k a 0 0).k, .int .i64 (Gt.mk k a 0 0).a, .int .i64 (Gt.mk k a 0 0).b, .int .i64 (Gt.mk k a 0 0).c] 44)).alloc (.cells #[.int .i64 a, .int .i64 0, .int .i64 0] 113)) (w.heap.size + 1) [a] := by
    have h := heap_alloc_new (w.alloc (.cells #[.int .i64 (Gt.mk k a 0 0).k, .int .i64 (Gt.mk k a 0 0).a, .int .i64 (Gt.mk k a 0 0).b, .int .i64 (Gt.mk k a 0 0).c] 44)) (.cells #[.int .i64 a, .int .i64 0, .int .i64 0] 113)
    rw [show (w.alloc (.cells #[.int .i64 (Gt.mk k a 0 0).k, .int .i64 (Gt.mk k a 0 0).a, .int .i64 (Gt.mk k a 0 0).b, .int .i64 (Gt.mk k a 0 0).c] 44)).heap.size = w.heap.size + 1 by simp] at h
    exact ⟨_, _, h, rfl⟩
  have Hd := Lib.hid (idist (w.heap.size + 1) 3 [a] n _ hrow (by simp) (by simp))
  clear hrow
  generalize dq [a] n = D at *
  rw [h] at Ha
  clear h hn
  go_enter Try.func51, Try.ntmps51
  go_wp2_with fail
  refine (Ha.out _).mono ?_
  rintro e w1 ⟨rfl, rfl⟩
  go_wp2_with (first | (go_at_call 50; refine (Hq.out _).mono ?_; rintro e wR ⟨rfl, rfl⟩))
  refine wp_loop_rounds 3 ?_
  repeat any_goals (rw [rounds_succ]; go_wp2_with fail)
  refine (Hd.out).mono ?_
  rintro e w2 ⟨rfl, rfl⟩
  go_wp2_with fail
  go_ret
  exact ⟨rfl, HB.out⟩
set_option maxRecDepth 100000 in
set_option maxHeartbeats 3200000 in
theorem ivalidG_20 (k a b c n : Int) (w : World) (hn : 1 ≤ n ∧ n ≤ 4) (h : ar k = 2) (hc : c ≠ 0) :
    Calls Try.prog 51 #[(.agg #[.int .i64 (Gt.mk k a b c).k, .int .i64 (Gt.mk k a b c).a, .int .i64 (Gt.mk k a b c).b, .int .i64 (Gt.mk k a b c).c]), .int .i64 n] w fun e w' => e = .returned (.bool false) ∧ Below w.heap.size w w' := by
  have Ha := Lib.hid (fun w => iar0 k w)
  have Hq := Lib.hid (fun w => iisq_yes n w hn)
  have HB := Lib.hid (show Below w.heap.size w ((w.alloc (.cells #[.int .i64 (Gt.mk k a b c).k, .int .i64 (Gt.mk k a b c).a, .int .i64 (Gt.mk k a b c).b, .int .i64 (Gt.mk k a b c).c] 44)).alloc (.cells #[.int .i64 a, .int .i64 b, .int .i64 c] 113)) by go_grown)
  have ec : (c != 0) = true := by simpa using hc
  rw [h] at Ha
  clear h hn hc
  go_enter Try.func51, Try.ntmps51
  go_wp2_with fail
  refine (Ha.out _).mono ?_
  rintro e w1 ⟨rfl, rfl⟩
  go_wp2_with (first | (go_at_call 50; refine (Hq.out _).mono ?_; rintro e wR ⟨rfl, rfl⟩))
  refine wp_loop_rounds 3 ?_
  repeat any_goals (rw [rounds_succ]; go_wp2_with fail)
  go_ret
  exact ⟨rfl, HB.out⟩
set_option maxRecDepth 100000 in
set_option maxHeartbeats 3200000 in
theorem ivalidG_21 (k a b n : Int) (w : World) (hn : 1 ≤ n ∧ n ≤ 4) (h : ar k = 2) :
    Calls Try.prog 51 #[(.agg #[.int .i64 (Gt.mk k a b 0).k, .int .i64 (Gt.mk k a b 0).a, .int .i64 (Gt.mk k a b 0).b, .int .i64 (Gt.mk k a b 0).c]), .int .i64 n] w fun e w' => e = .returned (.bool (dq [a, b] n)) ∧ Below w.heap.size w w' := by
  have Ha := Lib.hid (fun w => iar0 k w)
  have Hq := Lib.hid (fun w => iisq_yes n w hn)
  have HB := Lib.hid (show Below w.heap.size w ((w.alloc (.cells #[.int .i64 (Gt.mk k a b 0).k, .int .i64 (Gt.mk k a b 0).a, .int .i64 (Gt.mk k a b 0).b, .int .i64 (Gt.mk k a b 0).c] 44)).alloc (.cells #[.int .i64 a, .int .i64 b, .int .i64 0] 113)) by go_grown)
  have hrow : AR ((w.alloc (.cells #[.int .i64 (Gt.mk k a b 0).k, .int .i64 (Gt.mk k a b 0).a, .int .i64 (Gt.mk k a b 0).b, .int .i64 (Gt.mk k a b 0).c] 44)).alloc (.cells #[.int .i64 a, .int .i64 b, .int .i64 0] 113)) (w.heap.size + 1) [a, b] := by
    have h := heap_alloc_new (w.alloc (.cells #[.int .i64 (Gt.mk k a b 0).k, .int .i64 (Gt.mk k a b 0).a, .int .i64 (Gt.mk k a b 0).b, .int .i64 (Gt.mk k a b 0).c] 44)) (.cells #[.int .i64 a, .int .i64 b, .int .i64 0] 113)
    rw [show (w.alloc (.cells #[.int .i64 (Gt.mk k a b 0).k, .int .i64 (Gt.mk k a b 0).a, .int .i64 (Gt.mk k a b 0).b, .int .i64 (Gt.mk k a b 0).c] 44)).heap.size = w.heap.size + 1 by simp] at h
    exact ⟨_, _, h, rfl⟩
  have Hd := Lib.hid (idist (w.heap.size + 1) 3 [a, b] n _ hrow (by simp) (by simp))
  clear hrow
  generalize dq [a, b] n = D at *
  rw [h] at Ha
  clear h hn
  go_enter Try.func51, Try.ntmps51
  go_wp2_with fail
  refine (Ha.out _).mono ?_
  rintro e w1 ⟨rfl, rfl⟩
  go_wp2_with (first | (go_at_call 50; refine (Hq.out _).mono ?_; rintro e wR ⟨rfl, rfl⟩))
  refine wp_loop_rounds 3 ?_
  repeat any_goals (rw [rounds_succ]; go_wp2_with fail)
  refine (Hd.out).mono ?_
  rintro e w2 ⟨rfl, rfl⟩
  go_wp2_with fail
  go_ret
  exact ⟨rfl, HB.out⟩
set_option maxRecDepth 100000 in
set_option maxHeartbeats 3200000 in
theorem ivalidG_30 (k a b c n : Int) (w : World) (hn : 1 ≤ n ∧ n ≤ 4) (h : ar k = 3) :
    Calls Try.prog 51 #[(.agg #[.int .i64 (Gt.mk k a b c).k, .int .i64 (Gt.mk k a b c).a, .int .i64 (Gt.mk k a b c).b, .int .i64 (Gt.mk k a b c).c]), .int .i64 n] w fun e w' => e = .returned (.bool (dq [a, b, c] n)) ∧ Below w.heap.size w w' := by
  have Ha := Lib.hid (fun w => iar0 k w)
  have Hq := Lib.hid (fun w => iisq_yes n w hn)
  have HB := Lib.hid (show Below w.heap.size w ((w.alloc (.cells #[.int .i64 (Gt.mk k a b c).k, .int .i64 (Gt.mk k a b c).a, .int .i64 (Gt.mk k a b c).b, .int .i64 (Gt.mk k a b c).c] 44)).alloc (.cells #[.int .i64 a, .int .i64 b, .int .i64 c] 113)) by go_grown)
  have hrow : AR ((w.alloc (.cells #[.int .i64 (Gt.mk k a b c).k, .int .i64 (Gt.mk k a b c).a, .int .i64 (Gt.mk k a b c).b, .int .i64 (Gt.mk k a b c).c] 44)).alloc (.cells #[.int .i64 a, .int .i64 b, .int .i64 c] 113)) (w.heap.size + 1) [a, b, c] := by
    have h := heap_alloc_new (w.alloc (.cells #[.int .i64 (Gt.mk k a b c).k, .int .i64 (Gt.mk k a b c).a, .int .i64 (Gt.mk k a b c).b, .int .i64 (Gt.mk k a b c).c] 44)) (.cells #[.int .i64 a, .int .i64 b, .int .i64 c] 113)
    rw [show (w.alloc (.cells #[.int .i64 (Gt.mk k a b c).k, .int .i64 (Gt.mk k a b c).a, .int .i64 (Gt.mk k a b c).b, .int .i64 (Gt.mk k a b c).c] 44)).heap.size = w.heap.size + 1 by simp] at h
    exact ⟨_, _, h, rfl⟩
  have Hd := Lib.hid (idist (w.heap.size + 1) 3 [a, b, c] n _ hrow (by simp) (by simp))
  clear hrow
  generalize dq [a, b, c] n = D at *
  rw [h] at Ha
  clear h hn
  go_enter Try.func51, Try.ntmps51
  go_wp2_with fail
  refine (Ha.out _).mono ?_
  rintro e w1 ⟨rfl, rfl⟩
  go_wp2_with (first | (go_at_call 50; refine (Hq.out _).mono ?_; rintro e wR ⟨rfl, rfl⟩))
  refine wp_loop_rounds 3 ?_
  repeat any_goals (rw [rounds_succ]; go_wp2_with fail)
  refine (Hd.out).mono ?_
  rintro e w2 ⟨rfl, rfl⟩
  go_wp2_with fail
  go_ret
  exact ⟨rfl, HB.out⟩
theorem ivalidG (g : Gt) (n : Int) (w : World) (n0 : -9223372036854775808 ≤ n) (n1 : n ≤ 9223372036854775807) : Calls Try.prog 51 #[(.agg #[.int .i64 g.k, .int .i64 g.a, .int .i64 g.b, .int .i64 g.c]), .int .i64 n] w fun e w' => e = .returned (.bool (gtB g n)) ∧ Below w.heap.size w w' := by
  by_cases hn : 1 ≤ n ∧ n ≤ 4
  · obtain ⟨k, a, b, c⟩ := g
    have h3 := ar_le k
    rcases (show ar k = 0 ∨ ar k = 1 ∨ ar k = 2 ∨ ar k = 3 by omega) with h | h | h | h
    · rw [gtB_zero h]; exact ivalidG_zero _ n w hn h
    · rw [gtB_1 h hn]
      by_cases hb : b = 0
      · subst hb
        by_cases hc : c = 0
        · subst hc
          rw [show (decide ((0 : Int) = 0) && decide ((0 : Int) = 0) && dq [a] n) = dq [a] n by simp]
          exact ivalidG_12 k a n w hn h
        · rw [decide_eq_false hc, Bool.and_false, Bool.false_and]
          exact ivalidG_11 k a c n w hn h hc
      · rw [decide_eq_false hb, Bool.false_and, Bool.false_and]
        exact ivalidG_10 k a b c n w hn h hb
    · rw [gtB_2 h hn]
      by_cases hc : c = 0
      · subst hc
        rw [show (decide ((0 : Int) = 0) && dq [a, b] n) = dq [a, b] n by simp]
        exact ivalidG_21 k a b n w hn h
      · rw [decide_eq_false hc, Bool.false_and]
        exact ivalidG_20 k a b c n w hn h hc
    · rw [gtB_3 h hn]; exact ivalidG_30 k a b c n w hn h
  · rw [gtB_no hn]; exact ivalidG_no g n w hn n0 n1
end Go.Proofs.Ytmpafidkpangeaa
namespace Go.Proofs.Ytmpafidkpangeaa
end Go.Proofs.Ytmpafidkpangeaa
namespace Go.Proofs.Ytmpafidkpangeaa
open Go.ChangeShapes Go.WideShapes Go.ChangeAt Go.RowKit Go.Lib Go.Joins
end Go.Proofs.Ytmpafidkpangeaa
namespace Go.Proofs.Ytmpafidkpangeaa
open Go.RowKit
/-- The marks of a matrix that begin at k. -/
def marksM : Nat → List (List Dw) → List (List Dw)
  | _, [] => []
  | k, r :: M => marks k r.length :: marksM (k + r.length * 5) M
theorem marksM_len : ∀ (k : Nat) (M : List (List Dw)), (marksM k M).length = M.length
  | _, [] => rfl
  | k, r :: M => by rw [marksM, List.length_cons, marksM_len, List.length_cons]
theorem amps_cons (r : List Dw) (M : List (List Dw)) : amps (r :: M) = r.length + amps M := by simp [amps]
theorem marksM_snoc : ∀ (k : Nat) (M : List (List Dw)) (r : List Dw), marksM k (M ++ [r]) = marksM k M ++ [marks (k + amps M * 5) r.length]
  | k, [], r => by simp [marksM, amps]
  | k, s :: M, r => by
    rw [List.cons_append, marksM, marksM_snoc, marksM, List.cons_append, amps_cons]
    congr 4
    omega
theorem marksM_at {k : Nat} {M : List (List Dw)} {j : Nat} {r : List Dw} (hr : M[j]? = some r) : (marksM k M)[j]? = some (marks (k + amps (M.take j) * 5) r.length) := by
  have h : j < M.length := by
    rcases Nat.lt_or_ge j M.length with h' | h'
    · exact h'
    · rw [List.getElem?_eq_none h'] at hr; cases hr
  induction M generalizing k j with
  | nil => simp at h
  | cons s M ih =>
    cases j with
    | zero => simp at hr; subst hr; simp [marksM, amps]
    | succ j =>
      rw [marksM, List.getElem?_cons_succ, ih (by simpa using hr) (by simpa using h), List.take_succ_cons, amps_cons]
      congr 2
      omega
theorem markM_at {k : Nat} {M : List (List Dw)} {j : Nat} {r : List Dw} (hr : M[j]? = some r) : (marksM k (M.take j) ++ M.drop j)[j]? = some r := by
  have h : j < M.length := by
    rcases Nat.lt_or_ge j M.length with h' | h'
    · exact h'
    · rw [List.getElem?_eq_none h'] at hr; cases hr
  rw [List.getElem?_append_right (by rw [marksM_len, List.length_take]; omega), marksM_len, List.length_take, List.getElem?_drop]
  rw [show j + (j - min j M.length) = j by omega]
  exact hr
theorem markM_set {k : Nat} {M : List (List Dw)} {j : Nat} {r : List Dw} (hr : M[j]? = some r) : (marksM k (M.take j) ++ M.drop j).set j (marks (k + amps (M.take j) * 5) r.length) = marksM k (M.take (j + 1)) ++ M.drop (j + 1) := by
  have h : j < M.length := by
    rcases Nat.lt_or_ge j M.length with h' | h'
    · exact h'
    · rw [List.getElem?_eq_none h'] at hr; cases hr
  have e : M.drop j = r :: M.drop (j + 1) := by
    rw [List.getElem?_eq_getElem h] at hr
    injection hr with hr
    rw [← hr]
    exact (List.getElem_cons_drop ..).symm
  rw [List.set_append_right _ _ (by rw [marksM_len, List.length_take]; omega), marksM_len, List.length_take, show j - min j M.length = 0 by omega, e, List.set_cons_zero, List.take_add_one, hr]
  rw [show (some r).toList = [r] from rfl, marksM_snoc, List.append_assoc]
  rfl
attribute [local irreducible] World.cell?
set_option maxRecDepth 100000 in
set_option maxHeartbeats 1600000 in
theorem markMt (B C k : Nat) (v : Value) (M : List (List Dw)) (w : World) (hv : DSM w B C v M) (hn : M.length ≤ 1048576) (hm : amps M ≤ 1048576) (hk : k ≤ 536870912) :
    Calls Try.prog 29 #[v, .int .i64 k] w fun e w' => e = .returned (.int .i64 ((k + amps M * 5 : Nat) : Int)) ∧ DSM w' B C v (marksM k M) ∧ Mid B C w w' := by
  obtain ⟨a, cap, rfl, hcap, hr⟩ := hv
  have Hr := Lib.hid hr
  clear hr
  go_enter Try.func29, Try.ntmps29
  go_wp2_with fail
  go_loopg [1, 5] M.length (fun n m i wr => ∃ j : Nat, n = M.length - j ∧ j ≤ M.length ∧ m = .int .i64 ((k + amps (M.take j) * 5 : Nat) : Int) ∧ i = .int .i64 j ∧ Hid (∀ g, a = some ⟨g, 0, none⟩ → B ≤ g → g < C → MRow w B C g M → MRow wr B C g (marksM k (M.take j) ++ M.drop j)) ∧ Hid (Mid B C w wr))
  case atStart => exact ⟨0, rfl, Nat.zero_le _, by simp [amps], rfl, fun g _ _ _ h => by simpa [marksM] using h, Mid.refl _ _ _⟩
  case round =>
    obtain ⟨j, rfl, hj, rfl, rfl, Hrow, Hm⟩ := hrel
    by_cases hlt : j < M.length
    · obtain ⟨g, rfl, hB, hC, hrow0⟩ := Hr.out (by omega)
      have hrow := Hrow.out g rfl hB hC hrow0
      obtain ⟨r, hr⟩ : ∃ r, M[j]? = some r := ⟨M[j], List.getElem?_eq_getElem hlt⟩
      obtain ⟨p, pc, b, c, c0, hb0, hbc, hc0, hd, hturn⟩ := hrow.turn (markM_at hr)
      have hle := amps_le (M := M) (j + 1)
      have hstep := amps_step hr
      have Hd := Lib.hid (fun W (h : DSc W b c (.slice p r.length pc) r) => markDs b c (k + amps (M.take j) * 5) (.slice p r.length pc) r W h (by omega) (by omega))
      have Hdc := Lib.hid hd
      have Hturn := Lib.hid hturn
      have Hset := Lib.hid (markM_set (k := k) hr)
      clear hd hturn hrow Hrow hrow0 hr
      go_wp2_with fail
      refine (Hd.out _ Hdc.out).mono ?_
      rintro e w2 ⟨rfl, hds, hmid⟩
      have hr2 := Hturn.out _ _ (marks_len _ _) hds hmid
      rw [Hset.out] at hr2
      have Hr2 := Lib.hid hr2
      have Hm2 := Lib.hid (Hm.out.trans (hmid.wide hb0 (by omega)))
      clear hr2 hmid hds Hd Hdc Hturn Hm
      go_wp2_with fail
      go_roundg (M.length - (j + 1))
      case measure => omega
      case rel => exact ⟨j + 1, rfl, by omega, by rw [hstep]; congr 2; omega, by go_num, fun g' hg _ _ _ => by cases hg; exact Hr2.out, Hm2⟩
    · obtain rfl : j = M.length := by omega
      go_wp2_with fail
      go_ret
      refine ⟨by rw [List.take_length]; rfl, ⟨_, _, by rw [marksM_len], by rw [marksM_len]; exact hcap, fun hl => ?_⟩, Hm.out⟩
      rw [marksM_len] at hl
      obtain ⟨g, e, hB, hC, hrow0⟩ := Hr.out hl
      exact ⟨g, e, hB, hC, by simpa using Hrow.out g e hB hC hrow0⟩
set_option maxRecDepth 100000 in
set_option maxHeartbeats 1600000 in
theorem heldMt (B C k : Nat) (v : Value) (M : List (List Dw)) (w : World) (hv : DSM w B C v (marksM k M)) (hn : M.length ≤ 1048576) (hm : amps M ≤ 1048576) (hk : k ≤ 536870912) :
    Calls Try.prog 30 #[v, .int .i64 k] w fun e w' => e = .returned (.int .i64 ((k + amps M * 5 : Nat) : Int)) ∧ w = w' := by
  obtain ⟨a, cap, rfl, hcap, hr⟩ := hv
  rw [marksM_len] at hcap hr ⊢
  have Hr := Lib.hid hr
  clear hr
  go_enter Try.func30, Try.ntmps30
  go_wp2_with fail
  go_loopg [1, 5] M.length (fun n m i wr => ∃ j : Nat, n = M.length - j ∧ j ≤ M.length ∧ m = .int .i64 ((k + amps (M.take j) * 5 : Nat) : Int) ∧ i = .int .i64 j ∧ w = wr)
  case atStart => exact ⟨0, rfl, Nat.zero_le _, by simp [amps], rfl, rfl⟩
  case round =>
    obtain ⟨j, rfl, hj, rfl, rfl, rfl⟩ := hrel
    by_cases hlt : j < M.length
    · obtain ⟨g, rfl, hB, hC, hrow⟩ := Hr.out (by omega)
      obtain ⟨r, hr⟩ : ∃ r, M[j]? = some r := ⟨M[j], List.getElem?_eq_getElem hlt⟩
      obtain ⟨p, pc, c0, hd⟩ := hrow.cell (marksM_at (k := k) hr)
      have hle := amps_le (M := M) (j + 1)
      have hstep := amps_step hr
      have Hd := Lib.hid (heldDs B (k + amps (M.take j) * 5) r.length _ w hd.dsl (by omega) (by omega))
      rw [marks_len] at c0 Hd
      clear hd hrow
      go_wp2_with fail
      refine (Hd.out).mono ?_
      rintro e w2 ⟨rfl, rfl⟩
      go_wp2_with fail
      go_roundg (M.length - (j + 1))
      case measure => omega
      case rel => exact ⟨j + 1, rfl, by omega, by rw [hstep]; congr 2; omega, by go_num, rfl⟩
    · obtain rfl : j = M.length := by omega
      go_wp2_with fail
      go_ret
      exact ⟨by rw [List.take_length]; rfl, rfl⟩
end Go.Proofs.Ytmpafidkpangeaa
namespace Go.Proofs.Ytmpafidkpangeaa
open Go.RowKit
theorem markM1 (B C : Nat) (v : Value) (M : List (List Dw)) (w : World) (hv : DSM w B C v M) (hn : M.length ≤ 1048576) (hm : amps M ≤ 1048576) :
    Calls Try.prog 29 #[v, .int .i64 1] w fun e w' => e = .returned (.int .i64 (1 + (amps M : Int) * 5)) ∧ DSM w' B C v (marksM 1 M) ∧ Mid B C w w' := by
  refine (markMt B C 1 v M w hv hn hm (by omega)).mono ?_
  rintro e w1 ⟨rfl, h⟩
  exact ⟨by simp, h⟩
theorem heldM1 (B C : Nat) (v : Value) (M : List (List Dw)) (w : World) (hv : DSM w B C v (marksM 1 M)) (hn : M.length ≤ 1048576) (hm : amps M ≤ 1048576) :
    Calls Try.prog 30 #[v, .int .i64 1] w fun e w' => e = .returned (.int .i64 (1 + (amps M : Int) * 5)) ∧ w = w' := by
  refine (heldMt B C 1 v M w hv hn hm (by omega)).mono ?_
  rintro e w1 ⟨rfl, h⟩
  exact ⟨by simp, h⟩
theorem Mid.low {B C : Nat} {w w' : World} (h : Mid B C w w') : w.heap.size ≤ w'.heap.size := h.1.size
end Go.Proofs.Ytmpafidkpangeaa
