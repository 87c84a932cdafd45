/- BaseB12: several of our texts in one: GtKd GtK MtD AdN AmM MtI GtF. -/
import Derived.Test.YtmpafidkpangeaaGreatBaseB04
import Derived.Test.YtmpafidkpangeaaGreatBaseB08
import Derived.Test.YtmpafidkpangeaaGreatDwN
import Derived.Test.YtmpafidkpangeaaGreatBaseB11
import Derived.Test.YtmpafidkpangeaaGreatBaseB14
import Derived.Test.YtmpafidkpangeaaGreatBaseB03
namespace Go.Proofs.YtmpafidkpangeaaGreat
open Go.RowKit
attribute [local irreducible] World.cell?
set_option maxRecDepth 100000 in
set_option maxHeartbeats 800000 in
theorem ivalidG_no (g : Gt) (n : Int) (w : World) (h : ¬ (1 ≤ n ∧ n ≤ 4)) (n0 : -9223372036854775808 ≤ n) (n1 : n ≤ 9223372036854775807) :
    Calls Tryz.prog 57 #[(.agg #[.int .i64 g.k, .int .i64 g.a, .int .i64 g.b, .int .i64 g.c]), .int .i64 n] w fun e w' => e = .returned (.bool false) ∧ Below w.heap.size w w' := by
  have Ha := Lib.hid (fun w => iar0 g.k w)
  have Hq := Lib.hid (fun w => iisq_no n w h n0 n1)
  have Hb0 := Lib.hid (show Below w.heap.size w (w.alloc (.cells #[.int .i64 g.k, .int .i64 g.a, .int .i64 g.b, .int .i64 g.c] 35)) by go_grown)
  generalize ar g.k = t at *
  clear h n0 n1
  go_enter Tryz.func57, Tryz.ntmps57
  go_wp2_with fail
  refine (Ha.out _).mono ?_
  rintro e w1 ⟨rfl, rfl⟩
  go_wp2_with (first | (go_at_call 93; refine (Hq.out _).mono ?_; rintro e wR ⟨rfl, rfl⟩))
  go_ret
  exact ⟨rfl, Hb0.out⟩
set_option maxRecDepth 100000 in
set_option maxHeartbeats 800000 in
theorem ivalidG_zero (g : Gt) (n : Int) (w : World) (hn : 1 ≤ n ∧ n ≤ 4) (h : ar g.k = 0) :
    Calls Tryz.prog 57 #[(.agg #[.int .i64 g.k, .int .i64 g.a, .int .i64 g.b, .int .i64 g.c]), .int .i64 n] w fun e w' => e = .returned (.bool false) ∧ Below w.heap.size w w' := by
  have Ha := Lib.hid (fun w => iar0 g.k w)
  have Hq := Lib.hid (fun w => iisq_yes n w hn)
  have Hb0 := Lib.hid (show Below w.heap.size w (w.alloc (.cells #[.int .i64 g.k, .int .i64 g.a, .int .i64 g.b, .int .i64 g.c] 35)) by go_grown)
  rw [h] at Ha
  clear h hn
  go_enter Tryz.func57, Tryz.ntmps57
  go_wp2_with fail
  refine (Ha.out _).mono ?_
  rintro e w1 ⟨rfl, rfl⟩
  go_wp2_with (first | (go_at_call 93; refine (Hq.out _).mono ?_; rintro e wR ⟨rfl, rfl⟩))
  go_ret
  exact ⟨rfl, Hb0.out⟩
set_option maxRecDepth 100000 in
set_option maxHeartbeats 3200000 in
theorem ivalidG_10 (k a b c n : Int) (w : World) (hn : 1 ≤ n ∧ n ≤ 4) (h : ar k = 1) (hb : b ≠ 0) :
    Calls Tryz.prog 57 #[(.agg #[.int .i64 (Gt.mk k a b c).k, .int .i64 (Gt.mk k a b c).a, .int .i64 (Gt.mk k a b c).b, .int .i64 (Gt.mk k a b c).c]), .int .i64 n] w fun e w' => e = .returned (.bool false) ∧ Below w.heap.size w w' := by
  have Ha := Lib.hid (fun w => iar0 k w)
  have Hq := Lib.hid (fun w => iisq_yes n w hn)
  have HB := Lib.hid (show Below w.heap.size w ((w.alloc (.cells #[.int .i64 (Gt.mk k a b c).k, .int .i64 (Gt.mk k a b c).a, .int .i64 (Gt.mk k a b c).b, .int .i64 (Gt.mk k a b c).c] 35)).alloc (.cells #[.int .i64 a, .int .i64 b, .int .i64 c] 135)) by go_grown)
  have eb : (b != 0) = true := by simpa using hb
  rw [h] at Ha
  clear h hn hb
  go_enter Tryz.func57, Tryz.ntmps57
  go_wp2_with fail
  refine (Ha.out _).mono ?_
  rintro e w1 ⟨rfl, rfl⟩
  go_wp2_with (first | (go_at_call 93; refine (Hq.out _).mono ?_; rintro e wR ⟨rfl, rfl⟩))
  refine wp_loop_rounds 3 ?_
  repeat any_goals (rw [rounds_succ]; go_wp2_with fail)
  go_ret
  exact ⟨rfl, HB.out⟩
set_option maxRecDepth 100000 in
set_option maxHeartbeats 3200000 in
theorem ivalidG_11 (k a c n : Int) (w : World) (hn : 1 ≤ n ∧ n ≤ 4) (h : ar k = 1) (hc : c ≠ 0) :
    Calls Tryz.prog 57 #[(.agg #[.int .i64 (Gt.mk k a 0 c).k, .int .i64 (Gt.mk k a 0 c).a, .int .i64 (Gt.mk k a 0 c).b, .int .i64 (Gt.mk k a 0 c).c]), .int .i64 n] w fun e w' => e = .returned (.bool false) ∧ Below w.heap.size w w' := by
  have Ha := Lib.hid (fun w => iar0 k w)
  have Hq := Lib.hid (fun w => iisq_yes n w hn)
  have HB := Lib.hid (show Below w.heap.size w ((w.alloc (.cells #[.int .i64 (Gt.mk k a 0 c).k, .int .i64 (Gt.mk k a 0 c).a, .int .i64 (Gt.mk k a 0 c).b, .int .i64 (Gt.mk k a 0 c).c] 35)).alloc (.cells #[.int .i64 a, .int .i64 0, .int .i64 c] 135)) by go_grown)
  have ec : (c != 0) = true := by simpa using hc
  rw [h] at Ha
  clear h hn hc
  go_enter Tryz.func57, Tryz.ntmps57
  go_wp2_with fail
  refine (Ha.out _).mono ?_
  rintro e w1 ⟨rfl, rfl⟩
  go_wp2_with (first | (go_at_call 93; refine (Hq.out _).mono ?_; rintro e wR ⟨rfl, rfl⟩))
  refine wp_loop_rounds 3 ?_
  repeat any_goals (rw [rounds_succ]; go_wp2_with fail)
  go_ret
  exact ⟨rfl, HB.out⟩
set_option maxRecDepth 100000 in
set_option maxHeartbeats 3200000 in
theorem ivalidG_12 (k a n : Int) (w : World) (hn : 1 ≤ n ∧ n ≤ 4) (h : ar k = 1) :
    Calls Tryz.prog 57 #[(.agg #[.int .i64 (Gt.mk k a 0 0).k, .int .i64 (Gt.mk k a 0 0).a, .int .i64 (Gt.mk k a 0 0).b, .int .i64 (Gt.mk k a 0 0).c]), .int .i64 n] w fun e w' => e = .returned (.bool (dq [a] n)) ∧ Below w.heap.size w w' := by
  have Ha := Lib.hid (fun w => iar0 k w)
  have Hq := Lib.hid (fun w => iisq_yes n w hn)
  have HB := Lib.hid (show Below w.heap.size w ((w.alloc (.cells #[.int .i64 (Gt.mk k a 0 0).k, .int .i64 (Gt.mk k a 0 0).a, .int .i64 (Gt.mk k a 0 0).b, .int .i64 (Gt.mk k a 0 0).c] 35)).alloc (.cells #[.int .i64 a, .int .i64 0, .int .i64 0] 135)) by go_grown)
  have hrow : AR ((w.alloc (.cells #[.int .i64 (Gt.mk k a 0 0).k, .int .i64 (Gt.mk k a 0 0).a, .int .i64 (Gt.mk k a 0 0).b, .int .i64 (Gt.mk k a 0 0).c] 35)).alloc (.cells #[.int .i64 a, .int .i64 0, .int .i64 0] 135)) (w.heap.size + 1) [a] := by
    have h := heap_alloc_new (w.alloc (.cells #[.int .i64 (Gt.mk k a 0 0).k, .int .i64 (Gt.mk k a 0 0).a, .int .i64 (Gt.mk k a 0 0).b, .int .i64 (Gt.mk k a 0 0).c] 35)) (.cells #[.int .i64 a, .int .i64 0, .int .i64 0] 135)
    rw [show (w.alloc (.cells #[.int .i64 (Gt.mk k a 0 0).k, .int .i64 (Gt.mk k a 0 0).a, .int .i64 (Gt.mk k a 0 0).b, .int .i64 (Gt.mk k a 0 0).c] 35)).heap.size = w.heap.size + 1 by simp] at h
    exact ⟨_, _, h, rfl⟩
  have Hd := Lib.hid (idist (w.heap.size + 1) 3 [a] n _ hrow (by simp) (by simp))
  clear hrow
  generalize dq [a] n = D at *
  rw [h] at Ha
  clear h hn
  go_enter Tryz.func57, Tryz.ntmps57
  go_wp2_with fail
  refine (Ha.out _).mono ?_
  rintro e w1 ⟨rfl, rfl⟩
  go_wp2_with (first | (go_at_call 93; refine (Hq.out _).mono ?_; rintro e wR ⟨rfl, rfl⟩))
  refine wp_loop_rounds 3 ?_
  repeat any_goals (rw [rounds_succ]; go_wp2_with fail)
  refine (Hd.out).mono ?_
  rintro e w2 ⟨rfl, rfl⟩
  go_wp2_with fail
  go_ret
  exact ⟨rfl, HB.out⟩
set_option maxRecDepth 100000 in
set_option maxHeartbeats 3200000 in
theorem ivalidG_20 (k a b c n : Int) (w : World) (hn : 1 ≤ n ∧ n ≤ 4) (h : ar k = 2) (hc : c ≠ 0) :
    Calls Tryz.prog 57 #[(.agg #[.int .i64 (Gt.mk k a b c).k, .int .i64 (Gt.mk k a b c).a, .int .i64 (Gt.mk k a b c).b, .int .i64 (Gt.mk k a b c).c]), .int .i64 n] w fun e w' => e = .returned (.bool false) ∧ Below w.heap.size w w' := by
  have Ha := Lib.hid (fun w => iar0 k w)
  have Hq := Lib.hid (fun w => iisq_yes n w hn)
  have HB := Lib.hid (show Below w.heap.size w ((w.alloc (.cells #[.int .i64 (Gt.mk k a b c).k, .int .i64 (Gt.mk k a b c).a, .int .i64 (Gt.mk k a b c).b, .int .i64 (Gt.mk k a b c).c] 35)).alloc (.cells #[.int .i64 a, .int .i64 b, .int .i64 c] 135)) by go_grown)
  have ec : (c != 0) = true := by simpa using hc
  rw [h] at Ha
  clear h hn hc
  go_enter Tryz.func57, Tryz.ntmps57
  go_wp2_with fail
  refine (Ha.out _).mono ?_
  rintro e w1 ⟨rfl, rfl⟩
  go_wp2_with (first | (go_at_call 93; refine (Hq.out _).mono ?_; rintro e wR ⟨rfl, rfl⟩))
  refine wp_loop_rounds 3 ?_
  repeat any_goals (rw [rounds_succ]; go_wp2_with fail)
  go_ret
  exact ⟨rfl, HB.out⟩
set_option maxRecDepth 100000 in
set_option maxHeartbeats 3200000 in
theorem ivalidG_21 (k a b n : Int) (w : World) (hn : 1 ≤ n ∧ n ≤ 4) (h : ar k = 2) :
    Calls Tryz.prog 57 #[(.agg #[.int .i64 (Gt.mk k a b 0).k, .int .i64 (Gt.mk k a b 0).a, .int .i64 (Gt.mk k a b 0).b, .int .i64 (Gt.mk k a b 0).c]), .int .i64 n] w fun e w' => e = .returned (.bool (dq [a, b] n)) ∧ Below w.heap.size w w' := by
  have Ha := Lib.hid (fun w => iar0 k w)
  have Hq := Lib.hid (fun w => iisq_yes n w hn)
  have HB := Lib.hid (show Below w.heap.size w ((w.alloc (.cells #[.int .i64 (Gt.mk k a b 0).k, .int .i64 (Gt.mk k a b 0).a, .int .i64 (Gt.mk k a b 0).b, .int .i64 (Gt.mk k a b 0).c] 35)).alloc (.cells #[.int .i64 a, .int .i64 b, .int .i64 0] 135)) by go_grown)
  have hrow : AR ((w.alloc (.cells #[.int .i64 (Gt.mk k a b 0).k, .int .i64 (Gt.mk k a b 0).a, .int .i64 (Gt.mk k a b 0).b, .int .i64 (Gt.mk k a b 0).c] 35)).alloc (.cells #[.int .i64 a, .int .i64 b, .int .i64 0] 135)) (w.heap.size + 1) [a, b] := by
    have h := heap_alloc_new (w.alloc (.cells #[.int .i64 (Gt.mk k a b 0).k, .int .i64 (Gt.mk k a b 0).a, .int .i64 (Gt.mk k a b 0).b, .int .i64 (Gt.mk k a b 0).c] 35)) (.cells #[.int .i64 a, .int .i64 b, .int .i64 0] 135)
    rw [show (w.alloc (.cells #[.int .i64 (Gt.mk k a b 0).k, .int .i64 (Gt.mk k a b 0).a, .int .i64 (Gt.mk k a b 0).b, .int .i64 (Gt.mk k a b 0).c] 35)).heap.size = w.heap.size + 1 by simp] at h
    exact ⟨_, _, h, rfl⟩
  have Hd := Lib.hid (idist (w.heap.size + 1) 3 [a, b] n _ hrow (by simp) (by simp))
  clear hrow
  generalize dq [a, b] n = D at *
  rw [h] at Ha
  clear h hn
  go_enter Tryz.func57, Tryz.ntmps57
  go_wp2_with fail
  refine (Ha.out _).mono ?_
  rintro e w1 ⟨rfl, rfl⟩
  go_wp2_with (first | (go_at_call 93; refine (Hq.out _).mono ?_; rintro e wR ⟨rfl, rfl⟩))
  refine wp_loop_rounds 3 ?_
  repeat any_goals (rw [rounds_succ]; go_wp2_with fail)
  refine (Hd.out).mono ?_
  rintro e w2 ⟨rfl, rfl⟩
  go_wp2_with fail
  go_ret
  exact ⟨rfl, HB.out⟩
set_option maxRecDepth 100000 in
set_option maxHeartbeats 3200000 in
theorem ivalidG_30 (k a b c n : Int) (w : World) (hn : 1 ≤ n ∧ n ≤ 4) (h : ar k = 3) :
    Calls Tryz.prog 57 #[(.agg #[.int .i64 (Gt.mk k a b c).k, .int .i64 (Gt.mk k a b c).a, .int .i64 (Gt.mk k a b c).b, .int .i64 (Gt.mk k a b c).c]), .int .i64 n] w fun e w' => e = .returned (.bool (dq [a, b, c] n)) ∧ Below w.heap.size w w' := by
  have Ha := Lib.hid (fun w => iar0 k w)
  have Hq := Lib.hid (fun w => iisq_yes n w hn)
  have HB := Lib.hid (show Below w.heap.size w ((w.alloc (.cells #[.int .i64 (Gt.mk k a b c).k, .int .i64 (Gt.mk k a b c).a, .int .i64 (Gt.mk k a b c).b, .int .i64 (Gt.mk k a b c).c] 35)).alloc (.cells #[.int .i64 a, .int .i64 b, .int .i64 c] 135)) by go_grown)
  have hrow : AR ((w.alloc (.cells #[.int .i64 (Gt.mk k a b c).k, .int .i64 (Gt.mk k a b c).a, .int .i64 (Gt.mk k a b c).b, .int .i64 (Gt.mk k a b c).c] 35)).alloc (.cells #[.int .i64 a, .int .i64 b, .int .i64 c] 135)) (w.heap.size + 1) [a, b, c] := by
    have h := heap_alloc_new (w.alloc (.cells #[.int .i64 (Gt.mk k a b c).k, .int .i64 (Gt.mk k a b c).a, .int .i64 (Gt.mk k a b c).b, .int .i64 (Gt.mk k a b c).c] 35)) (.cells #[.int .i64 a, .int .i64 b, .int .i64 c] 135)
    rw [show (w.alloc (.cells #[.int .i64 (Gt.mk k a b c).k, .int .i64 (Gt.mk k a b c).a, .int .i64 (Gt.mk k a b c).b, .int .i64 (Gt.mk k a b c).c] 35)).heap.size = w.heap.size + 1 by simp] at h
    exact ⟨_, _, h, rfl⟩
  have Hd := Lib.hid (idist (w.heap.size + 1) 3 [a, b, c] n _ hrow (by simp) (by simp))
  clear hrow
  generalize dq [a, b, c] n = D at *
  rw [h] at Ha
  clear h hn
  go_enter Tryz.func57, Tryz.ntmps57
  go_wp2_with fail
  refine (Ha.out _).mono ?_
  rintro e w1 ⟨rfl, rfl⟩
  go_wp2_with (first | (go_at_call 93; refine (Hq.out _).mono ?_; rintro e wR ⟨rfl, rfl⟩))
  refine wp_loop_rounds 3 ?_
  repeat any_goals (rw [rounds_succ]; go_wp2_with fail)
  refine (Hd.out).mono ?_
  rintro e w2 ⟨rfl, rfl⟩
  go_wp2_with fail
  go_ret
  exact ⟨rfl, HB.out⟩
theorem ivalidG (g : Gt) (n : Int) (w : World) (n0 : -9223372036854775808 ≤ n) (n1 : n ≤ 9223372036854775807) : Calls Tryz.prog 57 #[(.agg #[.int .i64 g.k, .int .i64 g.a, .int .i64 g.b, .int .i64 g.c]), .int .i64 n] w fun e w' => e = .returned (.bool (gtB g n)) ∧ Below w.heap.size w w' := by
  by_cases hn : 1 ≤ n ∧ n ≤ 4
  · obtain ⟨k, a, b, c⟩ := g
    have h3 := ar_le k
    rcases (show ar k = 0 ∨ ar k = 1 ∨ ar k = 2 ∨ ar k = 3 by omega) with h | h | h | h
    · rw [gtB_zero h]; exact ivalidG_zero _ n w hn h
    · rw [gtB_1 h hn]
      by_cases hb : b = 0
      · subst hb
        by_cases hc : c = 0
        · subst hc
          rw [show (decide ((0 : Int) = 0) && decide ((0 : Int) = 0) && dq [a] n) = dq [a] n by simp]
          exact ivalidG_12 k a n w hn h
        · rw [decide_eq_false hc, Bool.and_false, Bool.false_and]
          exact ivalidG_11 k a c n w hn h hc
      · rw [decide_eq_false hb, Bool.false_and, Bool.false_and]
        exact ivalidG_10 k a b c n w hn h hb
    · rw [gtB_2 h hn]
      by_cases hc : c = 0
      · subst hc
        rw [show (decide ((0 : Int) = 0) && dq [a, b] n) = dq [a, b] n by simp]
        exact ivalidG_21 k a b n w hn h
      · rw [decide_eq_false hc, Bool.false_and]
        exact ivalidG_20 k a b c n w hn h hc
    · rw [gtB_3 h hn]; exact ivalidG_30 k a b c n w hn h
  · rw [gtB_no hn]; exact ivalidG_no g n w hn n0 n1
end Go.Proofs.YtmpafidkpangeaaGreat
namespace Go.Proofs.YtmpafidkpangeaaGreat
end Go.Proofs.YtmpafidkpangeaaGreat
namespace Go.Proofs.YtmpafidkpangeaaGreat
open Go.RowKit
attribute [local irreducible] World.cell?
end Go.Proofs.YtmpafidkpangeaaGreat
namespace Go.Proofs.YtmpafidkpangeaaGreat
end Go.Proofs.YtmpafidkpangeaaGreat
namespace Go.Proofs.YtmpafidkpangeaaGreat
theorem qc_pow {n : Nat} (h : 0 < qc n) : 1 ≤ qc n ∧ qc n ≤ 4 ∧ n = 2 ^ (qc n).toNat := by
  have hl := qc_len h
  have : n = 2 ∨ n = 4 ∨ n = 8 ∨ n = 16 := by
    unfold qc at h
    (repeat' split at h) <;> omega
  rcases this with rfl | rfl | rfl | rfl <;> decide
theorem basis_eq {n j : Nat} (h : 0 < qc n) (hj : j < n) : basisL (qc n) (j : Int) = (List.replicate n .zero).set j oneD := by
  obtain ⟨h1, h4, hp⟩ := qc_pow h
  unfold basisL
  rw [if_pos ⟨h1, h4, by omega, by have : ((2 ^ (qc n).toNat : Nat) : Int) = 2 ^ (qc n).toNat := by simp
                                   omega⟩, ← hp, Int.toNat_natCast]
theorem basis_st {n j : Nat} (h : 0 < qc n) (hj : j < n) : stB (basisL (qc n) (j : Int)) = true ∧ (basisL (qc n) (j : Int)).length = n := by
  rw [basis_eq h hj]
  refine ⟨stB_iff.2 ⟨fun x hx => ?_, by simpa using h⟩, by simp⟩
  rcases List.mem_or_eq_of_mem_set hx with hx | rfl
  · rw [(List.mem_replicate.1 hx).2]; decide
  · exact oneD_ok
end Go.Proofs.YtmpafidkpangeaaGreat
namespace Go.Proofs.YtmpafidkpangeaaGreat
open Go.RowKit
theorem idM_yes {n : Int} (h : 1 ≤ n ∧ n ≤ 4) : idM n = (List.range (2 ^ n.toNat)).map fun (i : Nat) => basisL n (i : Int) := if_pos h
theorem idM_no {n : Int} (h : ¬ (1 ≤ n ∧ n ≤ 4)) : idM n = [] := if_neg h
theorem idM_len {n : Int} (h : 1 ≤ n ∧ n ≤ 4) : (idM n).length = 2 ^ n.toNat := by rw [idM_yes h, List.length_map, List.length_range]
attribute [local irreducible] World.cell?
end Go.Proofs.YtmpafidkpangeaaGreat
namespace Go.Proofs.YtmpafidkpangeaaGreat
open Go.RowKit
/-- The kind of a gate is a machine integer. -/
def GtI (g : Gt) : Prop := -9223372036854775808 ≤ g.k ∧ g.k ≤ 9223372036854775807
theorem GtBd.i {g : Gt} (h : GtBd g) : GtI g := by have := h.1; unfold GtI; omega
attribute [local irreducible] World.cell?
set_option maxRecDepth 100000 in
set_option maxHeartbeats 6400000 in
theorem bentG (B n : Nat) (w : World) (hcur : CurAt w B) (hB : B < w.heap.size) (h1 : 1 ≤ n) (h4 : n ≤ 4) :
    Calls Tryz.prog 55 #[.pointer (some ⟨B, 0, none⟩), .int .i64 n] w fun e w' => (∃ g, e = .returned (.agg #[.int .i64 g.k, .int .i64 g.a, .int .i64 g.b, .int .i64 g.c]) ∧ GtI g) ∧ CurAt w' B ∧ Own B w w' := by
  have HR := Lib.hid (heap_alloc_new w (.cells #[.int .i64 0, .int .i64 0, .int .i64 0, .int .i64 0] 35))
  have hne : w.heap.size ≠ B := by omega
  have Hb0 := Lib.hid (show Below w.heap.size w (w.alloc (.cells #[.int .i64 0, .int .i64 0, .int .i64 0, .int .i64 0] 35)) by go_grown)
  have Hc0 := Lib.hid (hcur.below Hb0.out hB)
  have Ho0 := Lib.hid (show Own B w _ from own_of_below Hb0.out)
  clear hcur
  go_enter Tryz.func55, Tryz.ntmps55
  go_wp2_with fail
  refine (gate_any B n _ Hc0.out (by simp; omega) h1 h4).mono ?_
  rintro e w1 ⟨⟨g, rfl, hgb⟩, hc1, ho1⟩
  have hs1 := ho1.size
  simp at hs1
  have Hc1 := Lib.hid (hc1.below (w' := w1.alloc (.cells #[.int .i64 g.k, .int .i64 g.a, .int .i64 g.b, .int .i64 g.c] 35)) (C := w1.heap.size) (by go_grown) (by omega))
  have HR1 := Lib.hid (alloc_blk (.cells #[.int .i64 g.k, .int .i64 g.a, .int .i64 g.b, .int .i64 g.c] 35) (own_blk ho1 hne HR.out))
  have HG1 := Lib.hid (heap_alloc_new w1 (.cells #[.int .i64 g.k, .int .i64 g.a, .int .i64 g.b, .int .i64 g.c] 35))
  have Ho1 := Lib.hid (own_alloc (own_trans Ho0.out ho1) (.cells #[.int .i64 g.k, .int .i64 g.a, .int .i64 g.b, .int .i64 g.c] 35))
  have hgi := hgb.i
  clear hc1 ho1 Hc0 HR hgb
  go_wp2_with fail
  refine (below_any B 10 _ Hc1.out (by omega) (by omega)).mono ?_
  rintro e w2 ⟨⟨y, y0, y1, rfl⟩, hc2, ho2⟩
  have hs2 := ho2.size
  simp at hs2
  have Hc2 := Lib.hid hc2
  have HR2 := Lib.hid (own_blk ho2 hne HR1.out)
  have HG2 := Lib.hid (own_blk (g := w1.heap.size) ho2 (by omega) HG1.out)
  have Ho2 := Lib.hid (own_trans Ho1.out ho2)
  have hgw : w.heap.size ≤ w1.heap.size := by omega
  have hgl := lt_of_block HG2.out
  clear hc2 ho2 Hc1 HR1 HG1 Ho1
  by_cases q0 : y = 0
  · subst q0
    go_wp2_with fail
    refine (below_any B 15 _ Hc2.out (by omega) (by omega)).mono ?_
    rintro e w3 ⟨⟨z, z0, z1, rfl⟩, hc3, ho3⟩
    have hs3 := ho3.size
    have HR3 := own_blk ho3 hne HR2.out
    have HG3 := own_blk (g := w1.heap.size) ho3 (by omega) HG2.out
    have hgl3 := lt_of_block HG3
    obtain ⟨a0, a1, a2, a3⟩ := blk_cells HG3
    have fG := fun o => free_at HG3 o
    have HRf := Lib.hid (set1_blk (off := 0) (u := .int .i64 (z - 1)) (show w.heap.size ≠ w1.heap.size by omega) HR3)
    have Hcf := Lib.hid (hc3.own (C := w1.heap.size) (own_set (own_refl _ w3) 0 (.int .i64 (z - 1))) (by omega))
    have Hof := Lib.hid (own_dn (own_trans Ho2.out ho3) 0 (.int .i64 (z - 1)) hgw)
    have hi2 : -9223372036854775808 ≤ z - 1 ∧ z - 1 ≤ 9223372036854775807 := by omega
    obtain ⟨r0, r1, r2, r3⟩ := blk_cells HR3
    have fR := fun o => free_at HR3 o
    have hRl := lt_of_block HR3
    clear hc3 ho3 Hc2 HR2 HG2 Ho2 HR3 HG3 hgi
    go_wp2_with fail
    obtain ⟨k0', k1', k2', k3'⟩ := blk_cells (set4_at (u0 := .int .i64 (z - 1)) (u1 := .int .i64 g.a) (u2 := .int .i64 g.b) (u3 := .int .i64 g.c) HRf.out)
    refine bodyPost_ret (v := (.agg #[.int .i64 (z - 1), .int .i64 g.a, .int .i64 g.b, .int .i64 g.c])) (by simp only [results, Tryz.results55]; simp [go_sem, k0', k1', k2', k3']) rfl ⟨⟨⟨(z - 1), g.a, g.b, g.c⟩, rfl, hi2⟩, ?_, ?_⟩
    · exact Hcf.out.own (C := w.heap.size) (own_set (own_set (own_set (own_set (own_refl _ _) _ _) _ _) _ _) _ _) hB
    · exact own_dn (own_dn (own_dn (own_dn Hof.out _ _ (Nat.le_refl _)) _ _ (Nat.le_refl _)) _ _ (Nat.le_refl _)) _ _ (Nat.le_refl _)
  by_cases q1 : y = 1
  · subst q1
    obtain ⟨a0, a1, a2, a3⟩ := blk_cells HG2.out
    have Hc3 := Lib.hid (Hc2.out.below (w' := w2.alloc (.cells #[.int .i64 0, .int .i64 n, .int .i64 (-1), .int .i64 g.b] 3)) (C := w2.heap.size) (by go_grown) (by omega))
    have Hl3 := Lib.hid (show ListAt (w2.alloc (.cells #[.int .i64 0, .int .i64 n, .int .i64 (-1), .int .i64 g.b] 3)) w2.heap.size 4 (fun j => .int .i64 (([0, (n : Int), -1, g.b] : List Int).getD j 0)) from fun j hj => by
      have hb := heap_alloc_new w2 (.cells #[.int .i64 0, .int .i64 n, .int .i64 (-1), .int .i64 g.b] 3)
      rcases (show j = 0 ∨ j = 1 ∨ j = 2 ∨ j = 3 by omega) with rfl | rfl | rfl | rfl <;> exact cell_at hb _ _ rfl)
    have HR3 := Lib.hid (alloc_blk (.cells #[.int .i64 0, .int .i64 n, .int .i64 (-1), .int .i64 g.b] 3) HR2.out)
    have HG3 := Lib.hid (alloc_blk (.cells #[.int .i64 0, .int .i64 n, .int .i64 (-1), .int .i64 g.b] 3) HG2.out)
    have Ho3 := Lib.hid (own_alloc Ho2.out (.cells #[.int .i64 0, .int .i64 n, .int .i64 (-1), .int .i64 g.b] 3))
    clear Hc2 HR2 HG2 Ho2
    go_wp2_with fail
    refine (pickInt_any B w2.heap.size 4 _ (fun j => ([0, (n : Int), -1, g.b] : List Int).getD j 0) _ Hc3.out Hl3.out (by omega) (by omega) (by omega)).mono ?_
    rintro e w4 ⟨⟨q, hq, rfl⟩, hc4, ho4⟩
    clear a0 a1 a2 a3
    obtain ⟨z, hz⟩ : ∃ z, ([0, (n : Int), -1, g.b] : List Int).getD q 0 = z := ⟨_, rfl⟩
    simp only [hz]
    have HR4 := own_blk ho4 hne HR3.out
    have HG4 := own_blk (g := w1.heap.size) ho4 (by omega) HG3.out
    have hgl4 := lt_of_block HG4
    obtain ⟨a0, a1, a2, a3⟩ := blk_cells HG4
    have fG := fun o => free_at HG4 o
    have HRf := Lib.hid (set1_blk (off := 1) (u := .int .i64 z) (show w.heap.size ≠ w1.heap.size by omega) HR4)
    have Hcf := Lib.hid (hc4.own (C := w1.heap.size) (own_set (own_refl _ w4) 1 (.int .i64 z)) (by omega))
    have Hof := Lib.hid (own_dn (own_trans Ho3.out ho4) 1 (.int .i64 z) hgw)
    obtain ⟨r0, r1, r2, r3⟩ := blk_cells HR4
    have fR := fun o => free_at HR4 o
    have hRl := lt_of_block HR4
    clear hc4 ho4 Hc3 HR3 HG3 Ho3 HR4 HG4 Hl3 hz
    go_wp2_with fail
    obtain ⟨k0', k1', k2', k3'⟩ := blk_cells (set4_at (u0 := .int .i64 g.k) (u1 := .int .i64 z) (u2 := .int .i64 g.b) (u3 := .int .i64 g.c) HRf.out)
    refine bodyPost_ret (v := (.agg #[.int .i64 g.k, .int .i64 z, .int .i64 g.b, .int .i64 g.c])) (by simp only [results, Tryz.results55]; simp [go_sem, k0', k1', k2', k3']) rfl ⟨⟨⟨g.k, z, g.b, g.c⟩, rfl, hgi⟩, ?_, ?_⟩
    · exact Hcf.out.own (C := w.heap.size) (own_set (own_set (own_set (own_set (own_refl _ _) _ _) _ _) _ _) _ _) hB
    · exact own_dn (own_dn (own_dn (own_dn Hof.out _ _ (Nat.le_refl _)) _ _ (Nat.le_refl _)) _ _ (Nat.le_refl _)) _ _ (Nat.le_refl _)
  by_cases q2 : y = 2
  · subst q2
    obtain ⟨a0, a1, a2, a3⟩ := blk_cells HG2.out
    have Hc3 := Lib.hid (Hc2.out.below (w' := w2.alloc (.cells #[.int .i64 0, .int .i64 n, .int .i64 (-1), .int .i64 g.a] 3)) (C := w2.heap.size) (by go_grown) (by omega))
    have Hl3 := Lib.hid (show ListAt (w2.alloc (.cells #[.int .i64 0, .int .i64 n, .int .i64 (-1), .int .i64 g.a] 3)) w2.heap.size 4 (fun j => .int .i64 (([0, (n : Int), -1, g.a] : List Int).getD j 0)) from fun j hj => by
      have hb := heap_alloc_new w2 (.cells #[.int .i64 0, .int .i64 n, .int .i64 (-1), .int .i64 g.a] 3)
      rcases (show j = 0 ∨ j = 1 ∨ j = 2 ∨ j = 3 by omega) with rfl | rfl | rfl | rfl <;> exact cell_at hb _ _ rfl)
    have HR3 := Lib.hid (alloc_blk (.cells #[.int .i64 0, .int .i64 n, .int .i64 (-1), .int .i64 g.a] 3) HR2.out)
    have HG3 := Lib.hid (alloc_blk (.cells #[.int .i64 0, .int .i64 n, .int .i64 (-1), .int .i64 g.a] 3) HG2.out)
    have Ho3 := Lib.hid (own_alloc Ho2.out (.cells #[.int .i64 0, .int .i64 n, .int .i64 (-1), .int .i64 g.a] 3))
    clear Hc2 HR2 HG2 Ho2
    go_wp2_with fail
    refine (pickInt_any B w2.heap.size 4 _ (fun j => ([0, (n : Int), -1, g.a] : List Int).getD j 0) _ Hc3.out Hl3.out (by omega) (by omega) (by omega)).mono ?_
    rintro e w4 ⟨⟨q, hq, rfl⟩, hc4, ho4⟩
    clear a0 a1 a2 a3
    obtain ⟨z, hz⟩ : ∃ z, ([0, (n : Int), -1, g.a] : List Int).getD q 0 = z := ⟨_, rfl⟩
    simp only [hz]
    have HR4 := own_blk ho4 hne HR3.out
    have HG4 := own_blk (g := w1.heap.size) ho4 (by omega) HG3.out
    have hgl4 := lt_of_block HG4
    obtain ⟨a0, a1, a2, a3⟩ := blk_cells HG4
    have fG := fun o => free_at HG4 o
    have HRf := Lib.hid (set1_blk (off := 2) (u := .int .i64 z) (show w.heap.size ≠ w1.heap.size by omega) HR4)
    have Hcf := Lib.hid (hc4.own (C := w1.heap.size) (own_set (own_refl _ w4) 2 (.int .i64 z)) (by omega))
    have Hof := Lib.hid (own_dn (own_trans Ho3.out ho4) 2 (.int .i64 z) hgw)
    obtain ⟨r0, r1, r2, r3⟩ := blk_cells HR4
    have fR := fun o => free_at HR4 o
    have hRl := lt_of_block HR4
    clear hc4 ho4 Hc3 HR3 HG3 Ho3 HR4 HG4 Hl3 hz
    go_wp2_with fail
    obtain ⟨k0', k1', k2', k3'⟩ := blk_cells (set4_at (u0 := .int .i64 g.k) (u1 := .int .i64 g.a) (u2 := .int .i64 z) (u3 := .int .i64 g.c) HRf.out)
    refine bodyPost_ret (v := (.agg #[.int .i64 g.k, .int .i64 g.a, .int .i64 z, .int .i64 g.c])) (by simp only [results, Tryz.results55]; simp [go_sem, k0', k1', k2', k3']) rfl ⟨⟨⟨g.k, g.a, z, g.c⟩, rfl, hgi⟩, ?_, ?_⟩
    · exact Hcf.out.own (C := w.heap.size) (own_set (own_set (own_set (own_set (own_refl _ _) _ _) _ _) _ _) _ _) hB
    · exact own_dn (own_dn (own_dn (own_dn Hof.out _ _ (Nat.le_refl _)) _ _ (Nat.le_refl _)) _ _ (Nat.le_refl _)) _ _ (Nat.le_refl _)
  by_cases q3 : y = 3
  · subst q3
    obtain ⟨a0, a1, a2, a3⟩ := blk_cells HG2.out
    have Hc3 := Lib.hid (Hc2.out.below (w' := w2.alloc (.cells #[.int .i64 0, .int .i64 1, .int .i64 n, .int .i64 (-1)] 3)) (C := w2.heap.size) (by go_grown) (by omega))
    have Hl3 := Lib.hid (show ListAt (w2.alloc (.cells #[.int .i64 0, .int .i64 1, .int .i64 n, .int .i64 (-1)] 3)) w2.heap.size 4 (fun j => .int .i64 (([0, 1, (n : Int), -1] : List Int).getD j 0)) from fun j hj => by
      have hb := heap_alloc_new w2 (.cells #[.int .i64 0, .int .i64 1, .int .i64 n, .int .i64 (-1)] 3)
      rcases (show j = 0 ∨ j = 1 ∨ j = 2 ∨ j = 3 by omega) with rfl | rfl | rfl | rfl <;> exact cell_at hb _ _ rfl)
    have HR3 := Lib.hid (alloc_blk (.cells #[.int .i64 0, .int .i64 1, .int .i64 n, .int .i64 (-1)] 3) HR2.out)
    have HG3 := Lib.hid (alloc_blk (.cells #[.int .i64 0, .int .i64 1, .int .i64 n, .int .i64 (-1)] 3) HG2.out)
    have Ho3 := Lib.hid (own_alloc Ho2.out (.cells #[.int .i64 0, .int .i64 1, .int .i64 n, .int .i64 (-1)] 3))
    clear Hc2 HR2 HG2 Ho2
    go_wp2_with fail
    refine (pickInt_any B w2.heap.size 4 _ (fun j => ([0, 1, (n : Int), -1] : List Int).getD j 0) _ Hc3.out Hl3.out (by omega) (by omega) (by omega)).mono ?_
    rintro e w4 ⟨⟨q, hq, rfl⟩, hc4, ho4⟩
    clear a0 a1 a2 a3
    obtain ⟨z, hz⟩ : ∃ z, ([0, 1, (n : Int), -1] : List Int).getD q 0 = z := ⟨_, rfl⟩
    simp only [hz]
    have HR4 := own_blk ho4 hne HR3.out
    have HG4 := own_blk (g := w1.heap.size) ho4 (by omega) HG3.out
    have hgl4 := lt_of_block HG4
    obtain ⟨a0, a1, a2, a3⟩ := blk_cells HG4
    have fG := fun o => free_at HG4 o
    have HRf := Lib.hid (set1_blk (off := 3) (u := .int .i64 z) (show w.heap.size ≠ w1.heap.size by omega) HR4)
    have Hcf := Lib.hid (hc4.own (C := w1.heap.size) (own_set (own_refl _ w4) 3 (.int .i64 z)) (by omega))
    have Hof := Lib.hid (own_dn (own_trans Ho3.out ho4) 3 (.int .i64 z) hgw)
    obtain ⟨r0, r1, r2, r3⟩ := blk_cells HR4
    have fR := fun o => free_at HR4 o
    have hRl := lt_of_block HR4
    clear hc4 ho4 Hc3 HR3 HG3 Ho3 HR4 HG4 Hl3 hz
    go_wp2_with fail
    obtain ⟨k0', k1', k2', k3'⟩ := blk_cells (set4_at (u0 := .int .i64 g.k) (u1 := .int .i64 g.a) (u2 := .int .i64 g.b) (u3 := .int .i64 z) HRf.out)
    refine bodyPost_ret (v := (.agg #[.int .i64 g.k, .int .i64 g.a, .int .i64 g.b, .int .i64 z])) (by simp only [results, Tryz.results55]; simp [go_sem, k0', k1', k2', k3']) rfl ⟨⟨⟨g.k, g.a, g.b, z⟩, rfl, hgi⟩, ?_, ?_⟩
    · exact Hcf.out.own (C := w.heap.size) (own_set (own_set (own_set (own_set (own_refl _ _) _ _) _ _) _ _) _ _) hB
    · exact own_dn (own_dn (own_dn (own_dn Hof.out _ _ (Nat.le_refl _)) _ _ (Nat.le_refl _)) _ _ (Nat.le_refl _)) _ _ (Nat.le_refl _)
  have e0 : (y == 0) = false := by simpa using q0
  have e1 : (y == 1) = false := by simpa using q1
  have e2 : (y == 2) = false := by simpa using q2
  have e3 : (y == 3) = false := by simpa using q3
  obtain ⟨a0, a1, a2, a3⟩ := blk_cells HG2.out
  have HRf := HR2
  have Hcf := Hc2
  have Hof := Ho2
  obtain ⟨r0, r1, r2, r3⟩ := blk_cells HR2.out
  have fR := fun o => free_at HR2.out o
  have hRl := lt_of_block HR2.out
  clear Hc2 HR2 HG2 Ho2
  go_wp2_with fail
  obtain ⟨k0', k1', k2', k3'⟩ := blk_cells (set4_at (u0 := .int .i64 g.k) (u1 := .int .i64 g.a) (u2 := .int .i64 g.b) (u3 := .int .i64 g.c) HRf.out)
  refine bodyPost_ret (v := (.agg #[.int .i64 g.k, .int .i64 g.a, .int .i64 g.b, .int .i64 g.c])) (by simp only [results, Tryz.results55]; simp [go_sem, k0', k1', k2', k3']) rfl ⟨⟨⟨g.k, g.a, g.b, g.c⟩, rfl, hgi⟩, ?_, ?_⟩
  · exact Hcf.out.own (C := w.heap.size) (own_set (own_set (own_set (own_set (own_refl _ _) _ _) _ _) _ _) _ _) hB
  · exact own_dn (own_dn (own_dn (own_dn Hof.out _ _ (Nat.le_refl _)) _ _ (Nat.le_refl _)) _ _ (Nat.le_refl _)) _ _ (Nat.le_refl _)
end Go.Proofs.YtmpafidkpangeaaGreat
