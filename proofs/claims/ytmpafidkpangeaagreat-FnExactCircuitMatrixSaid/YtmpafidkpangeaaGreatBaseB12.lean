/- BaseB12: several of our texts in one: GtKd GtK MtD AdN AmM MtI GtF. -/
import Derived.Test.YtmpafidkpangeaaGreatBaseB04
import Derived.Test.YtmpafidkpangeaaGreatBaseB08
import Derived.Test.YtmpafidkpangeaaGreatDwN
import Derived.Test.YtmpafidkpangeaaGreatBaseB11
import Derived.Test.YtmpafidkpangeaaGreatBaseB14
import Derived.Test.YtmpafidkpangeaaGreatBaseB03
namespace Go.Proofs.YtmpafidkpangeaaGreat
open Go.RowKit
attribute [local irreducible] World.cell?
set_option maxRecDepth 100000 in
set_option maxHeartbeats 800000 in
theorem ivalidG_no (g : Gt) (n : Int) (w : World) (h : ¬ (1 ≤ n ∧ n ≤ 4)) (n0 : -9223372036854775808 ≤ n) (n1 : n ≤ 9223372036854775807) :
    Calls Tryz.prog 57 #[(.agg #[.int .i64 g.k, .int .i64 g.a, .int .i64 g.b, .int .i64 g.c]), .int .i64 n] w fun e w' => e = .returned (.bool false) ∧ Below w.heap.size w w' := by
  have Ha := Lib.hid (fun w => iar0 g.k w)
  have Hq := Lib.hid (fun w => iisq_no n w h n0 n1)
  have Hb0 := Lib.hid (show Below w.heap.size w (w.alloc (.cells #[.int .i64 g.k, .int .i64 g.a, .int .i64 g.b, .int .i64 g.c] 35)) by go_grown)
  generalize ar g.k = t at *
  clear h n0 n1
  go_enter Tryz.func57, Tryz.ntmps57
  go_wp2_with fail
  refine (Ha.out _).mono ?_
  rintro e w1 ⟨rfl, rfl⟩
  go_wp2_with (first | (go_at_call 93; refine (Hq.out _).mono ?_; rintro e wR ⟨rfl, rfl⟩))
  go_ret
  exact ⟨rfl, Hb0.out⟩
set_option maxRecDepth 100000 in
set_option maxHeartbeats 800000 in
theorem ivalidG_zero (g : Gt) (n : Int) (w : World) (hn : 1 ≤ n ∧ n ≤ 4) (h : ar g.k = 0) :
    Calls Tryz.prog 57 #[(.agg #[.int .i64 g.k, .int .i64 g.a, .int .i64 g.b, .int .i64 g.c]), .int .i64 n] w fun e w' => e = .returned (.bool false) ∧ Below w.heap.size w w' := by
  have Ha := Lib.hid (fun w => iar0 g.k w)
  have Hq := Lib.hid (fun w => iisq_yes n w hn)
  have Hb0 := Lib.hid (show Below w.heap.size w (w.alloc (.cells #[.int .i64 g.k, .int .i64 g.a, .int .i64 g.b, .int .i64 g.c] 35)) by go_grown)
  rw [h] at Ha
  clear h hn
  go_enter Tryz.func57, Tryz.ntmps57
  go_wp2_with fail
  refine (Ha.out _).mono ?_
  rintro e w1 ⟨rfl, rfl⟩
  go_wp2_with (first | (go_at_call 93; refine (Hq.out _).mono ?_; rintro e wR ⟨rfl, rfl⟩))
  go_ret
  exact ⟨rfl, Hb0.out⟩
set_option maxRecDepth 100000 in
set_option maxHeartbeats 3200000 in
theorem ivalidG_10 (k a b c n : Int) (w : World) (hn : 1 ≤ n ∧ n ≤ 4) (h : ar k = 1) (hb : b ≠ 0) :
    Calls Tryz.prog 57 #[(.agg #[.int .i64 (Gt.mk k a b c).k, .int .i64 (Gt.mk k a b c).a, .int .i64 (Gt.mk k a b c).b, .int .i64 (Gt.mk k a b c).c]), .int .i64 n] w fun e w' => e = .returned (.bool false) ∧ Below w.heap.size w w' := by
  have Ha := Lib.hid (fun w => iar0 k w)
  have Hq := Lib.hid (fun w => iisq_yes n w hn)
  have HB := Lib.hid (show Below w.heap.size w ((w.alloc (.cells #[.int .i64 (Gt.mk k a b c).k, .int .i64 (Gt.mk k a b c).a, .int .i64 (Gt.mk k a b c).b, .int .i64 (Gt.mk k a b c).c] 35)).alloc (.cells #[.int .i64 a, .int .i64 b, .int .i64 c] 135)) by go_grown)
  have eb : (b != 0) = true := by simpa using hb
  rw [h] at Ha
  clear h hn hb
  go_enter Tryz.func57, Tryz.ntmps57
  go_wp2_with fail
  refine (Ha.out _).mono ?_
  rintro e w1 ⟨rfl, rfl⟩
  go_wp2_with (first | (go_at_call 93; refine (Hq.out _).mono ?_; rintro e wR ⟨rfl, rfl⟩))
  refine wp_loop_rounds 3 ?_
  repeat any_goals (rw [rounds_succ]; go_wp2_with fail)
  go_ret
  exact ⟨rfl, HB.out⟩
set_option maxRecDepth 100000 in
set_option maxHeartbeats 3200000 in
theorem ivalidG_11 (k a c n : Int) (w : World) (hn : 1 ≤ n ∧ n ≤ 4) (h : ar k = 1) (hc : c ≠ 0) :
    Calls Tryz.prog 57 #[(.agg #[.int .i64 (Gt.mk k a 0 c).k, .int .i64 (Gt.mk k a 0 c).a, .int .i64 (Gt.mk k a 0 c).b, .int .i64 (Gt.mk k a 0 c).c]), .int .i64 n] w fun e w' => e = .returned (.bool false) ∧ Below w.heap.size w w' := by
  have Ha := Lib.hid (fun w => iar0 k w)
  have Hq := Lib.hid (fun w => iisq_yes n w hn)
  have HB := Lib.hid (show Below w.heap.size w ((w.alloc (.cells #[.int .i64 (Gt.mk k a 0 c).k, .int .i64 (Gt.mk k a 0 c).a, .int .i64 (Gt.mk k a 0 c).b, .int .i64 (Gt.mk k a 0 c).c] 35)).alloc (.cells #[.int .i64 a, .int .i64 0, .int .i64 c] 135)) by go_grown)
  have ec : (c != 0) = true := by simpa using hc
  rw [h] at Ha
  clear h hn hc
  go_enter Tryz.func57, Tryz.ntmps57
  go_wp2_with fail
  refine (Ha.out _).mono ?_
  rintro e w1 ⟨rfl, rfl⟩
  go_wp2_with (first | (go_at_call 93; refine (Hq.out _).mono ?_; rintro e wR ⟨rfl, rfl⟩))
  refine wp_loop_rounds 3 ?_
  repeat any_goals (rw [rounds_succ]; go_wp2_with fail)
  go_ret
  exact ⟨rfl, HB.out⟩
set_option maxRecDepth 100000 in
set_option maxHeartbeats 3200000 in
theorem ivalidG_12 (k a n : Int) (w : World) (hn : 1 ≤ n ∧ n ≤ 4) (h : ar k = 1) :
    Calls Tryz.prog 57 #[(.agg #[.int .i64 (Gt.mk k a 0 0).k, .int .i64 (Gt.mk k a 0 0).a, .int .i64 (Gt.mk k a 0 0).b, .int .i64 (Gt.mk k a 0 0).c]), .int .i64 n] w fun e w' => e = .returned (.bool (dq [a] n)) ∧ Below w.heap.size w w' := by
  have Ha := Lib.hid (fun w => iar0 k w)
  have Hq := Lib.hid (fun w => iisq_yes n w hn)
  have HB := Lib.hid (show Below w.heap.size w ((w.alloc (.cells #[.int .i64 (Gt.mk k a 0 0).k, .int .i64 (Gt.mk k a 0 0).a, .int .i64 (Gt.mk k a 0 0).b, .int .i64 (Gt.mk k a 0 0).c] 35)).alloc (.cells #[.int .i64 a, .int .i64 0, .int .i64 0] 135)) by go_grown)
  have hrow : AR ((w.alloc (.cells #[.int .i64 (Gt.mk k a 0 0).k, .int .i64 (Gt.mk k a 0 0).a, .int .i64 (Gt.mk k a 0 0).b, .int .i64 (Gt.mk k a 0 0).c] 35)).alloc (.cells #[.int .i64 a, .int .i64 0, .int .i64 0] 135)) (w.heap.size + 1) [a] := by
    have h := heap_alloc_new (w.alloc (.cells #[.int .i64 (Gt.mk k a 0 0).k, .int .i64 (Gt.mk k a 0 0).a, .int .i64 (Gt.mk k a 0 0).b, .int .i64 (Gt.mk k a 0 0).c] 35)) (.cells #[.int .i64 a, .int .i64 0, .int .i64 0] 135)
    rw [show (w.alloc (.cells #[.int .i64 (Gt.mk k a 0 0).k, .int .i64 (Gt.mk k a 0 0).a, .int .i64 (Gt.mk k a 0 0).b, .int .i64 (Gt.mk k a 0 0).c] 35)).heap.size = w.heap.size + 1 by simp] at h
    exact ⟨_, _, h, rfl⟩
  have Hd := Lib.hid (idist (w.heap.size + 1) 3 [a] n _ hrow (by simp) (by simp))
  clear hrow
  generalize dq [a] n = D at *
  rw [h] at Ha
  clear h hn
  go_enter Tryz.func57, Tryz.ntmps57
  go_wp2_with fail
  refine (Ha.out _).mono ?_
  rintro e w1 ⟨rfl, rfl⟩
  go_wp2_with (first | (go_at_call 93; refine (Hq.out _).mono ?_; rintro e wR ⟨rfl, rfl⟩))
  refine wp_loop_rounds 3 ?_
  repeat any_goals (rw [rounds_succ]; go_wp2_with fail)
  refine (Hd.out).mono ?_
  rintro e w2 ⟨rfl, rfl⟩
  go_wp2_with fail
  go_ret
  exact ⟨rfl, HB.out⟩
set_option maxRecDepth 100000 in
set_option maxHeartbeats 3200000 in
theorem ivalidG_20 (k a b c n : Int) (w : World) (hn : 1 ≤ n ∧ n ≤ 4) (h : ar k = 2) (hc : c ≠ 0) :
    Calls Tryz.prog 57 #[(.agg #[.int .i64 (Gt.mk k a b c).k, .int .i64 (Gt.mk k a b c).a, .int .i64 (Gt.mk k a b c).b, .int .i64 (Gt.mk k a b c).c]), .int .i64 n] w fun e w' => e = .returned (.bool false) ∧ Below w.heap.size w w' := by
  have Ha := Lib.hid (fun w => iar0 k w)
  have Hq := Lib.hid (fun w => iisq_yes n w hn)
  have HB := Lib.hid (show Below w.heap.size w ((w.alloc (.cells #[.int .i64 (Gt.mk k a b c).k, .int .i64 (Gt.mk k a b c).a, .int .i64 (Gt.mk k a b c).b, .int .i64 (Gt.mk k a b c).c] 35)).alloc (.cells #[.int .i64 a, .int .i64 b, .int .i64 c] 135)) by go_grown)
  have ec : (c != 0) = true := by simpa using hc
  rw [h] at Ha
  clear h hn hc
  go_enter Tryz.func57, Tryz.ntmps57
  go_wp2_with fail
  refine (Ha.out _).mono ?_
  rintro e w1 ⟨rfl, rfl⟩
  go_wp2_with (first | (go_at_call 93; refine (Hq.out _).mono ?_; rintro e wR ⟨rfl, rfl⟩))
  refine wp_loop_rounds 3 ?_
  repeat any_goals (rw [rounds_succ]; go_wp2_with fail)
  go_ret
  exact ⟨rfl, HB.out⟩
set_option maxRecDepth 100000 in
set_option maxHeartbeats 3200000 in
theorem ivalidG_21 (k a b n : Int) (w : World) (hn : 1 ≤ n ∧ n ≤ 4) (h : ar k = 2) :
    Calls Tryz.prog 57 #[(.agg #[.int .i64 (Gt.mk k a b 0).k, .int .i64 (Gt.mk k a b 0).a, .int .i64 (Gt.mk k a b 0).b, .int .i64 (Gt.mk k a b 0).c]), .int .i64 n] w fun e w' => e = .returned (.bool (dq [a, b] n)) ∧ Below w.heap.size w w' := by
  have Ha := Lib.hid (fun w => iar0 k w)
  have Hq := Lib.hid (fun w => iisq_yes n w hn)
  have HB := Lib.hid (show Below w.heap.size w ((w.alloc (.cells #[.int .i64 (Gt.mk k a b 0).k, .int .i64 (Gt.mk k a b 0).a, .int .i64 (Gt.mk k a b 0).b, .int .i64 (Gt.mk k a b 0).c] 35)).alloc (.cells #[.int .i64 a, .int .i64 b, .int .i64 0] 135)) by go_grown)
  have hrow : AR ((w.alloc (.cells #[.int .i64 (Gt.mk k a b 0).k, .int .i64 (Gt.mk k a b 0).a, .int .i64 (Gt.mk k a b 0).b, .int .i64 (Gt.mk k a b 0).c] 35)).alloc (.cells #[.int .i64 a, .int .i64 b, .int .i64 0] 135)) (w.heap.size + 1) [a, b] := by
    have h := heap_alloc_new (w.alloc (.cells #[.int .i64 (Gt.mk k a b 0).k, .int .i64 (Gt.mk k a b 0).a, .int .i64 (Gt.mk k a b 0).b, .int .i64 (Gt.mk k a b 0).c] 35)) (.cells #[.int .i64 a, .int .i64 b, .int .i64 0] 135)
    rw [show (w.alloc (.cells #[.int .i64 (Gt.mk k a b 0).k, .int .i64 (Gt.mk k a b 0).a, .int .i64 (Gt.mk k a b 0).b, .int .i64 (Gt.mk k a b 0).c] 35)).heap.size = w.heap.size + 1 by simp] at h
    exact ⟨_, _, h, rfl⟩
  have Hd := Lib.hid (idist (w.heap.size + 1) 3 [a, b] n _ hrow (by simp) (by simp))
  clear hrow
  generalize dq [a, b] n = D at *
  rw [h] at Ha
  clear h hn
  go_enter Tryz.func57, Tryz.ntmps57
  go_wp2_with fail
  refine (Ha.out _).mono ?_
  rintro e w1 ⟨rfl, rfl⟩
  go_wp2_with (first | (go_at_call 93; refine (Hq.out _).mono ?_; rintro e wR ⟨rfl, rfl⟩))
  refine wp_loop_rounds 3 ?_
  repeat any_goals (rw [rounds_succ]; go_wp2_with fail)
  refine (Hd.out).mono ?_
  rintro e w2 ⟨rfl, rfl⟩
  go_wp2_with fail
  go_ret
  exact ⟨rfl, HB.out⟩
set_option maxRecDepth 100000 in
set_option maxHeartbeats 3200000 in
theorem ivalidG_30 (k a b c n : Int) (w : World) (hn : 1 ≤ n ∧ n ≤ 4) (h : ar k = 3) :
    Calls Tryz.prog 57 #[(.agg #[.int .i64 (Gt.mk k a b c).k, .int .i64 (Gt.mk k a b c).a, .int .i64 (Gt.mk k a b c).b, .int .i64 (Gt.mk k a b c).c]), .int .i64 n] w fun e w' => e = .returned (.bool (dq [a, b, c] n)) ∧ Below w.heap.size w w' := by
  have Ha := Lib.hid (fun w => iar0 k w)
  have Hq := Lib.hid (fun w => iisq_yes n w hn)
  have HB := Lib.hid (show Below w.heap.size w ((w.alloc (.cells #[.int .i64 (Gt.mk k a b c).k, .int .i64 (Gt.mk k a b c).a, .int .i64 (Gt.mk k a b c).b, .int .i64 (Gt.mk k a b c).c] 35)).alloc (.cells #[.int .i64 a, .int .i64 b, .int .i64 c] 135)) by go_grown)
  have hrow : AR ((w.alloc (.cells #[.int .i64 (Gt.mk k a b c).k, .int .i64 (Gt.mk k a b c).a, .int .i64 (Gt.mk k a b c).b, .int .i64 (Gt.mk k a b c).c] 35)).alloc (.cells #[.int .i64 a, .int .i64 b, .int .i64 c] 135)) (w.heap.size + 1) [a, b, c] := by
    have h := heap_alloc_new (w.alloc (.cells #[.int .i64 (Gt.mk k a b c).k, .int .i64 (Gt.mk k a b c).a, .int .i64 (Gt.mk k a b c).b, .int .i64 (Gt.mk k a b c).c] 35)) (.cells #[.int .i64 a, .int .i64 b, .int .i64 c] 135)
    rw [show (w.alloc (.cells #[.int .i64 (Gt.mk k a b c).k, .int .i64 (Gt.mk k a b c).a, .int .i64 (Gt.mk k a b c).b, .int .i64 (Gt.mk k a b c).c] 35)).heap.size = w.heap.size + 1 by simp] at h
    exact ⟨_, _, h, rfl⟩
  have Hd := Lib.hid (idist (w.heap.size + 1) 3 [a, b, c] n _ hrow (by simp) (by simp))
  clear hrow
  generalize dq [a, b, c] n = D at *
  rw [h] at Ha
  clear h hn
  go_enter Tryz.func57, Tryz.ntmps57
  go_wp2_with fail
  refine (Ha.out _).mono ?_
  rintro e w1 ⟨rfl, rfl⟩
  go_wp2_with (first | (go_at_call 93; refine (Hq.out _).mono ?_; rintro e wR ⟨rfl, rfl⟩))
  refine wp_loop_rounds 3 ?_
  repeat any_goals (rw [rounds_succ]; go_wp2_with fail)
  refine (Hd.out).mono ?_
  rintro e w2 ⟨rfl, rfl⟩
  go_wp2_with fail
  go_ret
  exact ⟨rfl, HB.out⟩
theorem ivalidG (g : Gt) (n : Int) (w : World) (n0 : -9223372036854775808 ≤ n) (n1 : n ≤ 9223372036854775807) : Calls Tryz.prog 57 #[(.agg #[.int .i64 g.k, .int .i64 g.a, .int .i64 g.b, .int .i64 g.c]), .int .i64 n] w fun e w' => e = .returned (.bool (gtB g n)) ∧ Below w.heap.size w w' := by
  by_cases hn : 1 ≤ n ∧ n ≤ 4
  · obtain ⟨k, a, b, c⟩ := g
    have h3 := ar_le k
    rcases (show ar k = 0 ∨ ar k = 1 ∨ ar k = 2 ∨ ar k = 3 by omega) with h | h | h | h
    · rw [gtB_zero h]; exact ivalidG_zero _ n w hn h
    · rw [gtB_1 h hn]
      by_cases hb : b = 0
      · subst hb
        by_cases hc : c = 0
        · subst hc
          rw [show (decide ((0 : Int) = 0) && decide ((0 : Int) = 0) && dq [a] n) = dq [a] n by simp]
          exact ivalidG_12 k a n w hn h
        · rw [decide_eq_false hc, Bool.and_false, Bool.false_and]
          exact ivalidG_11 k a c n w hn h hc
      · rw [decide_eq_false hb, Bool.false_and, Bool.false_and]
        exact ivalidG_10 k a b c n w hn h hb
    · rw [gtB_2 h hn]
      by_cases hc : c = 0
      · subst hc
        rw [show (decide ((0 : Int) = 0) && dq [a, b] n) = dq [a, b] n by simp]
        exact ivalidG_21 k a b n w hn h
      · rw [decide_eq_false hc, Bool.false_and]
        exact ivalidG_20 k a b c n w hn h hc
    · rw [gtB_3 h hn]; exact ivalidG_30 k a b c n w hn h
  · rw [gtB_no hn]; exact ivalidG_no g n w hn n0 n1
end Go.Proofs.YtmpafidkpangeaaGreat
namespace Go.Proofs.YtmpafidkpangeaaGreat
end Go.Proofs.YtmpafidkpangeaaGreat
namespace Go.Proofs.YtmpafidkpangeaaGreat
open Go.RowKit
theorem adjM_yes {M : List (List Dw)} (h : mtB M = true) : adjM M = (List.range M.length).map fun i => (col M i).map dConjV := if_pos h
theorem adjM_no {M : List (List Dw)} (h : mtB M = false) : adjM M = [] := if_neg (by rw [h]; decide)
theorem adjM_len {M : List (List Dw)} (h : mtB M = true) : (adjM M).length = M.length := by rw [adjM_yes h, List.length_map, List.length_range]
theorem adjM_step {M : List (List Dw)} (h : mtB M = true) {j : Nat} (hj : j < M.length) : (adjM M).take (j + 1) = (adjM M).take j ++ [(col M j).map dConjV] := by
  rw [List.take_add_one, adjM_yes h, List.getElem?_map, List.getElem?_range hj]
  rfl
theorem turn_at {l : List Dw} {f : Dw → Dw} {k : Nat} {x : Dw} (hx : l[k]? = some x) : ((l.map f).take k ++ l.drop k)[k]? = some x := by
  have h : k < l.length := by
    rcases Nat.lt_or_ge k l.length with h' | h'
    · exact h'
    · rw [List.getElem?_eq_none h'] at hx; cases hx
  rw [List.getElem?_append_right (by simp; omega), List.getElem?_drop]
  rw [show k + (k - ((l.map f).take k).length) = k by simp; omega]
  exact hx
theorem turn_set {l : List Dw} {f : Dw → Dw} {k : Nat} {x : Dw} (hx : l[k]? = some x) : ((l.map f).take k ++ l.drop k).set k (f x) = (l.map f).take (k + 1) ++ l.drop (k + 1) := by
  have h : k < l.length := by
    rcases Nat.lt_or_ge k l.length with h' | h'
    · exact h'
    · rw [List.getElem?_eq_none h'] at hx; cases hx
  have e : l.drop k = x :: l.drop (k + 1) := by
    rw [List.getElem?_eq_getElem h] at hx
    injection hx with hx
    rw [← hx]
    exact (List.getElem_cons_drop ..).symm
  rw [List.set_append_right _ _ (by simp; omega), show k - ((l.map f).take k).length = 0 by simp; omega, e, List.set_cons_zero, List.take_add_one, List.getElem?_map, hx, List.append_assoc]
  rfl
attribute [local irreducible] World.cell?
set_option maxRecDepth 100000 in
set_option maxHeartbeats 3200000 in
theorem sadj_yes (B C : Nat) (v : Value) (M : List (List Dw)) (w : World) (hv : DSM w B C v M) (hM : mtB M = true) (hm : amps M ≤ 1048576) :
    Calls Tryz.prog 49 #[v] w fun e w' => ∃ u, e = .returned u ∧ DSM w' w.heap.size w'.heap.size u (adjM M) ∧ Below w.heap.size w w' := by
  obtain ⟨i0, hi, hz0, hz1, hz2⟩ := info_parts infoDs
  have hlen := mtB_len hM
  have Hv := Lib.hid hv
  have H1 := Lib.hid (fun W (h : DSM W B C v M) => svalidMt B C v M W h (by omega) hm)
  rw [hM] at H1
  have Hcol := Lib.hid (fun (k : Nat) (hk : k < M.length) W (h : DSM W B C v M) => scolumn B C v M k W h (fun r hr => by rw [((mtB_iff.1 hM).2 r hr).1]; exact hk) (by omega) (by omega))
  have Hst := Lib.hid (fun (j : Nat) (hj : j < M.length) => adjM_step hM hj)
  have Hl := Lib.hid (adjM_len hM)
  clear hM
  obtain ⟨a, cap, rfl, hcap, -⟩ := hv
  go_enter Tryz.func49, Tryz.ntmps49
  go_wp2_with fail
  go_loopg [3, 4] M.length (fun n out i wr => ∃ (j : Nat) (vs : List Value), n = M.length - j ∧ j ≤ M.length ∧ i = .int .i64 j ∧ Hid (wr.ownsRow w.heap.size 36 1 out j vs) ∧ Hid (RwS wr w.heap.size wr.heap.size vs ((adjM M).take j)) ∧ Hid (Below w.heap.size w wr))
  case atStart => exact ⟨0, [], rfl, Nat.zero_le _, rfl, ownM_new rfl, RwS.nil, (Below.refl _ _).alloc (Nat.le_refl _) _⟩
  case round =>
    obtain ⟨j, vs, rfl, hj, rfl, Hown, Hrows, Hb⟩ := hrel
    have hs := Hb.out.size
    have H1r := Lib.hid (H1.out wr (Hv.out.block fun k _ _ hk => Hb.out.block k hk))
    by_cases hlt : j < M.length
    · go_wp2_with fail
      refine (H1r.out).mono ?_
      rintro e w2 ⟨rfl, hb2⟩
      have Hv2 := Lib.hid (Hv.out.block fun k _ _ hk => (hb2.block k (by omega)).trans (Hb.out.block k hk))
      have Hown2 := Lib.hid (row_below Hown.out hb2)
      have Hrows2 := Lib.hid ((Hrows.out.block fun k _ _ hk => hb2.block k hk).mono (Nat.le_refl _) hb2.size)
      have Hb2 := Lib.hid (Hb.out.trans (hb2.mono hs))
      have hs2 := Hb2.out.size
      have Hc := Lib.hid (Hcol.out j hlt w2 Hv2.out)
      clear hb2 Hown Hrows Hb H1r Hv2
      go_wp2_with fail
      refine (Hc.out).mono ?_
      rintro e w3 ⟨u, rfl, hd, hb3⟩
      have hcl := col_len M j
      have Hst2 := Lib.hid (Hst.out j hlt)
      generalize col M j = c at *
      obtain ⟨p, pc, rfl, hpc, hd2⟩ := hd
      obtain ⟨g, rfl, hgB, hrow⟩ := hd2 (by omega)
      rw [hcl] at hpc ⊢
      have Hrow := Lib.hid hrow
      have Hb3 := Lib.hid hb3
      have hs3 := hb3.size
      have Hcl := Lib.hid hcl
      clear hd2 hrow hb3 Hc hcl
      go_wp2_with fail
      go_loopg [6] M.length (fun n i wr => ∃ k : Nat, n = M.length - k ∧ k ≤ M.length ∧ i = .int .i64 k ∧ Hid (DRow wr g ((c.map dConjV).take k ++ c.drop k)) ∧ Hid (Below w2.heap.size w2 wr))
      case atStart => exact ⟨0, rfl, Nat.zero_le _, rfl, by simpa using Hrow, Hb3⟩
      case round =>
        obtain ⟨k, rfl, hk, rfl, Hri, Hbi⟩ := hrel
        have hsi := Hbi.out.size
        by_cases hlk : k < M.length
        · obtain ⟨x, hx⟩ : ∃ x, c[k]? = some x := ⟨c[k]'(by have := Hcl.out; omega), List.getElem?_eq_getElem _⟩
          have hgl := Hri.out.lt
          obtain ⟨c0, c1, c2, c3, c4⟩ := Hri.out.cells (turn_at (f := dConjV) hx)
          have Hx := Lib.hid (sconjD_any x wr)
          have Hcl2 := Hcl.out
          go_wp2_with fail
          refine (Hx.out).mono ?_
          rintro e wj ⟨rfl, hbj⟩
          have hrj := Hri.out.below hbj hgl
          obtain ⟨d0, d1, d2, d3, d4⟩ := hrj.cells (turn_at (f := dConjV) hx)
          have f1 := fun o => hrj.free o
          have hgj := hrj.lt
          have hr3 := hrj.put k (by simp; omega) (dConjV x)
          rw [turn_set hx] at hr3
          have Hr3 := Lib.hid hr3
          have Hbj := Lib.hid (Hbi.out.trans (hbj.mono hsi))
          clear c0 c1 c2 c3 c4 hr3 hrj hbj Hri Hbi Hx hx Hcl2
          generalize dConjV x = y at *
          go_wp2_with fail
          go_roundg (M.length - (k + 1))
          case measure => omega
          case rel =>
            refine ⟨k + 1, rfl, by omega, by go_num, Hr3, ?_⟩
            have := Hbj.out
            show Below _ _ _
            go_grown
        · obtain rfl : k = M.length := by omega
          have hr := Hri.out
          have hcm : (c.map dConjV).length = M.length := by rw [List.length_map]; exact Hcl.out
          rw [← Hcl.out, List.drop_length, List.append_nil, show c.length = (c.map dConjV).length by rw [List.length_map], List.take_length] at hr
          have hrl := hr.lt
          generalize c.map dConjV = r at *
          have Hdsc := Lib.hid (show DSc wr w2.heap.size wr.heap.size (.slice (some ⟨g, 0, none⟩) M.length pc) r from ⟨_, _, by rw [hcm], by rw [hcm]; exact hpc, fun _ => ⟨g, rfl, hgB, hrl, hr⟩⟩)
          have Hown4 := Lib.hid (row_below Hown2.out Hbi.out)
          have Hrows4 := Lib.hid (Hrows2.out.upto.snoc Hdsc.out hs2 hsi fun k _ _ hk => Hbi.out.block k hk)
          have Hb4 := Lib.hid (Hb2.out.trans (Hbi.out.mono hs2))
          have hs4 := Hb4.out.size
          rw [← Hst2.out] at Hrows4
          clear hr Hri Hbi Hown2 Hrows2 Hb2 Hb3 Hrow Hcl
          go_wp2_with (first
            | (at_builtin; refine wpList_append_own _ rfl _ _ 28 rfl w.heap.size 36 i0 (.slice none 0 0) 1 24 Tryz.underlying28 hi hz0 hz1 hz2 rfl (by decide) _ _ _ rfl (Hown4.out.alloc _) ⟨wr.heap.size, 0, none⟩ 1 1 [.slice (some ⟨g, 0, none⟩) M.length pc] rfl rfl (slice_new _ _ _) (by intro u hu; simp at hu; subst hu; rfl) ?d3 ?d4 ?d5 ?_))
          case d3 => unfold maxLen; omega
          case d4 => omega
          case d5 => first | omega | (simp; omega)
          intro v' w5 hown' hgrow _
          have HB5 := Lib.hid ((Hb4.out.alloc hs4 (.cells #[.slice (some ⟨g, 0, none⟩) M.length pc] 36)).grown hgrow (by simp; omega) (fun q hq => by have := Hown4.out.lt q hq; omega))
          have Hrows5 := Lib.hid (((Hrows4.out.block fun k _ _ hk => Below.heap_alloc _ _ _ hk).grown (Hown4.out.alloc _) hgrow).upto)
          have Hown5 := Lib.hid hown'
          clear hown' hgrow
          go_wp2_with fail
          go_roundg (M.length - (j + 1))
          case measure => omega
          case rel => exact ⟨j + 1, _, rfl, by omega, by go_num, Hown5.out, Hrows5, HB5⟩
    · obtain rfl : j = M.length := by omega
      have hown := Hown.out
      have hrows := Hrows.out
      rw [← Hl.out, List.take_length] at hrows
      rw [← Hl.out] at hown
      have Hd := Lib.hid (DSM.of_own hown hrows (Nat.le_refl _))
      clear hown hrows
      go_wp2_with fail
      refine (H1r.out).mono ?_
      rintro e w2 ⟨rfl, hb2⟩
      have Hb2 := Lib.hid (Hb.out.trans (hb2.mono hs))
      have Hd2 := Lib.hid ((Hd.out.below hb2).mono (Nat.le_refl _) hb2.size)
      clear hb2
      go_wp2_with fail
      go_ret
      exact ⟨_, rfl, Hd2.out, Hb2.out⟩
set_option maxRecDepth 100000 in
set_option maxHeartbeats 1600000 in
theorem sadj_no (B C : Nat) (v : Value) (M : List (List Dw)) (w : World) (hv : DSM w B C v M) (hM : mtB M = false) (hn : M.length ≤ 1048576) (hm : amps M ≤ 1048576) :
    Calls Tryz.prog 49 #[v] w fun e w' => ∃ u, e = .returned u ∧ DSM w' w.heap.size w'.heap.size u [] ∧ Below w.heap.size w w' := by
  have Hv := Lib.hid hv
  have H1 := Lib.hid (fun W (h : DSM W B C v M) => svalidMt B C v M W h hn hm)
  rw [hM] at H1
  clear hM
  obtain ⟨a, cap, rfl, hcap, -⟩ := hv
  go_enter Tryz.func49, Tryz.ntmps49
  go_wp2_with fail
  go_loopg [3, 4] 0 (fun n out i wr => n = 0 ∧ i = .int .i64 0 ∧ out = .slice (some ⟨w.heap.size, 0, none⟩) 0 0 ∧ Hid (Below w.heap.size w wr))
  case atStart => exact ⟨rfl, rfl, rfl, (Below.refl _ _).alloc (Nat.le_refl _) _⟩
  case round =>
    obtain ⟨rfl, rfl, rfl, Hb⟩ := hrel
    have hs := Hb.out.size
    have H1r := Lib.hid (H1.out wr (Hv.out.block fun k _ _ hk => Hb.out.block k hk))
    go_wp2_with fail
    refine (H1r.out).mono ?_
    rintro e w2 ⟨rfl, hb2⟩
    have Hb2 := Lib.hid (Hb.out.trans (hb2.mono hs))
    clear hb2
    go_wp2_with fail
    go_ret
    exact ⟨_, rfl, DSM.nil, Hb2.out⟩
theorem sadj (B C : Nat) (v : Value) (M : List (List Dw)) (w : World) (hv : DSM w B C v M) (hn : M.length ≤ 1048576) (hm : amps M ≤ 1048576) :
    Calls Tryz.prog 49 #[v] w fun e w' => ∃ u, e = .returned u ∧ DSM w' w.heap.size w'.heap.size u (adjM M) ∧ Below w.heap.size w w' := by
  cases hM : mtB M with
  | false => rw [adjM_no hM]; exact sadj_no B C v M w hv hM hn hm
  | true => exact sadj_yes B C v M w hv hM hm
end Go.Proofs.YtmpafidkpangeaaGreat
namespace Go.Proofs.YtmpafidkpangeaaGreat
end Go.Proofs.YtmpafidkpangeaaGreat
namespace Go.Proofs.YtmpafidkpangeaaGreat
theorem up_zero : ∀ k : Nat, upB k .zero = true ∧ rootN k .zero = .zero
  | 0 => ⟨by first | rfl | decide, rfl⟩
  | k + 1 => by
    obtain ⟨h1, h2⟩ := up_zero k
    have hr : Zw.zero.root = .zero := by decide
    constructor
    · unfold upB; rw [hr, h1]; decide
    · show rootN k Zw.zero.root = _; rw [hr]; exact h2
theorem dadd_zero {x : Dw} (h : x.ok) : dAddB .zero x = true ∧ dAddV .zero x = x := by
  have hz : Dw.zero.ok := by decide
  have he := h.2.1
  have ht : topE .zero x = x.e := by
    unfold topE
    show (if x.e < 0 then (0 : Int) else x.e) = x.e
    rw [if_neg (by omega)]
  have hA : numA .zero x = .zero := by unfold numA; exact (up_zero _).2
  have hB : numB .zero x = x.n := by unfold numB; rw [ht, Int.sub_self]; rfl
  have hs : Zw.zero.add x.n = x.n := by
    obtain ⟨⟨a, b, c, d⟩, e⟩ := x
    simp [Zw.add, Zw.zero]
  have hn := newV_self h
  have hb : dAddB .zero x = true := dAddB_iff.2 ⟨hz, h, by show upB _ Zw.zero = true; exact (up_zero _).1, by rw [ht, Int.sub_self]; show upB 0 x.n = true; first | rfl | (unfold upB; exact decide_eq_true h.1) | simp [upB, h.1], by rw [hA, hB]; exact addB_iff.2 ⟨by decide, h.1, by rw [hs]; exact h.1⟩, by rw [hA, hB, hs, ht]; exact hn.1⟩
  exact ⟨hb, by rw [dAddV_of hb, hA, hB, hs, ht]; exact hn.2⟩
theorem qc_pow {n : Nat} (h : 0 < qc n) : 1 ≤ qc n ∧ qc n ≤ 4 ∧ n = 2 ^ (qc n).toNat := by
  have hl := qc_len h
  have : n = 2 ∨ n = 4 ∨ n = 8 ∨ n = 16 := by
    unfold qc at h
    (repeat' split at h) <;> omega
  rcases this with rfl | rfl | rfl | rfl <;> decide
theorem basis_eq {n j : Nat} (h : 0 < qc n) (hj : j < n) : basisL (qc n) (j : Int) = (List.replicate n .zero).set j oneD := by
  obtain ⟨h1, h4, hp⟩ := qc_pow h
  unfold basisL
  rw [if_pos ⟨h1, h4, by omega, by have : ((2 ^ (qc n).toNat : Nat) : Int) = 2 ^ (qc n).toNat := by simp
                                   omega⟩, ← hp, Int.toNat_natCast]
theorem basis_st {n j : Nat} (h : 0 < qc n) (hj : j < n) : stB (basisL (qc n) (j : Int)) = true ∧ (basisL (qc n) (j : Int)).length = n := by
  rw [basis_eq h hj]
  refine ⟨stB_iff.2 ⟨fun x hx => ?_, by simpa using h⟩, by simp⟩
  rcases List.mem_or_eq_of_mem_set hx with hx | rfl
  · rw [(List.mem_replicate.1 hx).2]; decide
  · exact oneD_ok
end Go.Proofs.YtmpafidkpangeaaGreat
namespace Go.Proofs.YtmpafidkpangeaaGreat
open Go.RowKit
theorem idM_yes {n : Int} (h : 1 ≤ n ∧ n ≤ 4) : idM n = (List.range (2 ^ n.toNat)).map fun (i : Nat) => basisL n (i : Int) := if_pos h
theorem idM_no {n : Int} (h : ¬ (1 ≤ n ∧ n ≤ 4)) : idM n = [] := if_neg h
theorem idM_len {n : Int} (h : 1 ≤ n ∧ n ≤ 4) : (idM n).length = 2 ^ n.toNat := by rw [idM_yes h, List.length_map, List.length_range]
theorem idM_step {n : Int} (h : 1 ≤ n ∧ n ≤ 4) {j : Nat} (hj : j < 2 ^ n.toNat) : (idM n).take (j + 1) = (idM n).take j ++ [basisL n (j : Int)] := by
  rw [List.take_add_one, idM_yes h, List.getElem?_map, List.getElem?_range hj]
  rfl
attribute [local irreducible] World.cell?
set_option maxRecDepth 100000 in
set_option maxHeartbeats 1600000 in
theorem sident1 (w : World) :
    Calls Tryz.prog 50 #[.int .i64 1] w fun e w' => ∃ u, e = .returned u ∧ DSM w' w.heap.size w'.heap.size u (idM 1) ∧ Below w.heap.size w w' := by
  obtain ⟨i0, hi, hz0, hz1, hz2⟩ := info_parts infoDs
  have H1 := Lib.hid (fun w => lin_any 1 1 4 true w (by decide))
  have Hb0 := Lib.hid (fun (j : Nat) w => sbasis 1 j w)
  go_enter Tryz.func50, Tryz.ntmps50
  go_wp2_with fail
  go_loopg [3, 4] 2 (fun n out i wr => ∃ (j : Nat) (vs : List Value), n = 2 - j ∧ j ≤ 2 ∧ i = .int .i64 j ∧ Hid (wr.ownsRow w.heap.size 36 1 out j vs) ∧ Hid (RwS wr w.heap.size wr.heap.size vs ((idM 1).take j)) ∧ Hid (Below w.heap.size w wr))
  case atStart => exact ⟨0, [], rfl, Nat.zero_le _, rfl, ownM_new rfl, RwS.nil, (Below.refl _ _).alloc (Nat.le_refl _) _⟩
  case round =>
    obtain ⟨j, vs, rfl, hj, rfl, Hown, Hrows, Hb⟩ := hrel
    by_cases hlt : j < 2
    · have hs := Hb.out.size
      have hlt' : (j : Int) < 2 := by omega
      have Hstep := Lib.hid (idM_step (n := 1) (by decide) (j := j) hlt)
      go_wp2_with fail
      refine (H1.out _).mono ?_
      rintro e w1 ⟨rfl, rfl⟩
      go_wp2_with fail
      refine (Hb0.out j _).mono ?_
      rintro e w2 ⟨u, rfl, hd, hb2⟩
      have Hown2 := Lib.hid (row_below Hown.out hb2)
      have Hrows2 := Lib.hid (Hrows.out.snoc hd.upto hs hb2.size fun k _ _ hk => hb2.block k hk)
      have Hb2 := Lib.hid (Hb.out.trans (hb2.mono hs))
      have hs2 := Hb2.out.size
      obtain ⟨p, pc, rfl, -, -⟩ := hd
      clear hb2 Hown Hrows Hb
      generalize basisL 1 (j : Int) = r at *
      go_wp2_with (first
        | (at_builtin; refine wpList_append_own _ rfl _ _ 28 rfl w.heap.size 36 i0 (.slice none 0 0) 1 24 Tryz.underlying28 hi hz0 hz1 hz2 rfl (by decide) _ _ _ rfl (Hown2.out.alloc _) ⟨w2.heap.size, 0, none⟩ 1 1 [.slice p r.length pc] rfl rfl (slice_new _ _ _) (by intro u hu; simp at hu; subst hu; rfl) ?d3 ?d4 ?d5 ?_))
      case d3 => unfold maxLen; omega
      case d4 => omega
      case d5 => first | omega | (simp; omega)
      intro v' w4 hown' hgrow _
      have HB4 := Lib.hid ((Hb2.out.alloc hs2 (.cells #[.slice p r.length pc] 36)).grown hgrow (by simp; omega) (fun q hq => by have := Hown2.out.lt q hq; omega))
      have Hrows4 := Lib.hid (((Hrows2.out.block fun k _ _ hk => Below.heap_alloc _ _ _ hk).grown (Hown2.out.alloc _) hgrow).upto)
      have Hown4 := Lib.hid hown'
      clear hown' hgrow
      rw [← Hstep.out] at Hrows4
      go_wp2_with fail
      go_roundg (2 - (j + 1))
      case measure => omega
      case rel => exact ⟨j + 1, _, rfl, by omega, by go_num, Hown4.out, Hrows4, HB4⟩
    · obtain rfl : j = 2 := by omega
      have hrows := Hrows.out
      rw [List.take_of_length_le (by rw [idM_len (by decide)]; decide)] at hrows
      have Hd := Lib.hid (DSM.of_own (M := idM 1) (by rw [idM_len (by decide)]; exact Hown.out) hrows (Nat.le_refl _))
      clear hrows
      go_wp2_with fail
      refine (H1.out _).mono ?_
      rintro e w1 ⟨rfl, rfl⟩
      go_wp2_with fail
      go_ret
      exact ⟨_, rfl, Hd.out, Hb.out⟩
set_option maxRecDepth 100000 in
set_option maxHeartbeats 1600000 in
theorem sident2 (w : World) :
    Calls Tryz.prog 50 #[.int .i64 2] w fun e w' => ∃ u, e = .returned u ∧ DSM w' w.heap.size w'.heap.size u (idM 2) ∧ Below w.heap.size w w' := by
  obtain ⟨i0, hi, hz0, hz1, hz2⟩ := info_parts infoDs
  have H1 := Lib.hid (fun w => lin_any 2 1 4 true w (by decide))
  have Hb0 := Lib.hid (fun (j : Nat) w => sbasis 2 j w)
  go_enter Tryz.func50, Tryz.ntmps50
  go_wp2_with fail
  go_loopg [3, 4] 4 (fun n out i wr => ∃ (j : Nat) (vs : List Value), n = 4 - j ∧ j ≤ 4 ∧ i = .int .i64 j ∧ Hid (wr.ownsRow w.heap.size 36 1 out j vs) ∧ Hid (RwS wr w.heap.size wr.heap.size vs ((idM 2).take j)) ∧ Hid (Below w.heap.size w wr))
  case atStart => exact ⟨0, [], rfl, Nat.zero_le _, rfl, ownM_new rfl, RwS.nil, (Below.refl _ _).alloc (Nat.le_refl _) _⟩
  case round =>
    obtain ⟨j, vs, rfl, hj, rfl, Hown, Hrows, Hb⟩ := hrel
    by_cases hlt : j < 4
    · have hs := Hb.out.size
      have hlt' : (j : Int) < 4 := by omega
      have Hstep := Lib.hid (idM_step (n := 2) (by decide) (j := j) hlt)
      go_wp2_with fail
      refine (H1.out _).mono ?_
      rintro e w1 ⟨rfl, rfl⟩
      go_wp2_with fail
      refine (Hb0.out j _).mono ?_
      rintro e w2 ⟨u, rfl, hd, hb2⟩
      have Hown2 := Lib.hid (row_below Hown.out hb2)
      have Hrows2 := Lib.hid (Hrows.out.snoc hd.upto hs hb2.size fun k _ _ hk => hb2.block k hk)
      have Hb2 := Lib.hid (Hb.out.trans (hb2.mono hs))
      have hs2 := Hb2.out.size
      obtain ⟨p, pc, rfl, -, -⟩ := hd
      clear hb2 Hown Hrows Hb
      generalize basisL 2 (j : Int) = r at *
      go_wp2_with (first
        | (at_builtin; refine wpList_append_own _ rfl _ _ 28 rfl w.heap.size 36 i0 (.slice none 0 0) 1 24 Tryz.underlying28 hi hz0 hz1 hz2 rfl (by decide) _ _ _ rfl (Hown2.out.alloc _) ⟨w2.heap.size, 0, none⟩ 1 1 [.slice p r.length pc] rfl rfl (slice_new _ _ _) (by intro u hu; simp at hu; subst hu; rfl) ?d3 ?d4 ?d5 ?_))
      case d3 => unfold maxLen; omega
      case d4 => omega
      case d5 => first | omega | (simp; omega)
      intro v' w4 hown' hgrow _
      have HB4 := Lib.hid ((Hb2.out.alloc hs2 (.cells #[.slice p r.length pc] 36)).grown hgrow (by simp; omega) (fun q hq => by have := Hown2.out.lt q hq; omega))
      have Hrows4 := Lib.hid (((Hrows2.out.block fun k _ _ hk => Below.heap_alloc _ _ _ hk).grown (Hown2.out.alloc _) hgrow).upto)
      have Hown4 := Lib.hid hown'
      clear hown' hgrow
      rw [← Hstep.out] at Hrows4
      go_wp2_with fail
      go_roundg (4 - (j + 1))
      case measure => omega
      case rel => exact ⟨j + 1, _, rfl, by omega, by go_num, Hown4.out, Hrows4, HB4⟩
    · obtain rfl : j = 4 := by omega
      have hrows := Hrows.out
      rw [List.take_of_length_le (by rw [idM_len (by decide)]; decide)] at hrows
      have Hd := Lib.hid (DSM.of_own (M := idM 2) (by rw [idM_len (by decide)]; exact Hown.out) hrows (Nat.le_refl _))
      clear hrows
      go_wp2_with fail
      refine (H1.out _).mono ?_
      rintro e w1 ⟨rfl, rfl⟩
      go_wp2_with fail
      go_ret
      exact ⟨_, rfl, Hd.out, Hb.out⟩
set_option maxRecDepth 100000 in
set_option maxHeartbeats 1600000 in
theorem sident3 (w : World) :
    Calls Tryz.prog 50 #[.int .i64 3] w fun e w' => ∃ u, e = .returned u ∧ DSM w' w.heap.size w'.heap.size u (idM 3) ∧ Below w.heap.size w w' := by
  obtain ⟨i0, hi, hz0, hz1, hz2⟩ := info_parts infoDs
  have H1 := Lib.hid (fun w => lin_any 3 1 4 true w (by decide))
  have Hb0 := Lib.hid (fun (j : Nat) w => sbasis 3 j w)
  go_enter Tryz.func50, Tryz.ntmps50
  go_wp2_with fail
  go_loopg [3, 4] 8 (fun n out i wr => ∃ (j : Nat) (vs : List Value), n = 8 - j ∧ j ≤ 8 ∧ i = .int .i64 j ∧ Hid (wr.ownsRow w.heap.size 36 1 out j vs) ∧ Hid (RwS wr w.heap.size wr.heap.size vs ((idM 3).take j)) ∧ Hid (Below w.heap.size w wr))
  case atStart => exact ⟨0, [], rfl, Nat.zero_le _, rfl, ownM_new rfl, RwS.nil, (Below.refl _ _).alloc (Nat.le_refl _) _⟩
  case round =>
    obtain ⟨j, vs, rfl, hj, rfl, Hown, Hrows, Hb⟩ := hrel
    by_cases hlt : j < 8
    · have hs := Hb.out.size
      have hlt' : (j : Int) < 8 := by omega
      have Hstep := Lib.hid (idM_step (n := 3) (by decide) (j := j) hlt)
      go_wp2_with fail
      refine (H1.out _).mono ?_
      rintro e w1 ⟨rfl, rfl⟩
      go_wp2_with fail
      refine (Hb0.out j _).mono ?_
      rintro e w2 ⟨u, rfl, hd, hb2⟩
      have Hown2 := Lib.hid (row_below Hown.out hb2)
      have Hrows2 := Lib.hid (Hrows.out.snoc hd.upto hs hb2.size fun k _ _ hk => hb2.block k hk)
      have Hb2 := Lib.hid (Hb.out.trans (hb2.mono hs))
      have hs2 := Hb2.out.size
      obtain ⟨p, pc, rfl, -, -⟩ := hd
      clear hb2 Hown Hrows Hb
      generalize basisL 3 (j : Int) = r at *
      go_wp2_with (first
        | (at_builtin; refine wpList_append_own _ rfl _ _ 28 rfl w.heap.size 36 i0 (.slice none 0 0) 1 24 Tryz.underlying28 hi hz0 hz1 hz2 rfl (by decide) _ _ _ rfl (Hown2.out.alloc _) ⟨w2.heap.size, 0, none⟩ 1 1 [.slice p r.length pc] rfl rfl (slice_new _ _ _) (by intro u hu; simp at hu; subst hu; rfl) ?d3 ?d4 ?d5 ?_))
      case d3 => unfold maxLen; omega
      case d4 => omega
      case d5 => first | omega | (simp; omega)
      intro v' w4 hown' hgrow _
      have HB4 := Lib.hid ((Hb2.out.alloc hs2 (.cells #[.slice p r.length pc] 36)).grown hgrow (by simp; omega) (fun q hq => by have := Hown2.out.lt q hq; omega))
      have Hrows4 := Lib.hid (((Hrows2.out.block fun k _ _ hk => Below.heap_alloc _ _ _ hk).grown (Hown2.out.alloc _) hgrow).upto)
      have Hown4 := Lib.hid hown'
      clear hown' hgrow
      rw [← Hstep.out] at Hrows4
      go_wp2_with fail
      go_roundg (8 - (j + 1))
      case measure => omega
      case rel => exact ⟨j + 1, _, rfl, by omega, by go_num, Hown4.out, Hrows4, HB4⟩
    · obtain rfl : j = 8 := by omega
      have hrows := Hrows.out
      rw [List.take_of_length_le (by rw [idM_len (by decide)]; decide)] at hrows
      have Hd := Lib.hid (DSM.of_own (M := idM 3) (by rw [idM_len (by decide)]; exact Hown.out) hrows (Nat.le_refl _))
      clear hrows
      go_wp2_with fail
      refine (H1.out _).mono ?_
      rintro e w1 ⟨rfl, rfl⟩
      go_wp2_with fail
      go_ret
      exact ⟨_, rfl, Hd.out, Hb.out⟩
set_option maxRecDepth 100000 in
set_option maxHeartbeats 1600000 in
theorem sident4 (w : World) :
    Calls Tryz.prog 50 #[.int .i64 4] w fun e w' => ∃ u, e = .returned u ∧ DSM w' w.heap.size w'.heap.size u (idM 4) ∧ Below w.heap.size w w' := by
  obtain ⟨i0, hi, hz0, hz1, hz2⟩ := info_parts infoDs
  have H1 := Lib.hid (fun w => lin_any 4 1 4 true w (by decide))
  have Hb0 := Lib.hid (fun (j : Nat) w => sbasis 4 j w)
  go_enter Tryz.func50, Tryz.ntmps50
  go_wp2_with fail
  go_loopg [3, 4] 16 (fun n out i wr => ∃ (j : Nat) (vs : List Value), n = 16 - j ∧ j ≤ 16 ∧ i = .int .i64 j ∧ Hid (wr.ownsRow w.heap.size 36 1 out j vs) ∧ Hid (RwS wr w.heap.size wr.heap.size vs ((idM 4).take j)) ∧ Hid (Below w.heap.size w wr))
  case atStart => exact ⟨0, [], rfl, Nat.zero_le _, rfl, ownM_new rfl, RwS.nil, (Below.refl _ _).alloc (Nat.le_refl _) _⟩
  case round =>
    obtain ⟨j, vs, rfl, hj, rfl, Hown, Hrows, Hb⟩ := hrel
    by_cases hlt : j < 16
    · have hs := Hb.out.size
      have hlt' : (j : Int) < 16 := by omega
      have Hstep := Lib.hid (idM_step (n := 4) (by decide) (j := j) hlt)
      go_wp2_with fail
      refine (H1.out _).mono ?_
      rintro e w1 ⟨rfl, rfl⟩
      go_wp2_with fail
      refine (Hb0.out j _).mono ?_
      rintro e w2 ⟨u, rfl, hd, hb2⟩
      have Hown2 := Lib.hid (row_below Hown.out hb2)
      have Hrows2 := Lib.hid (Hrows.out.snoc hd.upto hs hb2.size fun k _ _ hk => hb2.block k hk)
      have Hb2 := Lib.hid (Hb.out.trans (hb2.mono hs))
      have hs2 := Hb2.out.size
      obtain ⟨p, pc, rfl, -, -⟩ := hd
      clear hb2 Hown Hrows Hb
      generalize basisL 4 (j : Int) = r at *
      go_wp2_with (first
        | (at_builtin; refine wpList_append_own _ rfl _ _ 28 rfl w.heap.size 36 i0 (.slice none 0 0) 1 24 Tryz.underlying28 hi hz0 hz1 hz2 rfl (by decide) _ _ _ rfl (Hown2.out.alloc _) ⟨w2.heap.size, 0, none⟩ 1 1 [.slice p r.length pc] rfl rfl (slice_new _ _ _) (by intro u hu; simp at hu; subst hu; rfl) ?d3 ?d4 ?d5 ?_))
      case d3 => unfold maxLen; omega
      case d4 => omega
      case d5 => first | omega | (simp; omega)
      intro v' w4 hown' hgrow _
      have HB4 := Lib.hid ((Hb2.out.alloc hs2 (.cells #[.slice p r.length pc] 36)).grown hgrow (by simp; omega) (fun q hq => by have := Hown2.out.lt q hq; omega))
      have Hrows4 := Lib.hid (((Hrows2.out.block fun k _ _ hk => Below.heap_alloc _ _ _ hk).grown (Hown2.out.alloc _) hgrow).upto)
      have Hown4 := Lib.hid hown'
      clear hown' hgrow
      rw [← Hstep.out] at Hrows4
      go_wp2_with fail
      go_roundg (16 - (j + 1))
      case measure => omega
      case rel => exact ⟨j + 1, _, rfl, by omega, by go_num, Hown4.out, Hrows4, HB4⟩
    · obtain rfl : j = 16 := by omega
      have hrows := Hrows.out
      rw [List.take_of_length_le (by rw [idM_len (by decide)]; decide)] at hrows
      have Hd := Lib.hid (DSM.of_own (M := idM 4) (by rw [idM_len (by decide)]; exact Hown.out) hrows (Nat.le_refl _))
      clear hrows
      go_wp2_with fail
      refine (H1.out _).mono ?_
      rintro e w1 ⟨rfl, rfl⟩
      go_wp2_with fail
      go_ret
      exact ⟨_, rfl, Hd.out, Hb.out⟩
set_option maxRecDepth 100000 in
set_option maxHeartbeats 1600000 in
theorem sident_no (n : Int) (w : World) (h : ¬ (1 ≤ n ∧ n ≤ 4)) :
    Calls Tryz.prog 50 #[.int .i64 n] w fun e w' => ∃ u, e = .returned u ∧ DSM w' w.heap.size w'.heap.size u (idM n) ∧ Below w.heap.size w w' := by
  have H1 := Lib.hid (fun w => lin_any n 1 4 false w (by simp; omega))
  rw [idM_no h]
  go_enter Tryz.func50, Tryz.ntmps50
  go_wp2_with fail
  go_loopg [3, 4] 0 (fun n out i wr => n = 0 ∧ i = .int .i64 0 ∧ out = .slice (some ⟨w.heap.size, 0, none⟩) 0 0 ∧ Hid (Below w.heap.size w wr))
  case atStart => exact ⟨rfl, rfl, rfl, (Below.refl _ _).alloc (Nat.le_refl _) _⟩
  case round =>
    obtain ⟨rfl, rfl, rfl, Hb⟩ := hrel
    go_wp2_with fail
    refine (H1.out _).mono ?_
    rintro e w1 ⟨rfl, rfl⟩
    go_wp2_with fail
    go_ret
    exact ⟨_, rfl, DSM.nil, Hb.out⟩
theorem sident (n : Int) (w : World) :
    Calls Tryz.prog 50 #[.int .i64 n] w fun e w' => ∃ u, e = .returned u ∧ DSM w' w.heap.size w'.heap.size u (idM n) ∧ Below w.heap.size w w' := by
  by_cases h : 1 ≤ n ∧ n ≤ 4
  · rcases (show n = 1 ∨ n = 2 ∨ n = 3 ∨ n = 4 by omega) with rfl | rfl | rfl | rfl
    · exact sident1 w
    · exact sident2 w
    · exact sident3 w
    · exact sident4 w
  · exact sident_no n w h
end Go.Proofs.YtmpafidkpangeaaGreat
namespace Go.Proofs.YtmpafidkpangeaaGreat
open Go.RowKit
/-- The kind of a gate is a machine integer. -/
def GtI (g : Gt) : Prop := -9223372036854775808 ≤ g.k ∧ g.k ≤ 9223372036854775807
theorem GtBd.i {g : Gt} (h : GtBd g) : GtI g := by have := h.1; unfold GtI; omega
attribute [local irreducible] World.cell?
set_option maxRecDepth 100000 in
set_option maxHeartbeats 6400000 in
theorem bentG (B n : Nat) (w : World) (hcur : CurAt w B) (hB : B < w.heap.size) (h1 : 1 ≤ n) (h4 : n ≤ 4) :
    Calls Tryz.prog 55 #[.pointer (some ⟨B, 0, none⟩), .int .i64 n] w fun e w' => (∃ g, e = .returned (.agg #[.int .i64 g.k, .int .i64 g.a, .int .i64 g.b, .int .i64 g.c]) ∧ GtI g) ∧ CurAt w' B ∧ Own B w w' := by
  have HR := Lib.hid (heap_alloc_new w (.cells #[.int .i64 0, .int .i64 0, .int .i64 0, .int .i64 0] 35))
  have hne : w.heap.size ≠ B := by omega
  have Hb0 := Lib.hid (show Below w.heap.size w (w.alloc (.cells #[.int .i64 0, .int .i64 0, .int .i64 0, .int .i64 0] 35)) by go_grown)
  have Hc0 := Lib.hid (hcur.below Hb0.out hB)
  have Ho0 := Lib.hid (show Own B w _ from own_of_below Hb0.out)
  clear hcur
  go_enter Tryz.func55, Tryz.ntmps55
  go_wp2_with fail
  refine (gate_any B n _ Hc0.out (by simp; omega) h1 h4).mono ?_
  rintro e w1 ⟨⟨g, rfl, hgb⟩, hc1, ho1⟩
  have hs1 := ho1.size
  simp at hs1
  have Hc1 := Lib.hid (hc1.below (w' := w1.alloc (.cells #[.int .i64 g.k, .int .i64 g.a, .int .i64 g.b, .int .i64 g.c] 35)) (C := w1.heap.size) (by go_grown) (by omega))
  have HR1 := Lib.hid (alloc_blk (.cells #[.int .i64 g.k, .int .i64 g.a, .int .i64 g.b, .int .i64 g.c] 35) (own_blk ho1 hne HR.out))
  have HG1 := Lib.hid (heap_alloc_new w1 (.cells #[.int .i64 g.k, .int .i64 g.a, .int .i64 g.b, .int .i64 g.c] 35))
  have Ho1 := Lib.hid (own_alloc (own_trans Ho0.out ho1) (.cells #[.int .i64 g.k, .int .i64 g.a, .int .i64 g.b, .int .i64 g.c] 35))
  have hgi := hgb.i
  clear hc1 ho1 Hc0 HR hgb
  go_wp2_with fail
  refine (below_any B 10 _ Hc1.out (by omega) (by omega)).mono ?_
  rintro e w2 ⟨⟨y, y0, y1, rfl⟩, hc2, ho2⟩
  have hs2 := ho2.size
  simp at hs2
  have Hc2 := Lib.hid hc2
  have HR2 := Lib.hid (own_blk ho2 hne HR1.out)
  have HG2 := Lib.hid (own_blk (g := w1.heap.size) ho2 (by omega) HG1.out)
  have Ho2 := Lib.hid (own_trans Ho1.out ho2)
  have hgw : w.heap.size ≤ w1.heap.size := by omega
  have hgl := lt_of_block HG2.out
  clear hc2 ho2 Hc1 HR1 HG1 Ho1
  by_cases q0 : y = 0
  · subst q0
    go_wp2_with fail
    refine (below_any B 15 _ Hc2.out (by omega) (by omega)).mono ?_
    rintro e w3 ⟨⟨z, z0, z1, rfl⟩, hc3, ho3⟩
    have hs3 := ho3.size
    have HR3 := own_blk ho3 hne HR2.out
    have HG3 := own_blk (g := w1.heap.size) ho3 (by omega) HG2.out
    have hgl3 := lt_of_block HG3
    obtain ⟨a0, a1, a2, a3⟩ := blk_cells HG3
    have fG := fun o => free_at HG3 o
    have HRf := Lib.hid (set1_blk (off := 0) (u := .int .i64 (z - 1)) (show w.heap.size ≠ w1.heap.size by omega) HR3)
    have Hcf := Lib.hid (hc3.own (C := w1.heap.size) (own_set (own_refl _ w3) 0 (.int .i64 (z - 1))) (by omega))
    have Hof := Lib.hid (own_dn (own_trans Ho2.out ho3) 0 (.int .i64 (z - 1)) hgw)
    have hi2 : -9223372036854775808 ≤ z - 1 ∧ z - 1 ≤ 9223372036854775807 := by omega
    obtain ⟨r0, r1, r2, r3⟩ := blk_cells HR3
    have fR := fun o => free_at HR3 o
    have hRl := lt_of_block HR3
    clear hc3 ho3 Hc2 HR2 HG2 Ho2 HR3 HG3 hgi
    go_wp2_with fail
    obtain ⟨k0', k1', k2', k3'⟩ := blk_cells (set4_at (u0 := .int .i64 (z - 1)) (u1 := .int .i64 g.a) (u2 := .int .i64 g.b) (u3 := .int .i64 g.c) HRf.out)
    refine bodyPost_ret (v := (.agg #[.int .i64 (z - 1), .int .i64 g.a, .int .i64 g.b, .int .i64 g.c])) (by simp only [results, Tryz.results55]; simp [go_sem, k0', k1', k2', k3']) rfl ⟨⟨⟨(z - 1), g.a, g.b, g.c⟩, rfl, hi2⟩, ?_, ?_⟩
    · exact Hcf.out.own (C := w.heap.size) (own_set (own_set (own_set (own_set (own_refl _ _) _ _) _ _) _ _) _ _) hB
    · exact own_dn (own_dn (own_dn (own_dn Hof.out _ _ (Nat.le_refl _)) _ _ (Nat.le_refl _)) _ _ (Nat.le_refl _)) _ _ (Nat.le_refl _)
  by_cases q1 : y = 1
  · subst q1
    obtain ⟨a0, a1, a2, a3⟩ := blk_cells HG2.out
    have Hc3 := Lib.hid (Hc2.out.below (w' := w2.alloc (.cells #[.int .i64 0, .int .i64 n, .int .i64 (-1), .int .i64 g.b] 3)) (C := w2.heap.size) (by go_grown) (by omega))
    have Hl3 := Lib.hid (show ListAt (w2.alloc (.cells #[.int .i64 0, .int .i64 n, .int .i64 (-1), .int .i64 g.b] 3)) w2.heap.size 4 (fun j => .int .i64 (([0, (n : Int), -1, g.b] : List Int).getD j 0)) from fun j hj => by
      have hb := heap_alloc_new w2 (.cells #[.int .i64 0, .int .i64 n, .int .i64 (-1), .int .i64 g.b] 3)
      rcases (show j = 0 ∨ j = 1 ∨ j = 2 ∨ j = 3 by omega) with rfl | rfl | rfl | rfl <;> exact cell_at hb _ _ rfl)
    have HR3 := Lib.hid (alloc_blk (.cells #[.int .i64 0, .int .i64 n, .int .i64 (-1), .int .i64 g.b] 3) HR2.out)
    have HG3 := Lib.hid (alloc_blk (.cells #[.int .i64 0, .int .i64 n, .int .i64 (-1), .int .i64 g.b] 3) HG2.out)
    have Ho3 := Lib.hid (own_alloc Ho2.out (.cells #[.int .i64 0, .int .i64 n, .int .i64 (-1), .int .i64 g.b] 3))
    clear Hc2 HR2 HG2 Ho2
    go_wp2_with fail
    refine (pickInt_any B w2.heap.size 4 _ (fun j => ([0, (n : Int), -1, g.b] : List Int).getD j 0) _ Hc3.out Hl3.out (by omega) (by omega) (by omega)).mono ?_
    rintro e w4 ⟨⟨q, hq, rfl⟩, hc4, ho4⟩
    clear a0 a1 a2 a3
    obtain ⟨z, hz⟩ : ∃ z, ([0, (n : Int), -1, g.b] : List Int).getD q 0 = z := ⟨_, rfl⟩
    simp only [hz]
    have HR4 := own_blk ho4 hne HR3.out
    have HG4 := own_blk (g := w1.heap.size) ho4 (by omega) HG3.out
    have hgl4 := lt_of_block HG4
    obtain ⟨a0, a1, a2, a3⟩ := blk_cells HG4
    have fG := fun o => free_at HG4 o
    have HRf := Lib.hid (set1_blk (off := 1) (u := .int .i64 z) (show w.heap.size ≠ w1.heap.size by omega) HR4)
    have Hcf := Lib.hid (hc4.own (C := w1.heap.size) (own_set (own_refl _ w4) 1 (.int .i64 z)) (by omega))
    have Hof := Lib.hid (own_dn (own_trans Ho3.out ho4) 1 (.int .i64 z) hgw)
    obtain ⟨r0, r1, r2, r3⟩ := blk_cells HR4
    have fR := fun o => free_at HR4 o
    have hRl := lt_of_block HR4
    clear hc4 ho4 Hc3 HR3 HG3 Ho3 HR4 HG4 Hl3 hz
    go_wp2_with fail
    obtain ⟨k0', k1', k2', k3'⟩ := blk_cells (set4_at (u0 := .int .i64 g.k) (u1 := .int .i64 z) (u2 := .int .i64 g.b) (u3 := .int .i64 g.c) HRf.out)
    refine bodyPost_ret (v := (.agg #[.int .i64 g.k, .int .i64 z, .int .i64 g.b, .int .i64 g.c])) (by simp only [results, Tryz.results55]; simp [go_sem, k0', k1', k2', k3']) rfl ⟨⟨⟨g.k, z, g.b, g.c⟩, rfl, hgi⟩, ?_, ?_⟩
    · exact Hcf.out.own (C := w.heap.size) (own_set (own_set (own_set (own_set (own_refl _ _) _ _) _ _) _ _) _ _) hB
    · exact own_dn (own_dn (own_dn (own_dn Hof.out _ _ (Nat.le_refl _)) _ _ (Nat.le_refl _)) _ _ (Nat.le_refl _)) _ _ (Nat.le_refl _)
  by_cases q2 : y = 2
  · subst q2
    obtain ⟨a0, a1, a2, a3⟩ := blk_cells HG2.out
    have Hc3 := Lib.hid (Hc2.out.below (w' := w2.alloc (.cells #[.int .i64 0, .int .i64 n, .int .i64 (-1), .int .i64 g.a] 3)) (C := w2.heap.size) (by go_grown) (by omega))
    have Hl3 := Lib.hid (show ListAt (w2.alloc (.cells #[.int .i64 0, .int .i64 n, .int .i64 (-1), .int .i64 g.a] 3)) w2.heap.size 4 (fun j => .int .i64 (([0, (n : Int), -1, g.a] : List Int).getD j 0)) from fun j hj => by
      have hb := heap_alloc_new w2 (.cells #[.int .i64 0, .int .i64 n, .int .i64 (-1), .int .i64 g.a] 3)
      rcases (show j = 0 ∨ j = 1 ∨ j = 2 ∨ j = 3 by omega) with rfl | rfl | rfl | rfl <;> exact cell_at hb _ _ rfl)
    have HR3 := Lib.hid (alloc_blk (.cells #[.int .i64 0, .int .i64 n, .int .i64 (-1), .int .i64 g.a] 3) HR2.out)
    have HG3 := Lib.hid (alloc_blk (.cells #[.int .i64 0, .int .i64 n, .int .i64 (-1), .int .i64 g.a] 3) HG2.out)
    have Ho3 := Lib.hid (own_alloc Ho2.out (.cells #[.int .i64 0, .int .i64 n, .int .i64 (-1), .int .i64 g.a] 3))
    clear Hc2 HR2 HG2 Ho2
    go_wp2_with fail
    refine (pickInt_any B w2.heap.size 4 _ (fun j => ([0, (n : Int), -1, g.a] : List Int).getD j 0) _ Hc3.out Hl3.out (by omega) (by omega) (by omega)).mono ?_
    rintro e w4 ⟨⟨q, hq, rfl⟩, hc4, ho4⟩
    clear a0 a1 a2 a3
    obtain ⟨z, hz⟩ : ∃ z, ([0, (n : Int), -1, g.a] : List Int).getD q 0 = z := ⟨_, rfl⟩
    simp only [hz]
    have HR4 := own_blk ho4 hne HR3.out
    have HG4 := own_blk (g := w1.heap.size) ho4 (by omega) HG3.out
    have hgl4 := lt_of_block HG4
    obtain ⟨a0, a1, a2, a3⟩ := blk_cells HG4
    have fG := fun o => free_at HG4 o
    have HRf := Lib.hid (set1_blk (off := 2) (u := .int .i64 z) (show w.heap.size ≠ w1.heap.size by omega) HR4)
    have Hcf := Lib.hid (hc4.own (C := w1.heap.size) (own_set (own_refl _ w4) 2 (.int .i64 z)) (by omega))
    have Hof := Lib.hid (own_dn (own_trans Ho3.out ho4) 2 (.int .i64 z) hgw)
    obtain ⟨r0, r1, r2, r3⟩ := blk_cells HR4
    have fR := fun o => free_at HR4 o
    have hRl := lt_of_block HR4
    clear hc4 ho4 Hc3 HR3 HG3 Ho3 HR4 HG4 Hl3 hz
    go_wp2_with fail
    obtain ⟨k0', k1', k2', k3'⟩ := blk_cells (set4_at (u0 := .int .i64 g.k) (u1 := .int .i64 g.a) (u2 := .int .i64 z) (u3 := .int .i64 g.c) HRf.out)
    refine bodyPost_ret (v := (.agg #[.int .i64 g.k, .int .i64 g.a, .int .i64 z, .int .i64 g.c])) (by simp only [results, Tryz.results55]; simp [go_sem, k0', k1', k2', k3']) rfl ⟨⟨⟨g.k, g.a, z, g.c⟩, rfl, hgi⟩, ?_, ?_⟩
    · exact Hcf.out.own (C := w.heap.size) (own_set (own_set (own_set (own_set (own_refl _ _) _ _) _ _) _ _) _ _) hB
    · exact own_dn (own_dn (own_dn (own_dn Hof.out _ _ (Nat.le_refl _)) _ _ (Nat.le_refl _)) _ _ (Nat.le_refl _)) _ _ (Nat.le_refl _)
  by_cases q3 : y = 3
  · subst q3
    obtain ⟨a0, a1, a2, a3⟩ := blk_cells HG2.out
    have Hc3 := Lib.hid (Hc2.out.below (w' := w2.alloc (.cells #[.int .i64 0, .int .i64 1, .int .i64 n, .int .i64 (-1)] 3)) (C := w2.heap.size) (by go_grown) (by omega))
    have Hl3 := Lib.hid (show ListAt (w2.alloc (.cells #[.int .i64 0, .int .i64 1, .int .i64 n, .int .i64 (-1)] 3)) w2.heap.size 4 (fun j => .int .i64 (([0, 1, (n : Int), -1] : List Int).getD j 0)) from fun j hj => by
      have hb := heap_alloc_new w2 (.cells #[.int .i64 0, .int .i64 1, .int .i64 n, .int .i64 (-1)] 3)
      rcases (show j = 0 ∨ j = 1 ∨ j = 2 ∨ j = 3 by omega) with rfl | rfl | rfl | rfl <;> exact cell_at hb _ _ rfl)
    have HR3 := Lib.hid (alloc_blk (.cells #[.int .i64 0, .int .i64 1, .int .i64 n, .int .i64 (-1)] 3) HR2.out)
    have HG3 := Lib.hid (alloc_blk (.cells #[.int .i64 0, .int .i64 1, .int .i64 n, .int .i64 (-1)] 3) HG2.out)
    have Ho3 := Lib.hid (own_alloc Ho2.out (.cells #[.int .i64 0, .int .i64 1, .int .i64 n, .int .i64 (-1)] 3))
    clear Hc2 HR2 HG2 Ho2
    go_wp2_with fail
    refine (pickInt_any B w2.heap.size 4 _ (fun j => ([0, 1, (n : Int), -1] : List Int).getD j 0) _ Hc3.out Hl3.out (by omega) (by omega) (by omega)).mono ?_
    rintro e w4 ⟨⟨q, hq, rfl⟩, hc4, ho4⟩
    clear a0 a1 a2 a3
    obtain ⟨z, hz⟩ : ∃ z, ([0, 1, (n : Int), -1] : List Int).getD q 0 = z := ⟨_, rfl⟩
    simp only [hz]
    have HR4 := own_blk ho4 hne HR3.out
    have HG4 := own_blk (g := w1.heap.size) ho4 (by omega) HG3.out
    have hgl4 := lt_of_block HG4
    obtain ⟨a0, a1, a2, a3⟩ := blk_cells HG4
    have fG := fun o => free_at HG4 o
    have HRf := Lib.hid (set1_blk (off := 3) (u := .int .i64 z) (show w.heap.size ≠ w1.heap.size by omega) HR4)
    have Hcf := Lib.hid (hc4.own (C := w1.heap.size) (own_set (own_refl _ w4) 3 (.int .i64 z)) (by omega))
    have Hof := Lib.hid (own_dn (own_trans Ho3.out ho4) 3 (.int .i64 z) hgw)
    obtain ⟨r0, r1, r2, r3⟩ := blk_cells HR4
    have fR := fun o => free_at HR4 o
    have hRl := lt_of_block HR4
    clear hc4 ho4 Hc3 HR3 HG3 Ho3 HR4 HG4 Hl3 hz
    go_wp2_with fail
    obtain ⟨k0', k1', k2', k3'⟩ := blk_cells (set4_at (u0 := .int .i64 g.k) (u1 := .int .i64 g.a) (u2 := .int .i64 g.b) (u3 := .int .i64 z) HRf.out)
    refine bodyPost_ret (v := (.agg #[.int .i64 g.k, .int .i64 g.a, .int .i64 g.b, .int .i64 z])) (by simp only [results, Tryz.results55]; simp [go_sem, k0', k1', k2', k3']) rfl ⟨⟨⟨g.k, g.a, g.b, z⟩, rfl, hgi⟩, ?_, ?_⟩
    · exact Hcf.out.own (C := w.heap.size) (own_set (own_set (own_set (own_set (own_refl _ _) _ _) _ _) _ _) _ _) hB
    · exact own_dn (own_dn (own_dn (own_dn Hof.out _ _ (Nat.le_refl _)) _ _ (Nat.le_refl _)) _ _ (Nat.le_refl _)) _ _ (Nat.le_refl _)
  have e0 : (y == 0) = false := by simpa using q0
  have e1 : (y == 1) = false := by simpa using q1
  have e2 : (y == 2) = false := by simpa using q2
  have e3 : (y == 3) = false := by simpa using q3
  obtain ⟨a0, a1, a2, a3⟩ := blk_cells HG2.out
  have HRf := HR2
  have Hcf := Hc2
  have Hof := Ho2
  obtain ⟨r0, r1, r2, r3⟩ := blk_cells HR2.out
  have fR := fun o => free_at HR2.out o
  have hRl := lt_of_block HR2.out
  clear Hc2 HR2 HG2 Ho2
  go_wp2_with fail
  obtain ⟨k0', k1', k2', k3'⟩ := blk_cells (set4_at (u0 := .int .i64 g.k) (u1 := .int .i64 g.a) (u2 := .int .i64 g.b) (u3 := .int .i64 g.c) HRf.out)
  refine bodyPost_ret (v := (.agg #[.int .i64 g.k, .int .i64 g.a, .int .i64 g.b, .int .i64 g.c])) (by simp only [results, Tryz.results55]; simp [go_sem, k0', k1', k2', k3']) rfl ⟨⟨⟨g.k, g.a, g.b, g.c⟩, rfl, hgi⟩, ?_, ?_⟩
  · exact Hcf.out.own (C := w.heap.size) (own_set (own_set (own_set (own_set (own_refl _ _) _ _) _ _) _ _) _ _) hB
  · exact own_dn (own_dn (own_dn (own_dn Hof.out _ _ (Nat.le_refl _)) _ _ (Nat.le_refl _)) _ _ (Nat.le_refl _)) _ _ (Nat.le_refl _)
end Go.Proofs.YtmpafidkpangeaaGreat
