/- Plain: validity of gates by the number of their qubits. -/
import Derived.Test.YtgicldokglpimaaBaseB08
namespace Go.Proofs.Ytgicldokglpimaa
open Go.RowKit
/-- areDistinctQubits. -/
def dqOk (l : List Int) (n : Int) (j : Nat) : Bool := decide (0 ≤ l.getD j 0 ∧ l.getD j 0 < n) && !decide (l.getD j 0 ∈ l.take j)
def dq (l : List Int) (n : Int) : Bool := (List.range l.length).all (dqOk l n)
theorem wrapN {n : Int} (h : 1 ≤ n ∧ n ≤ 4) : IntKind.i64.wrap (n - 1) = n - 1 := by
  rcases (show n = 1 ∨ n = 2 ∨ n = 3 ∨ n = 4 by omega) with rfl | rfl | rfl | rfl <;> decide +kernel
theorem range3 : List.range 3 = [0, 1, 2] := by decide
theorem range2 : List.range 2 = [0, 1] := by decide
theorem range1 : List.range 1 = [0] := by decide
theorem upTo (x n : Int) : decide (0 ≤ x ∧ x ≤ n - 1) = decide (0 ≤ x ∧ x < n) := decide_eq_decide.2 (by omega)
theorem gtB_no {g : Gt} {n : Int} (h : ¬ (1 ≤ n ∧ n ≤ 4)) : gtB g n = false := by unfold gtB; rw [decide_eq_false h]; simp
theorem gtB_zero {g : Gt} {n : Int} (h : ar g.k = 0) : gtB g n = false := by unfold gtB; rw [h]; simp
theorem gtB_1 {k a b c n : Int} (h : ar k = 1) (hn : 1 ≤ n ∧ n ≤ 4) : gtB ⟨k, a, b, c⟩ n = (decide (b = 0) && decide (c = 0) && dq [a] n) := by
  unfold gtB gtOk dq dqOk gqs
  simp only [h, wrapN hn, range3, List.length_cons, List.length_nil, Nat.zero_add, range1, List.all_cons, List.all_nil, decide_eq_true hn, upTo]
  simp [Bool.and_comm, Bool.and_left_comm]
theorem gtB_2 {k a b c n : Int} (h : ar k = 2) (hn : 1 ≤ n ∧ n ≤ 4) : gtB ⟨k, a, b, c⟩ n = (decide (c = 0) && dq [a, b] n) := by
  unfold gtB gtOk dq dqOk gqs
  simp only [h, wrapN hn, range3, List.length_cons, List.length_nil, Nat.zero_add, Nat.reduceAdd, range2, List.all_cons, List.all_nil, decide_eq_true hn, upTo]
  simp [Bool.and_comm, Bool.and_left_comm]
theorem gtB_3 {k a b c n : Int} (h : ar k = 3) (hn : 1 ≤ n ∧ n ≤ 4) : gtB ⟨k, a, b, c⟩ n = dq [a, b, c] n := by
  unfold gtB gtOk dq dqOk gqs
  simp only [h, wrapN hn, range3, List.length_cons, List.length_nil, Nat.zero_add, Nat.reduceAdd, List.all_cons, List.all_nil, decide_eq_true hn, upTo]
  simp
theorem gtB_parts {g : Gt} {n : Int} (h : gtB g n = true) : (1 ≤ n ∧ n ≤ 4) ∧ (1 ≤ g.k ∧ g.k ≤ 12) ∧ (0 ≤ g.a ∧ g.a < n) ∧ (0 ≤ g.b ∧ g.b < n) ∧ 0 ≤ g.c ∧ g.c < n := by
  unfold gtB at h
  simp only [Bool.and_eq_true, decide_eq_true_eq] at h
  obtain ⟨hall, hpos, hn⟩ := h
  have hw : IntKind.i64.wrap (n - 1) = n - 1 := by rw [IntKind.wrap_i64]; omega
  rw [hw, List.all_eq_true] at hall
  have hk : 1 ≤ g.k ∧ g.k ≤ 12 := by
    unfold ar at hpos
    repeat' split at hpos
    all_goals omega
  have key : ∀ j, j < 3 → 0 ≤ [g.a, g.b, g.c].getD j 0 ∧ [g.a, g.b, g.c].getD j 0 < n := fun j hj => by
    have h := hall j (List.mem_range.2 hj)
    unfold gtOk at h
    split at h
    · have := of_decide_eq_true h; omega
    · rw [Bool.and_eq_true] at h
      have := of_decide_eq_true h.1
      omega
  exact ⟨hn, hk, key 0 (by omega), key 1 (by omega), key 2 (by omega)⟩
end Go.Proofs.Ytgicldokglpimaa
