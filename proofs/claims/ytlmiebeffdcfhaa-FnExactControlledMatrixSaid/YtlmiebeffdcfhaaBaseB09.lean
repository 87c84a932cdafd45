/- BaseB09: several of our texts in one: DcP GtP. -/
import Derived.Test.YtlmiebeffdcfhaaBaseB08
namespace Go.Proofs.Ytlmiebeffdcfhaa
/-- DecomposeGate; DecomposeGates. -/
def dcG (g : Gt) : List Gt :=
  if g.k = 10 then [⟨4, g.b, 0, 0⟩, ⟨9, g.a, g.b, 0⟩, ⟨4, g.b, 0, 0⟩]
  else if g.k = 11 then [⟨9, g.a, g.b, 0⟩, ⟨9, g.b, g.a, 0⟩, ⟨9, g.a, g.b, 0⟩]
  else if g.k = 12 then [⟨4, g.c, 0, 0⟩, ⟨9, g.b, g.c, 0⟩, ⟨8, g.c, 0, 0⟩, ⟨9, g.a, g.c, 0⟩, ⟨7, g.c, 0, 0⟩, ⟨9, g.b, g.c, 0⟩, ⟨8, g.c, 0, 0⟩, ⟨9, g.a, g.c, 0⟩, ⟨7, g.b, 0, 0⟩, ⟨7, g.c, 0, 0⟩, ⟨4, g.c, 0, 0⟩, ⟨9, g.a, g.b, 0⟩, ⟨7, g.a, 0, 0⟩, ⟨8, g.b, 0, 0⟩, ⟨9, g.a, g.b, 0⟩]
  else [g]
def dcL (L : List Gt) : List Gt := L.flatMap dcG
theorem dcG_at {k a b c : Int} : (k = 10 → dcG ⟨k, a, b, c⟩ = [⟨4, b, 0, 0⟩, ⟨9, a, b, 0⟩, ⟨4, b, 0, 0⟩]) ∧ (k = 11 → dcG ⟨k, a, b, c⟩ = [⟨9, a, b, 0⟩, ⟨9, b, a, 0⟩, ⟨9, a, b, 0⟩]) ∧
    (k = 12 → dcG ⟨k, a, b, c⟩ = [⟨4, c, 0, 0⟩, ⟨9, b, c, 0⟩, ⟨8, c, 0, 0⟩, ⟨9, a, c, 0⟩, ⟨7, c, 0, 0⟩, ⟨9, b, c, 0⟩, ⟨8, c, 0, 0⟩, ⟨9, a, c, 0⟩] ++ [⟨7, b, 0, 0⟩, ⟨7, c, 0, 0⟩, ⟨4, c, 0, 0⟩, ⟨9, a, b, 0⟩, ⟨7, a, 0, 0⟩, ⟨8, b, 0, 0⟩, ⟨9, a, b, 0⟩]) ∧
    (k ≠ 10 → k ≠ 11 → k ≠ 12 → dcG ⟨k, a, b, c⟩ = [⟨k, a, b, c⟩]) :=
  ⟨fun h => by subst h; rfl, fun h => by subst h; rfl, fun h => by subst h; rfl, fun h1 h2 h3 => by unfold dcG; rw [if_neg (by simpa using h1), if_neg (by simpa using h2), if_neg (by simpa using h3)]⟩
theorem dcG_len (g : Gt) : 1 ≤ (dcG g).length ∧ (dcG g).length ≤ 15 := by
  unfold dcG
  repeat' split
  all_goals (simp)
theorem dcL_len : ∀ L : List Gt, (dcL L).length ≤ 15 * L.length
  | [] => Nat.le_refl _
  | g :: L => by
    have h1 := dcL_len L
    have h2 := (dcG_len g).2
    rw [show dcL (g :: L) = dcG g ++ dcL L from rfl, List.length_append, List.length_cons]
    omega
theorem dcL_step {L : List Gt} {j : Nat} {x : Gt} (hx : L[j]? = some x) : dcL (L.take (j + 1)) = dcL (L.take j) ++ dcG x := by
  unfold dcL
  rw [List.take_add_one, hx, List.flatMap_append]
  simp
theorem dcL_take (L : List Gt) (j : Nat) : (dcL (L.take j)).length ≤ 15 * j := by
  have h1 := dcL_len (L.take j)
  rw [List.length_take] at h1
  omega
/-- IsBasicGate. -/
def bsG (g : Gt) : Bool := decide (ar g.k = 1) || decide (g.k = 9)
end Go.Proofs.Ytlmiebeffdcfhaa
namespace Go.Proofs.Ytlmiebeffdcfhaa
open Go.RowKit
/-- areDistinctQubits. -/
def dqOk (l : List Int) (n : Int) (j : Nat) : Bool := decide (0 ≤ l.getD j 0 ∧ l.getD j 0 < n) && !decide (l.getD j 0 ∈ l.take j)
def dq (l : List Int) (n : Int) : Bool := (List.range l.length).all (dqOk l n)
theorem wrapN {n : Int} (h : 1 ≤ n ∧ n ≤ 4) : IntKind.i64.wrap (n - 1) = n - 1 := by
  rcases (show n = 1 ∨ n = 2 ∨ n = 3 ∨ n = 4 by omega) with rfl | rfl | rfl | rfl <;> decide +kernel
theorem range3 : List.range 3 = [0, 1, 2] := by decide
theorem range2 : List.range 2 = [0, 1] := by decide
theorem range1 : List.range 1 = [0] := by decide
theorem upTo (x n : Int) : decide (0 ≤ x ∧ x ≤ n - 1) = decide (0 ≤ x ∧ x < n) := decide_eq_decide.2 (by omega)
theorem gtB_no {g : Gt} {n : Int} (h : ¬ (1 ≤ n ∧ n ≤ 4)) : gtB g n = false := by unfold gtB; rw [decide_eq_false h]; simp
theorem gtB_zero {g : Gt} {n : Int} (h : ar g.k = 0) : gtB g n = false := by unfold gtB; rw [h]; simp
theorem gtB_1 {k a b c n : Int} (h : ar k = 1) (hn : 1 ≤ n ∧ n ≤ 4) : gtB ⟨k, a, b, c⟩ n = (decide (b = 0) && decide (c = 0) && dq [a] n) := by
  unfold gtB gtOk dq dqOk gqs
  simp only [h, wrapN hn, range3, List.length_cons, List.length_nil, Nat.zero_add, range1, List.all_cons, List.all_nil, decide_eq_true hn, upTo]
  simp [Bool.and_comm, Bool.and_left_comm]
theorem gtB_2 {k a b c n : Int} (h : ar k = 2) (hn : 1 ≤ n ∧ n ≤ 4) : gtB ⟨k, a, b, c⟩ n = (decide (c = 0) && dq [a, b] n) := by
  unfold gtB gtOk dq dqOk gqs
  simp only [h, wrapN hn, range3, List.length_cons, List.length_nil, Nat.zero_add, Nat.reduceAdd, range2, List.all_cons, List.all_nil, decide_eq_true hn, upTo]
  simp [Bool.and_comm, Bool.and_left_comm]
theorem gtB_3 {k a b c n : Int} (h : ar k = 3) (hn : 1 ≤ n ∧ n ≤ 4) : gtB ⟨k, a, b, c⟩ n = dq [a, b, c] n := by
  unfold gtB gtOk dq dqOk gqs
  simp only [h, wrapN hn, range3, List.length_cons, List.length_nil, Nat.zero_add, Nat.reduceAdd, List.all_cons, List.all_nil, decide_eq_true hn, upTo]
  simp
theorem gtB_parts {g : Gt} {n : Int} (h : gtB g n = true) : (1 ≤ n ∧ n ≤ 4) ∧ (1 ≤ g.k ∧ g.k ≤ 12) ∧ (0 ≤ g.a ∧ g.a < n) ∧ (0 ≤ g.b ∧ g.b < n) ∧ 0 ≤ g.c ∧ g.c < n := by
  unfold gtB at h
  simp only [Bool.and_eq_true, decide_eq_true_eq] at h
  obtain ⟨hall, hpos, hn⟩ := h
  have hw : IntKind.i64.wrap (n - 1) = n - 1 := by rw [IntKind.wrap_i64]; omega
  rw [hw, List.all_eq_true] at hall
  have hk : 1 ≤ g.k ∧ g.k ≤ 12 := by
    unfold ar at hpos
    repeat' split at hpos
    all_goals omega
  have key : ∀ j, j < 3 → 0 ≤ [g.a, g.b, g.c].getD j 0 ∧ [g.a, g.b, g.c].getD j 0 < n := fun j hj => by
    have h := hall j (List.mem_range.2 hj)
    unfold gtOk at h
    split at h
    · have := of_decide_eq_true h; omega
    · rw [Bool.and_eq_true] at h
      have := of_decide_eq_true h.1
      omega
  exact ⟨hn, hk, key 0 (by omega), key 1 (by omega), key 2 (by omega)⟩
end Go.Proofs.Ytlmiebeffdcfhaa
