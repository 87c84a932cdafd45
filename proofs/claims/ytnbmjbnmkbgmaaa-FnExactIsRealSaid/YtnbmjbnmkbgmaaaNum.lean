/- Plain numbers: the decimal digits from the last one on. -/
import Derived.Lib.ItoaNum
namespace Go.Proofs.Ytnbmjbnmkbgmaaa
open Go.Lib
/-- The digits of u that a loop still has to write: none for 0. -/
def digs (u : Nat) : List UInt8 := if u = 0 then [] else decDigits u
theorem digs_zero : digs 0 = [] := rfl
theorem digs_pos {u : Nat} (h : u ≠ 0) : digs u = decDigits u := by unfold digs; rw [if_neg h]
theorem digs_step {u : Nat} (h : u ≠ 0) : digs u = digs (u / 10) ++ [UInt8.ofNat (48 + u % 10)] := by
  rw [digs_pos h, decDigits]
  by_cases h1 : u < 10
  · rw [dif_pos h1, show u / 10 = 0 by omega, digs_zero, show u % 10 = u by omega]; rfl
  · rw [dif_neg h1, digs_pos (by omega)]
theorem digs_next {u : Nat} (h : u ≠ 0) (l : List UInt8) : digs (u / 10) ++ (UInt8.ofNat (48 + u % 10) :: l) = digs u ++ l := by
  rw [digs_step h]; simp
theorem digs_length (u : Nat) : (digs u).length ≤ u := by
  induction u using Nat.strongRecOn with
  | _ u ih =>
    by_cases h : u = 0
    · subst h; simp [digs]
    · rw [digs_step h]; have := ih (u / 10) (by omega); simp; omega
theorem digs_length' (u : Nat) : (digs u).length ≤ u / 10 + 1 := by
  by_cases h : u = 0
  · subst h; simp [digs]
  · rw [digs_step h]; have := digs_length (u / 10); simp; omega
theorem neg_tmod (u : Nat) : (-(u : Int)).tmod 10 = -((u % 10 : Nat) : Int) := by
  rw [Int.neg_tmod, Int.tmod_eq_emod_of_nonneg (by omega)]; omega
theorem neg_tdiv (u : Nat) : (-(u : Int)).tdiv 10 = -((u / 10 : Nat) : Int) := by
  rw [Int.neg_tdiv, Int.tdiv_eq_ediv_of_nonneg (by omega)]; omega
end Go.Proofs.Ytnbmjbnmkbgmaaa
