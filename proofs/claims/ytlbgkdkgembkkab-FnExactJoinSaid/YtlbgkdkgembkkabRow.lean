/- Rows of strings. -/
import Derived.Test.YtlbgkdkgembkkabHeap
namespace Go.Proofs.Ytlbgkdkgembkkab
open Go.RowKit
/-- A row of n strings at the head of block b. -/
def StrRow (w : World) (b n : Nat) (f : Nat → ByteArray) : Prop := ∃ cs, w.heap[b]? = some (.cells cs 9 (0, 0)) ∧ ∀ j, j < n → cs[j]? = some (.string (f j))
theorem StrRow.cell {w : World} {b n : Nat} {f : Nat → ByteArray} (h : StrRow w b n f) {j : Nat} (hj : j < n) : w.cell? ⟨b, j, none⟩ = some (.string (f j)) := by
  obtain ⟨cs, h1, h2⟩ := h; exact cell_at h1 j _ (h2 j hj)
theorem StrRow.free {w : World} {b n : Nat} {f : Nat → ByteArray} (h : StrRow w b n f) (j : Nat) : w.frozen? ⟨b, j, none⟩ = false := by
  obtain ⟨cs, h1, h2⟩ := h; exact free_at h1 j
theorem StrRow.lt {w : World} {b n : Nat} {f : Nat → ByteArray} (h : StrRow w b n f) : b < w.heap.size := by
  obtain ⟨cs, h1, h2⟩ := h; exact lt_of_block h1
theorem StrRow.below {w w' : World} {b n B : Nat} {f : Nat → ByteArray} (h : StrRow w b n f) (hb : Below B w w') (hB : b < B) : StrRow w' b n f := by
  obtain ⟨cs, h1, h2⟩ := h; exact ⟨cs, by rw [hb.block b hB]; exact h1, h2⟩
theorem StrRow.own {w w' : World} {b n B : Nat} {f : Nat → ByteArray} (h : StrRow w b n f) (hb : Own B w w') (hB : b ≠ B) : StrRow w' b n f := by
  obtain ⟨cs, h1, h2⟩ := h; exact ⟨cs, by rw [hb.block b (lt_of_block h1) (by intro e; injection e with e; exact hB e)]; exact h1, h2⟩
theorem StrRow.set {w : World} {b n : Nat} {f : Nat → ByteArray} (h : StrRow w b n f) (j : Nat) (hj : j < n) (x : ByteArray) : StrRow (w.setCell ⟨b, j, none⟩ (.string x)) b n (fun t => if t = j then x else f t) := by
  obtain ⟨cs, h1, h2⟩ := h
  refine ⟨_, heap_set h1 j (.string x), fun t ht => ?_⟩
  have hsz : j < cs.size := by
    have := h2 j hj
    rcases Nat.lt_or_ge j cs.size with h' | h'
    · exact h'
    · rw [Array.getElem?_eq_none h'] at this; cases this
  rw [Array.getElem?_setIfInBounds]
  by_cases e : j = t
  · subst e; simp [hsz]
  · rw [if_neg e, h2 t ht]; simp [show ¬ t = j from fun h => e h.symm]
end Go.Proofs.Ytlbgkdkgembkkab
