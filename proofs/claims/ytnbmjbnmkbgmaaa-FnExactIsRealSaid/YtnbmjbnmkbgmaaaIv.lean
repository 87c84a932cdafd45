/- InvSqrt2Power, of the program and of its model. -/
import Derived.Test.YtnbmjbnmkbgmaaaDwW
import Derived.Test.YtnbmjbnmkbgmaaaDwN
namespace Go.Proofs.Ytnbmjbnmkbgmaaa
open Go.RowKit
/-- 1 over the k-th power of the root of 2, or zero past the limits. -/
def isV (k : Int) : Dw := if 0 ≤ k ∧ k ≤ 60 then ⟨⟨1, 0, 0, 0⟩, k⟩ else .zero
theorem isV_new (k : Int) : newV ⟨1, 0, 0, 0⟩ k = isV k := by
  have hd : divB ⟨1, 0, 0, 0⟩ = false := by decide
  have hr : ∀ n : Nat, red n ⟨1, 0, 0, 0⟩ = (⟨1, 0, 0, 0⟩, n) := by
    intro n
    cases n with
    | zero => rfl
    | succ n => unfold red; rw [hd]; rfl
  by_cases h : 0 ≤ k ∧ k ≤ 60
  · have hb : newB ⟨1, 0, 0, 0⟩ k = true := newB_iff.2 ⟨by decide, h.1, by omega, by rw [hr]; show k.toNat ≤ 60; omega⟩
    rw [newV_of hb, hr, show isV k = ⟨⟨1, 0, 0, 0⟩, k⟩ from if_pos h]
    simp only [Dw.mk.injEq, true_and]
    omega
  · have hb : newB ⟨1, 0, 0, 0⟩ k = false := by
      rw [Bool.eq_false_iff]
      intro hb
      obtain ⟨_, h0, h1, h2⟩ := newB_iff.1 hb
      rw [hr] at h2
      exact h ⟨h0, by have : k.toNat ≤ 60 := h2; omega⟩
    rw [show isV k = .zero from if_neg h, newV, if_neg (by rw [hb]; decide)]
attribute [local irreducible] World.cell?
end Go.Proofs.Ytnbmjbnmkbgmaaa
