/- The model's GateKind. -/
import Derived.Test.YtgicldokglpimaaTcP
namespace Go.Proofs.Ytgicldokglpimaa
open Go.RowKit Go.Lib
theorem bytes_no {a b : ByteArray} (h : a ≠ b) : (a.toList == b.toList) = false := by
  rw [Bool.eq_false_iff]
  intro k
  have k := eq_of_beq k
  rw [ByteArray.toList_eq, ByteArray.toList_eq] at k
  exact h (ByteArray.ext (Array.toList_inj.1 k))
theorem bytes_yes (a : ByteArray) : (a.toList == a.toList) = true := beq_self_eq_true _
theorem gkV_miss {s : ByteArray} (h : ∀ m : Nat, 1 ≤ m → m < 13 → nmB (m : Int) ≠ s) : gkV s = 0 := by
  rcases gkV_range s with e | ⟨h1, h2, h3⟩
  · exact e
  · exact absurd h3 (by
      have := h (gkV s).toNat (by omega) (by omega)
      rwa [show (((gkV s).toNat : Nat) : Int) = gkV s by omega] at this)
attribute [local irreducible] World.cell?
end Go.Proofs.Ytgicldokglpimaa
