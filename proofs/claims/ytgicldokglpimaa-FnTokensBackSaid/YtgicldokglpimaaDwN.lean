/- The negative and the conjugate in D[omega], of the program and of its model; one; the laws' own helpers. -/
import Derived.Test.YtgicldokglpimaaBaseB07
import Derived.Test.YtgicldokglpimaaZwF
namespace Go.Proofs.Ytgicldokglpimaa
open Go.RowKit
attribute [local irreducible] World.cell?
theorem dNeg_of {x : Dw} (h : x.ok) : dNegV x = ⟨negV x.n, x.e⟩ := by rw [dNegV, if_pos h, negV, if_pos h.1]; rfl
theorem dConj_of {x : Dw} (h : x.ok) : dConjV x = ⟨conjV x.n, x.e⟩ := by rw [dConjV, if_pos h, conjV, if_pos h.1]; rfl
theorem dNeg_no {x : Dw} (h : ¬ x.ok) : dNegV x = .zero := if_neg h
theorem dConj_no {x : Dw} (h : ¬ x.ok) : dConjV x = .zero := if_neg h
end Go.Proofs.Ytgicldokglpimaa
