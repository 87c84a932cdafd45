/- IsValidDOmega, of the program and of its model. -/
import Derived.Test.YtgknokaibgckkaaDoorDwX
import Derived.Test.YtgknokaibgckkaaDoorDwE
namespace Go.Proofs.YtgknokaibgckkaaDoor
open Go.RowKit
attribute [local irreducible] World.cell?
def okD (x : Dw) : Bool := decide x.ok
theorem okD_true {x : Dw} : okD x = true ↔ x.ok := by simp [okD]
theorem okD_false {x : Dw} : okD x = false ↔ ¬ x.ok := by simp [okD]
theorem okD_self (x : Dw) : okD x = (newB x.n x.e && eqDB (newV x.n x.e) x) := by
  rw [Bool.eq_iff_iff, Bool.and_eq_true, okD_true]
  refine ⟨fun h => ⟨(newV_self h).1, eqDB_iff.2 (newV_self h).2⟩, ?_⟩
  rintro ⟨h1, h2⟩
  have := newV_ok h1
  rw [eqDB_iff.1 h2] at this
  exact this
theorem okD_parts (x : Dw) : okD x = (okB x.n && (decide (0 ≤ x.e ∧ x.e ≤ 60) && (!divB x.n || decide (x.e = 0)))) := by
  rw [Bool.eq_iff_iff, okD_true]
  simp only [Bool.and_eq_true, Bool.or_eq_true, Bool.not_eq_true', decide_eq_true_eq, okB_true, Dw.ok]
  constructor
  · rintro ⟨h1, h2, h3, h4⟩; exact ⟨h1, ⟨h2, h3⟩, h4.symm⟩
  · rintro ⟨h1, ⟨h2, h3⟩, h4⟩; exact ⟨h1, h2, h3, h4.symm⟩
end Go.Proofs.YtgknokaibgckkaaDoor
