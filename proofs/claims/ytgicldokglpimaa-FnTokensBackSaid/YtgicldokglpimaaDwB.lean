/- The product in D[omega], of the program and of its model. -/
import Derived.Test.YtgicldokglpimaaBaseB07
namespace Go.Proofs.Ytgicldokglpimaa
open Go.RowKit
attribute [local irreducible] World.cell?
theorem dMul_false {x y : Dw} (h : ¬ (x.ok ∧ y.ok ∧ mulB x.n y.n = true)) : dMulV x y = .zero ∧ dMulB x y = false := by
  have hb : dMulB x y = false := by
    rw [Bool.eq_false_iff]; intro k; have := dMulB_iff.1 k; exact h ⟨this.1, this.2.1, this.2.2.1⟩
  exact ⟨dMulV_no hb, hb⟩
theorem dMul_true {x y : Dw} (hx : x.ok) (hy : y.ok) (h : mulB x.n y.n = true) : dMulV x y = newV (mulV x.n y.n) (x.e + y.e) ∧ dMulB x y = newB (mulV x.n y.n) (x.e + y.e) := by
  have e : mulV x.n y.n = x.n.mul y.n := by rw [mulV, if_pos (mulB_iff.1 h)]
  have hb : dMulB x y = newB (x.n.mul y.n) (x.e + y.e) := by
    rw [Bool.eq_iff_iff, dMulB_iff]; exact ⟨fun k => k.2.2.2, fun k => ⟨hx, hy, h, k⟩⟩
  rw [e]
  exact ⟨by rw [dMulV, hb]; split <;> simp_all [newV], hb⟩
end Go.Proofs.Ytgicldokglpimaa
