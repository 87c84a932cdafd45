/- Bounds of the exponents; what the laws of D[omega] say of what the functions return. -/
import Derived.Test.YtbohbhhgmglcdaaDwA
import Derived.Test.YtbohbhhgmglcdaaDwB
import Derived.Test.YtbohbhhgmglcdaaDwN
namespace Go.Proofs.Ytbohbhhgmglcdaa
def EB (x : Dw) : Prop := -9223372036854775808 ≤ x.e ∧ x.e ≤ 9223372036854775807
theorem eb_ok {x : Dw} (h : x.ok) : EB x := by have := h.2; unfold EB; omega
theorem eb_zero : EB .zero := ⟨(by decide : (-9223372036854775808 : Int) ≤ 0), (by decide : (0 : Int) ≤ 9223372036854775807)⟩
theorem eb_add (x y : Dw) : EB (dAddV x y) := by
  cases h : dAddB x y
  · rw [dAddV_no h]; exact eb_zero
  · exact eb_ok (dAddV_ok h)
theorem eb_mul (x y : Dw) : EB (dMulV x y) := by
  cases h : dMulB x y
  · rw [dMulV_no h]; exact eb_zero
  · exact eb_ok (dMulV_ok h)
theorem eb_new (n : Zw) (k : Int) : EB (newV n k) := by
  cases h : newB n k
  · rw [show newV n k = .zero from if_neg (by simp [h])]; exact eb_zero
  · exact eb_ok (newV_ok h)
theorem eb_neg (x : Dw) : EB (dNegV x) := by
  by_cases h : x.ok
  · rw [show dNegV x = x.neg from if_pos h]; exact eb_ok (dneg_ok.2 h)
  · rw [dNeg_no h]; exact eb_zero
theorem eb_conj (x : Dw) : EB (dConjV x) := by
  by_cases h : x.ok
  · rw [show dConjV x = x.conj from if_pos h]; exact eb_ok (dconj_ok.2 h)
  · rw [dConj_no h]; exact eb_zero
theorem eb_one : EB oneD := eb_ok oneD_ok
/-- A reduced fraction times the root of 2, over the root of 2 once more. -/
theorem new_up {n : Zw} {k : Int} (h : newB n k = true) (hm : mulB n rootE = true) (hk : k < 120) : newB (mulV n rootE) (k + 1) = true ∧ newV (mulV n rootE) (k + 1) = newV n k := by
  obtain ⟨h1, h2, h3, h4⟩ := newB_iff.1 h
  obtain ⟨m1, m2, m3⟩ := mulB_iff.1 hm
  have hv : mulV n rootE = n.root := by rw [mulV, if_pos ⟨m1, m2, m3⟩, mul_rootE]
  have hr := root_back hm
  rw [hv] at hr ⊢
  have e : (k + 1).toNat = k.toNat + 1 := by omega
  have hred : red (k + 1).toNat n.root = red k.toNat n := by rw [e, red, if_pos hr.1, hr.2]
  have hro : n.root.ok := by rw [mul_rootE] at m3; exact m3
  have hb : newB n.root (k + 1) = true := newB_iff.2 ⟨hro, by omega, by omega, by rw [hred]; exact h4⟩
  exact ⟨hb, by rw [newV_of hb, newV_of h, hred]⟩
end Go.Proofs.Ytbohbhhgmglcdaa
