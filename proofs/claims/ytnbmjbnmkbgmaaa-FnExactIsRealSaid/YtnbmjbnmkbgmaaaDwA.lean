/- The sum in D[omega], of the program and of its model. -/
import Derived.Test.YtnbmjbnmkbgmaaaDwU
namespace Go.Proofs.Ytnbmjbnmkbgmaaa
open Go.RowKit
attribute [local irreducible] World.cell?
/-- Both numerators over the larger exponent, and their sum. -/
def upA (x y : Dw) : Zw := upV (topE x y - x.e).toNat x.n
def upC (x y : Dw) : Zw := upV (topE x y - y.e).toNat y.n
def upAB (x y : Dw) : Bool := upB (topE x y - x.e).toNat x.n
def upCB (x y : Dw) : Bool := upB (topE x y - y.e).toNat y.n
theorem dAdd_false {x y : Dw} (h : ¬ (x.ok ∧ y.ok ∧ (upAB x y && (upCB x y && addB (upA x y) (upC x y))) = true)) : dAddV x y = .zero ∧ dAddB x y = false := by
  have hb : dAddB x y = false := by
    rw [Bool.eq_false_iff]; intro k
    obtain ⟨k0, k1, k2, k3, k4, k5⟩ := dAddB_iff.1 k
    refine h ⟨k0, k1, ?_⟩
    rw [show upA x y = numA x y from upV_of k2, show upC x y = numB x y from upV_of k3, k4]
    simp [upAB, upCB, k2, k3]
  exact ⟨dAddV_no hb, hb⟩
theorem dAdd_true {x y : Dw} (hx : x.ok) (hy : y.ok) (h1 : upAB x y = true) (h2 : upCB x y = true) (h3 : addB (upA x y) (upC x y) = true) :
    dAddV x y = newV (addV (upA x y) (upC x y)) (topE x y) ∧ dAddB x y = newB (addV (upA x y) (upC x y)) (topE x y) := by
  rw [show upA x y = numA x y from upV_of h1, show upC x y = numB x y from upV_of h2] at *
  have e : addV (numA x y) (numB x y) = (numA x y).add (numB x y) := by rw [addV, if_pos (addB_iff.1 h3)]
  have hb : dAddB x y = newB ((numA x y).add (numB x y)) (topE x y) := by
    rw [Bool.eq_iff_iff, dAddB_iff]; exact ⟨fun k => k.2.2.2.2.2, fun k => ⟨hx, hy, h1, h2, h3, k⟩⟩
  rw [e]
  exact ⟨by rw [dAddV, hb]; split <;> simp_all [newV], hb⟩
end Go.Proofs.Ytnbmjbnmkbgmaaa
