/- BaseB03: several of our texts in one: ZwDraw ZwDraw2 DwM2. -/
import Derived.Test.YtckfklpgnneodaaBaseB02
import Derived.Test.YtckfklpgnneodaaBaseB01
import Derived.Test.YtckfklpgnneodaaZwS
namespace Go.Proofs.Ytckfklpgnneodaa
open Go.RowKit
attribute [local irreducible] World.cell?
theorem own_blk {B g : Nat} {W w1 : World} {o : Obj} (h : Own B W w1) (hn : g ≠ B) (hk : W.heap[g]? = some o) : w1.heap[g]? = some o := by
  rw [h.block g (lt_of_block hk) (by intro e; injection e with e; exact hn e)]; exact hk
theorem alloc_blk {g : Nat} {W : World} {o : Obj} (p : Obj) (hk : W.heap[g]? = some o) : (W.alloc p).heap[g]? = some o := by
  rw [Below.heap_alloc _ _ _ (lt_of_block hk)]; exact hk
/-- The cells of a block read as a list. -/
theorem zlist_at {w : World} {b : Nat} {cs : Array Value} {t : TypeId} (h : w.heap[b]? = some (.cells cs t (0, 0))) (n : Nat) (f : Nat → Value) (hf : ∀ j, j < n → cs[j]? = some (f j)) : ListAt w b n f := fun j hj => cell_at h j _ (hf j hj)
end Go.Proofs.Ytckfklpgnneodaa
namespace Go.Proofs.Ytckfklpgnneodaa
open Go.RowKit
attribute [local irreducible] World.cell?
theorem below_blk {B g : Nat} {W w1 : World} {o : Obj} (h : Below B W w1) (hg : g < B) (hk : W.heap[g]? = some o) : w1.heap[g]? = some o := by
  rw [h.block g hg]; exact hk
theorem set4_at {g : Nat} {W : World} {t : TypeId} {z0 z1 z2 z3 u0 u1 u2 u3 : Value} (h : W.heap[g]? = some (.cells #[z0, z1, z2, z3] t (0, 0))) :
    ((((W.setCell ⟨g, 0, none⟩ u0).setCell ⟨g, 1, none⟩ u1).setCell ⟨g, 2, none⟩ u2).setCell ⟨g, 3, none⟩ u3).heap[g]? = some (.cells #[u0, u1, u2, u3] t (0, 0)) :=
  heap_set (heap_set (heap_set (heap_set h 0 u0) 1 u1) 2 u2) 3 u3
theorem blk_cells {g : Nat} {W : World} {t : TypeId} {z0 z1 z2 z3 : Value} (h : W.heap[g]? = some (.cells #[z0, z1, z2, z3] t (0, 0))) :
    W.cell? ⟨g, 0, none⟩ = some z0 ∧ W.cell? ⟨g, 1, none⟩ = some z1 ∧ W.cell? ⟨g, 2, none⟩ = some z2 ∧ W.cell? ⟨g, 3, none⟩ = some z3 :=
  ⟨cell_at h 0 _ rfl, cell_at h 1 _ rfl, cell_at h 2 _ rfl, cell_at h 3 _ rfl⟩
end Go.Proofs.Ytckfklpgnneodaa
namespace Go.Proofs.Ytckfklpgnneodaa
theorem rootN_comm (j k : Nat) (x : Zw) : rootN j (rootN k x) = rootN k (rootN j x) := by
  rw [← rootN_add, ← rootN_add, Nat.add_comm]
/-- n is multiplied by the root k times within the limit. -/
def upB : Nat → Zw → Bool
  | 0, _ => true
  | k + 1, n => mulB n rootE && upB k n.root
/-- The larger exponent. -/
def topE (x y : Dw) : Int := if y.e < x.e then x.e else y.e
theorem topE_le (x y : Dw) : x.e ≤ topE x y ∧ y.e ≤ topE x y ∧ (topE x y = x.e ∨ topE x y = y.e) := by unfold topE; split <;> omega
/-- The two numerators over the larger exponent. -/
def numA (x y : Dw) : Zw := rootN (topE x y - x.e).toNat x.n
def numB (x y : Dw) : Zw := rootN (topE x y - y.e).toNat y.n
def dAddB (x y : Dw) : Bool := decide (x.ok ∧ y.ok) && upB (topE x y - x.e).toNat x.n && upB (topE x y - y.e).toNat y.n && addB (numA x y) (numB x y) && newB ((numA x y).add (numB x y)) (topE x y)
def dAddV (x y : Dw) : Dw := if dAddB x y then newV ((numA x y).add (numB x y)) (topE x y) else .zero
def dMulB (x y : Dw) : Bool := decide (x.ok ∧ y.ok) && mulB x.n y.n && newB (x.n.mul y.n) (x.e + y.e)
def dMulV (x y : Dw) : Dw := if dMulB x y then newV (x.n.mul y.n) (x.e + y.e) else .zero
def Dw.neg (x : Dw) : Dw := ⟨x.n.neg, x.e⟩
def dNegV (x : Dw) : Dw := if x.ok then x.neg else .zero
theorem dAddB_iff {x y : Dw} : dAddB x y = true ↔ x.ok ∧ y.ok ∧ upB (topE x y - x.e).toNat x.n = true ∧ upB (topE x y - y.e).toNat y.n = true ∧ addB (numA x y) (numB x y) = true ∧ newB ((numA x y).add (numB x y)) (topE x y) = true := by
  simp [dAddB, and_assoc]
theorem dMulB_iff {x y : Dw} : dMulB x y = true ↔ x.ok ∧ y.ok ∧ mulB x.n y.n = true ∧ newB (x.n.mul y.n) (x.e + y.e) = true := by
  simp [dMulB, and_assoc]
theorem dAddV_of {x y : Dw} (h : dAddB x y = true) : dAddV x y = newV ((numA x y).add (numB x y)) (topE x y) := if_pos h
theorem dMulV_of {x y : Dw} (h : dMulB x y = true) : dMulV x y = newV (x.n.mul y.n) (x.e + y.e) := if_pos h
theorem dAddV_ok {x y : Dw} (h : dAddB x y = true) : (dAddV x y).ok := by rw [dAddV_of h]; exact newV_ok (dAddB_iff.1 h).2.2.2.2.2
theorem dMulV_ok {x y : Dw} (h : dMulB x y = true) : (dMulV x y).ok := by rw [dMulV_of h]; exact newV_ok (dMulB_iff.1 h).2.2.2
/-- s has the value of x + y; p that of x * y. -/
def Adds (s x y : Dw) : Prop := rootN (x.e.toNat + y.e.toNat) s.n = rootN s.e.toNat ((rootN y.e.toNat x.n).add (rootN x.e.toNat y.n))
def Muls (p x y : Dw) : Prop := rootN (x.e.toNat + y.e.toNat) p.n = rootN p.e.toNat (x.n.mul y.n)
theorem adds_of {x y : Dw} (h : dAddB x y = true) : Adds (dAddV x y) x y := by
  obtain ⟨hx, hy, _, _, _, hn⟩ := dAddB_iff.1 h
  have hs := newV_same hn
  rw [← dAddV_of h] at hs
  unfold Same at hs
  have hx0 := hx.2.1
  have hy0 := hy.2.1
  have ht := topE_le x y
  generalize hT : topE x y = T at *
  have hA : numA x y = rootN (T.toNat - x.e.toNat) x.n := by unfold numA; rw [hT]; congr 1; omega
  have hB : numB x y = rootN (T.toNat - y.e.toNat) y.n := by unfold numB; rw [hT]; congr 1; omega
  rw [hA, hB] at hs
  unfold Adds
  apply rootN_inj (k := T.toNat)
  rw [rootN_comm, hs, rootN_comm (x.e.toNat + y.e.toNat), rootN_comm T.toNat]
  congr 1
  rw [rootN_addZ, rootN_addZ, ← rootN_add, ← rootN_add, ← rootN_add, ← rootN_add]
  congr 1 <;> congr 1 <;> omega
theorem muls_of {x y : Dw} (h : dMulB x y = true) : Muls (dMulV x y) x y := by
  obtain ⟨hx, hy, _, hn⟩ := dMulB_iff.1 h
  have hs := newV_same hn
  rw [← dMulV_of h] at hs
  unfold Same at hs
  have hx0 := hx.2.1
  have hy0 := hy.2.1
  unfold Muls
  rw [show x.e.toNat + y.e.toNat = (x.e + y.e).toNat by omega, hs]
end Go.Proofs.Ytckfklpgnneodaa
