/- BaseB07: several of our texts in one: DwY DwU. -/
import Derived.Test.YtgicldokglpimaaDwX
import Derived.Test.YtgicldokglpimaaBaseB05
import Derived.Test.YtgicldokglpimaaZwB
namespace Go.Proofs.Ytgicldokglpimaa
open Go.RowKit
attribute [local irreducible] World.cell?
def okD (x : Dw) : Bool := decide x.ok
theorem okD_true {x : Dw} : okD x = true ↔ x.ok := by simp [okD]
theorem okD_false {x : Dw} : okD x = false ↔ ¬ x.ok := by simp [okD]
theorem okD_self (x : Dw) : okD x = (newB x.n x.e && eqDB (newV x.n x.e) x) := by
  rw [Bool.eq_iff_iff, Bool.and_eq_true, okD_true]
  refine ⟨fun h => ⟨(newV_self h).1, eqDB_iff.2 (newV_self h).2⟩, ?_⟩
  rintro ⟨h1, h2⟩
  have := newV_ok h1
  rw [eqDB_iff.1 h2] at this
  exact this
theorem okD_parts (x : Dw) : okD x = (okB x.n && (decide (0 ≤ x.e ∧ x.e ≤ 60) && (!divB x.n || decide (x.e = 0)))) := by
  rw [Bool.eq_iff_iff, okD_true]
  simp only [Bool.and_eq_true, Bool.or_eq_true, Bool.not_eq_true', decide_eq_true_eq, okB_true, Dw.ok]
  constructor
  · rintro ⟨h1, h2, h3, h4⟩; exact ⟨h1, ⟨h2, h3⟩, h4.symm⟩
  · rintro ⟨h1, ⟨h2, h3⟩, h4⟩; exact ⟨h1, h2, h3, h4.symm⟩
end Go.Proofs.Ytgicldokglpimaa
namespace Go.Proofs.Ytgicldokglpimaa
open Go.RowKit
attribute [local irreducible] World.cell?
theorem up_step {j : Nat} {m : Zw} (h : mulB m rootE = true) : mulV m rootE = m.root ∧ upB (j + 1) m = upB j m.root ∧ rootN (j + 1) m = rootN j m.root := by
  refine ⟨?_, by rw [upB, h]; rfl, rfl⟩
  obtain ⟨h1, h2, h3⟩ := mulB_iff.1 h
  rw [mulV, if_pos ⟨h1, h2, h3⟩, mul_rootE]
theorem up_stop {j : Nat} {m : Zw} (h : mulB m rootE = false) : upB (j + 1) m = false := by rw [upB, h]; rfl
theorem upV_end {k : Nat} {n : Zw} (h : upB k n = true) : upV k n = rootN k n := upV_of h
theorem upV_no {k : Nat} {n : Zw} (h : upB k n = false) : upV k n = .zero := if_neg (by simp [h])
end Go.Proofs.Ytgicldokglpimaa
