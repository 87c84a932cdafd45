/- Plain: states as lists of fractions. -/
import Derived.Test.YtgknokaibgckkaaDoorDwE
import Derived.Test.YtgknokaibgckkaaDoorDwY
import Derived.Test.YtgknokaibgckkaaDoorDwB
namespace Go.Proofs.YtgknokaibgckkaaDoor
open Go.RowKit
instance : DecidableEq Dw := fun x y => decidable_of_iff (eqDB x y = true) eqDB_iff
/-- The number of qubits of a state with n amplitudes, or 0. -/
def qc (n : Nat) : Int := if n = 2 then 1 else if n = 4 then 2 else if n = 8 then 3 else if n = 16 then 4 else 0
theorem qc_range (n : Nat) : 0 ≤ qc n ∧ qc n ≤ 4 := by unfold qc; repeat' split; all_goals omega
theorem qc_len {n : Nat} (h : 0 < qc n) : n = 2 ∨ n = 4 ∨ n = 8 ∨ n = 16 := by
  unfold qc at h
  repeat' split at h
  all_goals first | omega | simp_all
/-- IsValidState. -/
def stB (l : List Dw) : Bool := l.all okD && decide (0 < qc l.length)
theorem stB_iff {l : List Dw} : stB l = true ↔ (∀ x ∈ l, x.ok) ∧ 0 < qc l.length := by
  unfold stB
  rw [Bool.and_eq_true, List.all_eq_true, decide_eq_true_eq]
  exact ⟨fun h => ⟨fun x hx => okD_true.1 (h.1 x hx), h.2⟩, fun h => ⟨fun x hx => okD_true.2 (h.1 x hx), h.2⟩⟩
theorem stB_len {l : List Dw} (h : stB l = true) : l.length ≤ 16 := by have := qc_len (stB_iff.1 h).2; omega
/-- BasisState. -/
def basisL (n i : Int) : List Dw := if 1 ≤ n ∧ n ≤ 4 ∧ 0 ≤ i ∧ i ≤ 2 ^ n.toNat - 1 then (List.replicate (2 ^ n.toNat) .zero).set i.toNat oneD else []
/-- ScaleState. -/
def scaleB (l : List Dw) (x : Dw) : Bool := stB l && l.all fun y => dMulB y x
def scaleL (l : List Dw) (x : Dw) : List Dw := if scaleB l x then l.map fun y => dMulV y x else []
/-- AddStates. -/
def addSB (u v : List Dw) : Bool := stB u && stB v && decide (u.length = v.length) && (u.zip v).all fun p => dAddB p.1 p.2
def addSL (u v : List Dw) : List Dw := if addSB u v then (u.zip v).map fun p => dAddV p.1 p.2 else []
/-- InnerProduct, of the amplitudes in pairs, from a sum on. -/
def inn : Dw → List (Dw × Dw) → Option Dw
  | s, [] => some s
  | s, p :: r => if dMulB (dConjV p.1) p.2 && dAddB s (dMulV (dConjV p.1) p.2) then inn (dAddV s (dMulV (dConjV p.1) p.2)) r else none
def innO (u v : List Dw) : Option Dw := if stB u && stB v && decide (u.length = v.length) then inn .zero (u.zip v) else none
def innV (u v : List Dw) : Dw := (innO u v).getD .zero
def innB (u v : List Dw) : Bool := (innO u v).isSome
theorem addSL_len (u v : List Dw) : (addSL u v).length ≤ v.length := by
  unfold addSL
  split
  · rw [List.length_map, List.length_zip]; omega
  · exact Nat.zero_le _
theorem scaleL_len (l : List Dw) (x : Dw) : (scaleL l x).length ≤ l.length := by
  unfold scaleL
  split
  · rw [List.length_map]; exact Nat.le_refl _
  · exact Nat.zero_le _
end Go.Proofs.YtgknokaibgckkaaDoor
