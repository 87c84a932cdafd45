/- Plain: matrices as lists of rows. -/
import Derived.Test.YtlmiebeffdcfhaaBaseB06
import Derived.Test.YtlmiebeffdcfhaaBaseB07
namespace Go.Proofs.Ytlmiebeffdcfhaa
open Go.RowKit
/-- IsValidMatrix. -/
def mtB (M : List (List Dw)) : Bool := decide (0 < M.length) && M.all fun r => decide (r.length = M.length) && stB r
theorem mtB_iff {M : List (List Dw)} : mtB M = true ↔ 0 < M.length ∧ ∀ r ∈ M, r.length = M.length ∧ stB r = true := by
  unfold mtB
  rw [Bool.and_eq_true, decide_eq_true_eq, List.all_eq_true]
  simp only [Bool.and_eq_true, decide_eq_true_eq]
theorem mtB_qc {M : List (List Dw)} (h : mtB M = true) : 0 < qc M.length := by
  obtain ⟨h0, h1⟩ := mtB_iff.1 h
  obtain ⟨e, s⟩ := h1 M[0] (List.getElem_mem h0)
  rw [← e]
  exact (stB_iff.1 s).2
theorem mtB_len {M : List (List Dw)} (h : mtB M = true) : M.length ≤ 16 := by have := qc_len (mtB_qc h); omega
theorem mtB_row {M : List (List Dw)} (h : mtB M = true) {j : Nat} {r : List Dw} (hr : M[j]? = some r) : r.length = M.length ∧ stB r = true := (mtB_iff.1 h).2 r (List.mem_of_getElem? hr)
/-- IdentityMatrix. -/
def idM (n : Int) : List (List Dw) := if 1 ≤ n ∧ n ≤ 4 then (List.range (2 ^ n.toNat)).map fun (i : Nat) => basisL n (i : Int) else []
/-- The sum of a row and a state, from a sum on. -/
def mrow : Dw → List (Dw × Dw) → Option Dw
  | s, [] => some s
  | s, p :: r => if p.1 = .zero ∨ p.2 = .zero then mrow s r else if dMulB p.1 p.2 && dAddB s (dMulV p.1 p.2) then mrow (dAddV s (dMulV p.1 p.2)) r else none
def rowO (r v : List Dw) : Option Dw := mrow .zero (r.zip v)
def rowV (r v : List Dw) : Dw := (rowO r v).getD .zero
def rowB (r v : List Dw) : Bool := (rowO r v).isSome
/-- ApplyMatrix. -/
def appB (M : List (List Dw)) (v : List Dw) : Bool := mtB M && stB v && decide (M.length = v.length) && M.all fun r => rowB r v
def appL (M : List (List Dw)) (v : List Dw) : List Dw := if appB M v then M.map fun r => rowV r v else []
theorem appL_len {M : List (List Dw)} {v : List Dw} (h : appB M v = true) : (appL M v).length = M.length := by rw [appL, if_pos h, List.length_map]
/-- Columns. -/
def col (M : List (List Dw)) (k : Nat) : List Dw := M.map fun r => r.getD k .zero
def colsM (L : List (List Dw)) : List (List Dw) := (List.range L.length).map fun i => col L i
theorem col_len (M : List (List Dw)) (k : Nat) : (col M k).length = M.length := by rw [col, List.length_map]
theorem colsM_len (L : List (List Dw)) : (colsM L).length = L.length := by rw [colsM, List.length_map, List.length_range]
/-- MulMatrix. -/
def mulMB (A B : List (List Dw)) : Bool := mtB A && mtB B && decide (A.length = B.length) && (List.range B.length).all fun k => appB A (col B k)
def mulML (A B : List (List Dw)) : List (List Dw) := (List.range B.length).map fun k => appL A (col B k)
def mulM (A B : List (List Dw)) : List (List Dw) := if mulMB A B then colsM (mulML A B) else []
/-- AdjointMatrix. -/
def adjM (M : List (List Dw)) : List (List Dw) := if mtB M then (List.range M.length).map fun i => (col M i).map dConjV else []
/-- IsUnitary. -/
def uniB (M : List (List Dw)) : Bool := mtB M && mulMB (adjM M) M && decide (mulM (adjM M) M = idM (qc M.length))
/-- GlobalPhase. -/
def gpAt (A B : List (List Dw)) (i : Nat) : Bool := (A.zip B).all fun p => scaleB p.2 (dPh (i : Int)) && decide (scaleL p.2 (dPh (i : Int)) = p.1)
def gpF (A B : List (List Dw)) : Option Nat := if mtB A && mtB B && decide (A.length = B.length) then (List.range 8).find? (gpAt A B) else none
def gpB (A B : List (List Dw)) : Bool := (gpF A B).isSome
def gpV (A B : List (List Dw)) : Int := ((gpF A B).getD 0 : Nat)
end Go.Proofs.Ytlmiebeffdcfhaa
