/- Gates of the model: how many qubits each kind has, which ones, validity. -/
import Derived.Test.YtgknokaibgckkaaDoorPeD
namespace Go.Proofs.YtgknokaibgckkaaDoor
open Go.RowKit
/-- A gate: its kind and three qubits. -/
structure Gt where
  k : Int
  a : Int
  b : Int
  c : Int
/-- The number of qubits of a kind. -/
def ar (k : Int) : Nat := if 1 ≤ k ∧ k ≤ 8 then 1 else if 9 ≤ k ∧ k ≤ 11 then 2 else if k = 12 then 3 else 0
theorem ar_le (k : Int) : ar k ≤ 3 := by unfold ar; (repeat' split) <;> omega
/-- The qubits of a gate. -/
def gqs (g : Gt) : List Int := [g.a, g.b, g.c].take (ar g.k)
/-- Whether a gate's qubit j is as it must be: 0 where the gate has none, else from 0 to hi and none of the earlier ones. -/
def gtOk (g : Gt) (hi : Int) (j : Nat) : Bool :=
  if ar g.k ≤ j then decide ([g.a, g.b, g.c].getD j 0 = 0) else decide (0 ≤ [g.a, g.b, g.c].getD j 0 ∧ [g.a, g.b, g.c].getD j 0 ≤ hi) && !decide ([g.a, g.b, g.c].getD j 0 ∈ (gqs g).take j)
/-- IsValidGate. -/
def gtB (g : Gt) (n : Int) : Bool := (List.range 3).all (gtOk g (IntKind.i64.wrap (n - 1))) && (decide (0 < ar g.k) && decide (1 ≤ n ∧ n ≤ 4))
attribute [local irreducible] World.cell?
theorem gqs_len (g : Gt) : (gqs g).length = ar g.k := by unfold gqs; rw [List.length_take]; have := ar_le g.k; simp; omega
end Go.Proofs.YtgknokaibgckkaaDoor
