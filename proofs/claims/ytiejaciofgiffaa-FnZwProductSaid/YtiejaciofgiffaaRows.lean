/-
  No cell of these rows narrows 'for every input' (looked for: loops, veiled, ifaces, maps, wideKeys, modest, calm, conditions, laid).
  DERIVED. THE GIVEN ROWS OF THIS SEAT. 11 by the template 'for every input the law returns true; each argument reads behind the call as it read before'; 0 by the template 'total and deterministic' (their statements: YtiejaciofgiffaaTotals.lean).
  GIVEN WITH THE SEED: the statements are not yours to turn. If you find one false, say at which input.
  Laid BY PROGRAM, IN A SANDBOX (cutbox-rows.mjs): the forced cells as the released guide's own fill.sh prints them over the translation a805ebd0cc48785b… (all of the seat's roots in one cut). By AI agents, Wed Nov 11 2026. No macro, syntax, notation, axiom, sorry.
-/
import Derived.Test.YtiejaciofgiffaaChecked
import GoSem.Claim
import GoSem.ClaimJoined
import GoSem.ClaimMapViews
import Derived.JoinedTies
import Derived.KernelRfl
namespace Go.Proofs.Ytiejaciofgiffaa
/- THE CELL 'sum', in the pinned program and in every row, IS THE sha256 OF THE DUMP (.gsa) THAT YtiejaciofgiffaaProg.lean LOADS. Nothing in Lean hashes anything: it is a label: what it is worth is what the hold of that sum in a sandbox is worth. -/
noncomputable def Try.pinned : Pinned := { name := "ytiejaciofgiffaa", sum := "a805ebd0cc48785b88183d918c06c8384e0f065f34e530541f05aa026afebf47", checked := Try.checked }
namespace Rows
def none {H : Type} : Left H := { results := [], args := [] }

/-- 'laws.FnZwSum': WHATEVER THE INPUT: true; the input reads as it did. -/
def fnZwSumSpec : ChangeSpec := { name := "fnZwSum", fn := fun _ => fun
  | [d] => { results := [.lit (.bool true)], args := [d] }
  | _ => none }
def fnZwSumRow : OpenClaim := { program := "ytiejaciofgiffaa", sum := "a805ebd0cc48785b88183d918c06c8384e0f065f34e530541f05aa026afebf47", func := "loop.example/g00506/laws.FnZwSum", spec := "fnZwSum", apart := false }
def FnZwSumSaid : Prop := fnZwSumRow.holds Try.pinned (OpenSpec.ofChange fnZwSumSpec)

/-- ITS FALSE NEIGHBOUR: 'it returns false'. Refute it at one input. -/
def fnZwSumWrong : ChangeSpec := { name := "fnZwSum", fn := fun _ => fun
  | [d] => { results := [.lit (.bool false)], args := [d] }
  | _ => none }
def FnZwSumWrongFalsely : Prop := fnZwSumRow.holds Try.pinned (OpenSpec.ofChange fnZwSumWrong)

/-- 'laws.FnZwProduct': WHATEVER THE INPUT: true; the input reads as it did. -/
def fnZwProductSpec : ChangeSpec := { name := "fnZwProduct", fn := fun _ => fun
  | [d] => { results := [.lit (.bool true)], args := [d] }
  | _ => none }
def fnZwProductRow : OpenClaim := { program := "ytiejaciofgiffaa", sum := "a805ebd0cc48785b88183d918c06c8384e0f065f34e530541f05aa026afebf47", func := "loop.example/g00506/laws.FnZwProduct", spec := "fnZwProduct", apart := false }
def FnZwProductSaid : Prop := fnZwProductRow.holds Try.pinned (OpenSpec.ofChange fnZwProductSpec)

/-- ITS FALSE NEIGHBOUR: 'it returns false'. Refute it at one input. -/
def fnZwProductWrong : ChangeSpec := { name := "fnZwProduct", fn := fun _ => fun
  | [d] => { results := [.lit (.bool false)], args := [d] }
  | _ => none }
def FnZwProductWrongFalsely : Prop := fnZwProductRow.holds Try.pinned (OpenSpec.ofChange fnZwProductWrong)

/-- 'laws.FnZwSpreads': WHATEVER THE INPUT: true; the input reads as it did. -/
def fnZwSpreadsSpec : ChangeSpec := { name := "fnZwSpreads", fn := fun _ => fun
  | [d] => { results := [.lit (.bool true)], args := [d] }
  | _ => none }
def fnZwSpreadsRow : OpenClaim := { program := "ytiejaciofgiffaa", sum := "a805ebd0cc48785b88183d918c06c8384e0f065f34e530541f05aa026afebf47", func := "loop.example/g00506/laws.FnZwSpreads", spec := "fnZwSpreads", apart := false }
def FnZwSpreadsSaid : Prop := fnZwSpreadsRow.holds Try.pinned (OpenSpec.ofChange fnZwSpreadsSpec)

/-- ITS FALSE NEIGHBOUR: 'it returns false'. Refute it at one input. -/
def fnZwSpreadsWrong : ChangeSpec := { name := "fnZwSpreads", fn := fun _ => fun
  | [d] => { results := [.lit (.bool false)], args := [d] }
  | _ => none }
def FnZwSpreadsWrongFalsely : Prop := fnZwSpreadsRow.holds Try.pinned (OpenSpec.ofChange fnZwSpreadsWrong)

/-- 'laws.FnByRoot': WHATEVER THE INPUT: true; the input reads as it did. -/
def fnByRootSpec : ChangeSpec := { name := "fnByRoot", fn := fun _ => fun
  | [d] => { results := [.lit (.bool true)], args := [d] }
  | _ => none }
def fnByRootRow : OpenClaim := { program := "ytiejaciofgiffaa", sum := "a805ebd0cc48785b88183d918c06c8384e0f065f34e530541f05aa026afebf47", func := "loop.example/g00506/laws.FnByRoot", spec := "fnByRoot", apart := false }
def FnByRootSaid : Prop := fnByRootRow.holds Try.pinned (OpenSpec.ofChange fnByRootSpec)

/-- ITS FALSE NEIGHBOUR: 'it returns false'. Refute it at one input. -/
def fnByRootWrong : ChangeSpec := { name := "fnByRoot", fn := fun _ => fun
  | [d] => { results := [.lit (.bool false)], args := [d] }
  | _ => none }
def FnByRootWrongFalsely : Prop := fnByRootRow.holds Try.pinned (OpenSpec.ofChange fnByRootWrong)

/-- 'laws.FnExactIsValidZOmega': WHATEVER THE INPUT: true; the input reads as it did. -/
def fnExactIsValidZOmegaSpec : ChangeSpec := { name := "fnExactIsValidZOmega", fn := fun _ => fun
  | [d] => { results := [.lit (.bool true)], args := [d] }
  | _ => none }
def fnExactIsValidZOmegaRow : OpenClaim := { program := "ytiejaciofgiffaa", sum := "a805ebd0cc48785b88183d918c06c8384e0f065f34e530541f05aa026afebf47", func := "loop.example/g00506/laws.FnExactIsValidZOmega", spec := "fnExactIsValidZOmega", apart := false }
def FnExactIsValidZOmegaSaid : Prop := fnExactIsValidZOmegaRow.holds Try.pinned (OpenSpec.ofChange fnExactIsValidZOmegaSpec)

/-- ITS FALSE NEIGHBOUR: 'it returns false'. Refute it at one input. -/
def fnExactIsValidZOmegaWrong : ChangeSpec := { name := "fnExactIsValidZOmega", fn := fun _ => fun
  | [d] => { results := [.lit (.bool false)], args := [d] }
  | _ => none }
def FnExactIsValidZOmegaWrongFalsely : Prop := fnExactIsValidZOmegaRow.holds Try.pinned (OpenSpec.ofChange fnExactIsValidZOmegaWrong)

/-- 'laws.FnExactAddZOmega': WHATEVER THE INPUT: true; the input reads as it did. -/
def fnExactAddZOmegaSpec : ChangeSpec := { name := "fnExactAddZOmega", fn := fun _ => fun
  | [d1, d2] => { results := [.lit (.bool true)], args := [d1, d2] }
  | _ => none }
def fnExactAddZOmegaRow : OpenClaim := { program := "ytiejaciofgiffaa", sum := "a805ebd0cc48785b88183d918c06c8384e0f065f34e530541f05aa026afebf47", func := "loop.example/g00506/laws.FnExactAddZOmega", spec := "fnExactAddZOmega", apart := false }
def FnExactAddZOmegaSaid : Prop := fnExactAddZOmegaRow.holds Try.pinned (OpenSpec.ofChange fnExactAddZOmegaSpec)

/-- ITS FALSE NEIGHBOUR: 'it returns false'. Refute it at one input. -/
def fnExactAddZOmegaWrong : ChangeSpec := { name := "fnExactAddZOmega", fn := fun _ => fun
  | [d1, d2] => { results := [.lit (.bool false)], args := [d1, d2] }
  | _ => none }
def FnExactAddZOmegaWrongFalsely : Prop := fnExactAddZOmegaRow.holds Try.pinned (OpenSpec.ofChange fnExactAddZOmegaWrong)

/-- 'laws.FnExactNegZOmega': WHATEVER THE INPUT: true; the input reads as it did. -/
def fnExactNegZOmegaSpec : ChangeSpec := { name := "fnExactNegZOmega", fn := fun _ => fun
  | [d] => { results := [.lit (.bool true)], args := [d] }
  | _ => none }
def fnExactNegZOmegaRow : OpenClaim := { program := "ytiejaciofgiffaa", sum := "a805ebd0cc48785b88183d918c06c8384e0f065f34e530541f05aa026afebf47", func := "loop.example/g00506/laws.FnExactNegZOmega", spec := "fnExactNegZOmega", apart := false }
def FnExactNegZOmegaSaid : Prop := fnExactNegZOmegaRow.holds Try.pinned (OpenSpec.ofChange fnExactNegZOmegaSpec)

/-- ITS FALSE NEIGHBOUR: 'it returns false'. Refute it at one input. -/
def fnExactNegZOmegaWrong : ChangeSpec := { name := "fnExactNegZOmega", fn := fun _ => fun
  | [d] => { results := [.lit (.bool false)], args := [d] }
  | _ => none }
def FnExactNegZOmegaWrongFalsely : Prop := fnExactNegZOmegaRow.holds Try.pinned (OpenSpec.ofChange fnExactNegZOmegaWrong)

/-- 'laws.FnExactMulZOmega': WHATEVER THE INPUT: true; the input reads as it did. -/
def fnExactMulZOmegaSpec : ChangeSpec := { name := "fnExactMulZOmega", fn := fun _ => fun
  | [d1, d2] => { results := [.lit (.bool true)], args := [d1, d2] }
  | _ => none }
def fnExactMulZOmegaRow : OpenClaim := { program := "ytiejaciofgiffaa", sum := "a805ebd0cc48785b88183d918c06c8384e0f065f34e530541f05aa026afebf47", func := "loop.example/g00506/laws.FnExactMulZOmega", spec := "fnExactMulZOmega", apart := false }
def FnExactMulZOmegaSaid : Prop := fnExactMulZOmegaRow.holds Try.pinned (OpenSpec.ofChange fnExactMulZOmegaSpec)

/-- ITS FALSE NEIGHBOUR: 'it returns false'. Refute it at one input. -/
def fnExactMulZOmegaWrong : ChangeSpec := { name := "fnExactMulZOmega", fn := fun _ => fun
  | [d1, d2] => { results := [.lit (.bool false)], args := [d1, d2] }
  | _ => none }
def FnExactMulZOmegaWrongFalsely : Prop := fnExactMulZOmegaRow.holds Try.pinned (OpenSpec.ofChange fnExactMulZOmegaWrong)

/-- 'laws.FnExactConjZOmega': WHATEVER THE INPUT: true; the input reads as it did. -/
def fnExactConjZOmegaSpec : ChangeSpec := { name := "fnExactConjZOmega", fn := fun _ => fun
  | [d] => { results := [.lit (.bool true)], args := [d] }
  | _ => none }
def fnExactConjZOmegaRow : OpenClaim := { program := "ytiejaciofgiffaa", sum := "a805ebd0cc48785b88183d918c06c8384e0f065f34e530541f05aa026afebf47", func := "loop.example/g00506/laws.FnExactConjZOmega", spec := "fnExactConjZOmega", apart := false }
def FnExactConjZOmegaSaid : Prop := fnExactConjZOmegaRow.holds Try.pinned (OpenSpec.ofChange fnExactConjZOmegaSpec)

/-- ITS FALSE NEIGHBOUR: 'it returns false'. Refute it at one input. -/
def fnExactConjZOmegaWrong : ChangeSpec := { name := "fnExactConjZOmega", fn := fun _ => fun
  | [d] => { results := [.lit (.bool false)], args := [d] }
  | _ => none }
def FnExactConjZOmegaWrongFalsely : Prop := fnExactConjZOmegaRow.holds Try.pinned (OpenSpec.ofChange fnExactConjZOmegaWrong)

/-- 'laws.FnExactSqrt2ConjZOmega': WHATEVER THE INPUT: true; the input reads as it did. -/
def fnExactSqrt2ConjZOmegaSpec : ChangeSpec := { name := "fnExactSqrt2ConjZOmega", fn := fun _ => fun
  | [d] => { results := [.lit (.bool true)], args := [d] }
  | _ => none }
def fnExactSqrt2ConjZOmegaRow : OpenClaim := { program := "ytiejaciofgiffaa", sum := "a805ebd0cc48785b88183d918c06c8384e0f065f34e530541f05aa026afebf47", func := "loop.example/g00506/laws.FnExactSqrt2ConjZOmega", spec := "fnExactSqrt2ConjZOmega", apart := false }
def FnExactSqrt2ConjZOmegaSaid : Prop := fnExactSqrt2ConjZOmegaRow.holds Try.pinned (OpenSpec.ofChange fnExactSqrt2ConjZOmegaSpec)

/-- ITS FALSE NEIGHBOUR: 'it returns false'. Refute it at one input. -/
def fnExactSqrt2ConjZOmegaWrong : ChangeSpec := { name := "fnExactSqrt2ConjZOmega", fn := fun _ => fun
  | [d] => { results := [.lit (.bool false)], args := [d] }
  | _ => none }
def FnExactSqrt2ConjZOmegaWrongFalsely : Prop := fnExactSqrt2ConjZOmegaRow.holds Try.pinned (OpenSpec.ofChange fnExactSqrt2ConjZOmegaWrong)

/-- 'laws.FnExactDivSqrt2': WHATEVER THE INPUT: true; the input reads as it did. -/
def fnExactDivSqrt2Spec : ChangeSpec := { name := "fnExactDivSqrt2", fn := fun _ => fun
  | [d] => { results := [.lit (.bool true)], args := [d] }
  | _ => none }
def fnExactDivSqrt2Row : OpenClaim := { program := "ytiejaciofgiffaa", sum := "a805ebd0cc48785b88183d918c06c8384e0f065f34e530541f05aa026afebf47", func := "loop.example/g00506/laws.FnExactDivSqrt2", spec := "fnExactDivSqrt2", apart := false }
def FnExactDivSqrt2Said : Prop := fnExactDivSqrt2Row.holds Try.pinned (OpenSpec.ofChange fnExactDivSqrt2Spec)

/-- ITS FALSE NEIGHBOUR: 'it returns false'. Refute it at one input. -/
def fnExactDivSqrt2Wrong : ChangeSpec := { name := "fnExactDivSqrt2", fn := fun _ => fun
  | [d] => { results := [.lit (.bool false)], args := [d] }
  | _ => none }
def FnExactDivSqrt2WrongFalsely : Prop := fnExactDivSqrt2Row.holds Try.pinned (OpenSpec.ofChange fnExactDivSqrt2Wrong)

/- THE SECOND FORM. 'bulk': how many values and letters a reading holds, each counted each time it is reached (what is shared counts as often as it is met; a slice's spare places count too). A statement '..UptoSaid' is the law's where the arguments, and the package variables that the reading takes, are together of bulk at most 1048576: NARROWER than '..Said'. Prove '..Said' where nothing that the law and all that it calls make is longer than what came in: it says more and counts as full. Else prove '..UptoSaid'. A law counts once. -/
mutual
def uptoBulk {H : Type} : DataW H → Nat
  | .lit (.string bytes) => bytes.length + 1
  | .lit _ => 1
  | .nil => 1
  | .ptr d => uptoBulk d + 1
  | .slice elems spare => uptoBulkAll elems + uptoBulkAll spare + 1
  | .agg parts => uptoBulkAll parts + 1
  | .iface _ d => uptoBulk d + 1
  | .map entries => uptoBulkEntries entries + 1
  | .held _ => 1
def uptoBulkAll {H : Type} : List (DataW H) → Nat
  | [] => 0
  | d :: r => uptoBulk d + uptoBulkAll r
def uptoBulkEntries {H : Type} : List (Lit × DataW H) → Nat
  | [] => 0
  | x :: r => uptoBulkEntry x + uptoBulkEntries r
def uptoBulkEntry {H : Type} : Lit × DataW H → Nat
  | (.string bytes, d) => bytes.length + uptoBulk d + 1
  | (_, d) => uptoBulk d + 1
 end
def uptoSmall : (H : Type) → List (DataW H) → Bool := fun _ ds => decide (uptoBulkAll ds ≤ 1048576)
def OpenSpec.upto (s : _root_.Go.ChangeSpec) : _root_.Go.OpenSpec := { _root_.Go.OpenSpec.ofChange s with cond := some uptoSmall }

/-- 'laws.FnZwSum', WHERE WHAT IT READS IS OF BULK AT MOST 1048576: true; the input reads as it did. -/
def fnZwSumUptoRow : OpenClaim := { program := "ytiejaciofgiffaa", sum := "a805ebd0cc48785b88183d918c06c8384e0f065f34e530541f05aa026afebf47", func := "loop.example/g00506/laws.FnZwSum", spec := "fnZwSum", apart := false, narrowed := true }
def FnZwSumUptoSaid : Prop := fnZwSumUptoRow.holds Try.pinned (OpenSpec.upto fnZwSumSpec)

/-- 'laws.FnZwProduct', WHERE WHAT IT READS IS OF BULK AT MOST 1048576: true; the input reads as it did. -/
def fnZwProductUptoRow : OpenClaim := { program := "ytiejaciofgiffaa", sum := "a805ebd0cc48785b88183d918c06c8384e0f065f34e530541f05aa026afebf47", func := "loop.example/g00506/laws.FnZwProduct", spec := "fnZwProduct", apart := false, narrowed := true }
def FnZwProductUptoSaid : Prop := fnZwProductUptoRow.holds Try.pinned (OpenSpec.upto fnZwProductSpec)

/-- 'laws.FnZwSpreads', WHERE WHAT IT READS IS OF BULK AT MOST 1048576: true; the input reads as it did. -/
def fnZwSpreadsUptoRow : OpenClaim := { program := "ytiejaciofgiffaa", sum := "a805ebd0cc48785b88183d918c06c8384e0f065f34e530541f05aa026afebf47", func := "loop.example/g00506/laws.FnZwSpreads", spec := "fnZwSpreads", apart := false, narrowed := true }
def FnZwSpreadsUptoSaid : Prop := fnZwSpreadsUptoRow.holds Try.pinned (OpenSpec.upto fnZwSpreadsSpec)

/-- 'laws.FnByRoot', WHERE WHAT IT READS IS OF BULK AT MOST 1048576: true; the input reads as it did. -/
def fnByRootUptoRow : OpenClaim := { program := "ytiejaciofgiffaa", sum := "a805ebd0cc48785b88183d918c06c8384e0f065f34e530541f05aa026afebf47", func := "loop.example/g00506/laws.FnByRoot", spec := "fnByRoot", apart := false, narrowed := true }
def FnByRootUptoSaid : Prop := fnByRootUptoRow.holds Try.pinned (OpenSpec.upto fnByRootSpec)

/-- 'laws.FnExactIsValidZOmega', WHERE WHAT IT READS IS OF BULK AT MOST 1048576: true; the input reads as it did. -/
def fnExactIsValidZOmegaUptoRow : OpenClaim := { program := "ytiejaciofgiffaa", sum := "a805ebd0cc48785b88183d918c06c8384e0f065f34e530541f05aa026afebf47", func := "loop.example/g00506/laws.FnExactIsValidZOmega", spec := "fnExactIsValidZOmega", apart := false, narrowed := true }
def FnExactIsValidZOmegaUptoSaid : Prop := fnExactIsValidZOmegaUptoRow.holds Try.pinned (OpenSpec.upto fnExactIsValidZOmegaSpec)

/-- 'laws.FnExactAddZOmega', WHERE WHAT IT READS IS OF BULK AT MOST 1048576: true; the input reads as it did. -/
def fnExactAddZOmegaUptoRow : OpenClaim := { program := "ytiejaciofgiffaa", sum := "a805ebd0cc48785b88183d918c06c8384e0f065f34e530541f05aa026afebf47", func := "loop.example/g00506/laws.FnExactAddZOmega", spec := "fnExactAddZOmega", apart := false, narrowed := true }
def FnExactAddZOmegaUptoSaid : Prop := fnExactAddZOmegaUptoRow.holds Try.pinned (OpenSpec.upto fnExactAddZOmegaSpec)

/-- 'laws.FnExactNegZOmega', WHERE WHAT IT READS IS OF BULK AT MOST 1048576: true; the input reads as it did. -/
def fnExactNegZOmegaUptoRow : OpenClaim := { program := "ytiejaciofgiffaa", sum := "a805ebd0cc48785b88183d918c06c8384e0f065f34e530541f05aa026afebf47", func := "loop.example/g00506/laws.FnExactNegZOmega", spec := "fnExactNegZOmega", apart := false, narrowed := true }
def FnExactNegZOmegaUptoSaid : Prop := fnExactNegZOmegaUptoRow.holds Try.pinned (OpenSpec.upto fnExactNegZOmegaSpec)

/-- 'laws.FnExactMulZOmega', WHERE WHAT IT READS IS OF BULK AT MOST 1048576: true; the input reads as it did. -/
def fnExactMulZOmegaUptoRow : OpenClaim := { program := "ytiejaciofgiffaa", sum := "a805ebd0cc48785b88183d918c06c8384e0f065f34e530541f05aa026afebf47", func := "loop.example/g00506/laws.FnExactMulZOmega", spec := "fnExactMulZOmega", apart := false, narrowed := true }
def FnExactMulZOmegaUptoSaid : Prop := fnExactMulZOmegaUptoRow.holds Try.pinned (OpenSpec.upto fnExactMulZOmegaSpec)

/-- 'laws.FnExactConjZOmega', WHERE WHAT IT READS IS OF BULK AT MOST 1048576: true; the input reads as it did. -/
def fnExactConjZOmegaUptoRow : OpenClaim := { program := "ytiejaciofgiffaa", sum := "a805ebd0cc48785b88183d918c06c8384e0f065f34e530541f05aa026afebf47", func := "loop.example/g00506/laws.FnExactConjZOmega", spec := "fnExactConjZOmega", apart := false, narrowed := true }
def FnExactConjZOmegaUptoSaid : Prop := fnExactConjZOmegaUptoRow.holds Try.pinned (OpenSpec.upto fnExactConjZOmegaSpec)

/-- 'laws.FnExactSqrt2ConjZOmega', WHERE WHAT IT READS IS OF BULK AT MOST 1048576: true; the input reads as it did. -/
def fnExactSqrt2ConjZOmegaUptoRow : OpenClaim := { program := "ytiejaciofgiffaa", sum := "a805ebd0cc48785b88183d918c06c8384e0f065f34e530541f05aa026afebf47", func := "loop.example/g00506/laws.FnExactSqrt2ConjZOmega", spec := "fnExactSqrt2ConjZOmega", apart := false, narrowed := true }
def FnExactSqrt2ConjZOmegaUptoSaid : Prop := fnExactSqrt2ConjZOmegaUptoRow.holds Try.pinned (OpenSpec.upto fnExactSqrt2ConjZOmegaSpec)

/-- 'laws.FnExactDivSqrt2', WHERE WHAT IT READS IS OF BULK AT MOST 1048576: true; the input reads as it did. -/
def fnExactDivSqrt2UptoRow : OpenClaim := { program := "ytiejaciofgiffaa", sum := "a805ebd0cc48785b88183d918c06c8384e0f065f34e530541f05aa026afebf47", func := "loop.example/g00506/laws.FnExactDivSqrt2", spec := "fnExactDivSqrt2", apart := false, narrowed := true }
def FnExactDivSqrt2UptoSaid : Prop := fnExactDivSqrt2UptoRow.holds Try.pinned (OpenSpec.upto fnExactDivSqrt2Spec)

end Rows
end Go.Proofs.Ytiejaciofgiffaa
