/-
  No cell of these rows narrows 'for every input' (looked for: loops, veiled, ifaces, maps, wideKeys, modest, calm, conditions, laid).
  DERIVED. THE GIVEN ROWS OF THIS SEAT. 11 by the template 'for every input the law returns true; each argument reads behind the call as it read before'; 0 by the template 'total and deterministic' (their statements: YtiemnhejonepfaaTotals.lean).
  GIVEN WITH THE SEED: the statements are not yours to turn. If you find one false, say at which input.
  Laid BY PROGRAM, IN A SANDBOX (cutbox-rows.mjs): the forced cells as the released guide's own fill.sh prints them over the translation 266dfd5d78770cd8… (all of the seat's roots in one cut). By AI agents, Wed Nov 11 2026. No macro, syntax, notation, axiom, sorry.
-/
import Derived.Test.YtiemnhejonepfaaChecked
import GoSem.Claim
import GoSem.ClaimJoined
import GoSem.ClaimMapViews
import Derived.JoinedTies
import Derived.KernelRfl
namespace Go.Proofs.Ytiemnhejonepfaa
/- THE CELL 'sum', in the pinned program and in every row, IS THE sha256 OF THE DUMP (.gsa) THAT YtiemnhejonepfaaProg.lean LOADS. Nothing in Lean hashes anything: it is a label: what it is worth is what the hold of that sum in a sandbox is worth. -/
noncomputable def Try.pinned : Pinned := { name := "ytiemnhejonepfaa", sum := "266dfd5d78770cd889bc71314b5cbc302ef52266becae29320a1affc1ab597f6", checked := Try.checked }
namespace Rows
def none {H : Type} : Left H := { results := [], args := [] }

/-- 'laws.FnMakeDw': WHATEVER THE INPUT: true; the input reads as it did. -/
def fnMakeDwSpec : ChangeSpec := { name := "fnMakeDw", fn := fun _ => fun
  | [d] => { results := [.lit (.bool true)], args := [d] }
  | _ => none }
def fnMakeDwRow : OpenClaim := { program := "ytiemnhejonepfaa", sum := "266dfd5d78770cd889bc71314b5cbc302ef52266becae29320a1affc1ab597f6", func := "loop.example/g00506/laws.FnMakeDw", spec := "fnMakeDw", apart := false }
def FnMakeDwSaid : Prop := fnMakeDwRow.holds Try.pinned (OpenSpec.ofChange fnMakeDwSpec)

/-- ITS FALSE NEIGHBOUR: 'it returns false'. Refute it at one input. -/
def fnMakeDwWrong : ChangeSpec := { name := "fnMakeDw", fn := fun _ => fun
  | [d] => { results := [.lit (.bool false)], args := [d] }
  | _ => none }
def FnMakeDwWrongFalsely : Prop := fnMakeDwRow.holds Try.pinned (OpenSpec.ofChange fnMakeDwWrong)

/-- 'laws.FnDwSum': WHATEVER THE INPUT: true; the input reads as it did. -/
def fnDwSumSpec : ChangeSpec := { name := "fnDwSum", fn := fun _ => fun
  | [d] => { results := [.lit (.bool true)], args := [d] }
  | _ => none }
def fnDwSumRow : OpenClaim := { program := "ytiemnhejonepfaa", sum := "266dfd5d78770cd889bc71314b5cbc302ef52266becae29320a1affc1ab597f6", func := "loop.example/g00506/laws.FnDwSum", spec := "fnDwSum", apart := false }
def FnDwSumSaid : Prop := fnDwSumRow.holds Try.pinned (OpenSpec.ofChange fnDwSumSpec)

/-- ITS FALSE NEIGHBOUR: 'it returns false'. Refute it at one input. -/
def fnDwSumWrong : ChangeSpec := { name := "fnDwSum", fn := fun _ => fun
  | [d] => { results := [.lit (.bool false)], args := [d] }
  | _ => none }
def FnDwSumWrongFalsely : Prop := fnDwSumRow.holds Try.pinned (OpenSpec.ofChange fnDwSumWrong)

/-- 'laws.FnDwProduct': WHATEVER THE INPUT: true; the input reads as it did. -/
def fnDwProductSpec : ChangeSpec := { name := "fnDwProduct", fn := fun _ => fun
  | [d] => { results := [.lit (.bool true)], args := [d] }
  | _ => none }
def fnDwProductRow : OpenClaim := { program := "ytiemnhejonepfaa", sum := "266dfd5d78770cd889bc71314b5cbc302ef52266becae29320a1affc1ab597f6", func := "loop.example/g00506/laws.FnDwProduct", spec := "fnDwProduct", apart := false }
def FnDwProductSaid : Prop := fnDwProductRow.holds Try.pinned (OpenSpec.ofChange fnDwProductSpec)

/-- ITS FALSE NEIGHBOUR: 'it returns false'. Refute it at one input. -/
def fnDwProductWrong : ChangeSpec := { name := "fnDwProduct", fn := fun _ => fun
  | [d] => { results := [.lit (.bool false)], args := [d] }
  | _ => none }
def FnDwProductWrongFalsely : Prop := fnDwProductRow.holds Try.pinned (OpenSpec.ofChange fnDwProductWrong)

/-- 'laws.FnDwSpreads': WHATEVER THE INPUT: true; the input reads as it did. -/
def fnDwSpreadsSpec : ChangeSpec := { name := "fnDwSpreads", fn := fun _ => fun
  | [d] => { results := [.lit (.bool true)], args := [d] }
  | _ => none }
def fnDwSpreadsRow : OpenClaim := { program := "ytiemnhejonepfaa", sum := "266dfd5d78770cd889bc71314b5cbc302ef52266becae29320a1affc1ab597f6", func := "loop.example/g00506/laws.FnDwSpreads", spec := "fnDwSpreads", apart := false }
def FnDwSpreadsSaid : Prop := fnDwSpreadsRow.holds Try.pinned (OpenSpec.ofChange fnDwSpreadsSpec)

/-- ITS FALSE NEIGHBOUR: 'it returns false'. Refute it at one input. -/
def fnDwSpreadsWrong : ChangeSpec := { name := "fnDwSpreads", fn := fun _ => fun
  | [d] => { results := [.lit (.bool false)], args := [d] }
  | _ => none }
def FnDwSpreadsWrongFalsely : Prop := fnDwSpreadsRow.holds Try.pinned (OpenSpec.ofChange fnDwSpreadsWrong)

/-- 'laws.FnExactIsValidDOmega': WHATEVER THE INPUT: true; the input reads as it did. -/
def fnExactIsValidDOmegaSpec : ChangeSpec := { name := "fnExactIsValidDOmega", fn := fun _ => fun
  | [d] => { results := [.lit (.bool true)], args := [d] }
  | _ => none }
def fnExactIsValidDOmegaRow : OpenClaim := { program := "ytiemnhejonepfaa", sum := "266dfd5d78770cd889bc71314b5cbc302ef52266becae29320a1affc1ab597f6", func := "loop.example/g00506/laws.FnExactIsValidDOmega", spec := "fnExactIsValidDOmega", apart := false }
def FnExactIsValidDOmegaSaid : Prop := fnExactIsValidDOmegaRow.holds Try.pinned (OpenSpec.ofChange fnExactIsValidDOmegaSpec)

/-- ITS FALSE NEIGHBOUR: 'it returns false'. Refute it at one input. -/
def fnExactIsValidDOmegaWrong : ChangeSpec := { name := "fnExactIsValidDOmega", fn := fun _ => fun
  | [d] => { results := [.lit (.bool false)], args := [d] }
  | _ => none }
def FnExactIsValidDOmegaWrongFalsely : Prop := fnExactIsValidDOmegaRow.holds Try.pinned (OpenSpec.ofChange fnExactIsValidDOmegaWrong)

/-- 'laws.FnExactNewDOmega': WHATEVER THE INPUT: true; the input reads as it did. -/
def fnExactNewDOmegaSpec : ChangeSpec := { name := "fnExactNewDOmega", fn := fun _ => fun
  | [d1, d2] => { results := [.lit (.bool true)], args := [d1, d2] }
  | _ => none }
def fnExactNewDOmegaRow : OpenClaim := { program := "ytiemnhejonepfaa", sum := "266dfd5d78770cd889bc71314b5cbc302ef52266becae29320a1affc1ab597f6", func := "loop.example/g00506/laws.FnExactNewDOmega", spec := "fnExactNewDOmega", apart := false }
def FnExactNewDOmegaSaid : Prop := fnExactNewDOmegaRow.holds Try.pinned (OpenSpec.ofChange fnExactNewDOmegaSpec)

/-- ITS FALSE NEIGHBOUR: 'it returns false'. Refute it at one input. -/
def fnExactNewDOmegaWrong : ChangeSpec := { name := "fnExactNewDOmega", fn := fun _ => fun
  | [d1, d2] => { results := [.lit (.bool false)], args := [d1, d2] }
  | _ => none }
def FnExactNewDOmegaWrongFalsely : Prop := fnExactNewDOmegaRow.holds Try.pinned (OpenSpec.ofChange fnExactNewDOmegaWrong)

/-- 'laws.FnExactAddDOmega': WHATEVER THE INPUT: true; the input reads as it did. -/
def fnExactAddDOmegaSpec : ChangeSpec := { name := "fnExactAddDOmega", fn := fun _ => fun
  | [d1, d2] => { results := [.lit (.bool true)], args := [d1, d2] }
  | _ => none }
def fnExactAddDOmegaRow : OpenClaim := { program := "ytiemnhejonepfaa", sum := "266dfd5d78770cd889bc71314b5cbc302ef52266becae29320a1affc1ab597f6", func := "loop.example/g00506/laws.FnExactAddDOmega", spec := "fnExactAddDOmega", apart := false }
def FnExactAddDOmegaSaid : Prop := fnExactAddDOmegaRow.holds Try.pinned (OpenSpec.ofChange fnExactAddDOmegaSpec)

/-- ITS FALSE NEIGHBOUR: 'it returns false'. Refute it at one input. -/
def fnExactAddDOmegaWrong : ChangeSpec := { name := "fnExactAddDOmega", fn := fun _ => fun
  | [d1, d2] => { results := [.lit (.bool false)], args := [d1, d2] }
  | _ => none }
def FnExactAddDOmegaWrongFalsely : Prop := fnExactAddDOmegaRow.holds Try.pinned (OpenSpec.ofChange fnExactAddDOmegaWrong)

/-- 'laws.FnExactMulDOmega': WHATEVER THE INPUT: true; the input reads as it did. -/
def fnExactMulDOmegaSpec : ChangeSpec := { name := "fnExactMulDOmega", fn := fun _ => fun
  | [d1, d2] => { results := [.lit (.bool true)], args := [d1, d2] }
  | _ => none }
def fnExactMulDOmegaRow : OpenClaim := { program := "ytiemnhejonepfaa", sum := "266dfd5d78770cd889bc71314b5cbc302ef52266becae29320a1affc1ab597f6", func := "loop.example/g00506/laws.FnExactMulDOmega", spec := "fnExactMulDOmega", apart := false }
def FnExactMulDOmegaSaid : Prop := fnExactMulDOmegaRow.holds Try.pinned (OpenSpec.ofChange fnExactMulDOmegaSpec)

/-- ITS FALSE NEIGHBOUR: 'it returns false'. Refute it at one input. -/
def fnExactMulDOmegaWrong : ChangeSpec := { name := "fnExactMulDOmega", fn := fun _ => fun
  | [d1, d2] => { results := [.lit (.bool false)], args := [d1, d2] }
  | _ => none }
def FnExactMulDOmegaWrongFalsely : Prop := fnExactMulDOmegaRow.holds Try.pinned (OpenSpec.ofChange fnExactMulDOmegaWrong)

/-- 'laws.FnExactNegDOmega': WHATEVER THE INPUT: true; the input reads as it did. -/
def fnExactNegDOmegaSpec : ChangeSpec := { name := "fnExactNegDOmega", fn := fun _ => fun
  | [d] => { results := [.lit (.bool true)], args := [d] }
  | _ => none }
def fnExactNegDOmegaRow : OpenClaim := { program := "ytiemnhejonepfaa", sum := "266dfd5d78770cd889bc71314b5cbc302ef52266becae29320a1affc1ab597f6", func := "loop.example/g00506/laws.FnExactNegDOmega", spec := "fnExactNegDOmega", apart := false }
def FnExactNegDOmegaSaid : Prop := fnExactNegDOmegaRow.holds Try.pinned (OpenSpec.ofChange fnExactNegDOmegaSpec)

/-- ITS FALSE NEIGHBOUR: 'it returns false'. Refute it at one input. -/
def fnExactNegDOmegaWrong : ChangeSpec := { name := "fnExactNegDOmega", fn := fun _ => fun
  | [d] => { results := [.lit (.bool false)], args := [d] }
  | _ => none }
def FnExactNegDOmegaWrongFalsely : Prop := fnExactNegDOmegaRow.holds Try.pinned (OpenSpec.ofChange fnExactNegDOmegaWrong)

/-- 'laws.FnExactConjDOmega': WHATEVER THE INPUT: true; the input reads as it did. -/
def fnExactConjDOmegaSpec : ChangeSpec := { name := "fnExactConjDOmega", fn := fun _ => fun
  | [d] => { results := [.lit (.bool true)], args := [d] }
  | _ => none }
def fnExactConjDOmegaRow : OpenClaim := { program := "ytiemnhejonepfaa", sum := "266dfd5d78770cd889bc71314b5cbc302ef52266becae29320a1affc1ab597f6", func := "loop.example/g00506/laws.FnExactConjDOmega", spec := "fnExactConjDOmega", apart := false }
def FnExactConjDOmegaSaid : Prop := fnExactConjDOmegaRow.holds Try.pinned (OpenSpec.ofChange fnExactConjDOmegaSpec)

/-- ITS FALSE NEIGHBOUR: 'it returns false'. Refute it at one input. -/
def fnExactConjDOmegaWrong : ChangeSpec := { name := "fnExactConjDOmega", fn := fun _ => fun
  | [d] => { results := [.lit (.bool false)], args := [d] }
  | _ => none }
def FnExactConjDOmegaWrongFalsely : Prop := fnExactConjDOmegaRow.holds Try.pinned (OpenSpec.ofChange fnExactConjDOmegaWrong)

/-- 'laws.FnExactOneDOmega': WHATEVER THE INPUT: true; the input reads as it did. -/
def fnExactOneDOmegaSpec : ChangeSpec := { name := "fnExactOneDOmega", fn := fun _ => fun
  | [] => { results := [.lit (.bool true)], args := [] }
  | _ => none }
def fnExactOneDOmegaRow : OpenClaim := { program := "ytiemnhejonepfaa", sum := "266dfd5d78770cd889bc71314b5cbc302ef52266becae29320a1affc1ab597f6", func := "loop.example/g00506/laws.FnExactOneDOmega", spec := "fnExactOneDOmega", apart := false }
def FnExactOneDOmegaSaid : Prop := fnExactOneDOmegaRow.holds Try.pinned (OpenSpec.ofChange fnExactOneDOmegaSpec)

/-- ITS FALSE NEIGHBOUR: 'it returns false'. Refute it at one input. -/
def fnExactOneDOmegaWrong : ChangeSpec := { name := "fnExactOneDOmega", fn := fun _ => fun
  | [] => { results := [.lit (.bool false)], args := [] }
  | _ => none }
def FnExactOneDOmegaWrongFalsely : Prop := fnExactOneDOmegaRow.holds Try.pinned (OpenSpec.ofChange fnExactOneDOmegaWrong)

/- THE SECOND FORM. 'bulk': how many values and letters a reading holds, each counted each time it is reached (what is shared counts as often as it is met; a slice's spare places count too). A statement '..UptoSaid' is the law's where the arguments, and the package variables that the reading takes, are together of bulk at most 1048576: NARROWER than '..Said'. Prove '..Said' where nothing that the law and all that it calls make is longer than what came in: it says more and counts as full. Else prove '..UptoSaid'. A law counts once. -/
mutual
def uptoBulk {H : Type} : DataW H → Nat
  | .lit (.string bytes) => bytes.length + 1
  | .lit _ => 1
  | .nil => 1
  | .ptr d => uptoBulk d + 1
  | .slice elems spare => uptoBulkAll elems + uptoBulkAll spare + 1
  | .agg parts => uptoBulkAll parts + 1
  | .iface _ d => uptoBulk d + 1
  | .map entries => uptoBulkEntries entries + 1
  | .held _ => 1
def uptoBulkAll {H : Type} : List (DataW H) → Nat
  | [] => 0
  | d :: r => uptoBulk d + uptoBulkAll r
def uptoBulkEntries {H : Type} : List (Lit × DataW H) → Nat
  | [] => 0
  | x :: r => uptoBulkEntry x + uptoBulkEntries r
def uptoBulkEntry {H : Type} : Lit × DataW H → Nat
  | (.string bytes, d) => bytes.length + uptoBulk d + 1
  | (_, d) => uptoBulk d + 1
 end
def uptoSmall : (H : Type) → List (DataW H) → Bool := fun _ ds => decide (uptoBulkAll ds ≤ 1048576)
def OpenSpec.upto (s : _root_.Go.ChangeSpec) : _root_.Go.OpenSpec := { _root_.Go.OpenSpec.ofChange s with cond := some uptoSmall }

/-- 'laws.FnMakeDw', WHERE WHAT IT READS IS OF BULK AT MOST 1048576: true; the input reads as it did. -/
def fnMakeDwUptoRow : OpenClaim := { program := "ytiemnhejonepfaa", sum := "266dfd5d78770cd889bc71314b5cbc302ef52266becae29320a1affc1ab597f6", func := "loop.example/g00506/laws.FnMakeDw", spec := "fnMakeDw", apart := false, narrowed := true }
def FnMakeDwUptoSaid : Prop := fnMakeDwUptoRow.holds Try.pinned (OpenSpec.upto fnMakeDwSpec)

/-- 'laws.FnDwSum', WHERE WHAT IT READS IS OF BULK AT MOST 1048576: true; the input reads as it did. -/
def fnDwSumUptoRow : OpenClaim := { program := "ytiemnhejonepfaa", sum := "266dfd5d78770cd889bc71314b5cbc302ef52266becae29320a1affc1ab597f6", func := "loop.example/g00506/laws.FnDwSum", spec := "fnDwSum", apart := false, narrowed := true }
def FnDwSumUptoSaid : Prop := fnDwSumUptoRow.holds Try.pinned (OpenSpec.upto fnDwSumSpec)

/-- 'laws.FnDwProduct', WHERE WHAT IT READS IS OF BULK AT MOST 1048576: true; the input reads as it did. -/
def fnDwProductUptoRow : OpenClaim := { program := "ytiemnhejonepfaa", sum := "266dfd5d78770cd889bc71314b5cbc302ef52266becae29320a1affc1ab597f6", func := "loop.example/g00506/laws.FnDwProduct", spec := "fnDwProduct", apart := false, narrowed := true }
def FnDwProductUptoSaid : Prop := fnDwProductUptoRow.holds Try.pinned (OpenSpec.upto fnDwProductSpec)

/-- 'laws.FnDwSpreads', WHERE WHAT IT READS IS OF BULK AT MOST 1048576: true; the input reads as it did. -/
def fnDwSpreadsUptoRow : OpenClaim := { program := "ytiemnhejonepfaa", sum := "266dfd5d78770cd889bc71314b5cbc302ef52266becae29320a1affc1ab597f6", func := "loop.example/g00506/laws.FnDwSpreads", spec := "fnDwSpreads", apart := false, narrowed := true }
def FnDwSpreadsUptoSaid : Prop := fnDwSpreadsUptoRow.holds Try.pinned (OpenSpec.upto fnDwSpreadsSpec)

/-- 'laws.FnExactIsValidDOmega', WHERE WHAT IT READS IS OF BULK AT MOST 1048576: true; the input reads as it did. -/
def fnExactIsValidDOmegaUptoRow : OpenClaim := { program := "ytiemnhejonepfaa", sum := "266dfd5d78770cd889bc71314b5cbc302ef52266becae29320a1affc1ab597f6", func := "loop.example/g00506/laws.FnExactIsValidDOmega", spec := "fnExactIsValidDOmega", apart := false, narrowed := true }
def FnExactIsValidDOmegaUptoSaid : Prop := fnExactIsValidDOmegaUptoRow.holds Try.pinned (OpenSpec.upto fnExactIsValidDOmegaSpec)

/-- 'laws.FnExactNewDOmega', WHERE WHAT IT READS IS OF BULK AT MOST 1048576: true; the input reads as it did. -/
def fnExactNewDOmegaUptoRow : OpenClaim := { program := "ytiemnhejonepfaa", sum := "266dfd5d78770cd889bc71314b5cbc302ef52266becae29320a1affc1ab597f6", func := "loop.example/g00506/laws.FnExactNewDOmega", spec := "fnExactNewDOmega", apart := false, narrowed := true }
def FnExactNewDOmegaUptoSaid : Prop := fnExactNewDOmegaUptoRow.holds Try.pinned (OpenSpec.upto fnExactNewDOmegaSpec)

/-- 'laws.FnExactAddDOmega', WHERE WHAT IT READS IS OF BULK AT MOST 1048576: true; the input reads as it did. -/
def fnExactAddDOmegaUptoRow : OpenClaim := { program := "ytiemnhejonepfaa", sum := "266dfd5d78770cd889bc71314b5cbc302ef52266becae29320a1affc1ab597f6", func := "loop.example/g00506/laws.FnExactAddDOmega", spec := "fnExactAddDOmega", apart := false, narrowed := true }
def FnExactAddDOmegaUptoSaid : Prop := fnExactAddDOmegaUptoRow.holds Try.pinned (OpenSpec.upto fnExactAddDOmegaSpec)

/-- 'laws.FnExactMulDOmega', WHERE WHAT IT READS IS OF BULK AT MOST 1048576: true; the input reads as it did. -/
def fnExactMulDOmegaUptoRow : OpenClaim := { program := "ytiemnhejonepfaa", sum := "266dfd5d78770cd889bc71314b5cbc302ef52266becae29320a1affc1ab597f6", func := "loop.example/g00506/laws.FnExactMulDOmega", spec := "fnExactMulDOmega", apart := false, narrowed := true }
def FnExactMulDOmegaUptoSaid : Prop := fnExactMulDOmegaUptoRow.holds Try.pinned (OpenSpec.upto fnExactMulDOmegaSpec)

/-- 'laws.FnExactNegDOmega', WHERE WHAT IT READS IS OF BULK AT MOST 1048576: true; the input reads as it did. -/
def fnExactNegDOmegaUptoRow : OpenClaim := { program := "ytiemnhejonepfaa", sum := "266dfd5d78770cd889bc71314b5cbc302ef52266becae29320a1affc1ab597f6", func := "loop.example/g00506/laws.FnExactNegDOmega", spec := "fnExactNegDOmega", apart := false, narrowed := true }
def FnExactNegDOmegaUptoSaid : Prop := fnExactNegDOmegaUptoRow.holds Try.pinned (OpenSpec.upto fnExactNegDOmegaSpec)

/-- 'laws.FnExactConjDOmega', WHERE WHAT IT READS IS OF BULK AT MOST 1048576: true; the input reads as it did. -/
def fnExactConjDOmegaUptoRow : OpenClaim := { program := "ytiemnhejonepfaa", sum := "266dfd5d78770cd889bc71314b5cbc302ef52266becae29320a1affc1ab597f6", func := "loop.example/g00506/laws.FnExactConjDOmega", spec := "fnExactConjDOmega", apart := false, narrowed := true }
def FnExactConjDOmegaUptoSaid : Prop := fnExactConjDOmegaUptoRow.holds Try.pinned (OpenSpec.upto fnExactConjDOmegaSpec)

/-- 'laws.FnExactOneDOmega', WHERE WHAT IT READS IS OF BULK AT MOST 1048576: true; the input reads as it did. -/
def fnExactOneDOmegaUptoRow : OpenClaim := { program := "ytiemnhejonepfaa", sum := "266dfd5d78770cd889bc71314b5cbc302ef52266becae29320a1affc1ab597f6", func := "loop.example/g00506/laws.FnExactOneDOmega", spec := "fnExactOneDOmega", apart := false, narrowed := true }
def FnExactOneDOmegaUptoSaid : Prop := fnExactOneDOmegaUptoRow.holds Try.pinned (OpenSpec.upto fnExactOneDOmegaSpec)

end Rows
end Go.Proofs.Ytiemnhejonepfaa
