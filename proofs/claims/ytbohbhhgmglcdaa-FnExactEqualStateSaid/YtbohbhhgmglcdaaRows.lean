/-
  No cell of these rows narrows 'for every input' (looked for: loops, veiled, ifaces, maps, wideKeys, modest, calm, conditions, laid).
  DERIVED. THE GIVEN ROWS OF THIS SEAT. 10 by the template 'for every input the law returns true; each argument reads behind the call as it read before'; 0 by the template 'total and deterministic' (their statements: YtbohbhhgmglcdaaTotals.lean).
  GIVEN WITH THE SEED: the statements are not yours to turn. If you find one false, say at which input.
  Laid BY PROGRAM, IN A SANDBOX (cutbox-rows.mjs): the forced cells as the released guide's own fill.sh prints them over the translation 6827cf7028385d08… (all of the seat's roots in one cut). By AI agents, Wed Nov 11 2026. No macro, syntax, notation, axiom, sorry.
-/
import Derived.Test.YtbohbhhgmglcdaaChecked
import GoSem.Claim
import GoSem.ClaimJoined
import GoSem.ClaimMapViews
import Derived.JoinedTies
import Derived.KernelRfl
namespace Go.Proofs.Ytbohbhhgmglcdaa
/- THE CELL 'sum', in the pinned program and in every row, IS THE sha256 OF THE DUMP (.gsa) THAT YtbohbhhgmglcdaaProg.lean LOADS. Nothing in Lean hashes anything: it is a label: what it is worth is what the hold of that sum in a sandbox is worth. -/
noncomputable def Try.pinned : Pinned := { name := "ytbohbhhgmglcdaa", sum := "6827cf7028385d08a32e53ce22b85fe0600507cc54aec16d215e3e50c042ca9b", checked := Try.checked }
namespace Rows
def none {H : Type} : Left H := { results := [], args := [] }

/-- 'laws.FnVec': WHATEVER THE INPUT: true; the input reads as it did. -/
def fnVecSpec : ChangeSpec := { name := "fnVec", fn := fun _ => fun
  | [d] => { results := [.lit (.bool true)], args := [d] }
  | _ => none }
def fnVecRow : OpenClaim := { program := "ytbohbhhgmglcdaa", sum := "6827cf7028385d08a32e53ce22b85fe0600507cc54aec16d215e3e50c042ca9b", func := "loop.example/g00506/laws.FnVec", spec := "fnVec", unfollowed := true, recurses := true, apart := false }
def FnVecSaid : Prop := fnVecRow.holds Try.pinned (OpenSpec.ofChange fnVecSpec)

/-- ITS FALSE NEIGHBOUR: 'it returns false'. Refute it at one input. -/
def fnVecWrong : ChangeSpec := { name := "fnVec", fn := fun _ => fun
  | [d] => { results := [.lit (.bool false)], args := [d] }
  | _ => none }
def FnVecWrongFalsely : Prop := fnVecRow.holds Try.pinned (OpenSpec.ofChange fnVecWrong)

/-- 'laws.FnBasis': WHATEVER THE INPUT: true; the input reads as it did. -/
def fnBasisSpec : ChangeSpec := { name := "fnBasis", fn := fun _ => fun
  | [d] => { results := [.lit (.bool true)], args := [d] }
  | _ => none }
def fnBasisRow : OpenClaim := { program := "ytbohbhhgmglcdaa", sum := "6827cf7028385d08a32e53ce22b85fe0600507cc54aec16d215e3e50c042ca9b", func := "loop.example/g00506/laws.FnBasis", spec := "fnBasis", unfollowed := true, recurses := true, apart := false }
def FnBasisSaid : Prop := fnBasisRow.holds Try.pinned (OpenSpec.ofChange fnBasisSpec)

/-- ITS FALSE NEIGHBOUR: 'it returns false'. Refute it at one input. -/
def fnBasisWrong : ChangeSpec := { name := "fnBasis", fn := fun _ => fun
  | [d] => { results := [.lit (.bool false)], args := [d] }
  | _ => none }
def FnBasisWrongFalsely : Prop := fnBasisRow.holds Try.pinned (OpenSpec.ofChange fnBasisWrong)

/-- 'laws.FnScaled': WHATEVER THE INPUT: true; the input reads as it did. -/
def fnScaledSpec : ChangeSpec := { name := "fnScaled", fn := fun _ => fun
  | [d] => { results := [.lit (.bool true)], args := [d] }
  | _ => none }
def fnScaledRow : OpenClaim := { program := "ytbohbhhgmglcdaa", sum := "6827cf7028385d08a32e53ce22b85fe0600507cc54aec16d215e3e50c042ca9b", func := "loop.example/g00506/laws.FnScaled", spec := "fnScaled", unfollowed := true, recurses := true, apart := false }
def FnScaledSaid : Prop := fnScaledRow.holds Try.pinned (OpenSpec.ofChange fnScaledSpec)

/-- ITS FALSE NEIGHBOUR: 'it returns false'. Refute it at one input. -/
def fnScaledWrong : ChangeSpec := { name := "fnScaled", fn := fun _ => fun
  | [d] => { results := [.lit (.bool false)], args := [d] }
  | _ => none }
def FnScaledWrongFalsely : Prop := fnScaledRow.holds Try.pinned (OpenSpec.ofChange fnScaledWrong)

/-- 'laws.FnExactIsValidState': WHATEVER THE INPUT: true; the input reads as it did. -/
def fnExactIsValidStateSpec : ChangeSpec := { name := "fnExactIsValidState", fn := fun _ => fun
  | [d] => { results := [.lit (.bool true)], args := [d] }
  | _ => none }
def fnExactIsValidStateRow : OpenClaim := { program := "ytbohbhhgmglcdaa", sum := "6827cf7028385d08a32e53ce22b85fe0600507cc54aec16d215e3e50c042ca9b", func := "loop.example/g00506/laws.FnExactIsValidState", spec := "fnExactIsValidState", apart := false }
def FnExactIsValidStateSaid : Prop := fnExactIsValidStateRow.holds Try.pinned (OpenSpec.ofChange fnExactIsValidStateSpec)

/-- ITS FALSE NEIGHBOUR: 'it returns false'. Refute it at one input. -/
def fnExactIsValidStateWrong : ChangeSpec := { name := "fnExactIsValidState", fn := fun _ => fun
  | [d] => { results := [.lit (.bool false)], args := [d] }
  | _ => none }
def FnExactIsValidStateWrongFalsely : Prop := fnExactIsValidStateRow.holds Try.pinned (OpenSpec.ofChange fnExactIsValidStateWrong)

/-- 'laws.FnExactQubitCount': WHATEVER THE INPUT: true; the input reads as it did. -/
def fnExactQubitCountSpec : ChangeSpec := { name := "fnExactQubitCount", fn := fun _ => fun
  | [d] => { results := [.lit (.bool true)], args := [d] }
  | _ => none }
def fnExactQubitCountRow : OpenClaim := { program := "ytbohbhhgmglcdaa", sum := "6827cf7028385d08a32e53ce22b85fe0600507cc54aec16d215e3e50c042ca9b", func := "loop.example/g00506/laws.FnExactQubitCount", spec := "fnExactQubitCount", apart := false }
def FnExactQubitCountSaid : Prop := fnExactQubitCountRow.holds Try.pinned (OpenSpec.ofChange fnExactQubitCountSpec)

/-- ITS FALSE NEIGHBOUR: 'it returns false'. Refute it at one input. -/
def fnExactQubitCountWrong : ChangeSpec := { name := "fnExactQubitCount", fn := fun _ => fun
  | [d] => { results := [.lit (.bool false)], args := [d] }
  | _ => none }
def FnExactQubitCountWrongFalsely : Prop := fnExactQubitCountRow.holds Try.pinned (OpenSpec.ofChange fnExactQubitCountWrong)

/-- 'laws.FnExactBasisState': WHATEVER THE INPUT: true; the input reads as it did. -/
def fnExactBasisStateSpec : ChangeSpec := { name := "fnExactBasisState", fn := fun _ => fun
  | [d1, d2] => { results := [.lit (.bool true)], args := [d1, d2] }
  | _ => none }
def fnExactBasisStateRow : OpenClaim := { program := "ytbohbhhgmglcdaa", sum := "6827cf7028385d08a32e53ce22b85fe0600507cc54aec16d215e3e50c042ca9b", func := "loop.example/g00506/laws.FnExactBasisState", spec := "fnExactBasisState", apart := false }
def FnExactBasisStateSaid : Prop := fnExactBasisStateRow.holds Try.pinned (OpenSpec.ofChange fnExactBasisStateSpec)

/-- ITS FALSE NEIGHBOUR: 'it returns false'. Refute it at one input. -/
def fnExactBasisStateWrong : ChangeSpec := { name := "fnExactBasisState", fn := fun _ => fun
  | [d1, d2] => { results := [.lit (.bool false)], args := [d1, d2] }
  | _ => none }
def FnExactBasisStateWrongFalsely : Prop := fnExactBasisStateRow.holds Try.pinned (OpenSpec.ofChange fnExactBasisStateWrong)

/-- 'laws.FnExactScaleState': WHATEVER THE INPUT: true; the input reads as it did. -/
def fnExactScaleStateSpec : ChangeSpec := { name := "fnExactScaleState", fn := fun _ => fun
  | [d1, d2] => { results := [.lit (.bool true)], args := [d1, d2] }
  | _ => none }
def fnExactScaleStateRow : OpenClaim := { program := "ytbohbhhgmglcdaa", sum := "6827cf7028385d08a32e53ce22b85fe0600507cc54aec16d215e3e50c042ca9b", func := "loop.example/g00506/laws.FnExactScaleState", spec := "fnExactScaleState", unfollowed := true, recurses := true, apart := false }
def FnExactScaleStateSaid : Prop := fnExactScaleStateRow.holds Try.pinned (OpenSpec.ofChange fnExactScaleStateSpec)

/-- ITS FALSE NEIGHBOUR: 'it returns false'. Refute it at one input. -/
def fnExactScaleStateWrong : ChangeSpec := { name := "fnExactScaleState", fn := fun _ => fun
  | [d1, d2] => { results := [.lit (.bool false)], args := [d1, d2] }
  | _ => none }
def FnExactScaleStateWrongFalsely : Prop := fnExactScaleStateRow.holds Try.pinned (OpenSpec.ofChange fnExactScaleStateWrong)

/-- 'laws.FnExactAddStates': WHATEVER THE INPUT: true; the input reads as it did. -/
def fnExactAddStatesSpec : ChangeSpec := { name := "fnExactAddStates", fn := fun _ => fun
  | [d1, d2] => { results := [.lit (.bool true)], args := [d1, d2] }
  | _ => none }
def fnExactAddStatesRow : OpenClaim := { program := "ytbohbhhgmglcdaa", sum := "6827cf7028385d08a32e53ce22b85fe0600507cc54aec16d215e3e50c042ca9b", func := "loop.example/g00506/laws.FnExactAddStates", spec := "fnExactAddStates", unfollowed := true, recurses := true, apart := false }
def FnExactAddStatesSaid : Prop := fnExactAddStatesRow.holds Try.pinned (OpenSpec.ofChange fnExactAddStatesSpec)

/-- ITS FALSE NEIGHBOUR: 'it returns false'. Refute it at one input. -/
def fnExactAddStatesWrong : ChangeSpec := { name := "fnExactAddStates", fn := fun _ => fun
  | [d1, d2] => { results := [.lit (.bool false)], args := [d1, d2] }
  | _ => none }
def FnExactAddStatesWrongFalsely : Prop := fnExactAddStatesRow.holds Try.pinned (OpenSpec.ofChange fnExactAddStatesWrong)

/-- 'laws.FnExactInnerProduct': WHATEVER THE INPUT: true; the input reads as it did. -/
def fnExactInnerProductSpec : ChangeSpec := { name := "fnExactInnerProduct", fn := fun _ => fun
  | [d1, d2] => { results := [.lit (.bool true)], args := [d1, d2] }
  | _ => none }
def fnExactInnerProductRow : OpenClaim := { program := "ytbohbhhgmglcdaa", sum := "6827cf7028385d08a32e53ce22b85fe0600507cc54aec16d215e3e50c042ca9b", func := "loop.example/g00506/laws.FnExactInnerProduct", spec := "fnExactInnerProduct", unfollowed := true, recurses := true, apart := false }
def FnExactInnerProductSaid : Prop := fnExactInnerProductRow.holds Try.pinned (OpenSpec.ofChange fnExactInnerProductSpec)

/-- ITS FALSE NEIGHBOUR: 'it returns false'. Refute it at one input. -/
def fnExactInnerProductWrong : ChangeSpec := { name := "fnExactInnerProduct", fn := fun _ => fun
  | [d1, d2] => { results := [.lit (.bool false)], args := [d1, d2] }
  | _ => none }
def FnExactInnerProductWrongFalsely : Prop := fnExactInnerProductRow.holds Try.pinned (OpenSpec.ofChange fnExactInnerProductWrong)

/-- 'laws.FnExactEqualState': WHATEVER THE INPUT: true; the input reads as it did. -/
def fnExactEqualStateSpec : ChangeSpec := { name := "fnExactEqualState", fn := fun _ => fun
  | [d1, d2] => { results := [.lit (.bool true)], args := [d1, d2] }
  | _ => none }
def fnExactEqualStateRow : OpenClaim := { program := "ytbohbhhgmglcdaa", sum := "6827cf7028385d08a32e53ce22b85fe0600507cc54aec16d215e3e50c042ca9b", func := "loop.example/g00506/laws.FnExactEqualState", spec := "fnExactEqualState", apart := false }
def FnExactEqualStateSaid : Prop := fnExactEqualStateRow.holds Try.pinned (OpenSpec.ofChange fnExactEqualStateSpec)

/-- ITS FALSE NEIGHBOUR: 'it returns false'. Refute it at one input. -/
def fnExactEqualStateWrong : ChangeSpec := { name := "fnExactEqualState", fn := fun _ => fun
  | [d1, d2] => { results := [.lit (.bool false)], args := [d1, d2] }
  | _ => none }
def FnExactEqualStateWrongFalsely : Prop := fnExactEqualStateRow.holds Try.pinned (OpenSpec.ofChange fnExactEqualStateWrong)

/- THE SECOND FORM. 'bulk': how many values and letters a reading holds, each counted each time it is reached (what is shared counts as often as it is met; a slice's spare places count too). A statement '..UptoSaid' is the law's where the arguments, and the package variables that the reading takes, are together of bulk at most 1048576: NARROWER than '..Said'. Prove '..Said' where nothing that the law and all that it calls make is longer than what came in: it says more and counts as full. Else prove '..UptoSaid'. A law counts once. -/
mutual
def uptoBulk {H : Type} : DataW H → Nat
  | .lit (.string bytes) => bytes.length + 1
  | .lit _ => 1
  | .nil => 1
  | .ptr d => uptoBulk d + 1
  | .slice elems spare => uptoBulkAll elems + uptoBulkAll spare + 1
  | .agg parts => uptoBulkAll parts + 1
  | .iface _ d => uptoBulk d + 1
  | .map entries => uptoBulkEntries entries + 1
  | .held _ => 1
def uptoBulkAll {H : Type} : List (DataW H) → Nat
  | [] => 0
  | d :: r => uptoBulk d + uptoBulkAll r
def uptoBulkEntries {H : Type} : List (Lit × DataW H) → Nat
  | [] => 0
  | x :: r => uptoBulkEntry x + uptoBulkEntries r
def uptoBulkEntry {H : Type} : Lit × DataW H → Nat
  | (.string bytes, d) => bytes.length + uptoBulk d + 1
  | (_, d) => uptoBulk d + 1
 end
def uptoSmall : (H : Type) → List (DataW H) → Bool := fun _ ds => decide (uptoBulkAll ds ≤ 1048576)
def OpenSpec.upto (s : _root_.Go.ChangeSpec) : _root_.Go.OpenSpec := { _root_.Go.OpenSpec.ofChange s with cond := some uptoSmall }

/-- 'laws.FnVec', WHERE WHAT IT READS IS OF BULK AT MOST 1048576: true; the input reads as it did. -/
def fnVecUptoRow : OpenClaim := { program := "ytbohbhhgmglcdaa", sum := "6827cf7028385d08a32e53ce22b85fe0600507cc54aec16d215e3e50c042ca9b", func := "loop.example/g00506/laws.FnVec", spec := "fnVec", unfollowed := true, recurses := true, apart := false, narrowed := true }
def FnVecUptoSaid : Prop := fnVecUptoRow.holds Try.pinned (OpenSpec.upto fnVecSpec)

/-- 'laws.FnBasis', WHERE WHAT IT READS IS OF BULK AT MOST 1048576: true; the input reads as it did. -/
def fnBasisUptoRow : OpenClaim := { program := "ytbohbhhgmglcdaa", sum := "6827cf7028385d08a32e53ce22b85fe0600507cc54aec16d215e3e50c042ca9b", func := "loop.example/g00506/laws.FnBasis", spec := "fnBasis", unfollowed := true, recurses := true, apart := false, narrowed := true }
def FnBasisUptoSaid : Prop := fnBasisUptoRow.holds Try.pinned (OpenSpec.upto fnBasisSpec)

/-- 'laws.FnScaled', WHERE WHAT IT READS IS OF BULK AT MOST 1048576: true; the input reads as it did. -/
def fnScaledUptoRow : OpenClaim := { program := "ytbohbhhgmglcdaa", sum := "6827cf7028385d08a32e53ce22b85fe0600507cc54aec16d215e3e50c042ca9b", func := "loop.example/g00506/laws.FnScaled", spec := "fnScaled", unfollowed := true, recurses := true, apart := false, narrowed := true }
def FnScaledUptoSaid : Prop := fnScaledUptoRow.holds Try.pinned (OpenSpec.upto fnScaledSpec)

/-- 'laws.FnExactIsValidState', WHERE WHAT IT READS IS OF BULK AT MOST 1048576: true; the input reads as it did. -/
def fnExactIsValidStateUptoRow : OpenClaim := { program := "ytbohbhhgmglcdaa", sum := "6827cf7028385d08a32e53ce22b85fe0600507cc54aec16d215e3e50c042ca9b", func := "loop.example/g00506/laws.FnExactIsValidState", spec := "fnExactIsValidState", apart := false, narrowed := true }
def FnExactIsValidStateUptoSaid : Prop := fnExactIsValidStateUptoRow.holds Try.pinned (OpenSpec.upto fnExactIsValidStateSpec)

/-- 'laws.FnExactQubitCount', WHERE WHAT IT READS IS OF BULK AT MOST 1048576: true; the input reads as it did. -/
def fnExactQubitCountUptoRow : OpenClaim := { program := "ytbohbhhgmglcdaa", sum := "6827cf7028385d08a32e53ce22b85fe0600507cc54aec16d215e3e50c042ca9b", func := "loop.example/g00506/laws.FnExactQubitCount", spec := "fnExactQubitCount", apart := false, narrowed := true }
def FnExactQubitCountUptoSaid : Prop := fnExactQubitCountUptoRow.holds Try.pinned (OpenSpec.upto fnExactQubitCountSpec)

/-- 'laws.FnExactBasisState', WHERE WHAT IT READS IS OF BULK AT MOST 1048576: true; the input reads as it did. -/
def fnExactBasisStateUptoRow : OpenClaim := { program := "ytbohbhhgmglcdaa", sum := "6827cf7028385d08a32e53ce22b85fe0600507cc54aec16d215e3e50c042ca9b", func := "loop.example/g00506/laws.FnExactBasisState", spec := "fnExactBasisState", apart := false, narrowed := true }
def FnExactBasisStateUptoSaid : Prop := fnExactBasisStateUptoRow.holds Try.pinned (OpenSpec.upto fnExactBasisStateSpec)

/-- 'laws.FnExactScaleState', WHERE WHAT IT READS IS OF BULK AT MOST 1048576: true; the input reads as it did. -/
def fnExactScaleStateUptoRow : OpenClaim := { program := "ytbohbhhgmglcdaa", sum := "6827cf7028385d08a32e53ce22b85fe0600507cc54aec16d215e3e50c042ca9b", func := "loop.example/g00506/laws.FnExactScaleState", spec := "fnExactScaleState", unfollowed := true, recurses := true, apart := false, narrowed := true }
def FnExactScaleStateUptoSaid : Prop := fnExactScaleStateUptoRow.holds Try.pinned (OpenSpec.upto fnExactScaleStateSpec)

/-- 'laws.FnExactAddStates', WHERE WHAT IT READS IS OF BULK AT MOST 1048576: true; the input reads as it did. -/
def fnExactAddStatesUptoRow : OpenClaim := { program := "ytbohbhhgmglcdaa", sum := "6827cf7028385d08a32e53ce22b85fe0600507cc54aec16d215e3e50c042ca9b", func := "loop.example/g00506/laws.FnExactAddStates", spec := "fnExactAddStates", unfollowed := true, recurses := true, apart := false, narrowed := true }
def FnExactAddStatesUptoSaid : Prop := fnExactAddStatesUptoRow.holds Try.pinned (OpenSpec.upto fnExactAddStatesSpec)

/-- 'laws.FnExactInnerProduct', WHERE WHAT IT READS IS OF BULK AT MOST 1048576: true; the input reads as it did. -/
def fnExactInnerProductUptoRow : OpenClaim := { program := "ytbohbhhgmglcdaa", sum := "6827cf7028385d08a32e53ce22b85fe0600507cc54aec16d215e3e50c042ca9b", func := "loop.example/g00506/laws.FnExactInnerProduct", spec := "fnExactInnerProduct", unfollowed := true, recurses := true, apart := false, narrowed := true }
def FnExactInnerProductUptoSaid : Prop := fnExactInnerProductUptoRow.holds Try.pinned (OpenSpec.upto fnExactInnerProductSpec)

/-- 'laws.FnExactEqualState', WHERE WHAT IT READS IS OF BULK AT MOST 1048576: true; the input reads as it did. -/
def fnExactEqualStateUptoRow : OpenClaim := { program := "ytbohbhhgmglcdaa", sum := "6827cf7028385d08a32e53ce22b85fe0600507cc54aec16d215e3e50c042ca9b", func := "loop.example/g00506/laws.FnExactEqualState", spec := "fnExactEqualState", apart := false, narrowed := true }
def FnExactEqualStateUptoSaid : Prop := fnExactEqualStateUptoRow.holds Try.pinned (OpenSpec.upto fnExactEqualStateSpec)

end Rows
end Go.Proofs.Ytbohbhhgmglcdaa
