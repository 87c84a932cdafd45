/-
  No cell of these rows narrows 'for every input' (looked for: loops, veiled, ifaces, maps, wideKeys, modest, calm, conditions, laid).
  DERIVED. THE GIVEN ROWS OF THIS SEAT. 12 by the template 'for every input the law returns true; each argument reads behind the call as it read before'; 0 by the template 'total and deterministic' (their statements: YtkcpemkahkkcmaaTotals.lean).
  GIVEN WITH THE SEED: the statements are not yours to turn. If you find one false, say at which input.
  Laid BY PROGRAM, IN A SANDBOX (cutbox-rows.mjs): the forced cells as the released guide's own fill.sh prints them over the translation ab4cd27119068ce1… (all of the seat's roots in one cut). By AI agents, Wed Nov 11 2026. No macro, syntax, notation, axiom, sorry.
-/
import Derived.Test.YtkcpemkahkkcmaaChecked
import GoSem.Claim
import GoSem.ClaimJoined
import GoSem.ClaimMapViews
import Derived.JoinedTies
import Derived.KernelRfl
namespace Go.Proofs.Ytkcpemkahkkcmaa
/- THE CELL 'sum', in the pinned program and in every row, IS THE sha256 OF THE DUMP (.gsa) THAT YtkcpemkahkkcmaaProg.lean LOADS. Nothing in Lean hashes anything: it is a label: what it is worth is what the hold of that sum in a sandbox is worth. -/
noncomputable def Try.pinned : Pinned := { name := "ytkcpemkahkkcmaa", sum := "ab4cd27119068ce10cefcf97340e0d635b15d2fd329f58f08ca7d86341ae6b95", checked := Try.checked }
namespace Rows
def none {H : Type} : Left H := { results := [], args := [] }

/-- 'laws.FnMulMat': WHATEVER THE INPUT: true; the input reads as it did. -/
def fnMulMatSpec : ChangeSpec := { name := "fnMulMat", fn := fun _ => fun
  | [d] => { results := [.lit (.bool true)], args := [d] }
  | _ => none }
def fnMulMatRow : OpenClaim := { program := "ytkcpemkahkkcmaa", sum := "ab4cd27119068ce10cefcf97340e0d635b15d2fd329f58f08ca7d86341ae6b95", func := "loop.example/g00506/laws.FnMulMat", spec := "fnMulMat", unfollowed := true, recurses := true, apart := false }
def FnMulMatSaid : Prop := fnMulMatRow.holds Try.pinned (OpenSpec.ofChange fnMulMatSpec)

/-- ITS FALSE NEIGHBOUR: 'it returns false'. Refute it at one input. -/
def fnMulMatWrong : ChangeSpec := { name := "fnMulMat", fn := fun _ => fun
  | [d] => { results := [.lit (.bool false)], args := [d] }
  | _ => none }
def FnMulMatWrongFalsely : Prop := fnMulMatRow.holds Try.pinned (OpenSpec.ofChange fnMulMatWrong)

/-- 'laws.FnAdjoint': WHATEVER THE INPUT: true; the input reads as it did. -/
def fnAdjointSpec : ChangeSpec := { name := "fnAdjoint", fn := fun _ => fun
  | [d] => { results := [.lit (.bool true)], args := [d] }
  | _ => none }
def fnAdjointRow : OpenClaim := { program := "ytkcpemkahkkcmaa", sum := "ab4cd27119068ce10cefcf97340e0d635b15d2fd329f58f08ca7d86341ae6b95", func := "loop.example/g00506/laws.FnAdjoint", spec := "fnAdjoint", unfollowed := true, recurses := true, apart := false }
def FnAdjointSaid : Prop := fnAdjointRow.holds Try.pinned (OpenSpec.ofChange fnAdjointSpec)

/-- ITS FALSE NEIGHBOUR: 'it returns false'. Refute it at one input. -/
def fnAdjointWrong : ChangeSpec := { name := "fnAdjoint", fn := fun _ => fun
  | [d] => { results := [.lit (.bool false)], args := [d] }
  | _ => none }
def FnAdjointWrongFalsely : Prop := fnAdjointRow.holds Try.pinned (OpenSpec.ofChange fnAdjointWrong)

/-- 'laws.FnMoved': WHATEVER THE INPUT: true; the input reads as it did. -/
def fnMovedSpec : ChangeSpec := { name := "fnMoved", fn := fun _ => fun
  | [d] => { results := [.lit (.bool true)], args := [d] }
  | _ => none }
def fnMovedRow : OpenClaim := { program := "ytkcpemkahkkcmaa", sum := "ab4cd27119068ce10cefcf97340e0d635b15d2fd329f58f08ca7d86341ae6b95", func := "loop.example/g00506/laws.FnMoved", spec := "fnMoved", recurses := true, apart := false }
def FnMovedSaid : Prop := fnMovedRow.holds Try.pinned (OpenSpec.ofChange fnMovedSpec)

/-- ITS FALSE NEIGHBOUR: 'it returns false'. Refute it at one input. -/
def fnMovedWrong : ChangeSpec := { name := "fnMoved", fn := fun _ => fun
  | [d] => { results := [.lit (.bool false)], args := [d] }
  | _ => none }
def FnMovedWrongFalsely : Prop := fnMovedRow.holds Try.pinned (OpenSpec.ofChange fnMovedWrong)

/-- 'laws.FnPermMat': WHATEVER THE INPUT: true; the input reads as it did. -/
def fnPermMatSpec : ChangeSpec := { name := "fnPermMat", fn := fun _ => fun
  | [d] => { results := [.lit (.bool true)], args := [d] }
  | _ => none }
def fnPermMatRow : OpenClaim := { program := "ytkcpemkahkkcmaa", sum := "ab4cd27119068ce10cefcf97340e0d635b15d2fd329f58f08ca7d86341ae6b95", func := "loop.example/g00506/laws.FnPermMat", spec := "fnPermMat", unfollowed := true, recurses := true, apart := false }
def FnPermMatSaid : Prop := fnPermMatRow.holds Try.pinned (OpenSpec.ofChange fnPermMatSpec)

/-- ITS FALSE NEIGHBOUR: 'it returns false'. Refute it at one input. -/
def fnPermMatWrong : ChangeSpec := { name := "fnPermMat", fn := fun _ => fun
  | [d] => { results := [.lit (.bool false)], args := [d] }
  | _ => none }
def FnPermMatWrongFalsely : Prop := fnPermMatRow.holds Try.pinned (OpenSpec.ofChange fnPermMatWrong)

/-- 'laws.FnRunGates': WHATEVER THE INPUT: true; the input reads as it did. -/
def fnRunGatesSpec : ChangeSpec := { name := "fnRunGates", fn := fun _ => fun
  | [d] => { results := [.lit (.bool true)], args := [d] }
  | _ => none }
def fnRunGatesRow : OpenClaim := { program := "ytkcpemkahkkcmaa", sum := "ab4cd27119068ce10cefcf97340e0d635b15d2fd329f58f08ca7d86341ae6b95", func := "loop.example/g00506/laws.FnRunGates", spec := "fnRunGates", unfollowed := true, recurses := true, apart := false }
def FnRunGatesSaid : Prop := fnRunGatesRow.holds Try.pinned (OpenSpec.ofChange fnRunGatesSpec)

/-- ITS FALSE NEIGHBOUR: 'it returns false'. Refute it at one input. -/
def fnRunGatesWrong : ChangeSpec := { name := "fnRunGates", fn := fun _ => fun
  | [d] => { results := [.lit (.bool false)], args := [d] }
  | _ => none }
def FnRunGatesWrongFalsely : Prop := fnRunGatesRow.holds Try.pinned (OpenSpec.ofChange fnRunGatesWrong)

/-- 'laws.FnExactMulMatrix': WHATEVER THE INPUT: true; the input reads as it did. -/
def fnExactMulMatrixSpec : ChangeSpec := { name := "fnExactMulMatrix", fn := fun _ => fun
  | [d1, d2] => { results := [.lit (.bool true)], args := [d1, d2] }
  | _ => none }
def fnExactMulMatrixRow : OpenClaim := { program := "ytkcpemkahkkcmaa", sum := "ab4cd27119068ce10cefcf97340e0d635b15d2fd329f58f08ca7d86341ae6b95", func := "loop.example/g00506/laws.FnExactMulMatrix", spec := "fnExactMulMatrix", unfollowed := true, recurses := true, apart := false }
def FnExactMulMatrixSaid : Prop := fnExactMulMatrixRow.holds Try.pinned (OpenSpec.ofChange fnExactMulMatrixSpec)

/-- ITS FALSE NEIGHBOUR: 'it returns false'. Refute it at one input. -/
def fnExactMulMatrixWrong : ChangeSpec := { name := "fnExactMulMatrix", fn := fun _ => fun
  | [d1, d2] => { results := [.lit (.bool false)], args := [d1, d2] }
  | _ => none }
def FnExactMulMatrixWrongFalsely : Prop := fnExactMulMatrixRow.holds Try.pinned (OpenSpec.ofChange fnExactMulMatrixWrong)

/-- 'laws.FnExactIsUnitary': WHATEVER THE INPUT: true; the input reads as it did. -/
def fnExactIsUnitarySpec : ChangeSpec := { name := "fnExactIsUnitary", fn := fun _ => fun
  | [d] => { results := [.lit (.bool true)], args := [d] }
  | _ => none }
def fnExactIsUnitaryRow : OpenClaim := { program := "ytkcpemkahkkcmaa", sum := "ab4cd27119068ce10cefcf97340e0d635b15d2fd329f58f08ca7d86341ae6b95", func := "loop.example/g00506/laws.FnExactIsUnitary", spec := "fnExactIsUnitary", unfollowed := true, recurses := true, apart := false }
def FnExactIsUnitarySaid : Prop := fnExactIsUnitaryRow.holds Try.pinned (OpenSpec.ofChange fnExactIsUnitarySpec)

/-- ITS FALSE NEIGHBOUR: 'it returns false'. Refute it at one input. -/
def fnExactIsUnitaryWrong : ChangeSpec := { name := "fnExactIsUnitary", fn := fun _ => fun
  | [d] => { results := [.lit (.bool false)], args := [d] }
  | _ => none }
def FnExactIsUnitaryWrongFalsely : Prop := fnExactIsUnitaryRow.holds Try.pinned (OpenSpec.ofChange fnExactIsUnitaryWrong)

/-- 'laws.FnExactPermuteIndex': WHATEVER THE INPUT: true; the input reads as it did. -/
def fnExactPermuteIndexSpec : ChangeSpec := { name := "fnExactPermuteIndex", fn := fun _ => fun
  | [d1, d2] => { results := [.lit (.bool true)], args := [d1, d2] }
  | _ => none }
def fnExactPermuteIndexRow : OpenClaim := { program := "ytkcpemkahkkcmaa", sum := "ab4cd27119068ce10cefcf97340e0d635b15d2fd329f58f08ca7d86341ae6b95", func := "loop.example/g00506/laws.FnExactPermuteIndex", spec := "fnExactPermuteIndex", recurses := true, apart := false }
def FnExactPermuteIndexSaid : Prop := fnExactPermuteIndexRow.holds Try.pinned (OpenSpec.ofChange fnExactPermuteIndexSpec)

/-- ITS FALSE NEIGHBOUR: 'it returns false'. Refute it at one input. -/
def fnExactPermuteIndexWrong : ChangeSpec := { name := "fnExactPermuteIndex", fn := fun _ => fun
  | [d1, d2] => { results := [.lit (.bool false)], args := [d1, d2] }
  | _ => none }
def FnExactPermuteIndexWrongFalsely : Prop := fnExactPermuteIndexRow.holds Try.pinned (OpenSpec.ofChange fnExactPermuteIndexWrong)

/-- 'laws.FnExactPermutationMatrix': WHATEVER THE INPUT: true; the input reads as it did. -/
def fnExactPermutationMatrixSpec : ChangeSpec := { name := "fnExactPermutationMatrix", fn := fun _ => fun
  | [d] => { results := [.lit (.bool true)], args := [d] }
  | _ => none }
def fnExactPermutationMatrixRow : OpenClaim := { program := "ytkcpemkahkkcmaa", sum := "ab4cd27119068ce10cefcf97340e0d635b15d2fd329f58f08ca7d86341ae6b95", func := "loop.example/g00506/laws.FnExactPermutationMatrix", spec := "fnExactPermutationMatrix", recurses := true, apart := false }
def FnExactPermutationMatrixSaid : Prop := fnExactPermutationMatrixRow.holds Try.pinned (OpenSpec.ofChange fnExactPermutationMatrixSpec)

/-- ITS FALSE NEIGHBOUR: 'it returns false'. Refute it at one input. -/
def fnExactPermutationMatrixWrong : ChangeSpec := { name := "fnExactPermutationMatrix", fn := fun _ => fun
  | [d] => { results := [.lit (.bool false)], args := [d] }
  | _ => none }
def FnExactPermutationMatrixWrongFalsely : Prop := fnExactPermutationMatrixRow.holds Try.pinned (OpenSpec.ofChange fnExactPermutationMatrixWrong)

/-- 'laws.FnExactApplyGate': WHATEVER THE INPUT: true; the input reads as it did. -/
def fnExactApplyGateSpec : ChangeSpec := { name := "fnExactApplyGate", fn := fun _ => fun
  | [d1, d2] => { results := [.lit (.bool true)], args := [d1, d2] }
  | _ => none }
def fnExactApplyGateRow : OpenClaim := { program := "ytkcpemkahkkcmaa", sum := "ab4cd27119068ce10cefcf97340e0d635b15d2fd329f58f08ca7d86341ae6b95", func := "loop.example/g00506/laws.FnExactApplyGate", spec := "fnExactApplyGate", unfollowed := true, recurses := true, apart := false }
def FnExactApplyGateSaid : Prop := fnExactApplyGateRow.holds Try.pinned (OpenSpec.ofChange fnExactApplyGateSpec)

/-- ITS FALSE NEIGHBOUR: 'it returns false'. Refute it at one input. -/
def fnExactApplyGateWrong : ChangeSpec := { name := "fnExactApplyGate", fn := fun _ => fun
  | [d1, d2] => { results := [.lit (.bool false)], args := [d1, d2] }
  | _ => none }
def FnExactApplyGateWrongFalsely : Prop := fnExactApplyGateRow.holds Try.pinned (OpenSpec.ofChange fnExactApplyGateWrong)

/-- 'laws.FnExactApplyGates': WHATEVER THE INPUT: true; the input reads as it did. -/
def fnExactApplyGatesSpec : ChangeSpec := { name := "fnExactApplyGates", fn := fun _ => fun
  | [d1, d2] => { results := [.lit (.bool true)], args := [d1, d2] }
  | _ => none }
def fnExactApplyGatesRow : OpenClaim := { program := "ytkcpemkahkkcmaa", sum := "ab4cd27119068ce10cefcf97340e0d635b15d2fd329f58f08ca7d86341ae6b95", func := "loop.example/g00506/laws.FnExactApplyGates", spec := "fnExactApplyGates", unfollowed := true, recurses := true, apart := false }
def FnExactApplyGatesSaid : Prop := fnExactApplyGatesRow.holds Try.pinned (OpenSpec.ofChange fnExactApplyGatesSpec)

/-- ITS FALSE NEIGHBOUR: 'it returns false'. Refute it at one input. -/
def fnExactApplyGatesWrong : ChangeSpec := { name := "fnExactApplyGates", fn := fun _ => fun
  | [d1, d2] => { results := [.lit (.bool false)], args := [d1, d2] }
  | _ => none }
def FnExactApplyGatesWrongFalsely : Prop := fnExactApplyGatesRow.holds Try.pinned (OpenSpec.ofChange fnExactApplyGatesWrong)

/-- 'laws.FnExactGateMatrix': WHATEVER THE INPUT: true; the input reads as it did. -/
def fnExactGateMatrixSpec : ChangeSpec := { name := "fnExactGateMatrix", fn := fun _ => fun
  | [d1, d2] => { results := [.lit (.bool true)], args := [d1, d2] }
  | _ => none }
def fnExactGateMatrixRow : OpenClaim := { program := "ytkcpemkahkkcmaa", sum := "ab4cd27119068ce10cefcf97340e0d635b15d2fd329f58f08ca7d86341ae6b95", func := "loop.example/g00506/laws.FnExactGateMatrix", spec := "fnExactGateMatrix", unfollowed := true, recurses := true, apart := false }
def FnExactGateMatrixSaid : Prop := fnExactGateMatrixRow.holds Try.pinned (OpenSpec.ofChange fnExactGateMatrixSpec)

/-- ITS FALSE NEIGHBOUR: 'it returns false'. Refute it at one input. -/
def fnExactGateMatrixWrong : ChangeSpec := { name := "fnExactGateMatrix", fn := fun _ => fun
  | [d1, d2] => { results := [.lit (.bool false)], args := [d1, d2] }
  | _ => none }
def FnExactGateMatrixWrongFalsely : Prop := fnExactGateMatrixRow.holds Try.pinned (OpenSpec.ofChange fnExactGateMatrixWrong)

/- THE SECOND FORM. 'bulk': how many values and letters a reading holds, each counted each time it is reached (what is shared counts as often as it is met; a slice's spare places count too). A statement '..UptoSaid' is the law's where the arguments, and the package variables that the reading takes, are together of bulk at most 1048576: NARROWER than '..Said'. Prove '..Said' where nothing that the law and all that it calls make is longer than what came in: it says more and counts as full. Else prove '..UptoSaid'. A law counts once. -/
mutual
def uptoBulk {H : Type} : DataW H → Nat
  | .lit (.string bytes) => bytes.length + 1
  | .lit _ => 1
  | .nil => 1
  | .ptr d => uptoBulk d + 1
  | .slice elems spare => uptoBulkAll elems + uptoBulkAll spare + 1
  | .agg parts => uptoBulkAll parts + 1
  | .iface _ d => uptoBulk d + 1
  | .map entries => uptoBulkEntries entries + 1
  | .held _ => 1
def uptoBulkAll {H : Type} : List (DataW H) → Nat
  | [] => 0
  | d :: r => uptoBulk d + uptoBulkAll r
def uptoBulkEntries {H : Type} : List (Lit × DataW H) → Nat
  | [] => 0
  | x :: r => uptoBulkEntry x + uptoBulkEntries r
def uptoBulkEntry {H : Type} : Lit × DataW H → Nat
  | (.string bytes, d) => bytes.length + uptoBulk d + 1
  | (_, d) => uptoBulk d + 1
 end
def uptoSmall : (H : Type) → List (DataW H) → Bool := fun _ ds => decide (uptoBulkAll ds ≤ 1048576)
def OpenSpec.upto (s : _root_.Go.ChangeSpec) : _root_.Go.OpenSpec := { _root_.Go.OpenSpec.ofChange s with cond := some uptoSmall }

/-- 'laws.FnMulMat', WHERE WHAT IT READS IS OF BULK AT MOST 1048576: true; the input reads as it did. -/
def fnMulMatUptoRow : OpenClaim := { program := "ytkcpemkahkkcmaa", sum := "ab4cd27119068ce10cefcf97340e0d635b15d2fd329f58f08ca7d86341ae6b95", func := "loop.example/g00506/laws.FnMulMat", spec := "fnMulMat", unfollowed := true, recurses := true, apart := false, narrowed := true }
def FnMulMatUptoSaid : Prop := fnMulMatUptoRow.holds Try.pinned (OpenSpec.upto fnMulMatSpec)

/-- 'laws.FnAdjoint', WHERE WHAT IT READS IS OF BULK AT MOST 1048576: true; the input reads as it did. -/
def fnAdjointUptoRow : OpenClaim := { program := "ytkcpemkahkkcmaa", sum := "ab4cd27119068ce10cefcf97340e0d635b15d2fd329f58f08ca7d86341ae6b95", func := "loop.example/g00506/laws.FnAdjoint", spec := "fnAdjoint", unfollowed := true, recurses := true, apart := false, narrowed := true }
def FnAdjointUptoSaid : Prop := fnAdjointUptoRow.holds Try.pinned (OpenSpec.upto fnAdjointSpec)

/-- 'laws.FnMoved', WHERE WHAT IT READS IS OF BULK AT MOST 1048576: true; the input reads as it did. -/
def fnMovedUptoRow : OpenClaim := { program := "ytkcpemkahkkcmaa", sum := "ab4cd27119068ce10cefcf97340e0d635b15d2fd329f58f08ca7d86341ae6b95", func := "loop.example/g00506/laws.FnMoved", spec := "fnMoved", recurses := true, apart := false, narrowed := true }
def FnMovedUptoSaid : Prop := fnMovedUptoRow.holds Try.pinned (OpenSpec.upto fnMovedSpec)

/-- 'laws.FnPermMat', WHERE WHAT IT READS IS OF BULK AT MOST 1048576: true; the input reads as it did. -/
def fnPermMatUptoRow : OpenClaim := { program := "ytkcpemkahkkcmaa", sum := "ab4cd27119068ce10cefcf97340e0d635b15d2fd329f58f08ca7d86341ae6b95", func := "loop.example/g00506/laws.FnPermMat", spec := "fnPermMat", unfollowed := true, recurses := true, apart := false, narrowed := true }
def FnPermMatUptoSaid : Prop := fnPermMatUptoRow.holds Try.pinned (OpenSpec.upto fnPermMatSpec)

/-- 'laws.FnRunGates', WHERE WHAT IT READS IS OF BULK AT MOST 1048576: true; the input reads as it did. -/
def fnRunGatesUptoRow : OpenClaim := { program := "ytkcpemkahkkcmaa", sum := "ab4cd27119068ce10cefcf97340e0d635b15d2fd329f58f08ca7d86341ae6b95", func := "loop.example/g00506/laws.FnRunGates", spec := "fnRunGates", unfollowed := true, recurses := true, apart := false, narrowed := true }
def FnRunGatesUptoSaid : Prop := fnRunGatesUptoRow.holds Try.pinned (OpenSpec.upto fnRunGatesSpec)

/-- 'laws.FnExactMulMatrix', WHERE WHAT IT READS IS OF BULK AT MOST 1048576: true; the input reads as it did. -/
def fnExactMulMatrixUptoRow : OpenClaim := { program := "ytkcpemkahkkcmaa", sum := "ab4cd27119068ce10cefcf97340e0d635b15d2fd329f58f08ca7d86341ae6b95", func := "loop.example/g00506/laws.FnExactMulMatrix", spec := "fnExactMulMatrix", unfollowed := true, recurses := true, apart := false, narrowed := true }
def FnExactMulMatrixUptoSaid : Prop := fnExactMulMatrixUptoRow.holds Try.pinned (OpenSpec.upto fnExactMulMatrixSpec)

/-- 'laws.FnExactIsUnitary', WHERE WHAT IT READS IS OF BULK AT MOST 1048576: true; the input reads as it did. -/
def fnExactIsUnitaryUptoRow : OpenClaim := { program := "ytkcpemkahkkcmaa", sum := "ab4cd27119068ce10cefcf97340e0d635b15d2fd329f58f08ca7d86341ae6b95", func := "loop.example/g00506/laws.FnExactIsUnitary", spec := "fnExactIsUnitary", unfollowed := true, recurses := true, apart := false, narrowed := true }
def FnExactIsUnitaryUptoSaid : Prop := fnExactIsUnitaryUptoRow.holds Try.pinned (OpenSpec.upto fnExactIsUnitarySpec)

/-- 'laws.FnExactPermuteIndex', WHERE WHAT IT READS IS OF BULK AT MOST 1048576: true; the input reads as it did. -/
def fnExactPermuteIndexUptoRow : OpenClaim := { program := "ytkcpemkahkkcmaa", sum := "ab4cd27119068ce10cefcf97340e0d635b15d2fd329f58f08ca7d86341ae6b95", func := "loop.example/g00506/laws.FnExactPermuteIndex", spec := "fnExactPermuteIndex", recurses := true, apart := false, narrowed := true }
def FnExactPermuteIndexUptoSaid : Prop := fnExactPermuteIndexUptoRow.holds Try.pinned (OpenSpec.upto fnExactPermuteIndexSpec)

/-- 'laws.FnExactPermutationMatrix', WHERE WHAT IT READS IS OF BULK AT MOST 1048576: true; the input reads as it did. -/
def fnExactPermutationMatrixUptoRow : OpenClaim := { program := "ytkcpemkahkkcmaa", sum := "ab4cd27119068ce10cefcf97340e0d635b15d2fd329f58f08ca7d86341ae6b95", func := "loop.example/g00506/laws.FnExactPermutationMatrix", spec := "fnExactPermutationMatrix", recurses := true, apart := false, narrowed := true }
def FnExactPermutationMatrixUptoSaid : Prop := fnExactPermutationMatrixUptoRow.holds Try.pinned (OpenSpec.upto fnExactPermutationMatrixSpec)

/-- 'laws.FnExactApplyGate', WHERE WHAT IT READS IS OF BULK AT MOST 1048576: true; the input reads as it did. -/
def fnExactApplyGateUptoRow : OpenClaim := { program := "ytkcpemkahkkcmaa", sum := "ab4cd27119068ce10cefcf97340e0d635b15d2fd329f58f08ca7d86341ae6b95", func := "loop.example/g00506/laws.FnExactApplyGate", spec := "fnExactApplyGate", unfollowed := true, recurses := true, apart := false, narrowed := true }
def FnExactApplyGateUptoSaid : Prop := fnExactApplyGateUptoRow.holds Try.pinned (OpenSpec.upto fnExactApplyGateSpec)

/-- 'laws.FnExactApplyGates', WHERE WHAT IT READS IS OF BULK AT MOST 1048576: true; the input reads as it did. -/
def fnExactApplyGatesUptoRow : OpenClaim := { program := "ytkcpemkahkkcmaa", sum := "ab4cd27119068ce10cefcf97340e0d635b15d2fd329f58f08ca7d86341ae6b95", func := "loop.example/g00506/laws.FnExactApplyGates", spec := "fnExactApplyGates", unfollowed := true, recurses := true, apart := false, narrowed := true }
def FnExactApplyGatesUptoSaid : Prop := fnExactApplyGatesUptoRow.holds Try.pinned (OpenSpec.upto fnExactApplyGatesSpec)

/-- 'laws.FnExactGateMatrix', WHERE WHAT IT READS IS OF BULK AT MOST 1048576: true; the input reads as it did. -/
def fnExactGateMatrixUptoRow : OpenClaim := { program := "ytkcpemkahkkcmaa", sum := "ab4cd27119068ce10cefcf97340e0d635b15d2fd329f58f08ca7d86341ae6b95", func := "loop.example/g00506/laws.FnExactGateMatrix", spec := "fnExactGateMatrix", unfollowed := true, recurses := true, apart := false, narrowed := true }
def FnExactGateMatrixUptoSaid : Prop := fnExactGateMatrixUptoRow.holds Try.pinned (OpenSpec.upto fnExactGateMatrixSpec)

end Rows
end Go.Proofs.Ytkcpemkahkkcmaa
