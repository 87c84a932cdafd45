/-
  No cell of these rows narrows 'for every input' (looked for: loops, veiled, ifaces, maps, wideKeys, modest, calm, conditions, laid).
  DERIVED. THE GIVEN ROWS OF THIS SEAT. 16 by the template 'for every input the law returns true; each argument reads behind the call as it read before'; 0 by the template 'total and deterministic' (their statements: YtggjbpgibdpflaaTotals.lean).
  GIVEN WITH THE SEED: the statements are not yours to turn. If you find one false, say at which input.
  Laid BY PROGRAM, IN A SANDBOX (cutbox-rows.mjs): the forced cells as the released guide's own fill.sh prints them over the translation 1f08fc6ca486e256… (all of the seat's roots in one cut). By AI agents, Wed Nov 11 2026. No macro, syntax, notation, axiom, sorry.
-/
import Derived.Test.YtggjbpgibdpflaaChecked
import GoSem.Claim
import GoSem.ClaimJoined
import GoSem.ClaimMapViews
import Derived.JoinedTies
import Derived.KernelRfl
namespace Go.Proofs.Ytggjbpgibdpflaa
/- THE CELL 'sum', in the pinned program and in every row, IS THE sha256 OF THE DUMP (.gsa) THAT YtggjbpgibdpflaaProg.lean LOADS. Nothing in Lean hashes anything: it is a label: what it is worth is what the hold of that sum in a sandbox is worth. -/
noncomputable def Try.pinned : Pinned := { name := "ytggjbpgibdpflaa", sum := "1f08fc6ca486e256aeb948286edeb7a870cd87de5dfc8c70f211edd8fbf8f7eb", checked := Try.checked }
namespace Rows
def none {H : Type} : Left H := { results := [], args := [] }

/-- 'laws.FnMulMat': WHATEVER THE INPUT: true; the input reads as it did. -/
def fnMulMatSpec : ChangeSpec := { name := "fnMulMat", fn := fun _ => fun
  | [d] => { results := [.lit (.bool true)], args := [d] }
  | _ => none }
def fnMulMatRow : OpenClaim := { program := "ytggjbpgibdpflaa", sum := "1f08fc6ca486e256aeb948286edeb7a870cd87de5dfc8c70f211edd8fbf8f7eb", func := "loop.example/g00506/laws.FnMulMat", spec := "fnMulMat", unfollowed := true, recurses := true, apart := false }
def FnMulMatSaid : Prop := fnMulMatRow.holds Try.pinned (OpenSpec.ofChange fnMulMatSpec)

/-- ITS FALSE NEIGHBOUR: 'it returns false'. Refute it at one input. -/
def fnMulMatWrong : ChangeSpec := { name := "fnMulMat", fn := fun _ => fun
  | [d] => { results := [.lit (.bool false)], args := [d] }
  | _ => none }
def FnMulMatWrongFalsely : Prop := fnMulMatRow.holds Try.pinned (OpenSpec.ofChange fnMulMatWrong)

/-- 'laws.FnAdjoint': WHATEVER THE INPUT: true; the input reads as it did. -/
def fnAdjointSpec : ChangeSpec := { name := "fnAdjoint", fn := fun _ => fun
  | [d] => { results := [.lit (.bool true)], args := [d] }
  | _ => none }
def fnAdjointRow : OpenClaim := { program := "ytggjbpgibdpflaa", sum := "1f08fc6ca486e256aeb948286edeb7a870cd87de5dfc8c70f211edd8fbf8f7eb", func := "loop.example/g00506/laws.FnAdjoint", spec := "fnAdjoint", unfollowed := true, recurses := true, apart := false }
def FnAdjointSaid : Prop := fnAdjointRow.holds Try.pinned (OpenSpec.ofChange fnAdjointSpec)

/-- ITS FALSE NEIGHBOUR: 'it returns false'. Refute it at one input. -/
def fnAdjointWrong : ChangeSpec := { name := "fnAdjoint", fn := fun _ => fun
  | [d] => { results := [.lit (.bool false)], args := [d] }
  | _ => none }
def FnAdjointWrongFalsely : Prop := fnAdjointRow.holds Try.pinned (OpenSpec.ofChange fnAdjointWrong)

/-- 'laws.FnApart': WHATEVER THE INPUT: true; the input reads as it did. -/
def fnApartSpec : ChangeSpec := { name := "fnApart", fn := fun _ => fun
  | [d] => { results := [.lit (.bool true)], args := [d] }
  | _ => none }
def fnApartRow : OpenClaim := { program := "ytggjbpgibdpflaa", sum := "1f08fc6ca486e256aeb948286edeb7a870cd87de5dfc8c70f211edd8fbf8f7eb", func := "loop.example/g00506/laws.FnApart", spec := "fnApart", unfollowed := true, recurses := true, apart := false }
def FnApartSaid : Prop := fnApartRow.holds Try.pinned (OpenSpec.ofChange fnApartSpec)

/-- ITS FALSE NEIGHBOUR: 'it returns false'. Refute it at one input. -/
def fnApartWrong : ChangeSpec := { name := "fnApart", fn := fun _ => fun
  | [d] => { results := [.lit (.bool false)], args := [d] }
  | _ => none }
def FnApartWrongFalsely : Prop := fnApartRow.holds Try.pinned (OpenSpec.ofChange fnApartWrong)

/-- 'laws.FnExactIsValidMatrix': WHATEVER THE INPUT: true; the input reads as it did. -/
def fnExactIsValidMatrixSpec : ChangeSpec := { name := "fnExactIsValidMatrix", fn := fun _ => fun
  | [d] => { results := [.lit (.bool true)], args := [d] }
  | _ => none }
def fnExactIsValidMatrixRow : OpenClaim := { program := "ytggjbpgibdpflaa", sum := "1f08fc6ca486e256aeb948286edeb7a870cd87de5dfc8c70f211edd8fbf8f7eb", func := "loop.example/g00506/laws.FnExactIsValidMatrix", spec := "fnExactIsValidMatrix", apart := false }
def FnExactIsValidMatrixSaid : Prop := fnExactIsValidMatrixRow.holds Try.pinned (OpenSpec.ofChange fnExactIsValidMatrixSpec)

/-- ITS FALSE NEIGHBOUR: 'it returns false'. Refute it at one input. -/
def fnExactIsValidMatrixWrong : ChangeSpec := { name := "fnExactIsValidMatrix", fn := fun _ => fun
  | [d] => { results := [.lit (.bool false)], args := [d] }
  | _ => none }
def FnExactIsValidMatrixWrongFalsely : Prop := fnExactIsValidMatrixRow.holds Try.pinned (OpenSpec.ofChange fnExactIsValidMatrixWrong)

/-- 'laws.FnExactIdentityMatrix': WHATEVER THE INPUT: true; the input reads as it did. -/
def fnExactIdentityMatrixSpec : ChangeSpec := { name := "fnExactIdentityMatrix", fn := fun _ => fun
  | [d] => { results := [.lit (.bool true)], args := [d] }
  | _ => none }
def fnExactIdentityMatrixRow : OpenClaim := { program := "ytggjbpgibdpflaa", sum := "1f08fc6ca486e256aeb948286edeb7a870cd87de5dfc8c70f211edd8fbf8f7eb", func := "loop.example/g00506/laws.FnExactIdentityMatrix", spec := "fnExactIdentityMatrix", apart := false }
def FnExactIdentityMatrixSaid : Prop := fnExactIdentityMatrixRow.holds Try.pinned (OpenSpec.ofChange fnExactIdentityMatrixSpec)

/-- ITS FALSE NEIGHBOUR: 'it returns false'. Refute it at one input. -/
def fnExactIdentityMatrixWrong : ChangeSpec := { name := "fnExactIdentityMatrix", fn := fun _ => fun
  | [d] => { results := [.lit (.bool false)], args := [d] }
  | _ => none }
def FnExactIdentityMatrixWrongFalsely : Prop := fnExactIdentityMatrixRow.holds Try.pinned (OpenSpec.ofChange fnExactIdentityMatrixWrong)

/-- 'laws.FnExactApplyMatrix': WHATEVER THE INPUT: true; the input reads as it did. -/
def fnExactApplyMatrixSpec : ChangeSpec := { name := "fnExactApplyMatrix", fn := fun _ => fun
  | [d1, d2] => { results := [.lit (.bool true)], args := [d1, d2] }
  | _ => none }
def fnExactApplyMatrixRow : OpenClaim := { program := "ytggjbpgibdpflaa", sum := "1f08fc6ca486e256aeb948286edeb7a870cd87de5dfc8c70f211edd8fbf8f7eb", func := "loop.example/g00506/laws.FnExactApplyMatrix", spec := "fnExactApplyMatrix", unfollowed := true, recurses := true, apart := false }
def FnExactApplyMatrixSaid : Prop := fnExactApplyMatrixRow.holds Try.pinned (OpenSpec.ofChange fnExactApplyMatrixSpec)

/-- ITS FALSE NEIGHBOUR: 'it returns false'. Refute it at one input. -/
def fnExactApplyMatrixWrong : ChangeSpec := { name := "fnExactApplyMatrix", fn := fun _ => fun
  | [d1, d2] => { results := [.lit (.bool false)], args := [d1, d2] }
  | _ => none }
def FnExactApplyMatrixWrongFalsely : Prop := fnExactApplyMatrixRow.holds Try.pinned (OpenSpec.ofChange fnExactApplyMatrixWrong)

/-- 'laws.FnExactMulMatrix': WHATEVER THE INPUT: true; the input reads as it did. -/
def fnExactMulMatrixSpec : ChangeSpec := { name := "fnExactMulMatrix", fn := fun _ => fun
  | [d1, d2] => { results := [.lit (.bool true)], args := [d1, d2] }
  | _ => none }
def fnExactMulMatrixRow : OpenClaim := { program := "ytggjbpgibdpflaa", sum := "1f08fc6ca486e256aeb948286edeb7a870cd87de5dfc8c70f211edd8fbf8f7eb", func := "loop.example/g00506/laws.FnExactMulMatrix", spec := "fnExactMulMatrix", unfollowed := true, recurses := true, apart := false }
def FnExactMulMatrixSaid : Prop := fnExactMulMatrixRow.holds Try.pinned (OpenSpec.ofChange fnExactMulMatrixSpec)

/-- ITS FALSE NEIGHBOUR: 'it returns false'. Refute it at one input. -/
def fnExactMulMatrixWrong : ChangeSpec := { name := "fnExactMulMatrix", fn := fun _ => fun
  | [d1, d2] => { results := [.lit (.bool false)], args := [d1, d2] }
  | _ => none }
def FnExactMulMatrixWrongFalsely : Prop := fnExactMulMatrixRow.holds Try.pinned (OpenSpec.ofChange fnExactMulMatrixWrong)

/-- 'laws.FnExactAdjointMatrix': WHATEVER THE INPUT: true; the input reads as it did. -/
def fnExactAdjointMatrixSpec : ChangeSpec := { name := "fnExactAdjointMatrix", fn := fun _ => fun
  | [d] => { results := [.lit (.bool true)], args := [d] }
  | _ => none }
def fnExactAdjointMatrixRow : OpenClaim := { program := "ytggjbpgibdpflaa", sum := "1f08fc6ca486e256aeb948286edeb7a870cd87de5dfc8c70f211edd8fbf8f7eb", func := "loop.example/g00506/laws.FnExactAdjointMatrix", spec := "fnExactAdjointMatrix", apart := false }
def FnExactAdjointMatrixSaid : Prop := fnExactAdjointMatrixRow.holds Try.pinned (OpenSpec.ofChange fnExactAdjointMatrixSpec)

/-- ITS FALSE NEIGHBOUR: 'it returns false'. Refute it at one input. -/
def fnExactAdjointMatrixWrong : ChangeSpec := { name := "fnExactAdjointMatrix", fn := fun _ => fun
  | [d] => { results := [.lit (.bool false)], args := [d] }
  | _ => none }
def FnExactAdjointMatrixWrongFalsely : Prop := fnExactAdjointMatrixRow.holds Try.pinned (OpenSpec.ofChange fnExactAdjointMatrixWrong)

/-- 'laws.FnExactIsUnitary': WHATEVER THE INPUT: true; the input reads as it did. -/
def fnExactIsUnitarySpec : ChangeSpec := { name := "fnExactIsUnitary", fn := fun _ => fun
  | [d] => { results := [.lit (.bool true)], args := [d] }
  | _ => none }
def fnExactIsUnitaryRow : OpenClaim := { program := "ytggjbpgibdpflaa", sum := "1f08fc6ca486e256aeb948286edeb7a870cd87de5dfc8c70f211edd8fbf8f7eb", func := "loop.example/g00506/laws.FnExactIsUnitary", spec := "fnExactIsUnitary", unfollowed := true, recurses := true, apart := false }
def FnExactIsUnitarySaid : Prop := fnExactIsUnitaryRow.holds Try.pinned (OpenSpec.ofChange fnExactIsUnitarySpec)

/-- ITS FALSE NEIGHBOUR: 'it returns false'. Refute it at one input. -/
def fnExactIsUnitaryWrong : ChangeSpec := { name := "fnExactIsUnitary", fn := fun _ => fun
  | [d] => { results := [.lit (.bool false)], args := [d] }
  | _ => none }
def FnExactIsUnitaryWrongFalsely : Prop := fnExactIsUnitaryRow.holds Try.pinned (OpenSpec.ofChange fnExactIsUnitaryWrong)

/-- 'laws.FnExactGlobalPhase': WHATEVER THE INPUT: true; the input reads as it did. -/
def fnExactGlobalPhaseSpec : ChangeSpec := { name := "fnExactGlobalPhase", fn := fun _ => fun
  | [d1, d2] => { results := [.lit (.bool true)], args := [d1, d2] }
  | _ => none }
def fnExactGlobalPhaseRow : OpenClaim := { program := "ytggjbpgibdpflaa", sum := "1f08fc6ca486e256aeb948286edeb7a870cd87de5dfc8c70f211edd8fbf8f7eb", func := "loop.example/g00506/laws.FnExactGlobalPhase", spec := "fnExactGlobalPhase", unfollowed := true, recurses := true, apart := false }
def FnExactGlobalPhaseSaid : Prop := fnExactGlobalPhaseRow.holds Try.pinned (OpenSpec.ofChange fnExactGlobalPhaseSpec)

/-- ITS FALSE NEIGHBOUR: 'it returns false'. Refute it at one input. -/
def fnExactGlobalPhaseWrong : ChangeSpec := { name := "fnExactGlobalPhase", fn := fun _ => fun
  | [d1, d2] => { results := [.lit (.bool false)], args := [d1, d2] }
  | _ => none }
def FnExactGlobalPhaseWrongFalsely : Prop := fnExactGlobalPhaseRow.holds Try.pinned (OpenSpec.ofChange fnExactGlobalPhaseWrong)

/-- 'laws.FnExactEqualMatrix': WHATEVER THE INPUT: true; the input reads as it did. -/
def fnExactEqualMatrixSpec : ChangeSpec := { name := "fnExactEqualMatrix", fn := fun _ => fun
  | [d1, d2] => { results := [.lit (.bool true)], args := [d1, d2] }
  | _ => none }
def fnExactEqualMatrixRow : OpenClaim := { program := "ytggjbpgibdpflaa", sum := "1f08fc6ca486e256aeb948286edeb7a870cd87de5dfc8c70f211edd8fbf8f7eb", func := "loop.example/g00506/laws.FnExactEqualMatrix", spec := "fnExactEqualMatrix", unfollowed := true, recurses := true, apart := false }
def FnExactEqualMatrixSaid : Prop := fnExactEqualMatrixRow.holds Try.pinned (OpenSpec.ofChange fnExactEqualMatrixSpec)

/-- ITS FALSE NEIGHBOUR: 'it returns false'. Refute it at one input. -/
def fnExactEqualMatrixWrong : ChangeSpec := { name := "fnExactEqualMatrix", fn := fun _ => fun
  | [d1, d2] => { results := [.lit (.bool false)], args := [d1, d2] }
  | _ => none }
def FnExactEqualMatrixWrongFalsely : Prop := fnExactEqualMatrixRow.holds Try.pinned (OpenSpec.ofChange fnExactEqualMatrixWrong)

/-- 'laws.FnVec': WHATEVER THE INPUT: true; the input reads as it did. -/
def fnVecSpec : ChangeSpec := { name := "fnVec", fn := fun _ => fun
  | [d] => { results := [.lit (.bool true)], args := [d] }
  | _ => none }
def fnVecRow : OpenClaim := { program := "ytggjbpgibdpflaa", sum := "1f08fc6ca486e256aeb948286edeb7a870cd87de5dfc8c70f211edd8fbf8f7eb", func := "loop.example/g00506/laws.FnVec", spec := "fnVec", unfollowed := true, recurses := true, apart := false }
def FnVecSaid : Prop := fnVecRow.holds Try.pinned (OpenSpec.ofChange fnVecSpec)

/-- ITS FALSE NEIGHBOUR: 'it returns false'. Refute it at one input. -/
def fnVecWrong : ChangeSpec := { name := "fnVec", fn := fun _ => fun
  | [d] => { results := [.lit (.bool false)], args := [d] }
  | _ => none }
def FnVecWrongFalsely : Prop := fnVecRow.holds Try.pinned (OpenSpec.ofChange fnVecWrong)

/-- 'laws.FnBasis': WHATEVER THE INPUT: true; the input reads as it did. -/
def fnBasisSpec : ChangeSpec := { name := "fnBasis", fn := fun _ => fun
  | [d] => { results := [.lit (.bool true)], args := [d] }
  | _ => none }
def fnBasisRow : OpenClaim := { program := "ytggjbpgibdpflaa", sum := "1f08fc6ca486e256aeb948286edeb7a870cd87de5dfc8c70f211edd8fbf8f7eb", func := "loop.example/g00506/laws.FnBasis", spec := "fnBasis", unfollowed := true, recurses := true, apart := false }
def FnBasisSaid : Prop := fnBasisRow.holds Try.pinned (OpenSpec.ofChange fnBasisSpec)

/-- ITS FALSE NEIGHBOUR: 'it returns false'. Refute it at one input. -/
def fnBasisWrong : ChangeSpec := { name := "fnBasis", fn := fun _ => fun
  | [d] => { results := [.lit (.bool false)], args := [d] }
  | _ => none }
def FnBasisWrongFalsely : Prop := fnBasisRow.holds Try.pinned (OpenSpec.ofChange fnBasisWrong)

/-- 'laws.FnScaled': WHATEVER THE INPUT: true; the input reads as it did. -/
def fnScaledSpec : ChangeSpec := { name := "fnScaled", fn := fun _ => fun
  | [d] => { results := [.lit (.bool true)], args := [d] }
  | _ => none }
def fnScaledRow : OpenClaim := { program := "ytggjbpgibdpflaa", sum := "1f08fc6ca486e256aeb948286edeb7a870cd87de5dfc8c70f211edd8fbf8f7eb", func := "loop.example/g00506/laws.FnScaled", spec := "fnScaled", unfollowed := true, recurses := true, apart := false }
def FnScaledSaid : Prop := fnScaledRow.holds Try.pinned (OpenSpec.ofChange fnScaledSpec)

/-- ITS FALSE NEIGHBOUR: 'it returns false'. Refute it at one input. -/
def fnScaledWrong : ChangeSpec := { name := "fnScaled", fn := fun _ => fun
  | [d] => { results := [.lit (.bool false)], args := [d] }
  | _ => none }
def FnScaledWrongFalsely : Prop := fnScaledRow.holds Try.pinned (OpenSpec.ofChange fnScaledWrong)

/-- 'laws.FnExactBasisState': WHATEVER THE INPUT: true; the input reads as it did. -/
def fnExactBasisStateSpec : ChangeSpec := { name := "fnExactBasisState", fn := fun _ => fun
  | [d1, d2] => { results := [.lit (.bool true)], args := [d1, d2] }
  | _ => none }
def fnExactBasisStateRow : OpenClaim := { program := "ytggjbpgibdpflaa", sum := "1f08fc6ca486e256aeb948286edeb7a870cd87de5dfc8c70f211edd8fbf8f7eb", func := "loop.example/g00506/laws.FnExactBasisState", spec := "fnExactBasisState", apart := false }
def FnExactBasisStateSaid : Prop := fnExactBasisStateRow.holds Try.pinned (OpenSpec.ofChange fnExactBasisStateSpec)

/-- ITS FALSE NEIGHBOUR: 'it returns false'. Refute it at one input. -/
def fnExactBasisStateWrong : ChangeSpec := { name := "fnExactBasisState", fn := fun _ => fun
  | [d1, d2] => { results := [.lit (.bool false)], args := [d1, d2] }
  | _ => none }
def FnExactBasisStateWrongFalsely : Prop := fnExactBasisStateRow.holds Try.pinned (OpenSpec.ofChange fnExactBasisStateWrong)

/-- 'laws.FnExactInnerProduct': WHATEVER THE INPUT: true; the input reads as it did. -/
def fnExactInnerProductSpec : ChangeSpec := { name := "fnExactInnerProduct", fn := fun _ => fun
  | [d1, d2] => { results := [.lit (.bool true)], args := [d1, d2] }
  | _ => none }
def fnExactInnerProductRow : OpenClaim := { program := "ytggjbpgibdpflaa", sum := "1f08fc6ca486e256aeb948286edeb7a870cd87de5dfc8c70f211edd8fbf8f7eb", func := "loop.example/g00506/laws.FnExactInnerProduct", spec := "fnExactInnerProduct", unfollowed := true, recurses := true, apart := false }
def FnExactInnerProductSaid : Prop := fnExactInnerProductRow.holds Try.pinned (OpenSpec.ofChange fnExactInnerProductSpec)

/-- ITS FALSE NEIGHBOUR: 'it returns false'. Refute it at one input. -/
def fnExactInnerProductWrong : ChangeSpec := { name := "fnExactInnerProduct", fn := fun _ => fun
  | [d1, d2] => { results := [.lit (.bool false)], args := [d1, d2] }
  | _ => none }
def FnExactInnerProductWrongFalsely : Prop := fnExactInnerProductRow.holds Try.pinned (OpenSpec.ofChange fnExactInnerProductWrong)

/- THE SECOND FORM. 'bulk': how many values and letters a reading holds, each counted each time it is reached (what is shared counts as often as it is met; a slice's spare places count too). A statement '..UptoSaid' is the law's where the arguments, and the package variables that the reading takes, are together of bulk at most 1048576: NARROWER than '..Said'. Prove '..Said' where nothing that the law and all that it calls make is longer than what came in: it says more and counts as full. Else prove '..UptoSaid'. A law counts once. -/
mutual
def uptoBulk {H : Type} : DataW H → Nat
  | .lit (.string bytes) => bytes.length + 1
  | .lit _ => 1
  | .nil => 1
  | .ptr d => uptoBulk d + 1
  | .slice elems spare => uptoBulkAll elems + uptoBulkAll spare + 1
  | .agg parts => uptoBulkAll parts + 1
  | .iface _ d => uptoBulk d + 1
  | .map entries => uptoBulkEntries entries + 1
  | .held _ => 1
def uptoBulkAll {H : Type} : List (DataW H) → Nat
  | [] => 0
  | d :: r => uptoBulk d + uptoBulkAll r
def uptoBulkEntries {H : Type} : List (Lit × DataW H) → Nat
  | [] => 0
  | x :: r => uptoBulkEntry x + uptoBulkEntries r
def uptoBulkEntry {H : Type} : Lit × DataW H → Nat
  | (.string bytes, d) => bytes.length + uptoBulk d + 1
  | (_, d) => uptoBulk d + 1
 end
def uptoSmall : (H : Type) → List (DataW H) → Bool := fun _ ds => decide (uptoBulkAll ds ≤ 1048576)
def OpenSpec.upto (s : _root_.Go.ChangeSpec) : _root_.Go.OpenSpec := { _root_.Go.OpenSpec.ofChange s with cond := some uptoSmall }

/-- 'laws.FnMulMat', WHERE WHAT IT READS IS OF BULK AT MOST 1048576: true; the input reads as it did. -/
def fnMulMatUptoRow : OpenClaim := { program := "ytggjbpgibdpflaa", sum := "1f08fc6ca486e256aeb948286edeb7a870cd87de5dfc8c70f211edd8fbf8f7eb", func := "loop.example/g00506/laws.FnMulMat", spec := "fnMulMat", unfollowed := true, recurses := true, apart := false, narrowed := true }
def FnMulMatUptoSaid : Prop := fnMulMatUptoRow.holds Try.pinned (OpenSpec.upto fnMulMatSpec)

/-- 'laws.FnAdjoint', WHERE WHAT IT READS IS OF BULK AT MOST 1048576: true; the input reads as it did. -/
def fnAdjointUptoRow : OpenClaim := { program := "ytggjbpgibdpflaa", sum := "1f08fc6ca486e256aeb948286edeb7a870cd87de5dfc8c70f211edd8fbf8f7eb", func := "loop.example/g00506/laws.FnAdjoint", spec := "fnAdjoint", unfollowed := true, recurses := true, apart := false, narrowed := true }
def FnAdjointUptoSaid : Prop := fnAdjointUptoRow.holds Try.pinned (OpenSpec.upto fnAdjointSpec)

/-- 'laws.FnApart', WHERE WHAT IT READS IS OF BULK AT MOST 1048576: true; the input reads as it did. -/
def fnApartUptoRow : OpenClaim := { program := "ytggjbpgibdpflaa", sum := "1f08fc6ca486e256aeb948286edeb7a870cd87de5dfc8c70f211edd8fbf8f7eb", func := "loop.example/g00506/laws.FnApart", spec := "fnApart", unfollowed := true, recurses := true, apart := false, narrowed := true }
def FnApartUptoSaid : Prop := fnApartUptoRow.holds Try.pinned (OpenSpec.upto fnApartSpec)

/-- 'laws.FnExactIsValidMatrix', WHERE WHAT IT READS IS OF BULK AT MOST 1048576: true; the input reads as it did. -/
def fnExactIsValidMatrixUptoRow : OpenClaim := { program := "ytggjbpgibdpflaa", sum := "1f08fc6ca486e256aeb948286edeb7a870cd87de5dfc8c70f211edd8fbf8f7eb", func := "loop.example/g00506/laws.FnExactIsValidMatrix", spec := "fnExactIsValidMatrix", apart := false, narrowed := true }
def FnExactIsValidMatrixUptoSaid : Prop := fnExactIsValidMatrixUptoRow.holds Try.pinned (OpenSpec.upto fnExactIsValidMatrixSpec)

/-- 'laws.FnExactIdentityMatrix', WHERE WHAT IT READS IS OF BULK AT MOST 1048576: true; the input reads as it did. -/
def fnExactIdentityMatrixUptoRow : OpenClaim := { program := "ytggjbpgibdpflaa", sum := "1f08fc6ca486e256aeb948286edeb7a870cd87de5dfc8c70f211edd8fbf8f7eb", func := "loop.example/g00506/laws.FnExactIdentityMatrix", spec := "fnExactIdentityMatrix", apart := false, narrowed := true }
def FnExactIdentityMatrixUptoSaid : Prop := fnExactIdentityMatrixUptoRow.holds Try.pinned (OpenSpec.upto fnExactIdentityMatrixSpec)

/-- 'laws.FnExactApplyMatrix', WHERE WHAT IT READS IS OF BULK AT MOST 1048576: true; the input reads as it did. -/
def fnExactApplyMatrixUptoRow : OpenClaim := { program := "ytggjbpgibdpflaa", sum := "1f08fc6ca486e256aeb948286edeb7a870cd87de5dfc8c70f211edd8fbf8f7eb", func := "loop.example/g00506/laws.FnExactApplyMatrix", spec := "fnExactApplyMatrix", unfollowed := true, recurses := true, apart := false, narrowed := true }
def FnExactApplyMatrixUptoSaid : Prop := fnExactApplyMatrixUptoRow.holds Try.pinned (OpenSpec.upto fnExactApplyMatrixSpec)

/-- 'laws.FnExactMulMatrix', WHERE WHAT IT READS IS OF BULK AT MOST 1048576: true; the input reads as it did. -/
def fnExactMulMatrixUptoRow : OpenClaim := { program := "ytggjbpgibdpflaa", sum := "1f08fc6ca486e256aeb948286edeb7a870cd87de5dfc8c70f211edd8fbf8f7eb", func := "loop.example/g00506/laws.FnExactMulMatrix", spec := "fnExactMulMatrix", unfollowed := true, recurses := true, apart := false, narrowed := true }
def FnExactMulMatrixUptoSaid : Prop := fnExactMulMatrixUptoRow.holds Try.pinned (OpenSpec.upto fnExactMulMatrixSpec)

/-- 'laws.FnExactAdjointMatrix', WHERE WHAT IT READS IS OF BULK AT MOST 1048576: true; the input reads as it did. -/
def fnExactAdjointMatrixUptoRow : OpenClaim := { program := "ytggjbpgibdpflaa", sum := "1f08fc6ca486e256aeb948286edeb7a870cd87de5dfc8c70f211edd8fbf8f7eb", func := "loop.example/g00506/laws.FnExactAdjointMatrix", spec := "fnExactAdjointMatrix", apart := false, narrowed := true }
def FnExactAdjointMatrixUptoSaid : Prop := fnExactAdjointMatrixUptoRow.holds Try.pinned (OpenSpec.upto fnExactAdjointMatrixSpec)

/-- 'laws.FnExactIsUnitary', WHERE WHAT IT READS IS OF BULK AT MOST 1048576: true; the input reads as it did. -/
def fnExactIsUnitaryUptoRow : OpenClaim := { program := "ytggjbpgibdpflaa", sum := "1f08fc6ca486e256aeb948286edeb7a870cd87de5dfc8c70f211edd8fbf8f7eb", func := "loop.example/g00506/laws.FnExactIsUnitary", spec := "fnExactIsUnitary", unfollowed := true, recurses := true, apart := false, narrowed := true }
def FnExactIsUnitaryUptoSaid : Prop := fnExactIsUnitaryUptoRow.holds Try.pinned (OpenSpec.upto fnExactIsUnitarySpec)

/-- 'laws.FnExactGlobalPhase', WHERE WHAT IT READS IS OF BULK AT MOST 1048576: true; the input reads as it did. -/
def fnExactGlobalPhaseUptoRow : OpenClaim := { program := "ytggjbpgibdpflaa", sum := "1f08fc6ca486e256aeb948286edeb7a870cd87de5dfc8c70f211edd8fbf8f7eb", func := "loop.example/g00506/laws.FnExactGlobalPhase", spec := "fnExactGlobalPhase", unfollowed := true, recurses := true, apart := false, narrowed := true }
def FnExactGlobalPhaseUptoSaid : Prop := fnExactGlobalPhaseUptoRow.holds Try.pinned (OpenSpec.upto fnExactGlobalPhaseSpec)

/-- 'laws.FnExactEqualMatrix', WHERE WHAT IT READS IS OF BULK AT MOST 1048576: true; the input reads as it did. -/
def fnExactEqualMatrixUptoRow : OpenClaim := { program := "ytggjbpgibdpflaa", sum := "1f08fc6ca486e256aeb948286edeb7a870cd87de5dfc8c70f211edd8fbf8f7eb", func := "loop.example/g00506/laws.FnExactEqualMatrix", spec := "fnExactEqualMatrix", unfollowed := true, recurses := true, apart := false, narrowed := true }
def FnExactEqualMatrixUptoSaid : Prop := fnExactEqualMatrixUptoRow.holds Try.pinned (OpenSpec.upto fnExactEqualMatrixSpec)

/-- 'laws.FnVec', WHERE WHAT IT READS IS OF BULK AT MOST 1048576: true; the input reads as it did. -/
def fnVecUptoRow : OpenClaim := { program := "ytggjbpgibdpflaa", sum := "1f08fc6ca486e256aeb948286edeb7a870cd87de5dfc8c70f211edd8fbf8f7eb", func := "loop.example/g00506/laws.FnVec", spec := "fnVec", unfollowed := true, recurses := true, apart := false, narrowed := true }
def FnVecUptoSaid : Prop := fnVecUptoRow.holds Try.pinned (OpenSpec.upto fnVecSpec)

/-- 'laws.FnBasis', WHERE WHAT IT READS IS OF BULK AT MOST 1048576: true; the input reads as it did. -/
def fnBasisUptoRow : OpenClaim := { program := "ytggjbpgibdpflaa", sum := "1f08fc6ca486e256aeb948286edeb7a870cd87de5dfc8c70f211edd8fbf8f7eb", func := "loop.example/g00506/laws.FnBasis", spec := "fnBasis", unfollowed := true, recurses := true, apart := false, narrowed := true }
def FnBasisUptoSaid : Prop := fnBasisUptoRow.holds Try.pinned (OpenSpec.upto fnBasisSpec)

/-- 'laws.FnScaled', WHERE WHAT IT READS IS OF BULK AT MOST 1048576: true; the input reads as it did. -/
def fnScaledUptoRow : OpenClaim := { program := "ytggjbpgibdpflaa", sum := "1f08fc6ca486e256aeb948286edeb7a870cd87de5dfc8c70f211edd8fbf8f7eb", func := "loop.example/g00506/laws.FnScaled", spec := "fnScaled", unfollowed := true, recurses := true, apart := false, narrowed := true }
def FnScaledUptoSaid : Prop := fnScaledUptoRow.holds Try.pinned (OpenSpec.upto fnScaledSpec)

/-- 'laws.FnExactBasisState', WHERE WHAT IT READS IS OF BULK AT MOST 1048576: true; the input reads as it did. -/
def fnExactBasisStateUptoRow : OpenClaim := { program := "ytggjbpgibdpflaa", sum := "1f08fc6ca486e256aeb948286edeb7a870cd87de5dfc8c70f211edd8fbf8f7eb", func := "loop.example/g00506/laws.FnExactBasisState", spec := "fnExactBasisState", apart := false, narrowed := true }
def FnExactBasisStateUptoSaid : Prop := fnExactBasisStateUptoRow.holds Try.pinned (OpenSpec.upto fnExactBasisStateSpec)

/-- 'laws.FnExactInnerProduct', WHERE WHAT IT READS IS OF BULK AT MOST 1048576: true; the input reads as it did. -/
def fnExactInnerProductUptoRow : OpenClaim := { program := "ytggjbpgibdpflaa", sum := "1f08fc6ca486e256aeb948286edeb7a870cd87de5dfc8c70f211edd8fbf8f7eb", func := "loop.example/g00506/laws.FnExactInnerProduct", spec := "fnExactInnerProduct", unfollowed := true, recurses := true, apart := false, narrowed := true }
def FnExactInnerProductUptoSaid : Prop := fnExactInnerProductUptoRow.holds Try.pinned (OpenSpec.upto fnExactInnerProductSpec)

end Rows
end Go.Proofs.Ytggjbpgibdpflaa
