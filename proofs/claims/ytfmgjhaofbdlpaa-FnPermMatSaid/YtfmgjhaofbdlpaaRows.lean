/-
  No cell of these rows narrows 'for every input' (looked for: loops, veiled, ifaces, maps, wideKeys, modest, calm, conditions, laid).
  DERIVED. THE GIVEN ROWS OF THIS SEAT. 9 by the template 'for every input the law returns true; each argument reads behind the call as it read before'; 0 by the template 'total and deterministic' (their statements: YtfmgjhaofbdlpaaTotals.lean).
  GIVEN WITH THE SEED: the statements are not yours to turn. If you find one false, say at which input.
  Laid BY PROGRAM, IN A SANDBOX (cutbox-rows.mjs): the forced cells as the released guide's own fill.sh prints them over the translation b659bb80cb531ab8… (all of the seat's roots in one cut). By AI agents, Wed Nov 11 2026. No macro, syntax, notation, axiom, sorry.
-/
import Derived.Test.YtfmgjhaofbdlpaaChecked
import GoSem.Claim
import GoSem.ClaimJoined
import GoSem.ClaimMapViews
import Derived.JoinedTies
import Derived.KernelRfl
namespace Go.Proofs.Ytfmgjhaofbdlpaa
/- THE CELL 'sum', in the pinned program and in every row, IS THE sha256 OF THE DUMP (.gsa) THAT YtfmgjhaofbdlpaaProg.lean LOADS. Nothing in Lean hashes anything: it is a label: what it is worth is what the hold of that sum in a sandbox is worth. -/
noncomputable def Try.pinned : Pinned := { name := "ytfmgjhaofbdlpaa", sum := "b659bb80cb531ab8ef6d3066a42b986afb34343b817e7c1230f55a8b28ae267f", checked := Try.checked }
namespace Rows
def none {H : Type} : Left H := { results := [], args := [] }

/-- 'laws.FnPerm': WHATEVER THE INPUT: true; the input reads as it did. -/
def fnPermSpec : ChangeSpec := { name := "fnPerm", fn := fun _ => fun
  | [d] => { results := [.lit (.bool true)], args := [d] }
  | _ => none }
def fnPermRow : OpenClaim := { program := "ytfmgjhaofbdlpaa", sum := "b659bb80cb531ab8ef6d3066a42b986afb34343b817e7c1230f55a8b28ae267f", func := "loop.example/g00506/laws.FnPerm", spec := "fnPerm", recurses := true, apart := false }
def FnPermSaid : Prop := fnPermRow.holds Try.pinned (OpenSpec.ofChange fnPermSpec)

/-- ITS FALSE NEIGHBOUR: 'it returns false'. Refute it at one input. -/
def fnPermWrong : ChangeSpec := { name := "fnPerm", fn := fun _ => fun
  | [d] => { results := [.lit (.bool false)], args := [d] }
  | _ => none }
def FnPermWrongFalsely : Prop := fnPermRow.holds Try.pinned (OpenSpec.ofChange fnPermWrong)

/-- 'laws.FnMoved': WHATEVER THE INPUT: true; the input reads as it did. -/
def fnMovedSpec : ChangeSpec := { name := "fnMoved", fn := fun _ => fun
  | [d] => { results := [.lit (.bool true)], args := [d] }
  | _ => none }
def fnMovedRow : OpenClaim := { program := "ytfmgjhaofbdlpaa", sum := "b659bb80cb531ab8ef6d3066a42b986afb34343b817e7c1230f55a8b28ae267f", func := "loop.example/g00506/laws.FnMoved", spec := "fnMoved", recurses := true, apart := false }
def FnMovedSaid : Prop := fnMovedRow.holds Try.pinned (OpenSpec.ofChange fnMovedSpec)

/-- ITS FALSE NEIGHBOUR: 'it returns false'. Refute it at one input. -/
def fnMovedWrong : ChangeSpec := { name := "fnMoved", fn := fun _ => fun
  | [d] => { results := [.lit (.bool false)], args := [d] }
  | _ => none }
def FnMovedWrongFalsely : Prop := fnMovedRow.holds Try.pinned (OpenSpec.ofChange fnMovedWrong)

/-- 'laws.FnPermMat': WHATEVER THE INPUT: true; the input reads as it did. -/
def fnPermMatSpec : ChangeSpec := { name := "fnPermMat", fn := fun _ => fun
  | [d] => { results := [.lit (.bool true)], args := [d] }
  | _ => none }
def fnPermMatRow : OpenClaim := { program := "ytfmgjhaofbdlpaa", sum := "b659bb80cb531ab8ef6d3066a42b986afb34343b817e7c1230f55a8b28ae267f", func := "loop.example/g00506/laws.FnPermMat", spec := "fnPermMat", unfollowed := true, recurses := true, apart := false }
def FnPermMatSaid : Prop := fnPermMatRow.holds Try.pinned (OpenSpec.ofChange fnPermMatSpec)

/-- ITS FALSE NEIGHBOUR: 'it returns false'. Refute it at one input. -/
def fnPermMatWrong : ChangeSpec := { name := "fnPermMat", fn := fun _ => fun
  | [d] => { results := [.lit (.bool false)], args := [d] }
  | _ => none }
def FnPermMatWrongFalsely : Prop := fnPermMatRow.holds Try.pinned (OpenSpec.ofChange fnPermMatWrong)

/-- 'laws.FnExactIsPermutation': WHATEVER THE INPUT: true; the input reads as it did. -/
def fnExactIsPermutationSpec : ChangeSpec := { name := "fnExactIsPermutation", fn := fun _ => fun
  | [d] => { results := [.lit (.bool true)], args := [d] }
  | _ => none }
def fnExactIsPermutationRow : OpenClaim := { program := "ytfmgjhaofbdlpaa", sum := "b659bb80cb531ab8ef6d3066a42b986afb34343b817e7c1230f55a8b28ae267f", func := "loop.example/g00506/laws.FnExactIsPermutation", spec := "fnExactIsPermutation", recurses := true, apart := false }
def FnExactIsPermutationSaid : Prop := fnExactIsPermutationRow.holds Try.pinned (OpenSpec.ofChange fnExactIsPermutationSpec)

/-- ITS FALSE NEIGHBOUR: 'it returns false'. Refute it at one input. -/
def fnExactIsPermutationWrong : ChangeSpec := { name := "fnExactIsPermutation", fn := fun _ => fun
  | [d] => { results := [.lit (.bool false)], args := [d] }
  | _ => none }
def FnExactIsPermutationWrongFalsely : Prop := fnExactIsPermutationRow.holds Try.pinned (OpenSpec.ofChange fnExactIsPermutationWrong)

/-- 'laws.FnExactIdentityPermutation': WHATEVER THE INPUT: true; the input reads as it did. -/
def fnExactIdentityPermutationSpec : ChangeSpec := { name := "fnExactIdentityPermutation", fn := fun _ => fun
  | [d] => { results := [.lit (.bool true)], args := [d] }
  | _ => none }
def fnExactIdentityPermutationRow : OpenClaim := { program := "ytfmgjhaofbdlpaa", sum := "b659bb80cb531ab8ef6d3066a42b986afb34343b817e7c1230f55a8b28ae267f", func := "loop.example/g00506/laws.FnExactIdentityPermutation", spec := "fnExactIdentityPermutation", apart := false }
def FnExactIdentityPermutationSaid : Prop := fnExactIdentityPermutationRow.holds Try.pinned (OpenSpec.ofChange fnExactIdentityPermutationSpec)

/-- ITS FALSE NEIGHBOUR: 'it returns false'. Refute it at one input. -/
def fnExactIdentityPermutationWrong : ChangeSpec := { name := "fnExactIdentityPermutation", fn := fun _ => fun
  | [d] => { results := [.lit (.bool false)], args := [d] }
  | _ => none }
def FnExactIdentityPermutationWrongFalsely : Prop := fnExactIdentityPermutationRow.holds Try.pinned (OpenSpec.ofChange fnExactIdentityPermutationWrong)

/-- 'laws.FnExactComposePermutations': WHATEVER THE INPUT: true; the input reads as it did. -/
def fnExactComposePermutationsSpec : ChangeSpec := { name := "fnExactComposePermutations", fn := fun _ => fun
  | [d1, d2] => { results := [.lit (.bool true)], args := [d1, d2] }
  | _ => none }
def fnExactComposePermutationsRow : OpenClaim := { program := "ytfmgjhaofbdlpaa", sum := "b659bb80cb531ab8ef6d3066a42b986afb34343b817e7c1230f55a8b28ae267f", func := "loop.example/g00506/laws.FnExactComposePermutations", spec := "fnExactComposePermutations", recurses := true, apart := false }
def FnExactComposePermutationsSaid : Prop := fnExactComposePermutationsRow.holds Try.pinned (OpenSpec.ofChange fnExactComposePermutationsSpec)

/-- ITS FALSE NEIGHBOUR: 'it returns false'. Refute it at one input. -/
def fnExactComposePermutationsWrong : ChangeSpec := { name := "fnExactComposePermutations", fn := fun _ => fun
  | [d1, d2] => { results := [.lit (.bool false)], args := [d1, d2] }
  | _ => none }
def FnExactComposePermutationsWrongFalsely : Prop := fnExactComposePermutationsRow.holds Try.pinned (OpenSpec.ofChange fnExactComposePermutationsWrong)

/-- 'laws.FnExactInversePermutation': WHATEVER THE INPUT: true; the input reads as it did. -/
def fnExactInversePermutationSpec : ChangeSpec := { name := "fnExactInversePermutation", fn := fun _ => fun
  | [d] => { results := [.lit (.bool true)], args := [d] }
  | _ => none }
def fnExactInversePermutationRow : OpenClaim := { program := "ytfmgjhaofbdlpaa", sum := "b659bb80cb531ab8ef6d3066a42b986afb34343b817e7c1230f55a8b28ae267f", func := "loop.example/g00506/laws.FnExactInversePermutation", spec := "fnExactInversePermutation", recurses := true, apart := false }
def FnExactInversePermutationSaid : Prop := fnExactInversePermutationRow.holds Try.pinned (OpenSpec.ofChange fnExactInversePermutationSpec)

/-- ITS FALSE NEIGHBOUR: 'it returns false'. Refute it at one input. -/
def fnExactInversePermutationWrong : ChangeSpec := { name := "fnExactInversePermutation", fn := fun _ => fun
  | [d] => { results := [.lit (.bool false)], args := [d] }
  | _ => none }
def FnExactInversePermutationWrongFalsely : Prop := fnExactInversePermutationRow.holds Try.pinned (OpenSpec.ofChange fnExactInversePermutationWrong)

/-- 'laws.FnExactPermuteIndex': WHATEVER THE INPUT: true; the input reads as it did. -/
def fnExactPermuteIndexSpec : ChangeSpec := { name := "fnExactPermuteIndex", fn := fun _ => fun
  | [d1, d2] => { results := [.lit (.bool true)], args := [d1, d2] }
  | _ => none }
def fnExactPermuteIndexRow : OpenClaim := { program := "ytfmgjhaofbdlpaa", sum := "b659bb80cb531ab8ef6d3066a42b986afb34343b817e7c1230f55a8b28ae267f", func := "loop.example/g00506/laws.FnExactPermuteIndex", spec := "fnExactPermuteIndex", recurses := true, apart := false }
def FnExactPermuteIndexSaid : Prop := fnExactPermuteIndexRow.holds Try.pinned (OpenSpec.ofChange fnExactPermuteIndexSpec)

/-- ITS FALSE NEIGHBOUR: 'it returns false'. Refute it at one input. -/
def fnExactPermuteIndexWrong : ChangeSpec := { name := "fnExactPermuteIndex", fn := fun _ => fun
  | [d1, d2] => { results := [.lit (.bool false)], args := [d1, d2] }
  | _ => none }
def FnExactPermuteIndexWrongFalsely : Prop := fnExactPermuteIndexRow.holds Try.pinned (OpenSpec.ofChange fnExactPermuteIndexWrong)

/-- 'laws.FnExactPermutationMatrix': WHATEVER THE INPUT: true; the input reads as it did. -/
def fnExactPermutationMatrixSpec : ChangeSpec := { name := "fnExactPermutationMatrix", fn := fun _ => fun
  | [d] => { results := [.lit (.bool true)], args := [d] }
  | _ => none }
def fnExactPermutationMatrixRow : OpenClaim := { program := "ytfmgjhaofbdlpaa", sum := "b659bb80cb531ab8ef6d3066a42b986afb34343b817e7c1230f55a8b28ae267f", func := "loop.example/g00506/laws.FnExactPermutationMatrix", spec := "fnExactPermutationMatrix", recurses := true, apart := false }
def FnExactPermutationMatrixSaid : Prop := fnExactPermutationMatrixRow.holds Try.pinned (OpenSpec.ofChange fnExactPermutationMatrixSpec)

/-- ITS FALSE NEIGHBOUR: 'it returns false'. Refute it at one input. -/
def fnExactPermutationMatrixWrong : ChangeSpec := { name := "fnExactPermutationMatrix", fn := fun _ => fun
  | [d] => { results := [.lit (.bool false)], args := [d] }
  | _ => none }
def FnExactPermutationMatrixWrongFalsely : Prop := fnExactPermutationMatrixRow.holds Try.pinned (OpenSpec.ofChange fnExactPermutationMatrixWrong)

/- THE SECOND FORM. 'bulk': how many values and letters a reading holds, each counted each time it is reached (what is shared counts as often as it is met; a slice's spare places count too). A statement '..UptoSaid' is the law's where the arguments, and the package variables that the reading takes, are together of bulk at most 1048576: NARROWER than '..Said'. Prove '..Said' where nothing that the law and all that it calls make is longer than what came in: it says more and counts as full. Else prove '..UptoSaid'. A law counts once. -/
mutual
def uptoBulk {H : Type} : DataW H → Nat
  | .lit (.string bytes) => bytes.length + 1
  | .lit _ => 1
  | .nil => 1
  | .ptr d => uptoBulk d + 1
  | .slice elems spare => uptoBulkAll elems + uptoBulkAll spare + 1
  | .agg parts => uptoBulkAll parts + 1
  | .iface _ d => uptoBulk d + 1
  | .map entries => uptoBulkEntries entries + 1
  | .held _ => 1
def uptoBulkAll {H : Type} : List (DataW H) → Nat
  | [] => 0
  | d :: r => uptoBulk d + uptoBulkAll r
def uptoBulkEntries {H : Type} : List (Lit × DataW H) → Nat
  | [] => 0
  | x :: r => uptoBulkEntry x + uptoBulkEntries r
def uptoBulkEntry {H : Type} : Lit × DataW H → Nat
  | (.string bytes, d) => bytes.length + uptoBulk d + 1
  | (_, d) => uptoBulk d + 1
 end
def uptoSmall : (H : Type) → List (DataW H) → Bool := fun _ ds => decide (uptoBulkAll ds ≤ 1048576)
def OpenSpec.upto (s : _root_.Go.ChangeSpec) : _root_.Go.OpenSpec := { _root_.Go.OpenSpec.ofChange s with cond := some uptoSmall }

/-- 'laws.FnPerm', WHERE WHAT IT READS IS OF BULK AT MOST 1048576: true; the input reads as it did. -/
def fnPermUptoRow : OpenClaim := { program := "ytfmgjhaofbdlpaa", sum := "b659bb80cb531ab8ef6d3066a42b986afb34343b817e7c1230f55a8b28ae267f", func := "loop.example/g00506/laws.FnPerm", spec := "fnPerm", recurses := true, apart := false, narrowed := true }
def FnPermUptoSaid : Prop := fnPermUptoRow.holds Try.pinned (OpenSpec.upto fnPermSpec)

/-- 'laws.FnMoved', WHERE WHAT IT READS IS OF BULK AT MOST 1048576: true; the input reads as it did. -/
def fnMovedUptoRow : OpenClaim := { program := "ytfmgjhaofbdlpaa", sum := "b659bb80cb531ab8ef6d3066a42b986afb34343b817e7c1230f55a8b28ae267f", func := "loop.example/g00506/laws.FnMoved", spec := "fnMoved", recurses := true, apart := false, narrowed := true }
def FnMovedUptoSaid : Prop := fnMovedUptoRow.holds Try.pinned (OpenSpec.upto fnMovedSpec)

/-- 'laws.FnPermMat', WHERE WHAT IT READS IS OF BULK AT MOST 1048576: true; the input reads as it did. -/
def fnPermMatUptoRow : OpenClaim := { program := "ytfmgjhaofbdlpaa", sum := "b659bb80cb531ab8ef6d3066a42b986afb34343b817e7c1230f55a8b28ae267f", func := "loop.example/g00506/laws.FnPermMat", spec := "fnPermMat", unfollowed := true, recurses := true, apart := false, narrowed := true }
def FnPermMatUptoSaid : Prop := fnPermMatUptoRow.holds Try.pinned (OpenSpec.upto fnPermMatSpec)

/-- 'laws.FnExactIsPermutation', WHERE WHAT IT READS IS OF BULK AT MOST 1048576: true; the input reads as it did. -/
def fnExactIsPermutationUptoRow : OpenClaim := { program := "ytfmgjhaofbdlpaa", sum := "b659bb80cb531ab8ef6d3066a42b986afb34343b817e7c1230f55a8b28ae267f", func := "loop.example/g00506/laws.FnExactIsPermutation", spec := "fnExactIsPermutation", recurses := true, apart := false, narrowed := true }
def FnExactIsPermutationUptoSaid : Prop := fnExactIsPermutationUptoRow.holds Try.pinned (OpenSpec.upto fnExactIsPermutationSpec)

/-- 'laws.FnExactIdentityPermutation', WHERE WHAT IT READS IS OF BULK AT MOST 1048576: true; the input reads as it did. -/
def fnExactIdentityPermutationUptoRow : OpenClaim := { program := "ytfmgjhaofbdlpaa", sum := "b659bb80cb531ab8ef6d3066a42b986afb34343b817e7c1230f55a8b28ae267f", func := "loop.example/g00506/laws.FnExactIdentityPermutation", spec := "fnExactIdentityPermutation", apart := false, narrowed := true }
def FnExactIdentityPermutationUptoSaid : Prop := fnExactIdentityPermutationUptoRow.holds Try.pinned (OpenSpec.upto fnExactIdentityPermutationSpec)

/-- 'laws.FnExactComposePermutations', WHERE WHAT IT READS IS OF BULK AT MOST 1048576: true; the input reads as it did. -/
def fnExactComposePermutationsUptoRow : OpenClaim := { program := "ytfmgjhaofbdlpaa", sum := "b659bb80cb531ab8ef6d3066a42b986afb34343b817e7c1230f55a8b28ae267f", func := "loop.example/g00506/laws.FnExactComposePermutations", spec := "fnExactComposePermutations", recurses := true, apart := false, narrowed := true }
def FnExactComposePermutationsUptoSaid : Prop := fnExactComposePermutationsUptoRow.holds Try.pinned (OpenSpec.upto fnExactComposePermutationsSpec)

/-- 'laws.FnExactInversePermutation', WHERE WHAT IT READS IS OF BULK AT MOST 1048576: true; the input reads as it did. -/
def fnExactInversePermutationUptoRow : OpenClaim := { program := "ytfmgjhaofbdlpaa", sum := "b659bb80cb531ab8ef6d3066a42b986afb34343b817e7c1230f55a8b28ae267f", func := "loop.example/g00506/laws.FnExactInversePermutation", spec := "fnExactInversePermutation", recurses := true, apart := false, narrowed := true }
def FnExactInversePermutationUptoSaid : Prop := fnExactInversePermutationUptoRow.holds Try.pinned (OpenSpec.upto fnExactInversePermutationSpec)

/-- 'laws.FnExactPermuteIndex', WHERE WHAT IT READS IS OF BULK AT MOST 1048576: true; the input reads as it did. -/
def fnExactPermuteIndexUptoRow : OpenClaim := { program := "ytfmgjhaofbdlpaa", sum := "b659bb80cb531ab8ef6d3066a42b986afb34343b817e7c1230f55a8b28ae267f", func := "loop.example/g00506/laws.FnExactPermuteIndex", spec := "fnExactPermuteIndex", recurses := true, apart := false, narrowed := true }
def FnExactPermuteIndexUptoSaid : Prop := fnExactPermuteIndexUptoRow.holds Try.pinned (OpenSpec.upto fnExactPermuteIndexSpec)

/-- 'laws.FnExactPermutationMatrix', WHERE WHAT IT READS IS OF BULK AT MOST 1048576: true; the input reads as it did. -/
def fnExactPermutationMatrixUptoRow : OpenClaim := { program := "ytfmgjhaofbdlpaa", sum := "b659bb80cb531ab8ef6d3066a42b986afb34343b817e7c1230f55a8b28ae267f", func := "loop.example/g00506/laws.FnExactPermutationMatrix", spec := "fnExactPermutationMatrix", recurses := true, apart := false, narrowed := true }
def FnExactPermutationMatrixUptoSaid : Prop := fnExactPermutationMatrixUptoRow.holds Try.pinned (OpenSpec.upto fnExactPermutationMatrixSpec)

end Rows
end Go.Proofs.Ytfmgjhaofbdlpaa
