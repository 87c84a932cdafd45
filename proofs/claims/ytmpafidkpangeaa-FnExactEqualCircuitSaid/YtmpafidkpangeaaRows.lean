/-
  No cell of these rows narrows 'for every input' (looked for: loops, veiled, ifaces, maps, wideKeys, modest, calm, conditions, laid).
  DERIVED. THE GIVEN ROWS OF THIS SEAT. 8 by the template 'for every input the law returns true; each argument reads behind the call as it read before'; 0 by the template 'total and deterministic' (their statements: YtmpafidkpangeaaTotals.lean).
  GIVEN WITH THE SEED: the statements are not yours to turn. If you find one false, say at which input.
  Laid BY PROGRAM, IN A SANDBOX (cutbox-rows.mjs): the forced cells as the released guide's own fill.sh prints them over the translation 1951b450e8fc133d… (all of the seat's roots in one cut). By AI agents, Wed Nov 11 2026. No macro, syntax, notation, axiom, sorry.
-/
import Derived.Test.YtmpafidkpangeaaChecked
import GoSem.Claim
import GoSem.ClaimJoined
import GoSem.ClaimMapViews
import Derived.JoinedTies
import Derived.KernelRfl
namespace Go.Proofs.Ytmpafidkpangeaa
/- THE CELL 'sum', in the pinned program and in every row, IS THE sha256 OF THE DUMP (.gsa) THAT YtmpafidkpangeaaProg.lean LOADS. Nothing in Lean hashes anything: it is a label: what it is worth is what the hold of that sum in a sandbox is worth. -/
noncomputable def Try.pinned : Pinned := { name := "ytmpafidkpangeaa", sum := "1951b450e8fc133d1536735e66b5992007efe221a51f20fc3567b51e076b61f2", checked := Try.checked }
namespace Rows
def none {H : Type} : Left H := { results := [], args := [] }

/-- 'laws.FnUndone': WHATEVER THE INPUT: true; the input reads as it did. -/
def fnUndoneSpec : ChangeSpec := { name := "fnUndone", fn := fun _ => fun
  | [d] => { results := [.lit (.bool true)], args := [d] }
  | _ => none }
def fnUndoneRow : OpenClaim := { program := "ytmpafidkpangeaa", sum := "1951b450e8fc133d1536735e66b5992007efe221a51f20fc3567b51e076b61f2", func := "loop.example/g00506/laws.FnUndone", spec := "fnUndone", unfollowed := true, recurses := true, apart := false }
def FnUndoneSaid : Prop := fnUndoneRow.holds Try.pinned (OpenSpec.ofChange fnUndoneSpec)

/-- ITS FALSE NEIGHBOUR: 'it returns false'. Refute it at one input. -/
def fnUndoneWrong : ChangeSpec := { name := "fnUndone", fn := fun _ => fun
  | [d] => { results := [.lit (.bool false)], args := [d] }
  | _ => none }
def FnUndoneWrongFalsely : Prop := fnUndoneRow.holds Try.pinned (OpenSpec.ofChange fnUndoneWrong)

/-- 'laws.FnJoined': WHATEVER THE INPUT: true; the input reads as it did. -/
def fnJoinedSpec : ChangeSpec := { name := "fnJoined", fn := fun _ => fun
  | [d] => { results := [.lit (.bool true)], args := [d] }
  | _ => none }
def fnJoinedRow : OpenClaim := { program := "ytmpafidkpangeaa", sum := "1951b450e8fc133d1536735e66b5992007efe221a51f20fc3567b51e076b61f2", func := "loop.example/g00506/laws.FnJoined", spec := "fnJoined", unfollowed := true, recurses := true, apart := false }
def FnJoinedSaid : Prop := fnJoinedRow.holds Try.pinned (OpenSpec.ofChange fnJoinedSpec)

/-- ITS FALSE NEIGHBOUR: 'it returns false'. Refute it at one input. -/
def fnJoinedWrong : ChangeSpec := { name := "fnJoined", fn := fun _ => fun
  | [d] => { results := [.lit (.bool false)], args := [d] }
  | _ => none }
def FnJoinedWrongFalsely : Prop := fnJoinedRow.holds Try.pinned (OpenSpec.ofChange fnJoinedWrong)

/-- 'laws.FnExactGateMatrix': WHATEVER THE INPUT: true; the input reads as it did. -/
def fnExactGateMatrixSpec : ChangeSpec := { name := "fnExactGateMatrix", fn := fun _ => fun
  | [d1, d2] => { results := [.lit (.bool true)], args := [d1, d2] }
  | _ => none }
def fnExactGateMatrixRow : OpenClaim := { program := "ytmpafidkpangeaa", sum := "1951b450e8fc133d1536735e66b5992007efe221a51f20fc3567b51e076b61f2", func := "loop.example/g00506/laws.FnExactGateMatrix", spec := "fnExactGateMatrix", unfollowed := true, recurses := true, apart := false }
def FnExactGateMatrixSaid : Prop := fnExactGateMatrixRow.holds Try.pinned (OpenSpec.ofChange fnExactGateMatrixSpec)

/-- ITS FALSE NEIGHBOUR: 'it returns false'. Refute it at one input. -/
def fnExactGateMatrixWrong : ChangeSpec := { name := "fnExactGateMatrix", fn := fun _ => fun
  | [d1, d2] => { results := [.lit (.bool false)], args := [d1, d2] }
  | _ => none }
def FnExactGateMatrixWrongFalsely : Prop := fnExactGateMatrixRow.holds Try.pinned (OpenSpec.ofChange fnExactGateMatrixWrong)

/-- 'laws.FnExactIsValidCircuit': WHATEVER THE INPUT: true; the input reads as it did. -/
def fnExactIsValidCircuitSpec : ChangeSpec := { name := "fnExactIsValidCircuit", fn := fun _ => fun
  | [d] => { results := [.lit (.bool true)], args := [d] }
  | _ => none }
def fnExactIsValidCircuitRow : OpenClaim := { program := "ytmpafidkpangeaa", sum := "1951b450e8fc133d1536735e66b5992007efe221a51f20fc3567b51e076b61f2", func := "loop.example/g00506/laws.FnExactIsValidCircuit", spec := "fnExactIsValidCircuit", apart := false }
def FnExactIsValidCircuitSaid : Prop := fnExactIsValidCircuitRow.holds Try.pinned (OpenSpec.ofChange fnExactIsValidCircuitSpec)

/-- ITS FALSE NEIGHBOUR: 'it returns false'. Refute it at one input. -/
def fnExactIsValidCircuitWrong : ChangeSpec := { name := "fnExactIsValidCircuit", fn := fun _ => fun
  | [d] => { results := [.lit (.bool false)], args := [d] }
  | _ => none }
def FnExactIsValidCircuitWrongFalsely : Prop := fnExactIsValidCircuitRow.holds Try.pinned (OpenSpec.ofChange fnExactIsValidCircuitWrong)

/-- 'laws.FnExactInverseCircuit': WHATEVER THE INPUT: true; the input reads as it did. -/
def fnExactInverseCircuitSpec : ChangeSpec := { name := "fnExactInverseCircuit", fn := fun _ => fun
  | [d] => { results := [.lit (.bool true)], args := [d] }
  | _ => none }
def fnExactInverseCircuitRow : OpenClaim := { program := "ytmpafidkpangeaa", sum := "1951b450e8fc133d1536735e66b5992007efe221a51f20fc3567b51e076b61f2", func := "loop.example/g00506/laws.FnExactInverseCircuit", spec := "fnExactInverseCircuit", unfollowed := true, recurses := true, apart := false }
def FnExactInverseCircuitSaid : Prop := fnExactInverseCircuitRow.holds Try.pinned (OpenSpec.ofChange fnExactInverseCircuitSpec)

/-- ITS FALSE NEIGHBOUR: 'it returns false'. Refute it at one input. -/
def fnExactInverseCircuitWrong : ChangeSpec := { name := "fnExactInverseCircuit", fn := fun _ => fun
  | [d] => { results := [.lit (.bool false)], args := [d] }
  | _ => none }
def FnExactInverseCircuitWrongFalsely : Prop := fnExactInverseCircuitRow.holds Try.pinned (OpenSpec.ofChange fnExactInverseCircuitWrong)

/-- 'laws.FnExactConcatCircuits': WHATEVER THE INPUT: true; the input reads as it did. -/
def fnExactConcatCircuitsSpec : ChangeSpec := { name := "fnExactConcatCircuits", fn := fun _ => fun
  | [d1, d2] => { results := [.lit (.bool true)], args := [d1, d2] }
  | _ => none }
def fnExactConcatCircuitsRow : OpenClaim := { program := "ytmpafidkpangeaa", sum := "1951b450e8fc133d1536735e66b5992007efe221a51f20fc3567b51e076b61f2", func := "loop.example/g00506/laws.FnExactConcatCircuits", spec := "fnExactConcatCircuits", apart := false }
def FnExactConcatCircuitsSaid : Prop := fnExactConcatCircuitsRow.holds Try.pinned (OpenSpec.ofChange fnExactConcatCircuitsSpec)

/-- ITS FALSE NEIGHBOUR: 'it returns false'. Refute it at one input. -/
def fnExactConcatCircuitsWrong : ChangeSpec := { name := "fnExactConcatCircuits", fn := fun _ => fun
  | [d1, d2] => { results := [.lit (.bool false)], args := [d1, d2] }
  | _ => none }
def FnExactConcatCircuitsWrongFalsely : Prop := fnExactConcatCircuitsRow.holds Try.pinned (OpenSpec.ofChange fnExactConcatCircuitsWrong)

/-- 'laws.FnExactRelabelCircuit': WHATEVER THE INPUT: true; the input reads as it did. -/
def fnExactRelabelCircuitSpec : ChangeSpec := { name := "fnExactRelabelCircuit", fn := fun _ => fun
  | [d1, d2] => { results := [.lit (.bool true)], args := [d1, d2] }
  | _ => none }
def fnExactRelabelCircuitRow : OpenClaim := { program := "ytmpafidkpangeaa", sum := "1951b450e8fc133d1536735e66b5992007efe221a51f20fc3567b51e076b61f2", func := "loop.example/g00506/laws.FnExactRelabelCircuit", spec := "fnExactRelabelCircuit", recurses := true, apart := false }
def FnExactRelabelCircuitSaid : Prop := fnExactRelabelCircuitRow.holds Try.pinned (OpenSpec.ofChange fnExactRelabelCircuitSpec)

/-- ITS FALSE NEIGHBOUR: 'it returns false'. Refute it at one input. -/
def fnExactRelabelCircuitWrong : ChangeSpec := { name := "fnExactRelabelCircuit", fn := fun _ => fun
  | [d1, d2] => { results := [.lit (.bool false)], args := [d1, d2] }
  | _ => none }
def FnExactRelabelCircuitWrongFalsely : Prop := fnExactRelabelCircuitRow.holds Try.pinned (OpenSpec.ofChange fnExactRelabelCircuitWrong)

/-- 'laws.FnExactEqualCircuit': WHATEVER THE INPUT: true; the input reads as it did. -/
def fnExactEqualCircuitSpec : ChangeSpec := { name := "fnExactEqualCircuit", fn := fun _ => fun
  | [d1, d2] => { results := [.lit (.bool true)], args := [d1, d2] }
  | _ => none }
def fnExactEqualCircuitRow : OpenClaim := { program := "ytmpafidkpangeaa", sum := "1951b450e8fc133d1536735e66b5992007efe221a51f20fc3567b51e076b61f2", func := "loop.example/g00506/laws.FnExactEqualCircuit", spec := "fnExactEqualCircuit", apart := false }
def FnExactEqualCircuitSaid : Prop := fnExactEqualCircuitRow.holds Try.pinned (OpenSpec.ofChange fnExactEqualCircuitSpec)

/-- ITS FALSE NEIGHBOUR: 'it returns false'. Refute it at one input. -/
def fnExactEqualCircuitWrong : ChangeSpec := { name := "fnExactEqualCircuit", fn := fun _ => fun
  | [d1, d2] => { results := [.lit (.bool false)], args := [d1, d2] }
  | _ => none }
def FnExactEqualCircuitWrongFalsely : Prop := fnExactEqualCircuitRow.holds Try.pinned (OpenSpec.ofChange fnExactEqualCircuitWrong)

/- THE SECOND FORM. 'bulk': how many values and letters a reading holds, each counted each time it is reached (what is shared counts as often as it is met; a slice's spare places count too). A statement '..UptoSaid' is the law's where the arguments, and the package variables that the reading takes, are together of bulk at most 1048576: NARROWER than '..Said'. Prove '..Said' where nothing that the law and all that it calls make is longer than what came in: it says more and counts as full. Else prove '..UptoSaid'. A law counts once. -/
mutual
def uptoBulk {H : Type} : DataW H → Nat
  | .lit (.string bytes) => bytes.length + 1
  | .lit _ => 1
  | .nil => 1
  | .ptr d => uptoBulk d + 1
  | .slice elems spare => uptoBulkAll elems + uptoBulkAll spare + 1
  | .agg parts => uptoBulkAll parts + 1
  | .iface _ d => uptoBulk d + 1
  | .map entries => uptoBulkEntries entries + 1
  | .held _ => 1
def uptoBulkAll {H : Type} : List (DataW H) → Nat
  | [] => 0
  | d :: r => uptoBulk d + uptoBulkAll r
def uptoBulkEntries {H : Type} : List (Lit × DataW H) → Nat
  | [] => 0
  | x :: r => uptoBulkEntry x + uptoBulkEntries r
def uptoBulkEntry {H : Type} : Lit × DataW H → Nat
  | (.string bytes, d) => bytes.length + uptoBulk d + 1
  | (_, d) => uptoBulk d + 1
 end
def uptoSmall : (H : Type) → List (DataW H) → Bool := fun _ ds => decide (uptoBulkAll ds ≤ 1048576)
def OpenSpec.upto (s : _root_.Go.ChangeSpec) : _root_.Go.OpenSpec := { _root_.Go.OpenSpec.ofChange s with cond := some uptoSmall }

/-- 'laws.FnUndone', WHERE WHAT IT READS IS OF BULK AT MOST 1048576: true; the input reads as it did. -/
def fnUndoneUptoRow : OpenClaim := { program := "ytmpafidkpangeaa", sum := "1951b450e8fc133d1536735e66b5992007efe221a51f20fc3567b51e076b61f2", func := "loop.example/g00506/laws.FnUndone", spec := "fnUndone", unfollowed := true, recurses := true, apart := false, narrowed := true }
def FnUndoneUptoSaid : Prop := fnUndoneUptoRow.holds Try.pinned (OpenSpec.upto fnUndoneSpec)

/-- 'laws.FnJoined', WHERE WHAT IT READS IS OF BULK AT MOST 1048576: true; the input reads as it did. -/
def fnJoinedUptoRow : OpenClaim := { program := "ytmpafidkpangeaa", sum := "1951b450e8fc133d1536735e66b5992007efe221a51f20fc3567b51e076b61f2", func := "loop.example/g00506/laws.FnJoined", spec := "fnJoined", unfollowed := true, recurses := true, apart := false, narrowed := true }
def FnJoinedUptoSaid : Prop := fnJoinedUptoRow.holds Try.pinned (OpenSpec.upto fnJoinedSpec)

/-- 'laws.FnExactGateMatrix', WHERE WHAT IT READS IS OF BULK AT MOST 1048576: true; the input reads as it did. -/
def fnExactGateMatrixUptoRow : OpenClaim := { program := "ytmpafidkpangeaa", sum := "1951b450e8fc133d1536735e66b5992007efe221a51f20fc3567b51e076b61f2", func := "loop.example/g00506/laws.FnExactGateMatrix", spec := "fnExactGateMatrix", unfollowed := true, recurses := true, apart := false, narrowed := true }
def FnExactGateMatrixUptoSaid : Prop := fnExactGateMatrixUptoRow.holds Try.pinned (OpenSpec.upto fnExactGateMatrixSpec)

/-- 'laws.FnExactIsValidCircuit', WHERE WHAT IT READS IS OF BULK AT MOST 1048576: true; the input reads as it did. -/
def fnExactIsValidCircuitUptoRow : OpenClaim := { program := "ytmpafidkpangeaa", sum := "1951b450e8fc133d1536735e66b5992007efe221a51f20fc3567b51e076b61f2", func := "loop.example/g00506/laws.FnExactIsValidCircuit", spec := "fnExactIsValidCircuit", apart := false, narrowed := true }
def FnExactIsValidCircuitUptoSaid : Prop := fnExactIsValidCircuitUptoRow.holds Try.pinned (OpenSpec.upto fnExactIsValidCircuitSpec)

/-- 'laws.FnExactInverseCircuit', WHERE WHAT IT READS IS OF BULK AT MOST 1048576: true; the input reads as it did. -/
def fnExactInverseCircuitUptoRow : OpenClaim := { program := "ytmpafidkpangeaa", sum := "1951b450e8fc133d1536735e66b5992007efe221a51f20fc3567b51e076b61f2", func := "loop.example/g00506/laws.FnExactInverseCircuit", spec := "fnExactInverseCircuit", unfollowed := true, recurses := true, apart := false, narrowed := true }
def FnExactInverseCircuitUptoSaid : Prop := fnExactInverseCircuitUptoRow.holds Try.pinned (OpenSpec.upto fnExactInverseCircuitSpec)

/-- 'laws.FnExactConcatCircuits', WHERE WHAT IT READS IS OF BULK AT MOST 1048576: true; the input reads as it did. -/
def fnExactConcatCircuitsUptoRow : OpenClaim := { program := "ytmpafidkpangeaa", sum := "1951b450e8fc133d1536735e66b5992007efe221a51f20fc3567b51e076b61f2", func := "loop.example/g00506/laws.FnExactConcatCircuits", spec := "fnExactConcatCircuits", apart := false, narrowed := true }
def FnExactConcatCircuitsUptoSaid : Prop := fnExactConcatCircuitsUptoRow.holds Try.pinned (OpenSpec.upto fnExactConcatCircuitsSpec)

/-- 'laws.FnExactRelabelCircuit', WHERE WHAT IT READS IS OF BULK AT MOST 1048576: true; the input reads as it did. -/
def fnExactRelabelCircuitUptoRow : OpenClaim := { program := "ytmpafidkpangeaa", sum := "1951b450e8fc133d1536735e66b5992007efe221a51f20fc3567b51e076b61f2", func := "loop.example/g00506/laws.FnExactRelabelCircuit", spec := "fnExactRelabelCircuit", recurses := true, apart := false, narrowed := true }
def FnExactRelabelCircuitUptoSaid : Prop := fnExactRelabelCircuitUptoRow.holds Try.pinned (OpenSpec.upto fnExactRelabelCircuitSpec)

/-- 'laws.FnExactEqualCircuit', WHERE WHAT IT READS IS OF BULK AT MOST 1048576: true; the input reads as it did. -/
def fnExactEqualCircuitUptoRow : OpenClaim := { program := "ytmpafidkpangeaa", sum := "1951b450e8fc133d1536735e66b5992007efe221a51f20fc3567b51e076b61f2", func := "loop.example/g00506/laws.FnExactEqualCircuit", spec := "fnExactEqualCircuit", apart := false, narrowed := true }
def FnExactEqualCircuitUptoSaid : Prop := fnExactEqualCircuitUptoRow.holds Try.pinned (OpenSpec.upto fnExactEqualCircuitSpec)

end Rows
end Go.Proofs.Ytmpafidkpangeaa
