/-
  No cell of these rows narrows 'for every input' (looked for: loops, veiled, ifaces, maps, wideKeys, modest, calm, conditions, laid).
  DERIVED. THE GIVEN ROWS OF THIS SEAT. 7 by the template 'for every input the law returns true; each argument reads behind the call as it read before'; 0 by the template 'total and deterministic' (their statements: YtckfklpgnneodaaTotals.lean).
  GIVEN WITH THE SEED: the statements are not yours to turn. If you find one false, say at which input.
  Laid BY PROGRAM, IN A SANDBOX (cutbox-rows.mjs): the forced cells as the released guide's own fill.sh prints them over the translation d3a370119170a789… (all of the seat's roots in one cut). By AI agents, Wed Nov 11 2026. No macro, syntax, notation, axiom, sorry.
-/
import Derived.Test.YtckfklpgnneodaaChecked
import GoSem.Claim
import GoSem.ClaimJoined
import GoSem.ClaimMapViews
import Derived.JoinedTies
import Derived.KernelRfl
namespace Go.Proofs.Ytckfklpgnneodaa
/- THE CELL 'sum', in the pinned program and in every row, IS THE sha256 OF THE DUMP (.gsa) THAT YtckfklpgnneodaaProg.lean LOADS. Nothing in Lean hashes anything: it is a label: what it is worth is what the hold of that sum in a sandbox is worth. -/
noncomputable def Try.pinned : Pinned := { name := "ytckfklpgnneodaa", sum := "d3a370119170a7898d21cf1d5901bde6c95315b1a48ec5b047c39eab852d6764", checked := Try.checked }
namespace Rows
def none {H : Type} : Left H := { results := [], args := [] }

/-- 'laws.FnDepth': WHATEVER THE INPUT: true; the input reads as it did. -/
def fnDepthSpec : ChangeSpec := { name := "fnDepth", fn := fun _ => fun
  | [d] => { results := [.lit (.bool true)], args := [d] }
  | _ => none }
def fnDepthRow : OpenClaim := { program := "ytckfklpgnneodaa", sum := "d3a370119170a7898d21cf1d5901bde6c95315b1a48ec5b047c39eab852d6764", func := "loop.example/g00506/laws.FnDepth", spec := "fnDepth", unfollowed := true, recurses := true, apart := false }
def FnDepthSaid : Prop := fnDepthRow.holds Try.pinned (OpenSpec.ofChange fnDepthSpec)

/-- ITS FALSE NEIGHBOUR: 'it returns false'. Refute it at one input. -/
def fnDepthWrong : ChangeSpec := { name := "fnDepth", fn := fun _ => fun
  | [d] => { results := [.lit (.bool false)], args := [d] }
  | _ => none }
def FnDepthWrongFalsely : Prop := fnDepthRow.holds Try.pinned (OpenSpec.ofChange fnDepthWrong)

/-- 'laws.FnExactCountGates': WHATEVER THE INPUT: true; the input reads as it did. -/
def fnExactCountGatesSpec : ChangeSpec := { name := "fnExactCountGates", fn := fun _ => fun
  | [d1, d2] => { results := [.lit (.bool true)], args := [d1, d2] }
  | _ => none }
def fnExactCountGatesRow : OpenClaim := { program := "ytckfklpgnneodaa", sum := "d3a370119170a7898d21cf1d5901bde6c95315b1a48ec5b047c39eab852d6764", func := "loop.example/g00506/laws.FnExactCountGates", spec := "fnExactCountGates", unfollowed := true, recurses := true, apart := false }
def FnExactCountGatesSaid : Prop := fnExactCountGatesRow.holds Try.pinned (OpenSpec.ofChange fnExactCountGatesSpec)

/-- ITS FALSE NEIGHBOUR: 'it returns false'. Refute it at one input. -/
def fnExactCountGatesWrong : ChangeSpec := { name := "fnExactCountGates", fn := fun _ => fun
  | [d1, d2] => { results := [.lit (.bool false)], args := [d1, d2] }
  | _ => none }
def FnExactCountGatesWrongFalsely : Prop := fnExactCountGatesRow.holds Try.pinned (OpenSpec.ofChange fnExactCountGatesWrong)

/-- 'laws.FnExactTCount': WHATEVER THE INPUT: true; the input reads as it did. -/
def fnExactTCountSpec : ChangeSpec := { name := "fnExactTCount", fn := fun _ => fun
  | [d] => { results := [.lit (.bool true)], args := [d] }
  | _ => none }
def fnExactTCountRow : OpenClaim := { program := "ytckfklpgnneodaa", sum := "d3a370119170a7898d21cf1d5901bde6c95315b1a48ec5b047c39eab852d6764", func := "loop.example/g00506/laws.FnExactTCount", spec := "fnExactTCount", unfollowed := true, recurses := true, apart := false }
def FnExactTCountSaid : Prop := fnExactTCountRow.holds Try.pinned (OpenSpec.ofChange fnExactTCountSpec)

/-- ITS FALSE NEIGHBOUR: 'it returns false'. Refute it at one input. -/
def fnExactTCountWrong : ChangeSpec := { name := "fnExactTCount", fn := fun _ => fun
  | [d] => { results := [.lit (.bool false)], args := [d] }
  | _ => none }
def FnExactTCountWrongFalsely : Prop := fnExactTCountRow.holds Try.pinned (OpenSpec.ofChange fnExactTCountWrong)

/-- 'laws.FnExactTwoQubitCount': WHATEVER THE INPUT: true; the input reads as it did. -/
def fnExactTwoQubitCountSpec : ChangeSpec := { name := "fnExactTwoQubitCount", fn := fun _ => fun
  | [d] => { results := [.lit (.bool true)], args := [d] }
  | _ => none }
def fnExactTwoQubitCountRow : OpenClaim := { program := "ytckfklpgnneodaa", sum := "d3a370119170a7898d21cf1d5901bde6c95315b1a48ec5b047c39eab852d6764", func := "loop.example/g00506/laws.FnExactTwoQubitCount", spec := "fnExactTwoQubitCount", unfollowed := true, recurses := true, apart := false }
def FnExactTwoQubitCountSaid : Prop := fnExactTwoQubitCountRow.holds Try.pinned (OpenSpec.ofChange fnExactTwoQubitCountSpec)

/-- ITS FALSE NEIGHBOUR: 'it returns false'. Refute it at one input. -/
def fnExactTwoQubitCountWrong : ChangeSpec := { name := "fnExactTwoQubitCount", fn := fun _ => fun
  | [d] => { results := [.lit (.bool false)], args := [d] }
  | _ => none }
def FnExactTwoQubitCountWrongFalsely : Prop := fnExactTwoQubitCountRow.holds Try.pinned (OpenSpec.ofChange fnExactTwoQubitCountWrong)

/-- 'laws.FnExactCircuitDepth': WHATEVER THE INPUT: true; the input reads as it did. -/
def fnExactCircuitDepthSpec : ChangeSpec := { name := "fnExactCircuitDepth", fn := fun _ => fun
  | [d] => { results := [.lit (.bool true)], args := [d] }
  | _ => none }
def fnExactCircuitDepthRow : OpenClaim := { program := "ytckfklpgnneodaa", sum := "d3a370119170a7898d21cf1d5901bde6c95315b1a48ec5b047c39eab852d6764", func := "loop.example/g00506/laws.FnExactCircuitDepth", spec := "fnExactCircuitDepth", unfollowed := true, recurses := true, apart := false }
def FnExactCircuitDepthSaid : Prop := fnExactCircuitDepthRow.holds Try.pinned (OpenSpec.ofChange fnExactCircuitDepthSpec)

/-- ITS FALSE NEIGHBOUR: 'it returns false'. Refute it at one input. -/
def fnExactCircuitDepthWrong : ChangeSpec := { name := "fnExactCircuitDepth", fn := fun _ => fun
  | [d] => { results := [.lit (.bool false)], args := [d] }
  | _ => none }
def FnExactCircuitDepthWrongFalsely : Prop := fnExactCircuitDepthRow.holds Try.pinned (OpenSpec.ofChange fnExactCircuitDepthWrong)

/-- 'laws.FnExactCircuitLayers': WHATEVER THE INPUT: true; the input reads as it did. -/
def fnExactCircuitLayersSpec : ChangeSpec := { name := "fnExactCircuitLayers", fn := fun _ => fun
  | [d] => { results := [.lit (.bool true)], args := [d] }
  | _ => none }
def fnExactCircuitLayersRow : OpenClaim := { program := "ytckfklpgnneodaa", sum := "d3a370119170a7898d21cf1d5901bde6c95315b1a48ec5b047c39eab852d6764", func := "loop.example/g00506/laws.FnExactCircuitLayers", spec := "fnExactCircuitLayers", unfollowed := true, recurses := true, apart := false }
def FnExactCircuitLayersSaid : Prop := fnExactCircuitLayersRow.holds Try.pinned (OpenSpec.ofChange fnExactCircuitLayersSpec)

/-- ITS FALSE NEIGHBOUR: 'it returns false'. Refute it at one input. -/
def fnExactCircuitLayersWrong : ChangeSpec := { name := "fnExactCircuitLayers", fn := fun _ => fun
  | [d] => { results := [.lit (.bool false)], args := [d] }
  | _ => none }
def FnExactCircuitLayersWrongFalsely : Prop := fnExactCircuitLayersRow.holds Try.pinned (OpenSpec.ofChange fnExactCircuitLayersWrong)

/-- 'laws.FnExactCircuitFromLayers': WHATEVER THE INPUT: true; the input reads as it did. -/
def fnExactCircuitFromLayersSpec : ChangeSpec := { name := "fnExactCircuitFromLayers", fn := fun _ => fun
  | [d1, d2] => { results := [.lit (.bool true)], args := [d1, d2] }
  | _ => none }
def fnExactCircuitFromLayersRow : OpenClaim := { program := "ytckfklpgnneodaa", sum := "d3a370119170a7898d21cf1d5901bde6c95315b1a48ec5b047c39eab852d6764", func := "loop.example/g00506/laws.FnExactCircuitFromLayers", spec := "fnExactCircuitFromLayers", unfollowed := true, recurses := true, apart := false }
def FnExactCircuitFromLayersSaid : Prop := fnExactCircuitFromLayersRow.holds Try.pinned (OpenSpec.ofChange fnExactCircuitFromLayersSpec)

/-- ITS FALSE NEIGHBOUR: 'it returns false'. Refute it at one input. -/
def fnExactCircuitFromLayersWrong : ChangeSpec := { name := "fnExactCircuitFromLayers", fn := fun _ => fun
  | [d1, d2] => { results := [.lit (.bool false)], args := [d1, d2] }
  | _ => none }
def FnExactCircuitFromLayersWrongFalsely : Prop := fnExactCircuitFromLayersRow.holds Try.pinned (OpenSpec.ofChange fnExactCircuitFromLayersWrong)

/- THE SECOND FORM. 'bulk': how many values and letters a reading holds, each counted each time it is reached (what is shared counts as often as it is met; a slice's spare places count too). A statement '..UptoSaid' is the law's where the arguments, and the package variables that the reading takes, are together of bulk at most 1048576: NARROWER than '..Said'. Prove '..Said' where nothing that the law and all that it calls make is longer than what came in: it says more and counts as full. Else prove '..UptoSaid'. A law counts once. -/
mutual
def uptoBulk {H : Type} : DataW H → Nat
  | .lit (.string bytes) => bytes.length + 1
  | .lit _ => 1
  | .nil => 1
  | .ptr d => uptoBulk d + 1
  | .slice elems spare => uptoBulkAll elems + uptoBulkAll spare + 1
  | .agg parts => uptoBulkAll parts + 1
  | .iface _ d => uptoBulk d + 1
  | .map entries => uptoBulkEntries entries + 1
  | .held _ => 1
def uptoBulkAll {H : Type} : List (DataW H) → Nat
  | [] => 0
  | d :: r => uptoBulk d + uptoBulkAll r
def uptoBulkEntries {H : Type} : List (Lit × DataW H) → Nat
  | [] => 0
  | x :: r => uptoBulkEntry x + uptoBulkEntries r
def uptoBulkEntry {H : Type} : Lit × DataW H → Nat
  | (.string bytes, d) => bytes.length + uptoBulk d + 1
  | (_, d) => uptoBulk d + 1
 end
def uptoSmall : (H : Type) → List (DataW H) → Bool := fun _ ds => decide (uptoBulkAll ds ≤ 1048576)
def OpenSpec.upto (s : _root_.Go.ChangeSpec) : _root_.Go.OpenSpec := { _root_.Go.OpenSpec.ofChange s with cond := some uptoSmall }

/-- 'laws.FnDepth', WHERE WHAT IT READS IS OF BULK AT MOST 1048576: true; the input reads as it did. -/
def fnDepthUptoRow : OpenClaim := { program := "ytckfklpgnneodaa", sum := "d3a370119170a7898d21cf1d5901bde6c95315b1a48ec5b047c39eab852d6764", func := "loop.example/g00506/laws.FnDepth", spec := "fnDepth", unfollowed := true, recurses := true, apart := false, narrowed := true }
def FnDepthUptoSaid : Prop := fnDepthUptoRow.holds Try.pinned (OpenSpec.upto fnDepthSpec)

/-- 'laws.FnExactCountGates', WHERE WHAT IT READS IS OF BULK AT MOST 1048576: true; the input reads as it did. -/
def fnExactCountGatesUptoRow : OpenClaim := { program := "ytckfklpgnneodaa", sum := "d3a370119170a7898d21cf1d5901bde6c95315b1a48ec5b047c39eab852d6764", func := "loop.example/g00506/laws.FnExactCountGates", spec := "fnExactCountGates", unfollowed := true, recurses := true, apart := false, narrowed := true }
def FnExactCountGatesUptoSaid : Prop := fnExactCountGatesUptoRow.holds Try.pinned (OpenSpec.upto fnExactCountGatesSpec)

/-- 'laws.FnExactTCount', WHERE WHAT IT READS IS OF BULK AT MOST 1048576: true; the input reads as it did. -/
def fnExactTCountUptoRow : OpenClaim := { program := "ytckfklpgnneodaa", sum := "d3a370119170a7898d21cf1d5901bde6c95315b1a48ec5b047c39eab852d6764", func := "loop.example/g00506/laws.FnExactTCount", spec := "fnExactTCount", unfollowed := true, recurses := true, apart := false, narrowed := true }
def FnExactTCountUptoSaid : Prop := fnExactTCountUptoRow.holds Try.pinned (OpenSpec.upto fnExactTCountSpec)

/-- 'laws.FnExactTwoQubitCount', WHERE WHAT IT READS IS OF BULK AT MOST 1048576: true; the input reads as it did. -/
def fnExactTwoQubitCountUptoRow : OpenClaim := { program := "ytckfklpgnneodaa", sum := "d3a370119170a7898d21cf1d5901bde6c95315b1a48ec5b047c39eab852d6764", func := "loop.example/g00506/laws.FnExactTwoQubitCount", spec := "fnExactTwoQubitCount", unfollowed := true, recurses := true, apart := false, narrowed := true }
def FnExactTwoQubitCountUptoSaid : Prop := fnExactTwoQubitCountUptoRow.holds Try.pinned (OpenSpec.upto fnExactTwoQubitCountSpec)

/-- 'laws.FnExactCircuitDepth', WHERE WHAT IT READS IS OF BULK AT MOST 1048576: true; the input reads as it did. -/
def fnExactCircuitDepthUptoRow : OpenClaim := { program := "ytckfklpgnneodaa", sum := "d3a370119170a7898d21cf1d5901bde6c95315b1a48ec5b047c39eab852d6764", func := "loop.example/g00506/laws.FnExactCircuitDepth", spec := "fnExactCircuitDepth", unfollowed := true, recurses := true, apart := false, narrowed := true }
def FnExactCircuitDepthUptoSaid : Prop := fnExactCircuitDepthUptoRow.holds Try.pinned (OpenSpec.upto fnExactCircuitDepthSpec)

/-- 'laws.FnExactCircuitLayers', WHERE WHAT IT READS IS OF BULK AT MOST 1048576: true; the input reads as it did. -/
def fnExactCircuitLayersUptoRow : OpenClaim := { program := "ytckfklpgnneodaa", sum := "d3a370119170a7898d21cf1d5901bde6c95315b1a48ec5b047c39eab852d6764", func := "loop.example/g00506/laws.FnExactCircuitLayers", spec := "fnExactCircuitLayers", unfollowed := true, recurses := true, apart := false, narrowed := true }
def FnExactCircuitLayersUptoSaid : Prop := fnExactCircuitLayersUptoRow.holds Try.pinned (OpenSpec.upto fnExactCircuitLayersSpec)

/-- 'laws.FnExactCircuitFromLayers', WHERE WHAT IT READS IS OF BULK AT MOST 1048576: true; the input reads as it did. -/
def fnExactCircuitFromLayersUptoRow : OpenClaim := { program := "ytckfklpgnneodaa", sum := "d3a370119170a7898d21cf1d5901bde6c95315b1a48ec5b047c39eab852d6764", func := "loop.example/g00506/laws.FnExactCircuitFromLayers", spec := "fnExactCircuitFromLayers", unfollowed := true, recurses := true, apart := false, narrowed := true }
def FnExactCircuitFromLayersUptoSaid : Prop := fnExactCircuitFromLayersUptoRow.holds Try.pinned (OpenSpec.upto fnExactCircuitFromLayersSpec)

end Rows
end Go.Proofs.Ytckfklpgnneodaa
