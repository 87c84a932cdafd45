/-
  No cell of these rows narrows 'for every input' (looked for: loops, veiled, ifaces, maps, wideKeys, modest, calm, conditions, laid).
  DERIVED. THE GIVEN ROWS OF THIS SEAT. 5 by the template 'for every input the law returns true; each argument reads behind the call as it read before'; 0 by the template 'total and deterministic' (their statements: YtadimihfbpkilaaTotals.lean).
  GIVEN WITH THE SEED: the statements are not yours to turn. If you find one false, say at which input.
  Laid BY PROGRAM, IN A SANDBOX (cutbox-rows.mjs): the forced cells as the released guide's own fill.sh prints them over the translation 5973287f04729270… (all of the seat's roots in one cut). By AI agents, Wed Nov 11 2026. No macro, syntax, notation, axiom, sorry.
-/
import Derived.Test.YtadimihfbpkilaaChecked
import GoSem.Claim
import GoSem.ClaimJoined
import GoSem.ClaimMapViews
import Derived.JoinedTies
import Derived.KernelRfl
namespace Go.Proofs.Ytadimihfbpkilaa
/- THE CELL 'sum', in the pinned program and in every row, IS THE sha256 OF THE DUMP (.gsa) THAT YtadimihfbpkilaaProg.lean LOADS. Nothing in Lean hashes anything: it is a label: what it is worth is what the hold of that sum in a sandbox is worth. -/
noncomputable def Try.pinned : Pinned := { name := "ytadimihfbpkilaa", sum := "5973287f047292708c4855ba4308c0d75d4ecd3112d6fd44578a54efe88ac2be", checked := Try.checked }
namespace Rows
def none {H : Type} : Left H := { results := [], args := [] }

/-- 'laws.FnLowered': WHATEVER THE INPUT: true; the input reads as it did. -/
def fnLoweredSpec : ChangeSpec := { name := "fnLowered", fn := fun _ => fun
  | [d] => { results := [.lit (.bool true)], args := [d] }
  | _ => none }
def fnLoweredRow : OpenClaim := { program := "ytadimihfbpkilaa", sum := "5973287f047292708c4855ba4308c0d75d4ecd3112d6fd44578a54efe88ac2be", func := "loop.example/g00506/laws.FnLowered", spec := "fnLowered", unfollowed := true, recurses := true, apart := false }
def FnLoweredSaid : Prop := fnLoweredRow.holds Try.pinned (OpenSpec.ofChange fnLoweredSpec)

/-- ITS FALSE NEIGHBOUR: 'it returns false'. Refute it at one input. -/
def fnLoweredWrong : ChangeSpec := { name := "fnLowered", fn := fun _ => fun
  | [d] => { results := [.lit (.bool false)], args := [d] }
  | _ => none }
def FnLoweredWrongFalsely : Prop := fnLoweredRow.holds Try.pinned (OpenSpec.ofChange fnLoweredWrong)

/-- 'laws.FnLoweredGate': WHATEVER THE INPUT: true; the input reads as it did. -/
def fnLoweredGateSpec : ChangeSpec := { name := "fnLoweredGate", fn := fun _ => fun
  | [d] => { results := [.lit (.bool true)], args := [d] }
  | _ => none }
def fnLoweredGateRow : OpenClaim := { program := "ytadimihfbpkilaa", sum := "5973287f047292708c4855ba4308c0d75d4ecd3112d6fd44578a54efe88ac2be", func := "loop.example/g00506/laws.FnLoweredGate", spec := "fnLoweredGate", unfollowed := true, recurses := true, apart := false }
def FnLoweredGateSaid : Prop := fnLoweredGateRow.holds Try.pinned (OpenSpec.ofChange fnLoweredGateSpec)

/-- ITS FALSE NEIGHBOUR: 'it returns false'. Refute it at one input. -/
def fnLoweredGateWrong : ChangeSpec := { name := "fnLoweredGate", fn := fun _ => fun
  | [d] => { results := [.lit (.bool false)], args := [d] }
  | _ => none }
def FnLoweredGateWrongFalsely : Prop := fnLoweredGateRow.holds Try.pinned (OpenSpec.ofChange fnLoweredGateWrong)

/-- 'laws.FnExactDecomposeGate': WHATEVER THE INPUT: true; the input reads as it did. -/
def fnExactDecomposeGateSpec : ChangeSpec := { name := "fnExactDecomposeGate", fn := fun _ => fun
  | [d] => { results := [.lit (.bool true)], args := [d] }
  | _ => none }
def fnExactDecomposeGateRow : OpenClaim := { program := "ytadimihfbpkilaa", sum := "5973287f047292708c4855ba4308c0d75d4ecd3112d6fd44578a54efe88ac2be", func := "loop.example/g00506/laws.FnExactDecomposeGate", spec := "fnExactDecomposeGate", unfollowed := true, recurses := true, apart := false }
def FnExactDecomposeGateSaid : Prop := fnExactDecomposeGateRow.holds Try.pinned (OpenSpec.ofChange fnExactDecomposeGateSpec)

/-- ITS FALSE NEIGHBOUR: 'it returns false'. Refute it at one input. -/
def fnExactDecomposeGateWrong : ChangeSpec := { name := "fnExactDecomposeGate", fn := fun _ => fun
  | [d] => { results := [.lit (.bool false)], args := [d] }
  | _ => none }
def FnExactDecomposeGateWrongFalsely : Prop := fnExactDecomposeGateRow.holds Try.pinned (OpenSpec.ofChange fnExactDecomposeGateWrong)

/-- 'laws.FnExactDecomposeGates': WHATEVER THE INPUT: true; the input reads as it did. -/
def fnExactDecomposeGatesSpec : ChangeSpec := { name := "fnExactDecomposeGates", fn := fun _ => fun
  | [d] => { results := [.lit (.bool true)], args := [d] }
  | _ => none }
def fnExactDecomposeGatesRow : OpenClaim := { program := "ytadimihfbpkilaa", sum := "5973287f047292708c4855ba4308c0d75d4ecd3112d6fd44578a54efe88ac2be", func := "loop.example/g00506/laws.FnExactDecomposeGates", spec := "fnExactDecomposeGates", unfollowed := true, recurses := true, apart := false }
def FnExactDecomposeGatesSaid : Prop := fnExactDecomposeGatesRow.holds Try.pinned (OpenSpec.ofChange fnExactDecomposeGatesSpec)

/-- ITS FALSE NEIGHBOUR: 'it returns false'. Refute it at one input. -/
def fnExactDecomposeGatesWrong : ChangeSpec := { name := "fnExactDecomposeGates", fn := fun _ => fun
  | [d] => { results := [.lit (.bool false)], args := [d] }
  | _ => none }
def FnExactDecomposeGatesWrongFalsely : Prop := fnExactDecomposeGatesRow.holds Try.pinned (OpenSpec.ofChange fnExactDecomposeGatesWrong)

/-- 'laws.FnExactIsBasicGate': WHATEVER THE INPUT: true; the input reads as it did. -/
def fnExactIsBasicGateSpec : ChangeSpec := { name := "fnExactIsBasicGate", fn := fun _ => fun
  | [d] => { results := [.lit (.bool true)], args := [d] }
  | _ => none }
def fnExactIsBasicGateRow : OpenClaim := { program := "ytadimihfbpkilaa", sum := "5973287f047292708c4855ba4308c0d75d4ecd3112d6fd44578a54efe88ac2be", func := "loop.example/g00506/laws.FnExactIsBasicGate", spec := "fnExactIsBasicGate", apart := false }
def FnExactIsBasicGateSaid : Prop := fnExactIsBasicGateRow.holds Try.pinned (OpenSpec.ofChange fnExactIsBasicGateSpec)

/-- ITS FALSE NEIGHBOUR: 'it returns false'. Refute it at one input. -/
def fnExactIsBasicGateWrong : ChangeSpec := { name := "fnExactIsBasicGate", fn := fun _ => fun
  | [d] => { results := [.lit (.bool false)], args := [d] }
  | _ => none }
def FnExactIsBasicGateWrongFalsely : Prop := fnExactIsBasicGateRow.holds Try.pinned (OpenSpec.ofChange fnExactIsBasicGateWrong)

/- THE SECOND FORM. 'bulk': how many values and letters a reading holds, each counted each time it is reached (what is shared counts as often as it is met; a slice's spare places count too). A statement '..UptoSaid' is the law's where the arguments, and the package variables that the reading takes, are together of bulk at most 1048576: NARROWER than '..Said'. Prove '..Said' where nothing that the law and all that it calls make is longer than what came in: it says more and counts as full. Else prove '..UptoSaid'. A law counts once. -/
mutual
def uptoBulk {H : Type} : DataW H → Nat
  | .lit (.string bytes) => bytes.length + 1
  | .lit _ => 1
  | .nil => 1
  | .ptr d => uptoBulk d + 1
  | .slice elems spare => uptoBulkAll elems + uptoBulkAll spare + 1
  | .agg parts => uptoBulkAll parts + 1
  | .iface _ d => uptoBulk d + 1
  | .map entries => uptoBulkEntries entries + 1
  | .held _ => 1
def uptoBulkAll {H : Type} : List (DataW H) → Nat
  | [] => 0
  | d :: r => uptoBulk d + uptoBulkAll r
def uptoBulkEntries {H : Type} : List (Lit × DataW H) → Nat
  | [] => 0
  | x :: r => uptoBulkEntry x + uptoBulkEntries r
def uptoBulkEntry {H : Type} : Lit × DataW H → Nat
  | (.string bytes, d) => bytes.length + uptoBulk d + 1
  | (_, d) => uptoBulk d + 1
 end
def uptoSmall : (H : Type) → List (DataW H) → Bool := fun _ ds => decide (uptoBulkAll ds ≤ 1048576)
def OpenSpec.upto (s : _root_.Go.ChangeSpec) : _root_.Go.OpenSpec := { _root_.Go.OpenSpec.ofChange s with cond := some uptoSmall }

/-- 'laws.FnLowered', WHERE WHAT IT READS IS OF BULK AT MOST 1048576: true; the input reads as it did. -/
def fnLoweredUptoRow : OpenClaim := { program := "ytadimihfbpkilaa", sum := "5973287f047292708c4855ba4308c0d75d4ecd3112d6fd44578a54efe88ac2be", func := "loop.example/g00506/laws.FnLowered", spec := "fnLowered", unfollowed := true, recurses := true, apart := false, narrowed := true }
def FnLoweredUptoSaid : Prop := fnLoweredUptoRow.holds Try.pinned (OpenSpec.upto fnLoweredSpec)

/-- 'laws.FnLoweredGate', WHERE WHAT IT READS IS OF BULK AT MOST 1048576: true; the input reads as it did. -/
def fnLoweredGateUptoRow : OpenClaim := { program := "ytadimihfbpkilaa", sum := "5973287f047292708c4855ba4308c0d75d4ecd3112d6fd44578a54efe88ac2be", func := "loop.example/g00506/laws.FnLoweredGate", spec := "fnLoweredGate", unfollowed := true, recurses := true, apart := false, narrowed := true }
def FnLoweredGateUptoSaid : Prop := fnLoweredGateUptoRow.holds Try.pinned (OpenSpec.upto fnLoweredGateSpec)

/-- 'laws.FnExactDecomposeGate', WHERE WHAT IT READS IS OF BULK AT MOST 1048576: true; the input reads as it did. -/
def fnExactDecomposeGateUptoRow : OpenClaim := { program := "ytadimihfbpkilaa", sum := "5973287f047292708c4855ba4308c0d75d4ecd3112d6fd44578a54efe88ac2be", func := "loop.example/g00506/laws.FnExactDecomposeGate", spec := "fnExactDecomposeGate", unfollowed := true, recurses := true, apart := false, narrowed := true }
def FnExactDecomposeGateUptoSaid : Prop := fnExactDecomposeGateUptoRow.holds Try.pinned (OpenSpec.upto fnExactDecomposeGateSpec)

/-- 'laws.FnExactDecomposeGates', WHERE WHAT IT READS IS OF BULK AT MOST 1048576: true; the input reads as it did. -/
def fnExactDecomposeGatesUptoRow : OpenClaim := { program := "ytadimihfbpkilaa", sum := "5973287f047292708c4855ba4308c0d75d4ecd3112d6fd44578a54efe88ac2be", func := "loop.example/g00506/laws.FnExactDecomposeGates", spec := "fnExactDecomposeGates", unfollowed := true, recurses := true, apart := false, narrowed := true }
def FnExactDecomposeGatesUptoSaid : Prop := fnExactDecomposeGatesUptoRow.holds Try.pinned (OpenSpec.upto fnExactDecomposeGatesSpec)

/-- 'laws.FnExactIsBasicGate', WHERE WHAT IT READS IS OF BULK AT MOST 1048576: true; the input reads as it did. -/
def fnExactIsBasicGateUptoRow : OpenClaim := { program := "ytadimihfbpkilaa", sum := "5973287f047292708c4855ba4308c0d75d4ecd3112d6fd44578a54efe88ac2be", func := "loop.example/g00506/laws.FnExactIsBasicGate", spec := "fnExactIsBasicGate", apart := false, narrowed := true }
def FnExactIsBasicGateUptoSaid : Prop := fnExactIsBasicGateUptoRow.holds Try.pinned (OpenSpec.upto fnExactIsBasicGateSpec)

end Rows
end Go.Proofs.Ytadimihfbpkilaa
