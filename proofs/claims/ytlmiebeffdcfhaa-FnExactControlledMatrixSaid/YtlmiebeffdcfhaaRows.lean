/-
  No cell of these rows narrows 'for every input' (looked for: loops, veiled, ifaces, maps, wideKeys, modest, calm, conditions, laid).
  DERIVED. THE GIVEN ROWS OF THIS SEAT. 3 by the template 'for every input the law returns true; each argument reads behind the call as it read before'; 0 by the template 'total and deterministic' (their statements: YtlmiebeffdcfhaaTotals.lean).
  GIVEN WITH THE SEED: the statements are not yours to turn. If you find one false, say at which input.
  Laid BY PROGRAM, IN A SANDBOX (cutbox-rows.mjs): the forced cells as the released guide's own fill.sh prints them over the translation 93dcc2fd2952ec02… (all of the seat's roots in one cut). By AI agents, Wed Nov 11 2026. No macro, syntax, notation, axiom, sorry.
-/
import Derived.Test.YtlmiebeffdcfhaaChecked
import GoSem.Claim
import GoSem.ClaimJoined
import GoSem.ClaimMapViews
import Derived.JoinedTies
import Derived.KernelRfl
namespace Go.Proofs.Ytlmiebeffdcfhaa
/- THE CELL 'sum', in the pinned program and in every row, IS THE sha256 OF THE DUMP (.gsa) THAT YtlmiebeffdcfhaaProg.lean LOADS. Nothing in Lean hashes anything: it is a label: what it is worth is what the hold of that sum in a sandbox is worth. -/
noncomputable def Try.pinned : Pinned := { name := "ytlmiebeffdcfhaa", sum := "93dcc2fd2952ec02becb20db1bc59178a5320b01bc6093f6e5b50afc0794b821", checked := Try.checked }
namespace Rows
def none {H : Type} : Left H := { results := [], args := [] }

/-- 'laws.FnExactControlledGate': WHATEVER THE INPUT: true; the input reads as it did. -/
def fnExactControlledGateSpec : ChangeSpec := { name := "fnExactControlledGate", fn := fun _ => fun
  | [d1, d2] => { results := [.lit (.bool true)], args := [d1, d2] }
  | _ => none }
def fnExactControlledGateRow : OpenClaim := { program := "ytlmiebeffdcfhaa", sum := "93dcc2fd2952ec02becb20db1bc59178a5320b01bc6093f6e5b50afc0794b821", func := "loop.example/g00506/laws.FnExactControlledGate", spec := "fnExactControlledGate", unfollowed := true, recurses := true, apart := false }
def FnExactControlledGateSaid : Prop := fnExactControlledGateRow.holds Try.pinned (OpenSpec.ofChange fnExactControlledGateSpec)

/-- ITS FALSE NEIGHBOUR: 'it returns false'. Refute it at one input. -/
def fnExactControlledGateWrong : ChangeSpec := { name := "fnExactControlledGate", fn := fun _ => fun
  | [d1, d2] => { results := [.lit (.bool false)], args := [d1, d2] }
  | _ => none }
def FnExactControlledGateWrongFalsely : Prop := fnExactControlledGateRow.holds Try.pinned (OpenSpec.ofChange fnExactControlledGateWrong)

/-- 'laws.FnExactControlledGates': WHATEVER THE INPUT: true; the input reads as it did. -/
def fnExactControlledGatesSpec : ChangeSpec := { name := "fnExactControlledGates", fn := fun _ => fun
  | [d1, d2] => { results := [.lit (.bool true)], args := [d1, d2] }
  | _ => none }
def fnExactControlledGatesRow : OpenClaim := { program := "ytlmiebeffdcfhaa", sum := "93dcc2fd2952ec02becb20db1bc59178a5320b01bc6093f6e5b50afc0794b821", func := "loop.example/g00506/laws.FnExactControlledGates", spec := "fnExactControlledGates", unfollowed := true, recurses := true, apart := false }
def FnExactControlledGatesSaid : Prop := fnExactControlledGatesRow.holds Try.pinned (OpenSpec.ofChange fnExactControlledGatesSpec)

/-- ITS FALSE NEIGHBOUR: 'it returns false'. Refute it at one input. -/
def fnExactControlledGatesWrong : ChangeSpec := { name := "fnExactControlledGates", fn := fun _ => fun
  | [d1, d2] => { results := [.lit (.bool false)], args := [d1, d2] }
  | _ => none }
def FnExactControlledGatesWrongFalsely : Prop := fnExactControlledGatesRow.holds Try.pinned (OpenSpec.ofChange fnExactControlledGatesWrong)

/-- 'laws.FnExactControlledMatrix': WHATEVER THE INPUT: true; the input reads as it did. -/
def fnExactControlledMatrixSpec : ChangeSpec := { name := "fnExactControlledMatrix", fn := fun _ => fun
  | [d1, d2] => { results := [.lit (.bool true)], args := [d1, d2] }
  | _ => none }
def fnExactControlledMatrixRow : OpenClaim := { program := "ytlmiebeffdcfhaa", sum := "93dcc2fd2952ec02becb20db1bc59178a5320b01bc6093f6e5b50afc0794b821", func := "loop.example/g00506/laws.FnExactControlledMatrix", spec := "fnExactControlledMatrix", apart := false }
def FnExactControlledMatrixSaid : Prop := fnExactControlledMatrixRow.holds Try.pinned (OpenSpec.ofChange fnExactControlledMatrixSpec)

/-- ITS FALSE NEIGHBOUR: 'it returns false'. Refute it at one input. -/
def fnExactControlledMatrixWrong : ChangeSpec := { name := "fnExactControlledMatrix", fn := fun _ => fun
  | [d1, d2] => { results := [.lit (.bool false)], args := [d1, d2] }
  | _ => none }
def FnExactControlledMatrixWrongFalsely : Prop := fnExactControlledMatrixRow.holds Try.pinned (OpenSpec.ofChange fnExactControlledMatrixWrong)

/- THE SECOND FORM. 'bulk': how many values and letters a reading holds, each counted each time it is reached (what is shared counts as often as it is met; a slice's spare places count too). A statement '..UptoSaid' is the law's where the arguments, and the package variables that the reading takes, are together of bulk at most 1048576: NARROWER than '..Said'. Prove '..Said' where nothing that the law and all that it calls make is longer than what came in: it says more and counts as full. Else prove '..UptoSaid'. A law counts once. -/
mutual
def uptoBulk {H : Type} : DataW H → Nat
  | .lit (.string bytes) => bytes.length + 1
  | .lit _ => 1
  | .nil => 1
  | .ptr d => uptoBulk d + 1
  | .slice elems spare => uptoBulkAll elems + uptoBulkAll spare + 1
  | .agg parts => uptoBulkAll parts + 1
  | .iface _ d => uptoBulk d + 1
  | .map entries => uptoBulkEntries entries + 1
  | .held _ => 1
def uptoBulkAll {H : Type} : List (DataW H) → Nat
  | [] => 0
  | d :: r => uptoBulk d + uptoBulkAll r
def uptoBulkEntries {H : Type} : List (Lit × DataW H) → Nat
  | [] => 0
  | x :: r => uptoBulkEntry x + uptoBulkEntries r
def uptoBulkEntry {H : Type} : Lit × DataW H → Nat
  | (.string bytes, d) => bytes.length + uptoBulk d + 1
  | (_, d) => uptoBulk d + 1
 end
def uptoSmall : (H : Type) → List (DataW H) → Bool := fun _ ds => decide (uptoBulkAll ds ≤ 1048576)
def OpenSpec.upto (s : _root_.Go.ChangeSpec) : _root_.Go.OpenSpec := { _root_.Go.OpenSpec.ofChange s with cond := some uptoSmall }

/-- 'laws.FnExactControlledGate', WHERE WHAT IT READS IS OF BULK AT MOST 1048576: true; the input reads as it did. -/
def fnExactControlledGateUptoRow : OpenClaim := { program := "ytlmiebeffdcfhaa", sum := "93dcc2fd2952ec02becb20db1bc59178a5320b01bc6093f6e5b50afc0794b821", func := "loop.example/g00506/laws.FnExactControlledGate", spec := "fnExactControlledGate", unfollowed := true, recurses := true, apart := false, narrowed := true }
def FnExactControlledGateUptoSaid : Prop := fnExactControlledGateUptoRow.holds Try.pinned (OpenSpec.upto fnExactControlledGateSpec)

/-- 'laws.FnExactControlledGates', WHERE WHAT IT READS IS OF BULK AT MOST 1048576: true; the input reads as it did. -/
def fnExactControlledGatesUptoRow : OpenClaim := { program := "ytlmiebeffdcfhaa", sum := "93dcc2fd2952ec02becb20db1bc59178a5320b01bc6093f6e5b50afc0794b821", func := "loop.example/g00506/laws.FnExactControlledGates", spec := "fnExactControlledGates", unfollowed := true, recurses := true, apart := false, narrowed := true }
def FnExactControlledGatesUptoSaid : Prop := fnExactControlledGatesUptoRow.holds Try.pinned (OpenSpec.upto fnExactControlledGatesSpec)

/-- 'laws.FnExactControlledMatrix', WHERE WHAT IT READS IS OF BULK AT MOST 1048576: true; the input reads as it did. -/
def fnExactControlledMatrixUptoRow : OpenClaim := { program := "ytlmiebeffdcfhaa", sum := "93dcc2fd2952ec02becb20db1bc59178a5320b01bc6093f6e5b50afc0794b821", func := "loop.example/g00506/laws.FnExactControlledMatrix", spec := "fnExactControlledMatrix", apart := false, narrowed := true }
def FnExactControlledMatrixUptoSaid : Prop := fnExactControlledMatrixUptoRow.holds Try.pinned (OpenSpec.upto fnExactControlledMatrixSpec)

end Rows
end Go.Proofs.Ytlmiebeffdcfhaa
