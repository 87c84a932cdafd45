/-
  No cell of these rows narrows 'for every input' (looked for: loops, veiled, ifaces, maps, wideKeys, modest, calm, conditions, laid).
  DERIVED. THE GIVEN ROWS OF THIS SEAT. 7 by the template 'for every input the law returns true; each argument reads behind the call as it read before'; 0 by the template 'total and deterministic' (their statements: YtgknokaibgckkaaTotals.lean).
  GIVEN WITH THE SEED: the statements are not yours to turn. If you find one false, say at which input.
  Laid BY PROGRAM, IN A SANDBOX (cutbox-rows.mjs): the forced cells as the released guide's own fill.sh prints them over the translation 5e3e8c9b9531285f… (all of the seat's roots in one cut). By AI agents, Wed Nov 11 2026. No macro, syntax, notation, axiom, sorry.
-/
import Derived.Test.YtgknokaibgckkaaChecked
import GoSem.Claim
import GoSem.ClaimJoined
import GoSem.ClaimMapViews
import Derived.JoinedTies
import Derived.KernelRfl
namespace Go.Proofs.Ytgknokaibgckkaa
/- THE CELL 'sum', in the pinned program and in every row, IS THE sha256 OF THE DUMP (.gsa) THAT YtgknokaibgckkaaProg.lean LOADS. Nothing in Lean hashes anything: it is a label: what it is worth is what the hold of that sum in a sandbox is worth. -/
noncomputable def Try.pinned : Pinned := { name := "ytgknokaibgckkaa", sum := "5e3e8c9b9531285f2465ecfb3cfd1bef10b248d638ecf45396e697e85d3f6ab9", checked := Try.checked }
namespace Rows
def none {H : Type} : Left H := { results := [], args := [] }

/-- 'laws.FnGate': WHATEVER THE INPUT: true; the input reads as it did. -/
def fnGateSpec : ChangeSpec := { name := "fnGate", fn := fun _ => fun
  | [d] => { results := [.lit (.bool true)], args := [d] }
  | _ => none }
def fnGateRow : OpenClaim := { program := "ytgknokaibgckkaa", sum := "5e3e8c9b9531285f2465ecfb3cfd1bef10b248d638ecf45396e697e85d3f6ab9", func := "loop.example/g00506/laws.FnGate", spec := "fnGate", apart := false }
def FnGateSaid : Prop := fnGateRow.holds Try.pinned (OpenSpec.ofChange fnGateSpec)

/-- ITS FALSE NEIGHBOUR: 'it returns false'. Refute it at one input. -/
def fnGateWrong : ChangeSpec := { name := "fnGate", fn := fun _ => fun
  | [d] => { results := [.lit (.bool false)], args := [d] }
  | _ => none }
def FnGateWrongFalsely : Prop := fnGateRow.holds Try.pinned (OpenSpec.ofChange fnGateWrong)

/-- 'laws.FnExactArity': WHATEVER THE INPUT: true; the input reads as it did. -/
def fnExactAritySpec : ChangeSpec := { name := "fnExactArity", fn := fun _ => fun
  | [d] => { results := [.lit (.bool true)], args := [d] }
  | _ => none }
def fnExactArityRow : OpenClaim := { program := "ytgknokaibgckkaa", sum := "5e3e8c9b9531285f2465ecfb3cfd1bef10b248d638ecf45396e697e85d3f6ab9", func := "loop.example/g00506/laws.FnExactArity", spec := "fnExactArity", apart := false }
def FnExactAritySaid : Prop := fnExactArityRow.holds Try.pinned (OpenSpec.ofChange fnExactAritySpec)

/-- ITS FALSE NEIGHBOUR: 'it returns false'. Refute it at one input. -/
def fnExactArityWrong : ChangeSpec := { name := "fnExactArity", fn := fun _ => fun
  | [d] => { results := [.lit (.bool false)], args := [d] }
  | _ => none }
def FnExactArityWrongFalsely : Prop := fnExactArityRow.holds Try.pinned (OpenSpec.ofChange fnExactArityWrong)

/-- 'laws.FnExactIsValidGate': WHATEVER THE INPUT: true; the input reads as it did. -/
def fnExactIsValidGateSpec : ChangeSpec := { name := "fnExactIsValidGate", fn := fun _ => fun
  | [d1, d2] => { results := [.lit (.bool true)], args := [d1, d2] }
  | _ => none }
def fnExactIsValidGateRow : OpenClaim := { program := "ytgknokaibgckkaa", sum := "5e3e8c9b9531285f2465ecfb3cfd1bef10b248d638ecf45396e697e85d3f6ab9", func := "loop.example/g00506/laws.FnExactIsValidGate", spec := "fnExactIsValidGate", apart := false }
def FnExactIsValidGateSaid : Prop := fnExactIsValidGateRow.holds Try.pinned (OpenSpec.ofChange fnExactIsValidGateSpec)

/-- ITS FALSE NEIGHBOUR: 'it returns false'. Refute it at one input. -/
def fnExactIsValidGateWrong : ChangeSpec := { name := "fnExactIsValidGate", fn := fun _ => fun
  | [d1, d2] => { results := [.lit (.bool false)], args := [d1, d2] }
  | _ => none }
def FnExactIsValidGateWrongFalsely : Prop := fnExactIsValidGateRow.holds Try.pinned (OpenSpec.ofChange fnExactIsValidGateWrong)

/-- 'laws.FnExactInverseGate': WHATEVER THE INPUT: true; the input reads as it did. -/
def fnExactInverseGateSpec : ChangeSpec := { name := "fnExactInverseGate", fn := fun _ => fun
  | [d] => { results := [.lit (.bool true)], args := [d] }
  | _ => none }
def fnExactInverseGateRow : OpenClaim := { program := "ytgknokaibgckkaa", sum := "5e3e8c9b9531285f2465ecfb3cfd1bef10b248d638ecf45396e697e85d3f6ab9", func := "loop.example/g00506/laws.FnExactInverseGate", spec := "fnExactInverseGate", apart := false }
def FnExactInverseGateSaid : Prop := fnExactInverseGateRow.holds Try.pinned (OpenSpec.ofChange fnExactInverseGateSpec)

/-- ITS FALSE NEIGHBOUR: 'it returns false'. Refute it at one input. -/
def fnExactInverseGateWrong : ChangeSpec := { name := "fnExactInverseGate", fn := fun _ => fun
  | [d] => { results := [.lit (.bool false)], args := [d] }
  | _ => none }
def FnExactInverseGateWrongFalsely : Prop := fnExactInverseGateRow.holds Try.pinned (OpenSpec.ofChange fnExactInverseGateWrong)

/-- 'laws.FnExactIsClifford': WHATEVER THE INPUT: true; the input reads as it did. -/
def fnExactIsCliffordSpec : ChangeSpec := { name := "fnExactIsClifford", fn := fun _ => fun
  | [d] => { results := [.lit (.bool true)], args := [d] }
  | _ => none }
def fnExactIsCliffordRow : OpenClaim := { program := "ytgknokaibgckkaa", sum := "5e3e8c9b9531285f2465ecfb3cfd1bef10b248d638ecf45396e697e85d3f6ab9", func := "loop.example/g00506/laws.FnExactIsClifford", spec := "fnExactIsClifford", apart := false }
def FnExactIsCliffordSaid : Prop := fnExactIsCliffordRow.holds Try.pinned (OpenSpec.ofChange fnExactIsCliffordSpec)

/-- ITS FALSE NEIGHBOUR: 'it returns false'. Refute it at one input. -/
def fnExactIsCliffordWrong : ChangeSpec := { name := "fnExactIsClifford", fn := fun _ => fun
  | [d] => { results := [.lit (.bool false)], args := [d] }
  | _ => none }
def FnExactIsCliffordWrongFalsely : Prop := fnExactIsCliffordRow.holds Try.pinned (OpenSpec.ofChange fnExactIsCliffordWrong)

/-- 'laws.FnExactActsOn': WHATEVER THE INPUT: true; the input reads as it did. -/
def fnExactActsOnSpec : ChangeSpec := { name := "fnExactActsOn", fn := fun _ => fun
  | [d1, d2] => { results := [.lit (.bool true)], args := [d1, d2] }
  | _ => none }
def fnExactActsOnRow : OpenClaim := { program := "ytgknokaibgckkaa", sum := "5e3e8c9b9531285f2465ecfb3cfd1bef10b248d638ecf45396e697e85d3f6ab9", func := "loop.example/g00506/laws.FnExactActsOn", spec := "fnExactActsOn", apart := false }
def FnExactActsOnSaid : Prop := fnExactActsOnRow.holds Try.pinned (OpenSpec.ofChange fnExactActsOnSpec)

/-- ITS FALSE NEIGHBOUR: 'it returns false'. Refute it at one input. -/
def fnExactActsOnWrong : ChangeSpec := { name := "fnExactActsOn", fn := fun _ => fun
  | [d1, d2] => { results := [.lit (.bool false)], args := [d1, d2] }
  | _ => none }
def FnExactActsOnWrongFalsely : Prop := fnExactActsOnRow.holds Try.pinned (OpenSpec.ofChange fnExactActsOnWrong)

/-- 'laws.FnExactGateQubits': WHATEVER THE INPUT: true; the input reads as it did. -/
def fnExactGateQubitsSpec : ChangeSpec := { name := "fnExactGateQubits", fn := fun _ => fun
  | [d] => { results := [.lit (.bool true)], args := [d] }
  | _ => none }
def fnExactGateQubitsRow : OpenClaim := { program := "ytgknokaibgckkaa", sum := "5e3e8c9b9531285f2465ecfb3cfd1bef10b248d638ecf45396e697e85d3f6ab9", func := "loop.example/g00506/laws.FnExactGateQubits", spec := "fnExactGateQubits", apart := false }
def FnExactGateQubitsSaid : Prop := fnExactGateQubitsRow.holds Try.pinned (OpenSpec.ofChange fnExactGateQubitsSpec)

/-- ITS FALSE NEIGHBOUR: 'it returns false'. Refute it at one input. -/
def fnExactGateQubitsWrong : ChangeSpec := { name := "fnExactGateQubits", fn := fun _ => fun
  | [d] => { results := [.lit (.bool false)], args := [d] }
  | _ => none }
def FnExactGateQubitsWrongFalsely : Prop := fnExactGateQubitsRow.holds Try.pinned (OpenSpec.ofChange fnExactGateQubitsWrong)

/- THE SECOND FORM. 'bulk': how many values and letters a reading holds, each counted each time it is reached (what is shared counts as often as it is met; a slice's spare places count too). A statement '..UptoSaid' is the law's where the arguments, and the package variables that the reading takes, are together of bulk at most 1048576: NARROWER than '..Said'. Prove '..Said' where nothing that the law and all that it calls make is longer than what came in: it says more and counts as full. Else prove '..UptoSaid'. A law counts once. -/
mutual
def uptoBulk {H : Type} : DataW H → Nat
  | .lit (.string bytes) => bytes.length + 1
  | .lit _ => 1
  | .nil => 1
  | .ptr d => uptoBulk d + 1
  | .slice elems spare => uptoBulkAll elems + uptoBulkAll spare + 1
  | .agg parts => uptoBulkAll parts + 1
  | .iface _ d => uptoBulk d + 1
  | .map entries => uptoBulkEntries entries + 1
  | .held _ => 1
def uptoBulkAll {H : Type} : List (DataW H) → Nat
  | [] => 0
  | d :: r => uptoBulk d + uptoBulkAll r
def uptoBulkEntries {H : Type} : List (Lit × DataW H) → Nat
  | [] => 0
  | x :: r => uptoBulkEntry x + uptoBulkEntries r
def uptoBulkEntry {H : Type} : Lit × DataW H → Nat
  | (.string bytes, d) => bytes.length + uptoBulk d + 1
  | (_, d) => uptoBulk d + 1
 end
def uptoSmall : (H : Type) → List (DataW H) → Bool := fun _ ds => decide (uptoBulkAll ds ≤ 1048576)
def OpenSpec.upto (s : _root_.Go.ChangeSpec) : _root_.Go.OpenSpec := { _root_.Go.OpenSpec.ofChange s with cond := some uptoSmall }

/-- 'laws.FnGate', WHERE WHAT IT READS IS OF BULK AT MOST 1048576: true; the input reads as it did. -/
def fnGateUptoRow : OpenClaim := { program := "ytgknokaibgckkaa", sum := "5e3e8c9b9531285f2465ecfb3cfd1bef10b248d638ecf45396e697e85d3f6ab9", func := "loop.example/g00506/laws.FnGate", spec := "fnGate", apart := false, narrowed := true }
def FnGateUptoSaid : Prop := fnGateUptoRow.holds Try.pinned (OpenSpec.upto fnGateSpec)

/-- 'laws.FnExactArity', WHERE WHAT IT READS IS OF BULK AT MOST 1048576: true; the input reads as it did. -/
def fnExactArityUptoRow : OpenClaim := { program := "ytgknokaibgckkaa", sum := "5e3e8c9b9531285f2465ecfb3cfd1bef10b248d638ecf45396e697e85d3f6ab9", func := "loop.example/g00506/laws.FnExactArity", spec := "fnExactArity", apart := false, narrowed := true }
def FnExactArityUptoSaid : Prop := fnExactArityUptoRow.holds Try.pinned (OpenSpec.upto fnExactAritySpec)

/-- 'laws.FnExactIsValidGate', WHERE WHAT IT READS IS OF BULK AT MOST 1048576: true; the input reads as it did. -/
def fnExactIsValidGateUptoRow : OpenClaim := { program := "ytgknokaibgckkaa", sum := "5e3e8c9b9531285f2465ecfb3cfd1bef10b248d638ecf45396e697e85d3f6ab9", func := "loop.example/g00506/laws.FnExactIsValidGate", spec := "fnExactIsValidGate", apart := false, narrowed := true }
def FnExactIsValidGateUptoSaid : Prop := fnExactIsValidGateUptoRow.holds Try.pinned (OpenSpec.upto fnExactIsValidGateSpec)

/-- 'laws.FnExactInverseGate', WHERE WHAT IT READS IS OF BULK AT MOST 1048576: true; the input reads as it did. -/
def fnExactInverseGateUptoRow : OpenClaim := { program := "ytgknokaibgckkaa", sum := "5e3e8c9b9531285f2465ecfb3cfd1bef10b248d638ecf45396e697e85d3f6ab9", func := "loop.example/g00506/laws.FnExactInverseGate", spec := "fnExactInverseGate", apart := false, narrowed := true }
def FnExactInverseGateUptoSaid : Prop := fnExactInverseGateUptoRow.holds Try.pinned (OpenSpec.upto fnExactInverseGateSpec)

/-- 'laws.FnExactIsClifford', WHERE WHAT IT READS IS OF BULK AT MOST 1048576: true; the input reads as it did. -/
def fnExactIsCliffordUptoRow : OpenClaim := { program := "ytgknokaibgckkaa", sum := "5e3e8c9b9531285f2465ecfb3cfd1bef10b248d638ecf45396e697e85d3f6ab9", func := "loop.example/g00506/laws.FnExactIsClifford", spec := "fnExactIsClifford", apart := false, narrowed := true }
def FnExactIsCliffordUptoSaid : Prop := fnExactIsCliffordUptoRow.holds Try.pinned (OpenSpec.upto fnExactIsCliffordSpec)

/-- 'laws.FnExactActsOn', WHERE WHAT IT READS IS OF BULK AT MOST 1048576: true; the input reads as it did. -/
def fnExactActsOnUptoRow : OpenClaim := { program := "ytgknokaibgckkaa", sum := "5e3e8c9b9531285f2465ecfb3cfd1bef10b248d638ecf45396e697e85d3f6ab9", func := "loop.example/g00506/laws.FnExactActsOn", spec := "fnExactActsOn", apart := false, narrowed := true }
def FnExactActsOnUptoSaid : Prop := fnExactActsOnUptoRow.holds Try.pinned (OpenSpec.upto fnExactActsOnSpec)

/-- 'laws.FnExactGateQubits', WHERE WHAT IT READS IS OF BULK AT MOST 1048576: true; the input reads as it did. -/
def fnExactGateQubitsUptoRow : OpenClaim := { program := "ytgknokaibgckkaa", sum := "5e3e8c9b9531285f2465ecfb3cfd1bef10b248d638ecf45396e697e85d3f6ab9", func := "loop.example/g00506/laws.FnExactGateQubits", spec := "fnExactGateQubits", apart := false, narrowed := true }
def FnExactGateQubitsUptoSaid : Prop := fnExactGateQubitsUptoRow.holds Try.pinned (OpenSpec.upto fnExactGateQubitsSpec)

end Rows
end Go.Proofs.Ytgknokaibgckkaa
