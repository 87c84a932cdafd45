/-
  No cell of these rows narrows 'for every input' (looked for: loops, veiled, ifaces, maps, wideKeys, modest, calm, conditions, laid).
  DERIVED. THE GIVEN ROWS OF THIS SEAT. 4 by the template 'for every input the law returns true; each argument reads behind the call as it read before'; 0 by the template 'total and deterministic' (their statements: YtmpafidkpangeaaGreatTotals.lean).
  GIVEN WITH THE SEED: the statements are not yours to turn. If you find one false, say at which input.
  Laid BY PROGRAM, IN A SANDBOX (cutbox-rows.mjs): the forced cells as the released guide's own fill.sh prints them over the translation 389ac235ba3104da… (all of the seat's roots in one cut). By AI agents, Wed Nov 11 2026. No macro, syntax, notation, axiom, sorry.
-/
import Derived.Test.YtmpafidkpangeaaGreatChecked
import GoSem.Claim
import GoSem.ClaimJoined
import GoSem.ClaimMapViews
import Derived.JoinedTies
import Derived.KernelRfl
namespace Go.Proofs.YtmpafidkpangeaaGreat
/- THE CELL 'sum', in the pinned program and in every row, IS THE sha256 OF THE DUMP (.gsa) THAT YtmpafidkpangeaaGreatProg.lean LOADS. Nothing in Lean hashes anything: it is a label: what it is worth is what the hold of that sum in a sandbox is worth. -/
noncomputable def Tryz.pinned : Pinned := { name := "ytmpafidkpangeaagreat", sum := "389ac235ba3104da67dd4fe1fb2e853302412e40942832e5adbb160398459ba1", checked := Tryz.checked }
namespace Rows
def none {H : Type} : Left H := { results := [], args := [] }

/-- 'laws.FnUnitary': WHATEVER THE INPUT: true; the input reads as it did. -/
def fnUnitarySpec : ChangeSpec := { name := "fnUnitary", fn := fun _ => fun
  | [d] => { results := [.lit (.bool true)], args := [d] }
  | _ => none }
def fnUnitaryRow : OpenClaim := { program := "ytmpafidkpangeaagreat", sum := "389ac235ba3104da67dd4fe1fb2e853302412e40942832e5adbb160398459ba1", func := "loop.example/g00506/laws.FnUnitary", spec := "fnUnitary", unfollowed := true, recurses := true, apart := false }
def FnUnitarySaid : Prop := fnUnitaryRow.holds Tryz.pinned (OpenSpec.ofChange fnUnitarySpec)

/-- ITS FALSE NEIGHBOUR: 'it returns false'. Refute it at one input. -/
def fnUnitaryWrong : ChangeSpec := { name := "fnUnitary", fn := fun _ => fun
  | [d] => { results := [.lit (.bool false)], args := [d] }
  | _ => none }
def FnUnitaryWrongFalsely : Prop := fnUnitaryRow.holds Tryz.pinned (OpenSpec.ofChange fnUnitaryWrong)

/-- 'laws.FnApplyGate': WHATEVER THE INPUT: true; the input reads as it did. -/
def fnApplyGateSpec : ChangeSpec := { name := "fnApplyGate", fn := fun _ => fun
  | [d] => { results := [.lit (.bool true)], args := [d] }
  | _ => none }
def fnApplyGateRow : OpenClaim := { program := "ytmpafidkpangeaagreat", sum := "389ac235ba3104da67dd4fe1fb2e853302412e40942832e5adbb160398459ba1", func := "loop.example/g00506/laws.FnApplyGate", spec := "fnApplyGate", unfollowed := true, recurses := true, apart := false }
def FnApplyGateSaid : Prop := fnApplyGateRow.holds Tryz.pinned (OpenSpec.ofChange fnApplyGateSpec)

/-- ITS FALSE NEIGHBOUR: 'it returns false'. Refute it at one input. -/
def fnApplyGateWrong : ChangeSpec := { name := "fnApplyGate", fn := fun _ => fun
  | [d] => { results := [.lit (.bool false)], args := [d] }
  | _ => none }
def FnApplyGateWrongFalsely : Prop := fnApplyGateRow.holds Tryz.pinned (OpenSpec.ofChange fnApplyGateWrong)

/-- 'laws.FnMovedCirc': WHATEVER THE INPUT: true; the input reads as it did. -/
def fnMovedCircSpec : ChangeSpec := { name := "fnMovedCirc", fn := fun _ => fun
  | [d] => { results := [.lit (.bool true)], args := [d] }
  | _ => none }
def fnMovedCircRow : OpenClaim := { program := "ytmpafidkpangeaagreat", sum := "389ac235ba3104da67dd4fe1fb2e853302412e40942832e5adbb160398459ba1", func := "loop.example/g00506/laws.FnMovedCirc", spec := "fnMovedCirc", unfollowed := true, recurses := true, apart := false }
def FnMovedCircSaid : Prop := fnMovedCircRow.holds Tryz.pinned (OpenSpec.ofChange fnMovedCircSpec)

/-- ITS FALSE NEIGHBOUR: 'it returns false'. Refute it at one input. -/
def fnMovedCircWrong : ChangeSpec := { name := "fnMovedCirc", fn := fun _ => fun
  | [d] => { results := [.lit (.bool false)], args := [d] }
  | _ => none }
def FnMovedCircWrongFalsely : Prop := fnMovedCircRow.holds Tryz.pinned (OpenSpec.ofChange fnMovedCircWrong)

/-- 'laws.FnExactCircuitMatrix': WHATEVER THE INPUT: true; the input reads as it did. -/
def fnExactCircuitMatrixSpec : ChangeSpec := { name := "fnExactCircuitMatrix", fn := fun _ => fun
  | [d] => { results := [.lit (.bool true)], args := [d] }
  | _ => none }
def fnExactCircuitMatrixRow : OpenClaim := { program := "ytmpafidkpangeaagreat", sum := "389ac235ba3104da67dd4fe1fb2e853302412e40942832e5adbb160398459ba1", func := "loop.example/g00506/laws.FnExactCircuitMatrix", spec := "fnExactCircuitMatrix", unfollowed := true, recurses := true, apart := false }
def FnExactCircuitMatrixSaid : Prop := fnExactCircuitMatrixRow.holds Tryz.pinned (OpenSpec.ofChange fnExactCircuitMatrixSpec)

/-- ITS FALSE NEIGHBOUR: 'it returns false'. Refute it at one input. -/
def fnExactCircuitMatrixWrong : ChangeSpec := { name := "fnExactCircuitMatrix", fn := fun _ => fun
  | [d] => { results := [.lit (.bool false)], args := [d] }
  | _ => none }
def FnExactCircuitMatrixWrongFalsely : Prop := fnExactCircuitMatrixRow.holds Tryz.pinned (OpenSpec.ofChange fnExactCircuitMatrixWrong)

/- THE SECOND FORM. 'bulk': how many values and letters a reading holds, each counted each time it is reached (what is shared counts as often as it is met; a slice's spare places count too). A statement '..UptoSaid' is the law's where the arguments, and the package variables that the reading takes, are together of bulk at most 1048576: NARROWER than '..Said'. Prove '..Said' where nothing that the law and all that it calls make is longer than what came in: it says more and counts as full. Else prove '..UptoSaid'. A law counts once. -/
mutual
def uptoBulk {H : Type} : DataW H → Nat
  | .lit (.string bytes) => bytes.length + 1
  | .lit _ => 1
  | .nil => 1
  | .ptr d => uptoBulk d + 1
  | .slice elems spare => uptoBulkAll elems + uptoBulkAll spare + 1
  | .agg parts => uptoBulkAll parts + 1
  | .iface _ d => uptoBulk d + 1
  | .map entries => uptoBulkEntries entries + 1
  | .held _ => 1
def uptoBulkAll {H : Type} : List (DataW H) → Nat
  | [] => 0
  | d :: r => uptoBulk d + uptoBulkAll r
def uptoBulkEntries {H : Type} : List (Lit × DataW H) → Nat
  | [] => 0
  | x :: r => uptoBulkEntry x + uptoBulkEntries r
def uptoBulkEntry {H : Type} : Lit × DataW H → Nat
  | (.string bytes, d) => bytes.length + uptoBulk d + 1
  | (_, d) => uptoBulk d + 1
 end
def uptoSmall : (H : Type) → List (DataW H) → Bool := fun _ ds => decide (uptoBulkAll ds ≤ 1048576)
def OpenSpec.upto (s : _root_.Go.ChangeSpec) : _root_.Go.OpenSpec := { _root_.Go.OpenSpec.ofChange s with cond := some uptoSmall }

/-- 'laws.FnUnitary', WHERE WHAT IT READS IS OF BULK AT MOST 1048576: true; the input reads as it did. -/
def fnUnitaryUptoRow : OpenClaim := { program := "ytmpafidkpangeaagreat", sum := "389ac235ba3104da67dd4fe1fb2e853302412e40942832e5adbb160398459ba1", func := "loop.example/g00506/laws.FnUnitary", spec := "fnUnitary", unfollowed := true, recurses := true, apart := false, narrowed := true }
def FnUnitaryUptoSaid : Prop := fnUnitaryUptoRow.holds Tryz.pinned (OpenSpec.upto fnUnitarySpec)

/-- 'laws.FnApplyGate', WHERE WHAT IT READS IS OF BULK AT MOST 1048576: true; the input reads as it did. -/
def fnApplyGateUptoRow : OpenClaim := { program := "ytmpafidkpangeaagreat", sum := "389ac235ba3104da67dd4fe1fb2e853302412e40942832e5adbb160398459ba1", func := "loop.example/g00506/laws.FnApplyGate", spec := "fnApplyGate", unfollowed := true, recurses := true, apart := false, narrowed := true }
def FnApplyGateUptoSaid : Prop := fnApplyGateUptoRow.holds Tryz.pinned (OpenSpec.upto fnApplyGateSpec)

/-- 'laws.FnMovedCirc', WHERE WHAT IT READS IS OF BULK AT MOST 1048576: true; the input reads as it did. -/
def fnMovedCircUptoRow : OpenClaim := { program := "ytmpafidkpangeaagreat", sum := "389ac235ba3104da67dd4fe1fb2e853302412e40942832e5adbb160398459ba1", func := "loop.example/g00506/laws.FnMovedCirc", spec := "fnMovedCirc", unfollowed := true, recurses := true, apart := false, narrowed := true }
def FnMovedCircUptoSaid : Prop := fnMovedCircUptoRow.holds Tryz.pinned (OpenSpec.upto fnMovedCircSpec)

/-- 'laws.FnExactCircuitMatrix', WHERE WHAT IT READS IS OF BULK AT MOST 1048576: true; the input reads as it did. -/
def fnExactCircuitMatrixUptoRow : OpenClaim := { program := "ytmpafidkpangeaagreat", sum := "389ac235ba3104da67dd4fe1fb2e853302412e40942832e5adbb160398459ba1", func := "loop.example/g00506/laws.FnExactCircuitMatrix", spec := "fnExactCircuitMatrix", unfollowed := true, recurses := true, apart := false, narrowed := true }
def FnExactCircuitMatrixUptoSaid : Prop := fnExactCircuitMatrixUptoRow.holds Tryz.pinned (OpenSpec.upto fnExactCircuitMatrixSpec)

end Rows
end Go.Proofs.YtmpafidkpangeaaGreat
