/-
  No cell of these rows narrows 'for every input' (looked for: loops, veiled, ifaces, maps, wideKeys, modest, calm, conditions, laid).
  DERIVED. THE GIVEN ROWS OF THIS SEAT. 3 by the template 'for every input the law returns true; each argument reads behind the call as it read before'; 0 by the template 'total and deterministic' (their statements: YtlmiebeffdcfhaaGreatTotals.lean).
  GIVEN WITH THE SEED: the statements are not yours to turn. If you find one false, say at which input.
  Laid BY PROGRAM, IN A SANDBOX (cutbox-rows.mjs): the forced cells as the released guide's own fill.sh prints them over the translation b5cd222660e1cd26… (all of the seat's roots in one cut). By AI agents, Wed Nov 11 2026. No macro, syntax, notation, axiom, sorry.
-/
import Derived.Test.YtlmiebeffdcfhaaGreatChecked
import GoSem.Claim
import GoSem.ClaimJoined
import GoSem.ClaimMapViews
import Derived.JoinedTies
import Derived.KernelRfl
namespace Go.Proofs.YtlmiebeffdcfhaaGreat
/- THE CELL 'sum', in the pinned program and in every row, IS THE sha256 OF THE DUMP (.gsa) THAT YtlmiebeffdcfhaaGreatProg.lean LOADS. Nothing in Lean hashes anything: it is a label: what it is worth is what the hold of that sum in a sandbox is worth. -/
noncomputable def Tryz.pinned : Pinned := { name := "ytlmiebeffdcfhaagreat", sum := "b5cd222660e1cd269c8a61d074b7ddd8b215ae768889f110fe26d83d860f12ea", checked := Tryz.checked }
namespace Rows
def none {H : Type} : Left H := { results := [], args := [] }

/-- 'laws.FnControlled': WHATEVER THE INPUT: true; the input reads as it did. -/
def fnControlledSpec : ChangeSpec := { name := "fnControlled", fn := fun _ => fun
  | [d] => { results := [.lit (.bool true)], args := [d] }
  | _ => none }
def fnControlledRow : OpenClaim := { program := "ytlmiebeffdcfhaagreat", sum := "b5cd222660e1cd269c8a61d074b7ddd8b215ae768889f110fe26d83d860f12ea", func := "loop.example/g00506/laws.FnControlled", spec := "fnControlled", unfollowed := true, recurses := true, apart := false }
def FnControlledSaid : Prop := fnControlledRow.holds Tryz.pinned (OpenSpec.ofChange fnControlledSpec)

/-- ITS FALSE NEIGHBOUR: 'it returns false'. Refute it at one input. -/
def fnControlledWrong : ChangeSpec := { name := "fnControlled", fn := fun _ => fun
  | [d] => { results := [.lit (.bool false)], args := [d] }
  | _ => none }
def FnControlledWrongFalsely : Prop := fnControlledRow.holds Tryz.pinned (OpenSpec.ofChange fnControlledWrong)

/-- 'laws.FnControlledAll': WHATEVER THE INPUT: true; the input reads as it did. -/
def fnControlledAllSpec : ChangeSpec := { name := "fnControlledAll", fn := fun _ => fun
  | [d] => { results := [.lit (.bool true)], args := [d] }
  | _ => none }
def fnControlledAllRow : OpenClaim := { program := "ytlmiebeffdcfhaagreat", sum := "b5cd222660e1cd269c8a61d074b7ddd8b215ae768889f110fe26d83d860f12ea", func := "loop.example/g00506/laws.FnControlledAll", spec := "fnControlledAll", unfollowed := true, recurses := true, apart := false }
def FnControlledAllSaid : Prop := fnControlledAllRow.holds Tryz.pinned (OpenSpec.ofChange fnControlledAllSpec)

/-- ITS FALSE NEIGHBOUR: 'it returns false'. Refute it at one input. -/
def fnControlledAllWrong : ChangeSpec := { name := "fnControlledAll", fn := fun _ => fun
  | [d] => { results := [.lit (.bool false)], args := [d] }
  | _ => none }
def FnControlledAllWrongFalsely : Prop := fnControlledAllRow.holds Tryz.pinned (OpenSpec.ofChange fnControlledAllWrong)

/-- 'laws.FnControlMat': WHATEVER THE INPUT: true; the input reads as it did. -/
def fnControlMatSpec : ChangeSpec := { name := "fnControlMat", fn := fun _ => fun
  | [d] => { results := [.lit (.bool true)], args := [d] }
  | _ => none }
def fnControlMatRow : OpenClaim := { program := "ytlmiebeffdcfhaagreat", sum := "b5cd222660e1cd269c8a61d074b7ddd8b215ae768889f110fe26d83d860f12ea", func := "loop.example/g00506/laws.FnControlMat", spec := "fnControlMat", unfollowed := true, recurses := true, apart := false }
def FnControlMatSaid : Prop := fnControlMatRow.holds Tryz.pinned (OpenSpec.ofChange fnControlMatSpec)

/-- ITS FALSE NEIGHBOUR: 'it returns false'. Refute it at one input. -/
def fnControlMatWrong : ChangeSpec := { name := "fnControlMat", fn := fun _ => fun
  | [d] => { results := [.lit (.bool false)], args := [d] }
  | _ => none }
def FnControlMatWrongFalsely : Prop := fnControlMatRow.holds Tryz.pinned (OpenSpec.ofChange fnControlMatWrong)

/- THE SECOND FORM. 'bulk': how many values and letters a reading holds, each counted each time it is reached (what is shared counts as often as it is met; a slice's spare places count too). A statement '..UptoSaid' is the law's where the arguments, and the package variables that the reading takes, are together of bulk at most 1048576: NARROWER than '..Said'. Prove '..Said' where nothing that the law and all that it calls make is longer than what came in: it says more and counts as full. Else prove '..UptoSaid'. A law counts once. -/
mutual
def uptoBulk {H : Type} : DataW H → Nat
  | .lit (.string bytes) => bytes.length + 1
  | .lit _ => 1
  | .nil => 1
  | .ptr d => uptoBulk d + 1
  | .slice elems spare => uptoBulkAll elems + uptoBulkAll spare + 1
  | .agg parts => uptoBulkAll parts + 1
  | .iface _ d => uptoBulk d + 1
  | .map entries => uptoBulkEntries entries + 1
  | .held _ => 1
def uptoBulkAll {H : Type} : List (DataW H) → Nat
  | [] => 0
  | d :: r => uptoBulk d + uptoBulkAll r
def uptoBulkEntries {H : Type} : List (Lit × DataW H) → Nat
  | [] => 0
  | x :: r => uptoBulkEntry x + uptoBulkEntries r
def uptoBulkEntry {H : Type} : Lit × DataW H → Nat
  | (.string bytes, d) => bytes.length + uptoBulk d + 1
  | (_, d) => uptoBulk d + 1
 end
def uptoSmall : (H : Type) → List (DataW H) → Bool := fun _ ds => decide (uptoBulkAll ds ≤ 1048576)
def OpenSpec.upto (s : _root_.Go.ChangeSpec) : _root_.Go.OpenSpec := { _root_.Go.OpenSpec.ofChange s with cond := some uptoSmall }

/-- 'laws.FnControlled', WHERE WHAT IT READS IS OF BULK AT MOST 1048576: true; the input reads as it did. -/
def fnControlledUptoRow : OpenClaim := { program := "ytlmiebeffdcfhaagreat", sum := "b5cd222660e1cd269c8a61d074b7ddd8b215ae768889f110fe26d83d860f12ea", func := "loop.example/g00506/laws.FnControlled", spec := "fnControlled", unfollowed := true, recurses := true, apart := false, narrowed := true }
def FnControlledUptoSaid : Prop := fnControlledUptoRow.holds Tryz.pinned (OpenSpec.upto fnControlledSpec)

/-- 'laws.FnControlledAll', WHERE WHAT IT READS IS OF BULK AT MOST 1048576: true; the input reads as it did. -/
def fnControlledAllUptoRow : OpenClaim := { program := "ytlmiebeffdcfhaagreat", sum := "b5cd222660e1cd269c8a61d074b7ddd8b215ae768889f110fe26d83d860f12ea", func := "loop.example/g00506/laws.FnControlledAll", spec := "fnControlledAll", unfollowed := true, recurses := true, apart := false, narrowed := true }
def FnControlledAllUptoSaid : Prop := fnControlledAllUptoRow.holds Tryz.pinned (OpenSpec.upto fnControlledAllSpec)

/-- 'laws.FnControlMat', WHERE WHAT IT READS IS OF BULK AT MOST 1048576: true; the input reads as it did. -/
def fnControlMatUptoRow : OpenClaim := { program := "ytlmiebeffdcfhaagreat", sum := "b5cd222660e1cd269c8a61d074b7ddd8b215ae768889f110fe26d83d860f12ea", func := "loop.example/g00506/laws.FnControlMat", spec := "fnControlMat", unfollowed := true, recurses := true, apart := false, narrowed := true }
def FnControlMatUptoSaid : Prop := fnControlMatUptoRow.holds Tryz.pinned (OpenSpec.upto fnControlMatSpec)

end Rows
end Go.Proofs.YtlmiebeffdcfhaaGreat
