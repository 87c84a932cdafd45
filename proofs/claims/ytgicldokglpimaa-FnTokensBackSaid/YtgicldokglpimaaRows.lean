/-
  No cell of these rows narrows 'for every input' (looked for: loops, veiled, ifaces, maps, wideKeys, modest, calm, conditions, laid).
  DERIVED. THE GIVEN ROWS OF THIS SEAT. 6 by the template 'for every input the law returns true; each argument reads behind the call as it read before'; 0 by the template 'total and deterministic' (their statements: YtgicldokglpimaaTotals.lean).
  GIVEN WITH THE SEED: the statements are not yours to turn. If you find one false, say at which input.
  Laid BY PROGRAM, IN A SANDBOX (cutbox-rows.mjs): the forced cells as the released guide's own fill.sh prints them over the translation 551e726f696cfd10… (all of the seat's roots in one cut). By AI agents, Wed Nov 11 2026. No macro, syntax, notation, axiom, sorry.
-/
import Derived.Test.YtgicldokglpimaaChecked
import GoSem.Claim
import GoSem.ClaimJoined
import GoSem.ClaimMapViews
import Derived.JoinedTies
import Derived.KernelRfl
namespace Go.Proofs.Ytgicldokglpimaa
/- THE CELL 'sum', in the pinned program and in every row, IS THE sha256 OF THE DUMP (.gsa) THAT YtgicldokglpimaaProg.lean LOADS. Nothing in Lean hashes anything: it is a label: what it is worth is what the hold of that sum in a sandbox is worth. -/
noncomputable def Try.pinned : Pinned := { name := "ytgicldokglpimaa", sum := "551e726f696cfd103ad76902e73437b44e8bbe805f1575cfc32609208c88f522", checked := Try.checked }
namespace Rows
def none {H : Type} : Left H := { results := [], args := [] }

/-- 'laws.FnTokens': WHATEVER THE INPUT: true; the input reads as it did. -/
def fnTokensSpec : ChangeSpec := { name := "fnTokens", fn := fun _ => fun
  | [d] => { results := [.lit (.bool true)], args := [d] }
  | _ => none }
def fnTokensRow : OpenClaim := { program := "ytgicldokglpimaa", sum := "551e726f696cfd103ad76902e73437b44e8bbe805f1575cfc32609208c88f522", func := "loop.example/g00506/laws.FnTokens", spec := "fnTokens", inPlace := ["internal/abi.NoEscape"], apart := false }
def FnTokensSaid : Prop := fnTokensRow.holds Try.pinned (OpenSpec.ofChange fnTokensSpec)

/-- ITS FALSE NEIGHBOUR: 'it returns false'. Refute it at one input. -/
def fnTokensWrong : ChangeSpec := { name := "fnTokens", fn := fun _ => fun
  | [d] => { results := [.lit (.bool false)], args := [d] }
  | _ => none }
def FnTokensWrongFalsely : Prop := fnTokensRow.holds Try.pinned (OpenSpec.ofChange fnTokensWrong)

/-- 'laws.FnTokensBack': WHATEVER THE INPUT: true; the input reads as it did. -/
def fnTokensBackSpec : ChangeSpec := { name := "fnTokensBack", fn := fun _ => fun
  | [d] => { results := [.lit (.bool true)], args := [d] }
  | _ => none }
def fnTokensBackRow : OpenClaim := { program := "ytgicldokglpimaa", sum := "551e726f696cfd103ad76902e73437b44e8bbe805f1575cfc32609208c88f522", func := "loop.example/g00506/laws.FnTokensBack", spec := "fnTokensBack", inPlace := ["internal/abi.NoEscape"], apart := false }
def FnTokensBackSaid : Prop := fnTokensBackRow.holds Try.pinned (OpenSpec.ofChange fnTokensBackSpec)

/-- ITS FALSE NEIGHBOUR: 'it returns false'. Refute it at one input. -/
def fnTokensBackWrong : ChangeSpec := { name := "fnTokensBack", fn := fun _ => fun
  | [d] => { results := [.lit (.bool false)], args := [d] }
  | _ => none }
def FnTokensBackWrongFalsely : Prop := fnTokensBackRow.holds Try.pinned (OpenSpec.ofChange fnTokensBackWrong)

/-- 'laws.FnExactIsValidWord': WHATEVER THE INPUT: true; the input reads as it did. -/
def fnExactIsValidWordSpec : ChangeSpec := { name := "fnExactIsValidWord", fn := fun _ => fun
  | [d] => { results := [.lit (.bool true)], args := [d] }
  | _ => none }
def fnExactIsValidWordRow : OpenClaim := { program := "ytgicldokglpimaa", sum := "551e726f696cfd103ad76902e73437b44e8bbe805f1575cfc32609208c88f522", func := "loop.example/g00506/laws.FnExactIsValidWord", spec := "fnExactIsValidWord", apart := false }
def FnExactIsValidWordSaid : Prop := fnExactIsValidWordRow.holds Try.pinned (OpenSpec.ofChange fnExactIsValidWordSpec)

/-- ITS FALSE NEIGHBOUR: 'it returns false'. Refute it at one input. -/
def fnExactIsValidWordWrong : ChangeSpec := { name := "fnExactIsValidWord", fn := fun _ => fun
  | [d] => { results := [.lit (.bool false)], args := [d] }
  | _ => none }
def FnExactIsValidWordWrongFalsely : Prop := fnExactIsValidWordRow.holds Try.pinned (OpenSpec.ofChange fnExactIsValidWordWrong)

/-- 'laws.FnExactTokenize': WHATEVER THE INPUT: true; the input reads as it did. -/
def fnExactTokenizeSpec : ChangeSpec := { name := "fnExactTokenize", fn := fun _ => fun
  | [d] => { results := [.lit (.bool true)], args := [d] }
  | _ => none }
def fnExactTokenizeRow : OpenClaim := { program := "ytgicldokglpimaa", sum := "551e726f696cfd103ad76902e73437b44e8bbe805f1575cfc32609208c88f522", func := "loop.example/g00506/laws.FnExactTokenize", spec := "fnExactTokenize", apart := false }
def FnExactTokenizeSaid : Prop := fnExactTokenizeRow.holds Try.pinned (OpenSpec.ofChange fnExactTokenizeSpec)

/-- ITS FALSE NEIGHBOUR: 'it returns false'. Refute it at one input. -/
def fnExactTokenizeWrong : ChangeSpec := { name := "fnExactTokenize", fn := fun _ => fun
  | [d] => { results := [.lit (.bool false)], args := [d] }
  | _ => none }
def FnExactTokenizeWrongFalsely : Prop := fnExactTokenizeRow.holds Try.pinned (OpenSpec.ofChange fnExactTokenizeWrong)

/-- 'laws.FnExactFormatToken': WHATEVER THE INPUT: true; the input reads as it did. -/
def fnExactFormatTokenSpec : ChangeSpec := { name := "fnExactFormatToken", fn := fun _ => fun
  | [d] => { results := [.lit (.bool true)], args := [d] }
  | _ => none }
def fnExactFormatTokenRow : OpenClaim := { program := "ytgicldokglpimaa", sum := "551e726f696cfd103ad76902e73437b44e8bbe805f1575cfc32609208c88f522", func := "loop.example/g00506/laws.FnExactFormatToken", spec := "fnExactFormatToken", apart := false }
def FnExactFormatTokenSaid : Prop := fnExactFormatTokenRow.holds Try.pinned (OpenSpec.ofChange fnExactFormatTokenSpec)

/-- ITS FALSE NEIGHBOUR: 'it returns false'. Refute it at one input. -/
def fnExactFormatTokenWrong : ChangeSpec := { name := "fnExactFormatToken", fn := fun _ => fun
  | [d] => { results := [.lit (.bool false)], args := [d] }
  | _ => none }
def FnExactFormatTokenWrongFalsely : Prop := fnExactFormatTokenRow.holds Try.pinned (OpenSpec.ofChange fnExactFormatTokenWrong)

/-- 'laws.FnExactFormatTokens': WHATEVER THE INPUT: true; the input reads as it did. -/
def fnExactFormatTokensSpec : ChangeSpec := { name := "fnExactFormatTokens", fn := fun _ => fun
  | [d] => { results := [.lit (.bool true)], args := [d] }
  | _ => none }
def fnExactFormatTokensRow : OpenClaim := { program := "ytgicldokglpimaa", sum := "551e726f696cfd103ad76902e73437b44e8bbe805f1575cfc32609208c88f522", func := "loop.example/g00506/laws.FnExactFormatTokens", spec := "fnExactFormatTokens", inPlace := ["internal/abi.NoEscape"], apart := false }
def FnExactFormatTokensSaid : Prop := fnExactFormatTokensRow.holds Try.pinned (OpenSpec.ofChange fnExactFormatTokensSpec)

/-- ITS FALSE NEIGHBOUR: 'it returns false'. Refute it at one input. -/
def fnExactFormatTokensWrong : ChangeSpec := { name := "fnExactFormatTokens", fn := fun _ => fun
  | [d] => { results := [.lit (.bool false)], args := [d] }
  | _ => none }
def FnExactFormatTokensWrongFalsely : Prop := fnExactFormatTokensRow.holds Try.pinned (OpenSpec.ofChange fnExactFormatTokensWrong)

/- THE SECOND FORM. 'bulk': how many values and letters a reading holds, each counted each time it is reached (what is shared counts as often as it is met; a slice's spare places count too). A statement '..UptoSaid' is the law's where the arguments, and the package variables that the reading takes, are together of bulk at most 1048576: NARROWER than '..Said'. Prove '..Said' where nothing that the law and all that it calls make is longer than what came in: it says more and counts as full. Else prove '..UptoSaid'. A law counts once. -/
mutual
def uptoBulk {H : Type} : DataW H → Nat
  | .lit (.string bytes) => bytes.length + 1
  | .lit _ => 1
  | .nil => 1
  | .ptr d => uptoBulk d + 1
  | .slice elems spare => uptoBulkAll elems + uptoBulkAll spare + 1
  | .agg parts => uptoBulkAll parts + 1
  | .iface _ d => uptoBulk d + 1
  | .map entries => uptoBulkEntries entries + 1
  | .held _ => 1
def uptoBulkAll {H : Type} : List (DataW H) → Nat
  | [] => 0
  | d :: r => uptoBulk d + uptoBulkAll r
def uptoBulkEntries {H : Type} : List (Lit × DataW H) → Nat
  | [] => 0
  | x :: r => uptoBulkEntry x + uptoBulkEntries r
def uptoBulkEntry {H : Type} : Lit × DataW H → Nat
  | (.string bytes, d) => bytes.length + uptoBulk d + 1
  | (_, d) => uptoBulk d + 1
 end
def uptoSmall : (H : Type) → List (DataW H) → Bool := fun _ ds => decide (uptoBulkAll ds ≤ 1048576)
def OpenSpec.upto (s : _root_.Go.ChangeSpec) : _root_.Go.OpenSpec := { _root_.Go.OpenSpec.ofChange s with cond := some uptoSmall }

/-- 'laws.FnTokens', WHERE WHAT IT READS IS OF BULK AT MOST 1048576: true; the input reads as it did. -/
def fnTokensUptoRow : OpenClaim := { program := "ytgicldokglpimaa", sum := "551e726f696cfd103ad76902e73437b44e8bbe805f1575cfc32609208c88f522", func := "loop.example/g00506/laws.FnTokens", spec := "fnTokens", inPlace := ["internal/abi.NoEscape"], apart := false, narrowed := true }
def FnTokensUptoSaid : Prop := fnTokensUptoRow.holds Try.pinned (OpenSpec.upto fnTokensSpec)

/-- 'laws.FnTokensBack', WHERE WHAT IT READS IS OF BULK AT MOST 1048576: true; the input reads as it did. -/
def fnTokensBackUptoRow : OpenClaim := { program := "ytgicldokglpimaa", sum := "551e726f696cfd103ad76902e73437b44e8bbe805f1575cfc32609208c88f522", func := "loop.example/g00506/laws.FnTokensBack", spec := "fnTokensBack", inPlace := ["internal/abi.NoEscape"], apart := false, narrowed := true }
def FnTokensBackUptoSaid : Prop := fnTokensBackUptoRow.holds Try.pinned (OpenSpec.upto fnTokensBackSpec)

/-- 'laws.FnExactIsValidWord', WHERE WHAT IT READS IS OF BULK AT MOST 1048576: true; the input reads as it did. -/
def fnExactIsValidWordUptoRow : OpenClaim := { program := "ytgicldokglpimaa", sum := "551e726f696cfd103ad76902e73437b44e8bbe805f1575cfc32609208c88f522", func := "loop.example/g00506/laws.FnExactIsValidWord", spec := "fnExactIsValidWord", apart := false, narrowed := true }
def FnExactIsValidWordUptoSaid : Prop := fnExactIsValidWordUptoRow.holds Try.pinned (OpenSpec.upto fnExactIsValidWordSpec)

/-- 'laws.FnExactTokenize', WHERE WHAT IT READS IS OF BULK AT MOST 1048576: true; the input reads as it did. -/
def fnExactTokenizeUptoRow : OpenClaim := { program := "ytgicldokglpimaa", sum := "551e726f696cfd103ad76902e73437b44e8bbe805f1575cfc32609208c88f522", func := "loop.example/g00506/laws.FnExactTokenize", spec := "fnExactTokenize", apart := false, narrowed := true }
def FnExactTokenizeUptoSaid : Prop := fnExactTokenizeUptoRow.holds Try.pinned (OpenSpec.upto fnExactTokenizeSpec)

/-- 'laws.FnExactFormatToken', WHERE WHAT IT READS IS OF BULK AT MOST 1048576: true; the input reads as it did. -/
def fnExactFormatTokenUptoRow : OpenClaim := { program := "ytgicldokglpimaa", sum := "551e726f696cfd103ad76902e73437b44e8bbe805f1575cfc32609208c88f522", func := "loop.example/g00506/laws.FnExactFormatToken", spec := "fnExactFormatToken", apart := false, narrowed := true }
def FnExactFormatTokenUptoSaid : Prop := fnExactFormatTokenUptoRow.holds Try.pinned (OpenSpec.upto fnExactFormatTokenSpec)

/-- 'laws.FnExactFormatTokens', WHERE WHAT IT READS IS OF BULK AT MOST 1048576: true; the input reads as it did. -/
def fnExactFormatTokensUptoRow : OpenClaim := { program := "ytgicldokglpimaa", sum := "551e726f696cfd103ad76902e73437b44e8bbe805f1575cfc32609208c88f522", func := "loop.example/g00506/laws.FnExactFormatTokens", spec := "fnExactFormatTokens", inPlace := ["internal/abi.NoEscape"], apart := false, narrowed := true }
def FnExactFormatTokensUptoSaid : Prop := fnExactFormatTokensUptoRow.holds Try.pinned (OpenSpec.upto fnExactFormatTokensSpec)

end Rows
end Go.Proofs.Ytgicldokglpimaa
