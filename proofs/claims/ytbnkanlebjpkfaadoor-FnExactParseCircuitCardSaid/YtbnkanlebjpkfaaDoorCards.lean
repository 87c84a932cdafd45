/-
  DERIVED. GIVEN WITH THE SEED: THE CARDS: each row of YtbnkanlebjpkfaaDoorRows.lean that lists a variable, with what it lists TIED to the program's text (the seventh form; the later family's looks); each row that meets fmt, with fmt's text TOLD by the authors' own Lean function (tested against real Go, not proved from fmt's source: count such statements apart). THE CARD IS WHAT COUNTS. Prove the row's statement (the work); the ties are given (YtbnkanlebjpkfaaDoorTie.lean); close each card by the builder's one call (the guide's Derived/Test/ToyasCard.lean, 'card_holds'). Laid BY PROGRAM, IN A SANDBOX (cutbox-door.mjs). By AI agents, Wed Nov 11 2026. No macro, syntax, notation, axiom, sorry.
-/
import Derived.Test.YtbnkanlebjpkfaaDoorRows
import GoSem.ClaimSeven
namespace Go.Proofs.YtbnkanlebjpkfaaDoor
namespace Rows

/-- THE TIED CARD OF 'laws.FnExactFormatGate'. -/
def fnExactFormatGateCard : Claim7 := { stood := { row := fnExactFormatGateRow, standIns := [], harness := (true, "a48eb38baa72ca8f1ea9f710c123b454951f311601a4d6d87ccf424db7b4402a"), looks := true }, kinds := [], alts := [], laidByText := true, laidKinds := [.data, .data, .data, .data], laidTests := true, laidLooks := .later }
def FnExactFormatGateCardSaid : Prop := Claim7.holds Tryd.pinned (.plain (OpenSpec.ofChange fnExactFormatGateSpec)) fnExactFormatGateCard

/-- THE TIED CARD OF 'laws.FnExactParseGate'. -/
def fnExactParseGateCard : Claim7 := { stood := { row := fnExactParseGateRow, standIns := [], harness := (true, "a48eb38baa72ca8f1ea9f710c123b454951f311601a4d6d87ccf424db7b4402a"), looks := true }, kinds := [], alts := [], laidByText := true, laidKinds := [.data, .data, .data, .data, .sentinel, .sentinel, .data, .pinned], laidTests := true, laidLooks := .later }
def FnExactParseGateCardSaid : Prop := Claim7.holds Tryd.pinned (.plain (OpenSpec.ofChange fnExactParseGateSpec)) fnExactParseGateCard

/-- THE TIED CARD OF 'laws.FnExactFormatCircuit'. -/
def fnExactFormatCircuitCard : Claim7 := { stood := { row := fnExactFormatCircuitRow, standIns := [], harness := (true, "a48eb38baa72ca8f1ea9f710c123b454951f311601a4d6d87ccf424db7b4402a"), looks := true }, kinds := [], alts := [], laidByText := true, laidKinds := [.data, .data, .data, .data], laidTests := true, laidLooks := .later }
def FnExactFormatCircuitCardSaid : Prop := Claim7.holds Tryd.pinned (.plain (OpenSpec.ofChange fnExactFormatCircuitSpec)) fnExactFormatCircuitCard

/-- THE TIED CARD OF 'laws.FnExactParseCircuit'. -/
def fnExactParseCircuitCard : Claim7 := { stood := { row := fnExactParseCircuitRow, standIns := [], harness := (true, "a48eb38baa72ca8f1ea9f710c123b454951f311601a4d6d87ccf424db7b4402a"), looks := true }, kinds := [], alts := [], laidByText := true, laidKinds := [.data, .data, .data, .data, .sentinel, .sentinel, .data, .pinned], laidTests := true, laidLooks := .later }
def FnExactParseCircuitCardSaid : Prop := Claim7.holds Tryd.pinned (.plain (OpenSpec.ofChange fnExactParseCircuitSpec)) fnExactParseCircuitCard

/-- THE TIED CARD OF 'laws.FnExactGateKind'. -/
def fnExactGateKindCard : Claim7 := { stood := { row := fnExactGateKindRow, standIns := [], harness := (true, "a48eb38baa72ca8f1ea9f710c123b454951f311601a4d6d87ccf424db7b4402a"), looks := true }, kinds := [], alts := [], laidByText := true, laidKinds := [.data], laidTests := true, laidLooks := .later }
def FnExactGateKindCardSaid : Prop := Claim7.holds Tryd.pinned (.plain (OpenSpec.ofChange fnExactGateKindSpec)) fnExactGateKindCard

/-- THE SECOND FORM's CARD OF 'laws.FnExactFormatGate'. -/
def fnExactFormatGateUptoCard : Claim7 := { stood := { row := fnExactFormatGateUptoRow, standIns := [], harness := (true, "a48eb38baa72ca8f1ea9f710c123b454951f311601a4d6d87ccf424db7b4402a"), looks := true }, kinds := [], alts := [], laidByText := true, laidKinds := [.data, .data, .data, .data], laidTests := true, laidLooks := .later }
def FnExactFormatGateUptoCardSaid : Prop := Claim7.holds Tryd.pinned (.plain (OpenSpec.upto fnExactFormatGateSpec)) fnExactFormatGateUptoCard

/-- THE SECOND FORM's CARD OF 'laws.FnExactParseGate'. -/
def fnExactParseGateUptoCard : Claim7 := { stood := { row := fnExactParseGateUptoRow, standIns := [], harness := (true, "a48eb38baa72ca8f1ea9f710c123b454951f311601a4d6d87ccf424db7b4402a"), looks := true }, kinds := [], alts := [], laidByText := true, laidKinds := [.data, .data, .data, .data, .sentinel, .sentinel, .data, .pinned], laidTests := true, laidLooks := .later }
def FnExactParseGateUptoCardSaid : Prop := Claim7.holds Tryd.pinned (.plain (OpenSpec.upto fnExactParseGateSpec)) fnExactParseGateUptoCard

/-- THE SECOND FORM's CARD OF 'laws.FnExactFormatCircuit'. -/
def fnExactFormatCircuitUptoCard : Claim7 := { stood := { row := fnExactFormatCircuitUptoRow, standIns := [], harness := (true, "a48eb38baa72ca8f1ea9f710c123b454951f311601a4d6d87ccf424db7b4402a"), looks := true }, kinds := [], alts := [], laidByText := true, laidKinds := [.data, .data, .data, .data], laidTests := true, laidLooks := .later }
def FnExactFormatCircuitUptoCardSaid : Prop := Claim7.holds Tryd.pinned (.plain (OpenSpec.upto fnExactFormatCircuitSpec)) fnExactFormatCircuitUptoCard

/-- THE SECOND FORM's CARD OF 'laws.FnExactParseCircuit'. -/
def fnExactParseCircuitUptoCard : Claim7 := { stood := { row := fnExactParseCircuitUptoRow, standIns := [], harness := (true, "a48eb38baa72ca8f1ea9f710c123b454951f311601a4d6d87ccf424db7b4402a"), looks := true }, kinds := [], alts := [], laidByText := true, laidKinds := [.data, .data, .data, .data, .sentinel, .sentinel, .data, .pinned], laidTests := true, laidLooks := .later }
def FnExactParseCircuitUptoCardSaid : Prop := Claim7.holds Tryd.pinned (.plain (OpenSpec.upto fnExactParseCircuitSpec)) fnExactParseCircuitUptoCard

/-- THE SECOND FORM's CARD OF 'laws.FnExactGateKind'. -/
def fnExactGateKindUptoCard : Claim7 := { stood := { row := fnExactGateKindUptoRow, standIns := [], harness := (true, "a48eb38baa72ca8f1ea9f710c123b454951f311601a4d6d87ccf424db7b4402a"), looks := true }, kinds := [], alts := [], laidByText := true, laidKinds := [.data], laidTests := true, laidLooks := .later }
def FnExactGateKindUptoCardSaid : Prop := Claim7.holds Tryd.pinned (.plain (OpenSpec.upto fnExactGateKindSpec)) fnExactGateKindUptoCard
end Rows
end Go.Proofs.YtbnkanlebjpkfaaDoor
