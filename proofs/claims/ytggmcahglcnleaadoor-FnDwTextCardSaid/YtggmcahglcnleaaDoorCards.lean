/-
  DERIVED. GIVEN WITH THE SEED: THE CARDS: each row of YtggmcahglcnleaaDoorRows.lean that lists a variable, with what it lists TIED to the program's text (the seventh form; the later family's looks); each row that meets fmt, with fmt's text TOLD by the authors' own Lean function (tested against real Go, not proved from fmt's source: count such statements apart). THE CARD IS WHAT COUNTS. Prove the row's statement (the work); the ties are given (YtggmcahglcnleaaDoorTie.lean); close each card by the builder's one call (the guide's Derived/Test/ToyasCard.lean, 'card_holds'). Laid BY PROGRAM, IN A SANDBOX (cutbox-door.mjs). By AI agents, Wed Nov 11 2026. No macro, syntax, notation, axiom, sorry.
-/
import Derived.Test.YtggmcahglcnleaaDoorRows
import GoSem.ClaimSeven
namespace Go.Proofs.YtggmcahglcnleaaDoor
namespace Rows

/-- THE TIED CARD OF 'laws.FnDwText'. -/
def fnDwTextCard : Claim7 := { stood := { row := fnDwTextRow, standIns := [], harness := (true, "c876b6e29ced83d30e8645976c285335159f09133f8d0f4b615c5d2fbeeec4c3"), looks := true }, kinds := [], alts := [], laidByText := true, laidKinds := [.data, .data, .data, .sentinel, .sentinel], laidTests := true, laidLooks := .later }
def FnDwTextCardSaid : Prop := Claim7.holds Tryd.pinned (.plain (OpenSpec.ofChange fnDwTextSpec)) fnDwTextCard

/-- THE TIED CARD OF 'laws.FnExactFormatDOmega'. -/
def fnExactFormatDOmegaCard : Claim7 := { stood := { row := fnExactFormatDOmegaRow, standIns := [], harness := (true, "c876b6e29ced83d30e8645976c285335159f09133f8d0f4b615c5d2fbeeec4c3"), looks := true }, kinds := [], alts := [], laidByText := true, laidKinds := [.data, .data, .data], laidTests := true, laidLooks := .later }
def FnExactFormatDOmegaCardSaid : Prop := Claim7.holds Tryd.pinned (.plain (OpenSpec.ofChange fnExactFormatDOmegaSpec)) fnExactFormatDOmegaCard

/-- THE TIED CARD OF 'laws.FnExactParseDOmega'. -/
def fnExactParseDOmegaCard : Claim7 := { stood := { row := fnExactParseDOmegaRow, standIns := [], harness := (true, "c876b6e29ced83d30e8645976c285335159f09133f8d0f4b615c5d2fbeeec4c3"), looks := true }, kinds := [], alts := [], laidByText := true, laidKinds := [.data, .data, .data, .sentinel, .sentinel], laidTests := true, laidLooks := .later }
def FnExactParseDOmegaCardSaid : Prop := Claim7.holds Tryd.pinned (.plain (OpenSpec.ofChange fnExactParseDOmegaSpec)) fnExactParseDOmegaCard

/-- THE SECOND FORM's CARD OF 'laws.FnDwText'. -/
def fnDwTextUptoCard : Claim7 := { stood := { row := fnDwTextUptoRow, standIns := [], harness := (true, "c876b6e29ced83d30e8645976c285335159f09133f8d0f4b615c5d2fbeeec4c3"), looks := true }, kinds := [], alts := [], laidByText := true, laidKinds := [.data, .data, .data, .sentinel, .sentinel], laidTests := true, laidLooks := .later }
def FnDwTextUptoCardSaid : Prop := Claim7.holds Tryd.pinned (.plain (OpenSpec.upto fnDwTextSpec)) fnDwTextUptoCard

/-- THE SECOND FORM's CARD OF 'laws.FnExactFormatDOmega'. -/
def fnExactFormatDOmegaUptoCard : Claim7 := { stood := { row := fnExactFormatDOmegaUptoRow, standIns := [], harness := (true, "c876b6e29ced83d30e8645976c285335159f09133f8d0f4b615c5d2fbeeec4c3"), looks := true }, kinds := [], alts := [], laidByText := true, laidKinds := [.data, .data, .data], laidTests := true, laidLooks := .later }
def FnExactFormatDOmegaUptoCardSaid : Prop := Claim7.holds Tryd.pinned (.plain (OpenSpec.upto fnExactFormatDOmegaSpec)) fnExactFormatDOmegaUptoCard

/-- THE SECOND FORM's CARD OF 'laws.FnExactParseDOmega'. -/
def fnExactParseDOmegaUptoCard : Claim7 := { stood := { row := fnExactParseDOmegaUptoRow, standIns := [], harness := (true, "c876b6e29ced83d30e8645976c285335159f09133f8d0f4b615c5d2fbeeec4c3"), looks := true }, kinds := [], alts := [], laidByText := true, laidKinds := [.data, .data, .data, .sentinel, .sentinel], laidTests := true, laidLooks := .later }
def FnExactParseDOmegaUptoCardSaid : Prop := Claim7.holds Tryd.pinned (.plain (OpenSpec.upto fnExactParseDOmegaSpec)) fnExactParseDOmegaUptoCard
end Rows
end Go.Proofs.YtggmcahglcnleaaDoor
