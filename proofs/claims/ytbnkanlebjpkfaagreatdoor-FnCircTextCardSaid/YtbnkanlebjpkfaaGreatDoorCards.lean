/-
  DERIVED. GIVEN WITH THE SEED: THE CARDS: each row of YtbnkanlebjpkfaaGreatDoorRows.lean that lists a variable, with what it lists TIED to the program's text (the seventh form; the later family's looks); each row that meets fmt, with fmt's text TOLD by the authors' own Lean function (tested against real Go, not proved from fmt's source: count such statements apart). THE CARD IS WHAT COUNTS. Prove the row's statement (the work); the ties are given (YtbnkanlebjpkfaaGreatDoorTie.lean); close each card by the builder's one call (the guide's Derived/Test/ToyasCard.lean, 'card_holds'). Laid BY PROGRAM, IN A SANDBOX (cutbox-door.mjs). By AI agents, Wed Nov 11 2026. No macro, syntax, notation, axiom, sorry.
-/
import Derived.Test.YtbnkanlebjpkfaaGreatDoorRows
import GoSem.ClaimSeven
namespace Go.Proofs.YtbnkanlebjpkfaaGreatDoor
namespace Rows

/-- THE TIED CARD OF 'laws.FnCircText'. -/
def fnCircTextCard : Claim7 := { stood := { row := fnCircTextRow, standIns := [], harness := (true, "6ff599a37c630d6347f676ee6538b1c5178d05a3884d7935d6ebd0880120d180"), looks := true }, kinds := [], alts := [], laidByText := true, laidKinds := [.data, .data, .data, .data, .sentinel, .sentinel, .data, .pinned], laidTests := true, laidLooks := .later }
def FnCircTextCardSaid : Prop := Claim7.holds Tryz.pinned (.plain (OpenSpec.ofChange fnCircTextSpec)) fnCircTextCard

/-- THE SECOND FORM's CARD OF 'laws.FnCircText'. -/
def fnCircTextUptoCard : Claim7 := { stood := { row := fnCircTextUptoRow, standIns := [], harness := (true, "6ff599a37c630d6347f676ee6538b1c5178d05a3884d7935d6ebd0880120d180"), looks := true }, kinds := [], alts := [], laidByText := true, laidKinds := [.data, .data, .data, .data, .sentinel, .sentinel, .data, .pinned], laidTests := true, laidLooks := .later }
def FnCircTextUptoCardSaid : Prop := Claim7.holds Tryz.pinned (.plain (OpenSpec.upto fnCircTextSpec)) fnCircTextUptoCard
end Rows
end Go.Proofs.YtbnkanlebjpkfaaGreatDoor
