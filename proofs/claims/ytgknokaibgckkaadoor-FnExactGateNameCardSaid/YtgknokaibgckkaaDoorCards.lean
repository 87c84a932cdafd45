/-
  DERIVED. GIVEN WITH THE SEED: THE CARDS: each row of YtgknokaibgckkaaDoorRows.lean that lists a variable, with what it lists TIED to the program's text (the seventh form; the later family's looks); each row that meets fmt, with fmt's text TOLD by the authors' own Lean function (tested against real Go, not proved from fmt's source: count such statements apart). THE CARD IS WHAT COUNTS. Prove the row's statement (the work); the ties are given (YtgknokaibgckkaaDoorTie.lean); close each card by the builder's one call (the guide's Derived/Test/ToyasCard.lean, 'card_holds'). Laid BY PROGRAM, IN A SANDBOX (cutbox-door.mjs). By AI agents, Wed Nov 11 2026. No macro, syntax, notation, axiom, sorry.
-/
import Derived.Test.YtgknokaibgckkaaDoorRows
import GoSem.ClaimSeven
namespace Go.Proofs.YtgknokaibgckkaaDoor
namespace Rows

/-- THE TIED CARD OF 'laws.FnExactGateName'. -/
def fnExactGateNameCard : Claim7 := { stood := { row := fnExactGateNameRow, standIns := [], harness := (true, "f13ad4312a7bbcdab70663deada9e0e055f02b055b579a873dfa702f880d4604"), looks := true }, kinds := [], alts := [], laidByText := true, laidKinds := [.data], laidTests := true, laidLooks := .later }
def FnExactGateNameCardSaid : Prop := Claim7.holds Tryd.pinned (.plain (OpenSpec.ofChange fnExactGateNameSpec)) fnExactGateNameCard

/-- THE SECOND FORM's CARD OF 'laws.FnExactGateName'. -/
def fnExactGateNameUptoCard : Claim7 := { stood := { row := fnExactGateNameUptoRow, standIns := [], harness := (true, "f13ad4312a7bbcdab70663deada9e0e055f02b055b579a873dfa702f880d4604"), looks := true }, kinds := [], alts := [], laidByText := true, laidKinds := [.data], laidTests := true, laidLooks := .later }
def FnExactGateNameUptoCardSaid : Prop := Claim7.holds Tryd.pinned (.plain (OpenSpec.upto fnExactGateNameSpec)) fnExactGateNameUptoCard
end Rows
end Go.Proofs.YtgknokaibgckkaaDoor
