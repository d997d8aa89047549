/-
  DERIVED. GIVEN WITH THE SEED: THE CARDS: each row of YtcihplachlokiaaGreatDoorRows.lean that lists a variable, with what it lists TIED to the program's text (the seventh form; the later family's looks); each row that meets fmt, with fmt's text TOLD by the authors' own Lean function (tested against real Go, not proved from fmt's source: count such statements apart). THE CARD IS WHAT COUNTS. Prove the row's statement (the work); the ties are given (YtcihplachlokiaaGreatDoorTie.lean); close each card by the builder's one call (the guide's Derived/Test/ToyasCard.lean, 'card_holds'). Laid BY PROGRAM, IN A SANDBOX (cutbox-door.mjs). By AI agents, Wed Nov 11 2026. No macro, syntax, notation, axiom, sorry.
-/
import Derived.Test.YtcihplachlokiaaGreatDoorRows
import GoSem.ClaimSeven
namespace Go.Proofs.YtcihplachlokiaaGreatDoor
namespace Rows

/-- THE TIED CARD OF 'laws.FnPicTop'. -/
def fnPicTopCard : Claim7 := { stood := { row := fnPicTopRow, standIns := [], harness := (true, "ee6f934670003ec97cf6f46c5428232fa8771bbe0f9c858ef62ee26cdd05f9e0"), looks := true }, kinds := [], alts := [], laidByText := true, laidKinds := [.data], laidTests := true, laidLooks := .later }
def FnPicTopCardSaid : Prop := Claim7.holds Tryz.pinned (.plain (OpenSpec.ofChange fnPicTopSpec)) fnPicTopCard

/-- THE SECOND FORM's CARD OF 'laws.FnPicTop'. -/
def fnPicTopUptoCard : Claim7 := { stood := { row := fnPicTopUptoRow, standIns := [], harness := (true, "ee6f934670003ec97cf6f46c5428232fa8771bbe0f9c858ef62ee26cdd05f9e0"), looks := true }, kinds := [], alts := [], laidByText := true, laidKinds := [.data], laidTests := true, laidLooks := .later }
def FnPicTopUptoCardSaid : Prop := Claim7.holds Tryz.pinned (.plain (OpenSpec.upto fnPicTopSpec)) fnPicTopUptoCard
end Rows
end Go.Proofs.YtcihplachlokiaaGreatDoor
