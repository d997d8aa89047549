/-
  DERIVED. GIVEN WITH THE SEED: THE CARDS: each row of YtlgacbjopobeoaaGreatDoorRows.lean that lists a variable, with what it lists TIED to the program's text (the seventh form; the later family's looks); each row that meets fmt, with fmt's text TOLD by the authors' own Lean function (tested against real Go, not proved from fmt's source: count such statements apart). THE CARD IS WHAT COUNTS. Prove the row's statement (the work); the ties are given (YtlgacbjopobeoaaGreatDoorTie.lean); close each card by the builder's one call (the guide's Derived/Test/ToyasCard.lean, 'card_holds'). Laid BY PROGRAM, IN A SANDBOX (cutbox-door.mjs). By AI agents, Wed Nov 11 2026. No macro, syntax, notation, axiom, sorry.
-/
import Derived.Test.YtlgacbjopobeoaaGreatDoorRows
import GoSem.ClaimSeven
namespace Go.Proofs.YtlgacbjopobeoaaGreatDoor
namespace Rows

/-- THE TIED CARD OF 'laws.FnPeepTop'. -/
def fnPeepTopCard : Claim7 := { stood := { row := fnPeepTopRow, standIns := [], harness := (true, "e3e69ebcafbc74186c2ed7cae76c85065b3d0532f9805e7b3b00c1ca58250274"), looks := true }, kinds := [], alts := [], laidByText := true, laidKinds := [.data, .data, .data], laidTests := true, laidLooks := .later }
def FnPeepTopCardSaid : Prop := Claim7.holds Tryz.pinned (.plain (OpenSpec.ofChange fnPeepTopSpec)) fnPeepTopCard

/-- THE TIED CARD OF 'laws.FnPeepStep'. -/
def fnPeepStepCard : Claim7 := { stood := { row := fnPeepStepRow, standIns := [], harness := (true, "e3e69ebcafbc74186c2ed7cae76c85065b3d0532f9805e7b3b00c1ca58250274"), looks := true }, kinds := [], alts := [], laidByText := true, laidKinds := [.data, .data, .data], laidTests := true, laidLooks := .later }
def FnPeepStepCardSaid : Prop := Claim7.holds Tryz.pinned (.plain (OpenSpec.ofChange fnPeepStepSpec)) fnPeepStepCard

/-- THE TIED CARD OF 'laws.FnPeepTurn'. -/
def fnPeepTurnCard : Claim7 := { stood := { row := fnPeepTurnRow, standIns := [], harness := (true, "e3e69ebcafbc74186c2ed7cae76c85065b3d0532f9805e7b3b00c1ca58250274"), looks := true }, kinds := [], alts := [], laidByText := true, laidKinds := [.data, .data], laidTests := true, laidLooks := .later }
def FnPeepTurnCardSaid : Prop := Claim7.holds Tryz.pinned (.plain (OpenSpec.ofChange fnPeepTurnSpec)) fnPeepTurnCard

/-- THE TIED CARD OF 'laws.FnPeepEdge'. -/
def fnPeepEdgeCard : Claim7 := { stood := { row := fnPeepEdgeRow, standIns := [], harness := (true, "e3e69ebcafbc74186c2ed7cae76c85065b3d0532f9805e7b3b00c1ca58250274"), looks := true }, kinds := [], alts := [], laidByText := true, laidKinds := [.data, .data, .data], laidTests := true, laidLooks := .later }
def FnPeepEdgeCardSaid : Prop := Claim7.holds Tryz.pinned (.plain (OpenSpec.ofChange fnPeepEdgeSpec)) fnPeepEdgeCard

/-- THE TIED CARD OF 'laws.FnPeepReal'. -/
def fnPeepRealCard : Claim7 := { stood := { row := fnPeepRealRow, standIns := [], harness := (true, "e3e69ebcafbc74186c2ed7cae76c85065b3d0532f9805e7b3b00c1ca58250274"), looks := true }, kinds := [], alts := [], laidByText := true, laidKinds := [.data, .data, .data], laidTests := true, laidLooks := .later }
def FnPeepRealCardSaid : Prop := Claim7.holds Tryz.pinned (.plain (OpenSpec.ofChange fnPeepRealSpec)) fnPeepRealCard

/-- THE TIED CARD OF 'laws.FnExactPeepSure'. -/
def fnExactPeepSureCard : Claim7 := { stood := { row := fnExactPeepSureRow, standIns := [], harness := (true, "e3e69ebcafbc74186c2ed7cae76c85065b3d0532f9805e7b3b00c1ca58250274"), looks := true }, kinds := [], alts := [], laidByText := true, laidKinds := [.data], laidTests := true, laidLooks := .later }
def FnExactPeepSureCardSaid : Prop := Claim7.holds Tryz.pinned (.plain (OpenSpec.ofChange fnExactPeepSureSpec)) fnExactPeepSureCard

/-- THE TIED CARD OF 'laws.FnExactPeepOnce'. -/
def fnExactPeepOnceCard : Claim7 := { stood := { row := fnExactPeepOnceRow, standIns := [], harness := (true, "e3e69ebcafbc74186c2ed7cae76c85065b3d0532f9805e7b3b00c1ca58250274"), looks := true }, kinds := [], alts := [], laidByText := true, laidKinds := [.data, .data, .data], laidTests := true, laidLooks := .later }
def FnExactPeepOnceCardSaid : Prop := Claim7.holds Tryz.pinned (.plain (OpenSpec.ofChange fnExactPeepOnceSpec)) fnExactPeepOnceCard

/-- THE TIED CARD OF 'laws.FnExactPeepAll'. -/
def fnExactPeepAllCard : Claim7 := { stood := { row := fnExactPeepAllRow, standIns := [], harness := (true, "e3e69ebcafbc74186c2ed7cae76c85065b3d0532f9805e7b3b00c1ca58250274"), looks := true }, kinds := [], alts := [], laidByText := true, laidKinds := [.data, .data, .data], laidTests := true, laidLooks := .later }
def FnExactPeepAllCardSaid : Prop := Claim7.holds Tryz.pinned (.plain (OpenSpec.ofChange fnExactPeepAllSpec)) fnExactPeepAllCard

/-- THE SECOND FORM's CARD OF 'laws.FnPeepTop'. -/
def fnPeepTopUptoCard : Claim7 := { stood := { row := fnPeepTopUptoRow, standIns := [], harness := (true, "e3e69ebcafbc74186c2ed7cae76c85065b3d0532f9805e7b3b00c1ca58250274"), looks := true }, kinds := [], alts := [], laidByText := true, laidKinds := [.data, .data, .data], laidTests := true, laidLooks := .later }
def FnPeepTopUptoCardSaid : Prop := Claim7.holds Tryz.pinned (.plain (OpenSpec.upto fnPeepTopSpec)) fnPeepTopUptoCard

/-- THE SECOND FORM's CARD OF 'laws.FnPeepStep'. -/
def fnPeepStepUptoCard : Claim7 := { stood := { row := fnPeepStepUptoRow, standIns := [], harness := (true, "e3e69ebcafbc74186c2ed7cae76c85065b3d0532f9805e7b3b00c1ca58250274"), looks := true }, kinds := [], alts := [], laidByText := true, laidKinds := [.data, .data, .data], laidTests := true, laidLooks := .later }
def FnPeepStepUptoCardSaid : Prop := Claim7.holds Tryz.pinned (.plain (OpenSpec.upto fnPeepStepSpec)) fnPeepStepUptoCard

/-- THE SECOND FORM's CARD OF 'laws.FnPeepTurn'. -/
def fnPeepTurnUptoCard : Claim7 := { stood := { row := fnPeepTurnUptoRow, standIns := [], harness := (true, "e3e69ebcafbc74186c2ed7cae76c85065b3d0532f9805e7b3b00c1ca58250274"), looks := true }, kinds := [], alts := [], laidByText := true, laidKinds := [.data, .data], laidTests := true, laidLooks := .later }
def FnPeepTurnUptoCardSaid : Prop := Claim7.holds Tryz.pinned (.plain (OpenSpec.upto fnPeepTurnSpec)) fnPeepTurnUptoCard

/-- THE SECOND FORM's CARD OF 'laws.FnPeepEdge'. -/
def fnPeepEdgeUptoCard : Claim7 := { stood := { row := fnPeepEdgeUptoRow, standIns := [], harness := (true, "e3e69ebcafbc74186c2ed7cae76c85065b3d0532f9805e7b3b00c1ca58250274"), looks := true }, kinds := [], alts := [], laidByText := true, laidKinds := [.data, .data, .data], laidTests := true, laidLooks := .later }
def FnPeepEdgeUptoCardSaid : Prop := Claim7.holds Tryz.pinned (.plain (OpenSpec.upto fnPeepEdgeSpec)) fnPeepEdgeUptoCard

/-- THE SECOND FORM's CARD OF 'laws.FnPeepReal'. -/
def fnPeepRealUptoCard : Claim7 := { stood := { row := fnPeepRealUptoRow, standIns := [], harness := (true, "e3e69ebcafbc74186c2ed7cae76c85065b3d0532f9805e7b3b00c1ca58250274"), looks := true }, kinds := [], alts := [], laidByText := true, laidKinds := [.data, .data, .data], laidTests := true, laidLooks := .later }
def FnPeepRealUptoCardSaid : Prop := Claim7.holds Tryz.pinned (.plain (OpenSpec.upto fnPeepRealSpec)) fnPeepRealUptoCard

/-- THE SECOND FORM's CARD OF 'laws.FnExactPeepSure'. -/
def fnExactPeepSureUptoCard : Claim7 := { stood := { row := fnExactPeepSureUptoRow, standIns := [], harness := (true, "e3e69ebcafbc74186c2ed7cae76c85065b3d0532f9805e7b3b00c1ca58250274"), looks := true }, kinds := [], alts := [], laidByText := true, laidKinds := [.data], laidTests := true, laidLooks := .later }
def FnExactPeepSureUptoCardSaid : Prop := Claim7.holds Tryz.pinned (.plain (OpenSpec.upto fnExactPeepSureSpec)) fnExactPeepSureUptoCard

/-- THE SECOND FORM's CARD OF 'laws.FnExactPeepOnce'. -/
def fnExactPeepOnceUptoCard : Claim7 := { stood := { row := fnExactPeepOnceUptoRow, standIns := [], harness := (true, "e3e69ebcafbc74186c2ed7cae76c85065b3d0532f9805e7b3b00c1ca58250274"), looks := true }, kinds := [], alts := [], laidByText := true, laidKinds := [.data, .data, .data], laidTests := true, laidLooks := .later }
def FnExactPeepOnceUptoCardSaid : Prop := Claim7.holds Tryz.pinned (.plain (OpenSpec.upto fnExactPeepOnceSpec)) fnExactPeepOnceUptoCard

/-- THE SECOND FORM's CARD OF 'laws.FnExactPeepAll'. -/
def fnExactPeepAllUptoCard : Claim7 := { stood := { row := fnExactPeepAllUptoRow, standIns := [], harness := (true, "e3e69ebcafbc74186c2ed7cae76c85065b3d0532f9805e7b3b00c1ca58250274"), looks := true }, kinds := [], alts := [], laidByText := true, laidKinds := [.data, .data, .data], laidTests := true, laidLooks := .later }
def FnExactPeepAllUptoCardSaid : Prop := Claim7.holds Tryz.pinned (.plain (OpenSpec.upto fnExactPeepAllSpec)) fnExactPeepAllUptoCard
end Rows
end Go.Proofs.YtlgacbjopobeoaaGreatDoor
