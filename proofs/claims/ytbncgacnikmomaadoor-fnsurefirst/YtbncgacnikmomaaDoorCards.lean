/-
  DERIVED. GIVEN WITH THE SEED: THE CARDS: each row of YtbncgacnikmomaaDoorRows.lean that lists a variable, with what it lists TIED to the program's text (the seventh form; the later family's looks); each row that meets fmt, with fmt's text TOLD by the authors' own Lean function (tested against real Go, not proved from fmt's source: count such statements apart). THE CARD IS WHAT COUNTS. Prove the row's statement (the work); the ties are given (YtbncgacnikmomaaDoorTie.lean); close each card by the builder's one call (the guide's Derived/Test/ToyasCard.lean, 'card_holds'). Laid BY PROGRAM, IN A SANDBOX (cutbox-door.mjs). By AI agents, Wed Nov 11 2026. No macro, syntax, notation, axiom, sorry.
-/
import Derived.Test.YtbncgacnikmomaaDoorRows
import GoSem.ClaimSeven
namespace Go.Proofs.YtbncgacnikmomaaDoor
namespace Rows

/-- THE TIED CARD OF 'laws.FnSureTop'. -/
def fnSureTopCard : Claim7 := { stood := { row := fnSureTopRow, standIns := [], harness := (true, "479b9b6307dda3e999882efd47d4ec5dd41b599aca611c85ec087ba04e183e96"), looks := true }, kinds := [], alts := [], laidByText := true, laidKinds := [.data, .data], laidTests := true, laidLooks := .later }
def FnSureTopCardSaid : Prop := Claim7.holds Tryd.pinned (.plain (OpenSpec.ofChange fnSureTopSpec)) fnSureTopCard

/-- THE TIED CARD OF 'laws.FnSureFirst'. -/
def fnSureFirstCard : Claim7 := { stood := { row := fnSureFirstRow, standIns := [], harness := (true, "479b9b6307dda3e999882efd47d4ec5dd41b599aca611c85ec087ba04e183e96"), looks := true }, kinds := [], alts := [], laidByText := true, laidKinds := [.data, .data], laidTests := true, laidLooks := .later }
def FnSureFirstCardSaid : Prop := Claim7.holds Tryd.pinned (.plain (OpenSpec.ofChange fnSureFirstSpec)) fnSureFirstCard

/-- THE SECOND FORM's CARD OF 'laws.FnSureTop'. -/
def fnSureTopUptoCard : Claim7 := { stood := { row := fnSureTopUptoRow, standIns := [], harness := (true, "479b9b6307dda3e999882efd47d4ec5dd41b599aca611c85ec087ba04e183e96"), looks := true }, kinds := [], alts := [], laidByText := true, laidKinds := [.data, .data], laidTests := true, laidLooks := .later }
def FnSureTopUptoCardSaid : Prop := Claim7.holds Tryd.pinned (.plain (OpenSpec.upto fnSureTopSpec)) fnSureTopUptoCard

/-- THE SECOND FORM's CARD OF 'laws.FnSureFirst'. -/
def fnSureFirstUptoCard : Claim7 := { stood := { row := fnSureFirstUptoRow, standIns := [], harness := (true, "479b9b6307dda3e999882efd47d4ec5dd41b599aca611c85ec087ba04e183e96"), looks := true }, kinds := [], alts := [], laidByText := true, laidKinds := [.data, .data], laidTests := true, laidLooks := .later }
def FnSureFirstUptoCardSaid : Prop := Claim7.holds Tryd.pinned (.plain (OpenSpec.upto fnSureFirstSpec)) fnSureFirstUptoCard
end Rows
end Go.Proofs.YtbncgacnikmomaaDoor
