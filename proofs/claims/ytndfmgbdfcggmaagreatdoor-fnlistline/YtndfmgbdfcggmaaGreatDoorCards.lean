/-
  DERIVED. GIVEN WITH THE SEED: THE CARDS: each row of YtndfmgbdfcggmaaGreatDoorRows.lean that lists a variable, with what it lists TIED to the program's text (the seventh form; the later family's looks); each row that meets fmt, with fmt's text TOLD by the authors' own Lean function (tested against real Go, not proved from fmt's source: count such statements apart). THE CARD IS WHAT COUNTS. Prove the row's statement (the work); the ties are given (YtndfmgbdfcggmaaGreatDoorTie.lean); close each card by the builder's one call (the guide's Derived/Test/ToyasCard.lean, 'card_holds'). Laid BY PROGRAM, IN A SANDBOX (cutbox-door.mjs). By AI agents, Wed Nov 11 2026. No macro, syntax, notation, axiom, sorry.
-/
import Derived.Test.YtndfmgbdfcggmaaGreatDoorRows
import GoSem.ClaimSeven
namespace Go.Proofs.YtndfmgbdfcggmaaGreatDoor
namespace Rows

/-- THE TIED CARD OF 'laws.FnListBack'. -/
def fnListBackCard : Claim7 := { stood := { row := fnListBackRow, standIns := [], harness := (true, "d0033282223186a65c52e0c9e37aea31eec5494289bde072fe5949f80d028940"), looks := true }, kinds := [], alts := [], laidByText := true, laidKinds := [.data, .data, .data, .data, .handle, .data, .data, .data, .pinned], laidTests := true, laidLooks := .later }
def FnListBackCardSaid : Prop := Claim7.holds Tryz.pinned (.plain (OpenSpec.ofChange fnListBackSpec)) fnListBackCard

/-- THE TIED CARD OF 'laws.FnListParse'. -/
def fnListParseCard : Claim7 := { stood := { row := fnListParseRow, standIns := [], harness := (true, "d0033282223186a65c52e0c9e37aea31eec5494289bde072fe5949f80d028940"), looks := true }, kinds := [], alts := [], laidByText := true, laidKinds := [.data, .data, .data, .data, .handle, .data, .data, .data, .pinned], laidTests := true, laidLooks := .later }
def FnListParseCardSaid : Prop := Claim7.holds Tryz.pinned (.plain (OpenSpec.ofChange fnListParseSpec)) fnListParseCard

/-- THE TIED CARD OF 'laws.FnListLine'. -/
def fnListLineCard : Claim7 := { stood := { row := fnListLineRow, standIns := [], harness := (true, "d0033282223186a65c52e0c9e37aea31eec5494289bde072fe5949f80d028940"), looks := true }, kinds := [], alts := [], laidByText := true, laidKinds := [.data, .data, .data, .data, .handle, .data, .data, .data, .pinned], laidTests := true, laidLooks := .later }
def FnListLineCardSaid : Prop := Claim7.holds Tryz.pinned (.plain (OpenSpec.ofChange fnListLineSpec)) fnListLineCard

/-- THE SECOND FORM's CARD OF 'laws.FnListBack'. -/
def fnListBackUptoCard : Claim7 := { stood := { row := fnListBackUptoRow, standIns := [], harness := (true, "d0033282223186a65c52e0c9e37aea31eec5494289bde072fe5949f80d028940"), looks := true }, kinds := [], alts := [], laidByText := true, laidKinds := [.data, .data, .data, .data, .handle, .data, .data, .data, .pinned], laidTests := true, laidLooks := .later }
def FnListBackUptoCardSaid : Prop := Claim7.holds Tryz.pinned (.plain (OpenSpec.upto fnListBackSpec)) fnListBackUptoCard

/-- THE SECOND FORM's CARD OF 'laws.FnListParse'. -/
def fnListParseUptoCard : Claim7 := { stood := { row := fnListParseUptoRow, standIns := [], harness := (true, "d0033282223186a65c52e0c9e37aea31eec5494289bde072fe5949f80d028940"), looks := true }, kinds := [], alts := [], laidByText := true, laidKinds := [.data, .data, .data, .data, .handle, .data, .data, .data, .pinned], laidTests := true, laidLooks := .later }
def FnListParseUptoCardSaid : Prop := Claim7.holds Tryz.pinned (.plain (OpenSpec.upto fnListParseSpec)) fnListParseUptoCard

/-- THE SECOND FORM's CARD OF 'laws.FnListLine'. -/
def fnListLineUptoCard : Claim7 := { stood := { row := fnListLineUptoRow, standIns := [], harness := (true, "d0033282223186a65c52e0c9e37aea31eec5494289bde072fe5949f80d028940"), looks := true }, kinds := [], alts := [], laidByText := true, laidKinds := [.data, .data, .data, .data, .handle, .data, .data, .data, .pinned], laidTests := true, laidLooks := .later }
def FnListLineUptoCardSaid : Prop := Claim7.holds Tryz.pinned (.plain (OpenSpec.upto fnListLineSpec)) fnListLineUptoCard
end Rows
end Go.Proofs.YtndfmgbdfcggmaaGreatDoor
