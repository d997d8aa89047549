/-
  DERIVED. GIVEN WITH THE SEED: THE CARDS: each row of YtidfjinmaiechaaGreatDoorRows.lean that lists a variable, with what it lists TIED to the program's text (the seventh form; the later family's looks); each row that meets fmt, with fmt's text TOLD by the authors' own Lean function (tested against real Go, not proved from fmt's source: count such statements apart). THE CARD IS WHAT COUNTS. Prove the row's statement (the work); the ties are given (YtidfjinmaiechaaGreatDoorTie.lean); close each card by the builder's one call (the guide's Derived/Test/ToyasCard.lean, 'card_holds'). Laid BY PROGRAM, IN A SANDBOX (cutbox-door.mjs). By AI agents, Wed Nov 11 2026. No macro, syntax, notation, axiom, sorry.
-/
import Derived.Test.YtidfjinmaiechaaGreatDoorRows
import GoSem.ClaimSeven
namespace Go.Proofs.YtidfjinmaiechaaGreatDoor
namespace Rows

/-- THE TIED CARD OF 'laws.FnExactListText'. -/
def fnExactListTextCard : Claim7 := { stood := { row := fnExactListTextRow, standIns := [], harness := (true, "570579a64bf64448f47f5402577def906ddf51ce70784517e5b96219fc1c716c"), looks := true }, kinds := [], alts := [], laidByText := true, laidKinds := [.data, .data, .data, .data, .data, .data], laidTests := true, laidLooks := .later }
def FnExactListTextCardSaid : Prop := Claim7.holds Tryz.pinned (.plain (OpenSpec.ofChange fnExactListTextSpec)) fnExactListTextCard

/-- THE TIED CARD OF 'laws.FnExactListParse'. -/
def fnExactListParseCard : Claim7 := { stood := { row := fnExactListParseRow, standIns := [], harness := (true, "570579a64bf64448f47f5402577def906ddf51ce70784517e5b96219fc1c716c"), looks := true }, kinds := [], alts := [], laidByText := true, laidKinds := [.data, .data, .data, .data, .handle, .data, .data, .data, .pinned], laidTests := true, laidLooks := .later }
def FnExactListParseCardSaid : Prop := Claim7.holds Tryz.pinned (.plain (OpenSpec.ofChange fnExactListParseSpec)) fnExactListParseCard

/-- THE SECOND FORM's CARD OF 'laws.FnExactListText'. -/
def fnExactListTextUptoCard : Claim7 := { stood := { row := fnExactListTextUptoRow, standIns := [], harness := (true, "570579a64bf64448f47f5402577def906ddf51ce70784517e5b96219fc1c716c"), looks := true }, kinds := [], alts := [], laidByText := true, laidKinds := [.data, .data, .data, .data, .data, .data], laidTests := true, laidLooks := .later }
def FnExactListTextUptoCardSaid : Prop := Claim7.holds Tryz.pinned (.plain (OpenSpec.upto fnExactListTextSpec)) fnExactListTextUptoCard

/-- THE SECOND FORM's CARD OF 'laws.FnExactListParse'. -/
def fnExactListParseUptoCard : Claim7 := { stood := { row := fnExactListParseUptoRow, standIns := [], harness := (true, "570579a64bf64448f47f5402577def906ddf51ce70784517e5b96219fc1c716c"), looks := true }, kinds := [], alts := [], laidByText := true, laidKinds := [.data, .data, .data, .data, .handle, .data, .data, .data, .pinned], laidTests := true, laidLooks := .later }
def FnExactListParseUptoCardSaid : Prop := Claim7.holds Tryz.pinned (.plain (OpenSpec.upto fnExactListParseSpec)) fnExactListParseUptoCard
end Rows
end Go.Proofs.YtidfjinmaiechaaGreatDoor
