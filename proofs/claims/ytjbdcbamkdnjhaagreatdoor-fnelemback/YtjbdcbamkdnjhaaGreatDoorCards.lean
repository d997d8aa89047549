/-
  DERIVED. GIVEN WITH THE SEED: THE CARDS: each row of YtjbdcbamkdnjhaaGreatDoorRows.lean that lists a variable, with what it lists TIED to the program's text (the seventh form; the later family's looks); each row that meets fmt, with fmt's text TOLD by the authors' own Lean function (tested against real Go, not proved from fmt's source: count such statements apart). THE CARD IS WHAT COUNTS. Prove the row's statement (the work); the ties are given (YtjbdcbamkdnjhaaGreatDoorTie.lean); close each card by the builder's one call (the guide's Derived/Test/ToyasCard.lean, 'card_holds'). Laid BY PROGRAM, IN A SANDBOX (cutbox-door.mjs). By AI agents, Wed Nov 11 2026. No macro, syntax, notation, axiom, sorry.
-/
import Derived.Test.YtjbdcbamkdnjhaaGreatDoorRows
import GoSem.ClaimSeven
namespace Go.Proofs.YtjbdcbamkdnjhaaGreatDoor
namespace Rows

/-- THE TIED CARD OF 'laws.FnElemBack'. -/
def fnElemBackCard : Claim7 := { stood := { row := fnElemBackRow, standIns := [], harness := (true, "35a12a35d0695ff735178cd2b77c790200c137153d3b7df0b8f81e4871daabd4"), looks := true }, kinds := [], alts := [], laidByText := true, laidKinds := [.data, .data, .data, .data, .handle, .data, .data, .pinned], laidTests := true, laidLooks := .later }
def FnElemBackCardSaid : Prop := Claim7.holds Tryz.pinned (.plain (OpenSpec.ofChange fnElemBackSpec)) fnElemBackCard

/-- THE TIED CARD OF 'laws.FnMemBack'. -/
def fnMemBackCard : Claim7 := { stood := { row := fnMemBackRow, standIns := [], harness := (true, "35a12a35d0695ff735178cd2b77c790200c137153d3b7df0b8f81e4871daabd4"), looks := true }, kinds := [], alts := [], laidByText := true, laidKinds := [.data, .data, .data, .data, .sentinel, .sentinel, .data, .data, .pinned], laidTests := true, laidLooks := .later }
def FnMemBackCardSaid : Prop := Claim7.holds Tryz.pinned (.plain (OpenSpec.ofChange fnMemBackSpec)) fnMemBackCard

/-- THE TIED CARD OF 'laws.FnActShut'. -/
def fnActShutCard : Claim7 := { stood := { row := fnActShutRow, standIns := [], harness := (true, "35a12a35d0695ff735178cd2b77c790200c137153d3b7df0b8f81e4871daabd4"), looks := true }, kinds := [], alts := [], laidByText := true, laidKinds := [.data], laidTests := true, laidLooks := .later }
def FnActShutCardSaid : Prop := Claim7.holds Tryz.pinned (.plain (OpenSpec.ofChange fnActShutSpec)) fnActShutCard

/-- THE TIED CARD OF 'laws.FnExactElemRead'. -/
def fnExactElemReadCard : Claim7 := { stood := { row := fnExactElemReadRow, standIns := [], harness := (true, "35a12a35d0695ff735178cd2b77c790200c137153d3b7df0b8f81e4871daabd4"), looks := true }, kinds := [], alts := [], laidByText := true, laidKinds := [.data, .data, .data, .data, .handle, .data, .data, .pinned], laidTests := true, laidLooks := .later }
def FnExactElemReadCardSaid : Prop := Claim7.holds Tryz.pinned (.plain (OpenSpec.ofChange fnExactElemReadSpec)) fnExactElemReadCard

/-- THE TIED CARD OF 'laws.FnExactMemRead'. -/
def fnExactMemReadCard : Claim7 := { stood := { row := fnExactMemReadRow, standIns := [], harness := (true, "35a12a35d0695ff735178cd2b77c790200c137153d3b7df0b8f81e4871daabd4"), looks := true }, kinds := [], alts := [], laidByText := true, laidKinds := [.data, .data, .data, .data, .sentinel, .sentinel, .data, .data, .pinned], laidTests := true, laidLooks := .later }
def FnExactMemReadCardSaid : Prop := Claim7.holds Tryz.pinned (.plain (OpenSpec.ofChange fnExactMemReadSpec)) fnExactMemReadCard

/-- THE SECOND FORM's CARD OF 'laws.FnElemBack'. -/
def fnElemBackUptoCard : Claim7 := { stood := { row := fnElemBackUptoRow, standIns := [], harness := (true, "35a12a35d0695ff735178cd2b77c790200c137153d3b7df0b8f81e4871daabd4"), looks := true }, kinds := [], alts := [], laidByText := true, laidKinds := [.data, .data, .data, .data, .handle, .data, .data, .pinned], laidTests := true, laidLooks := .later }
def FnElemBackUptoCardSaid : Prop := Claim7.holds Tryz.pinned (.plain (OpenSpec.upto fnElemBackSpec)) fnElemBackUptoCard

/-- THE SECOND FORM's CARD OF 'laws.FnMemBack'. -/
def fnMemBackUptoCard : Claim7 := { stood := { row := fnMemBackUptoRow, standIns := [], harness := (true, "35a12a35d0695ff735178cd2b77c790200c137153d3b7df0b8f81e4871daabd4"), looks := true }, kinds := [], alts := [], laidByText := true, laidKinds := [.data, .data, .data, .data, .sentinel, .sentinel, .data, .data, .pinned], laidTests := true, laidLooks := .later }
def FnMemBackUptoCardSaid : Prop := Claim7.holds Tryz.pinned (.plain (OpenSpec.upto fnMemBackSpec)) fnMemBackUptoCard

/-- THE SECOND FORM's CARD OF 'laws.FnActShut'. -/
def fnActShutUptoCard : Claim7 := { stood := { row := fnActShutUptoRow, standIns := [], harness := (true, "35a12a35d0695ff735178cd2b77c790200c137153d3b7df0b8f81e4871daabd4"), looks := true }, kinds := [], alts := [], laidByText := true, laidKinds := [.data], laidTests := true, laidLooks := .later }
def FnActShutUptoCardSaid : Prop := Claim7.holds Tryz.pinned (.plain (OpenSpec.upto fnActShutSpec)) fnActShutUptoCard

/-- THE SECOND FORM's CARD OF 'laws.FnExactElemRead'. -/
def fnExactElemReadUptoCard : Claim7 := { stood := { row := fnExactElemReadUptoRow, standIns := [], harness := (true, "35a12a35d0695ff735178cd2b77c790200c137153d3b7df0b8f81e4871daabd4"), looks := true }, kinds := [], alts := [], laidByText := true, laidKinds := [.data, .data, .data, .data, .handle, .data, .data, .pinned], laidTests := true, laidLooks := .later }
def FnExactElemReadUptoCardSaid : Prop := Claim7.holds Tryz.pinned (.plain (OpenSpec.upto fnExactElemReadSpec)) fnExactElemReadUptoCard

/-- THE SECOND FORM's CARD OF 'laws.FnExactMemRead'. -/
def fnExactMemReadUptoCard : Claim7 := { stood := { row := fnExactMemReadUptoRow, standIns := [], harness := (true, "35a12a35d0695ff735178cd2b77c790200c137153d3b7df0b8f81e4871daabd4"), looks := true }, kinds := [], alts := [], laidByText := true, laidKinds := [.data, .data, .data, .data, .sentinel, .sentinel, .data, .data, .pinned], laidTests := true, laidLooks := .later }
def FnExactMemReadUptoCardSaid : Prop := Claim7.holds Tryz.pinned (.plain (OpenSpec.upto fnExactMemReadSpec)) fnExactMemReadUptoCard
end Rows
end Go.Proofs.YtjbdcbamkdnjhaaGreatDoor
