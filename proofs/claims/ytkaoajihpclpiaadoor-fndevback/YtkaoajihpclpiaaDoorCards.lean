/-
  DERIVED. GIVEN WITH THE SEED: THE CARDS: each row of YtkaoajihpclpiaaDoorRows.lean that lists a variable, with what it lists TIED to the program's text (the seventh form; the later family's looks); each row that meets fmt, with fmt's text TOLD by the authors' own Lean function (tested against real Go, not proved from fmt's source: count such statements apart). THE CARD IS WHAT COUNTS. Prove the row's statement (the work); the ties are given (YtkaoajihpclpiaaDoorTie.lean); close each card by the builder's one call (the guide's Derived/Test/ToyasCard.lean, 'card_holds'). Laid BY PROGRAM, IN A SANDBOX (cutbox-door.mjs). By AI agents, Wed Nov 11 2026. No macro, syntax, notation, axiom, sorry.
-/
import Derived.Test.YtkaoajihpclpiaaDoorRows
import GoSem.ClaimSeven
namespace Go.Proofs.YtkaoajihpclpiaaDoor
namespace Rows

/-- THE TIED CARD OF 'laws.FnDevBack'. -/
def fnDevBackCard : Claim7 := { stood := { row := fnDevBackRow, standIns := [], harness := (true, "a337c3fba770cd0d1e9d3e336a619085161f688683f3f6e3518aa5531b40e740"), looks := false }, kinds := [], alts := [], laidByText := true, laidKinds := [.data, .data, .data, .data, .data], laidTests := true, laidLooks := .later }
def FnDevBackCardSaid : Prop := Claim7.holds Tryd.pinned (.plain (OpenSpec.ofChange fnDevBackSpec)) fnDevBackCard

/-- THE TIED CARD OF 'laws.FnDevKinds'. -/
def fnDevKindsCard : Claim7 := { stood := { row := fnDevKindsRow, standIns := [], harness := (true, "a337c3fba770cd0d1e9d3e336a619085161f688683f3f6e3518aa5531b40e740"), looks := false }, kinds := [], alts := [], laidByText := true, laidKinds := [.data], laidTests := true, laidLooks := .later }
def FnDevKindsCardSaid : Prop := Claim7.holds Tryd.pinned (.plain (OpenSpec.ofChange fnDevKindsSpec)) fnDevKindsCard

/-- THE TIED CARD OF 'laws.FnExactDevSize'. -/
def fnExactDevSizeCard : Claim7 := { stood := { row := fnExactDevSizeRow, standIns := [], harness := (true, "a337c3fba770cd0d1e9d3e336a619085161f688683f3f6e3518aa5531b40e740"), looks := false }, kinds := [], alts := [], laidByText := true, laidKinds := [.data], laidTests := true, laidLooks := .later }
def FnExactDevSizeCardSaid : Prop := Claim7.holds Tryd.pinned (.plain (OpenSpec.ofChange fnExactDevSizeSpec)) fnExactDevSizeCard

/-- THE TIED CARD OF 'laws.FnExactDevLetter'. -/
def fnExactDevLetterCard : Claim7 := { stood := { row := fnExactDevLetterRow, standIns := [], harness := (true, "a337c3fba770cd0d1e9d3e336a619085161f688683f3f6e3518aa5531b40e740"), looks := false }, kinds := [], alts := [], laidByText := true, laidKinds := [.data], laidTests := true, laidLooks := .later }
def FnExactDevLetterCardSaid : Prop := Claim7.holds Tryd.pinned (.plain (OpenSpec.ofChange fnExactDevLetterSpec)) fnExactDevLetterCard

/-- THE TIED CARD OF 'laws.FnExactDevOk'. -/
def fnExactDevOkCard : Claim7 := { stood := { row := fnExactDevOkRow, standIns := [], harness := (true, "a337c3fba770cd0d1e9d3e336a619085161f688683f3f6e3518aa5531b40e740"), looks := false }, kinds := [], alts := [], laidByText := true, laidKinds := [.data], laidTests := true, laidLooks := .later }
def FnExactDevOkCardSaid : Prop := Claim7.holds Tryd.pinned (.plain (OpenSpec.ofChange fnExactDevOkSpec)) fnExactDevOkCard

/-- THE TIED CARD OF 'laws.FnExactDevIsBit'. -/
def fnExactDevIsBitCard : Claim7 := { stood := { row := fnExactDevIsBitRow, standIns := [], harness := (true, "a337c3fba770cd0d1e9d3e336a619085161f688683f3f6e3518aa5531b40e740"), looks := false }, kinds := [], alts := [], laidByText := true, laidKinds := [.data], laidTests := true, laidLooks := .later }
def FnExactDevIsBitCardSaid : Prop := Claim7.holds Tryd.pinned (.plain (OpenSpec.ofChange fnExactDevIsBitSpec)) fnExactDevIsBitCard

/-- THE TIED CARD OF 'laws.FnExactDevIsWhole'. -/
def fnExactDevIsWholeCard : Claim7 := { stood := { row := fnExactDevIsWholeRow, standIns := [], harness := (true, "a337c3fba770cd0d1e9d3e336a619085161f688683f3f6e3518aa5531b40e740"), looks := false }, kinds := [], alts := [], laidByText := true, laidKinds := [.data], laidTests := true, laidLooks := .later }
def FnExactDevIsWholeCardSaid : Prop := Claim7.holds Tryd.pinned (.plain (OpenSpec.ofChange fnExactDevIsWholeSpec)) fnExactDevIsWholeCard

/-- THE TIED CARD OF 'laws.FnExactDevIsReal'. -/
def fnExactDevIsRealCard : Claim7 := { stood := { row := fnExactDevIsRealRow, standIns := [], harness := (true, "a337c3fba770cd0d1e9d3e336a619085161f688683f3f6e3518aa5531b40e740"), looks := false }, kinds := [], alts := [], laidByText := true, laidKinds := [.data], laidTests := true, laidLooks := .later }
def FnExactDevIsRealCardSaid : Prop := Claim7.holds Tryd.pinned (.plain (OpenSpec.ofChange fnExactDevIsRealSpec)) fnExactDevIsRealCard

/-- THE TIED CARD OF 'laws.FnExactDevText'. -/
def fnExactDevTextCard : Claim7 := { stood := { row := fnExactDevTextRow, standIns := [], harness := (true, "a337c3fba770cd0d1e9d3e336a619085161f688683f3f6e3518aa5531b40e740"), looks := false }, kinds := [], alts := [], laidByText := true, laidKinds := [.data, .data, .data, .data, .data], laidTests := true, laidLooks := .later }
def FnExactDevTextCardSaid : Prop := Claim7.holds Tryd.pinned (.plain (OpenSpec.ofChange fnExactDevTextSpec)) fnExactDevTextCard

/-- THE TIED CARD OF 'laws.FnExactDevRead'. -/
def fnExactDevReadCard : Claim7 := { stood := { row := fnExactDevReadRow, standIns := [], harness := (true, "a337c3fba770cd0d1e9d3e336a619085161f688683f3f6e3518aa5531b40e740"), looks := false }, kinds := [], alts := [], laidByText := true, laidKinds := [.data, .data, .data, .data, .data], laidTests := true, laidLooks := .later }
def FnExactDevReadCardSaid : Prop := Claim7.holds Tryd.pinned (.plain (OpenSpec.ofChange fnExactDevReadSpec)) fnExactDevReadCard

/-- THE SECOND FORM's CARD OF 'laws.FnDevBack'. -/
def fnDevBackUptoCard : Claim7 := { stood := { row := fnDevBackUptoRow, standIns := [], harness := (true, "a337c3fba770cd0d1e9d3e336a619085161f688683f3f6e3518aa5531b40e740"), looks := false }, kinds := [], alts := [], laidByText := true, laidKinds := [.data, .data, .data, .data, .data], laidTests := true, laidLooks := .later }
def FnDevBackUptoCardSaid : Prop := Claim7.holds Tryd.pinned (.plain (OpenSpec.upto fnDevBackSpec)) fnDevBackUptoCard

/-- THE SECOND FORM's CARD OF 'laws.FnDevKinds'. -/
def fnDevKindsUptoCard : Claim7 := { stood := { row := fnDevKindsUptoRow, standIns := [], harness := (true, "a337c3fba770cd0d1e9d3e336a619085161f688683f3f6e3518aa5531b40e740"), looks := false }, kinds := [], alts := [], laidByText := true, laidKinds := [.data], laidTests := true, laidLooks := .later }
def FnDevKindsUptoCardSaid : Prop := Claim7.holds Tryd.pinned (.plain (OpenSpec.upto fnDevKindsSpec)) fnDevKindsUptoCard

/-- THE SECOND FORM's CARD OF 'laws.FnExactDevSize'. -/
def fnExactDevSizeUptoCard : Claim7 := { stood := { row := fnExactDevSizeUptoRow, standIns := [], harness := (true, "a337c3fba770cd0d1e9d3e336a619085161f688683f3f6e3518aa5531b40e740"), looks := false }, kinds := [], alts := [], laidByText := true, laidKinds := [.data], laidTests := true, laidLooks := .later }
def FnExactDevSizeUptoCardSaid : Prop := Claim7.holds Tryd.pinned (.plain (OpenSpec.upto fnExactDevSizeSpec)) fnExactDevSizeUptoCard

/-- THE SECOND FORM's CARD OF 'laws.FnExactDevLetter'. -/
def fnExactDevLetterUptoCard : Claim7 := { stood := { row := fnExactDevLetterUptoRow, standIns := [], harness := (true, "a337c3fba770cd0d1e9d3e336a619085161f688683f3f6e3518aa5531b40e740"), looks := false }, kinds := [], alts := [], laidByText := true, laidKinds := [.data], laidTests := true, laidLooks := .later }
def FnExactDevLetterUptoCardSaid : Prop := Claim7.holds Tryd.pinned (.plain (OpenSpec.upto fnExactDevLetterSpec)) fnExactDevLetterUptoCard

/-- THE SECOND FORM's CARD OF 'laws.FnExactDevOk'. -/
def fnExactDevOkUptoCard : Claim7 := { stood := { row := fnExactDevOkUptoRow, standIns := [], harness := (true, "a337c3fba770cd0d1e9d3e336a619085161f688683f3f6e3518aa5531b40e740"), looks := false }, kinds := [], alts := [], laidByText := true, laidKinds := [.data], laidTests := true, laidLooks := .later }
def FnExactDevOkUptoCardSaid : Prop := Claim7.holds Tryd.pinned (.plain (OpenSpec.upto fnExactDevOkSpec)) fnExactDevOkUptoCard

/-- THE SECOND FORM's CARD OF 'laws.FnExactDevIsBit'. -/
def fnExactDevIsBitUptoCard : Claim7 := { stood := { row := fnExactDevIsBitUptoRow, standIns := [], harness := (true, "a337c3fba770cd0d1e9d3e336a619085161f688683f3f6e3518aa5531b40e740"), looks := false }, kinds := [], alts := [], laidByText := true, laidKinds := [.data], laidTests := true, laidLooks := .later }
def FnExactDevIsBitUptoCardSaid : Prop := Claim7.holds Tryd.pinned (.plain (OpenSpec.upto fnExactDevIsBitSpec)) fnExactDevIsBitUptoCard

/-- THE SECOND FORM's CARD OF 'laws.FnExactDevIsWhole'. -/
def fnExactDevIsWholeUptoCard : Claim7 := { stood := { row := fnExactDevIsWholeUptoRow, standIns := [], harness := (true, "a337c3fba770cd0d1e9d3e336a619085161f688683f3f6e3518aa5531b40e740"), looks := false }, kinds := [], alts := [], laidByText := true, laidKinds := [.data], laidTests := true, laidLooks := .later }
def FnExactDevIsWholeUptoCardSaid : Prop := Claim7.holds Tryd.pinned (.plain (OpenSpec.upto fnExactDevIsWholeSpec)) fnExactDevIsWholeUptoCard

/-- THE SECOND FORM's CARD OF 'laws.FnExactDevIsReal'. -/
def fnExactDevIsRealUptoCard : Claim7 := { stood := { row := fnExactDevIsRealUptoRow, standIns := [], harness := (true, "a337c3fba770cd0d1e9d3e336a619085161f688683f3f6e3518aa5531b40e740"), looks := false }, kinds := [], alts := [], laidByText := true, laidKinds := [.data], laidTests := true, laidLooks := .later }
def FnExactDevIsRealUptoCardSaid : Prop := Claim7.holds Tryd.pinned (.plain (OpenSpec.upto fnExactDevIsRealSpec)) fnExactDevIsRealUptoCard

/-- THE SECOND FORM's CARD OF 'laws.FnExactDevText'. -/
def fnExactDevTextUptoCard : Claim7 := { stood := { row := fnExactDevTextUptoRow, standIns := [], harness := (true, "a337c3fba770cd0d1e9d3e336a619085161f688683f3f6e3518aa5531b40e740"), looks := false }, kinds := [], alts := [], laidByText := true, laidKinds := [.data, .data, .data, .data, .data], laidTests := true, laidLooks := .later }
def FnExactDevTextUptoCardSaid : Prop := Claim7.holds Tryd.pinned (.plain (OpenSpec.upto fnExactDevTextSpec)) fnExactDevTextUptoCard

/-- THE SECOND FORM's CARD OF 'laws.FnExactDevRead'. -/
def fnExactDevReadUptoCard : Claim7 := { stood := { row := fnExactDevReadUptoRow, standIns := [], harness := (true, "a337c3fba770cd0d1e9d3e336a619085161f688683f3f6e3518aa5531b40e740"), looks := false }, kinds := [], alts := [], laidByText := true, laidKinds := [.data, .data, .data, .data, .data], laidTests := true, laidLooks := .later }
def FnExactDevReadUptoCardSaid : Prop := Claim7.holds Tryd.pinned (.plain (OpenSpec.upto fnExactDevReadSpec)) fnExactDevReadUptoCard
end Rows
end Go.Proofs.YtkaoajihpclpiaaDoor
