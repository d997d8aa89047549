/-
  DERIVED. GIVEN WITH THE SEED: THE CARDS: each row of YtpjpjndichpfaaaDoorRows.lean that lists a variable, with what it lists TIED to the program's text (the seventh form; the later family's looks); each row that meets fmt, with fmt's text TOLD by the authors' own Lean function (tested against real Go, not proved from fmt's source: count such statements apart). THE CARD IS WHAT COUNTS. Prove the row's statement (the work); the ties are given (YtpjpjndichpfaaaDoorTie.lean); close each card by the builder's one call (the guide's Derived/Test/ToyasCard.lean, 'card_holds'). Laid BY PROGRAM, IN A SANDBOX (cutbox-door.mjs). By AI agents, Wed Nov 11 2026. No macro, syntax, notation, axiom, sorry.
-/
import Derived.Test.YtpjpjndichpfaaaDoorRows
import GoSem.ClaimSeven
namespace Go.Proofs.YtpjpjndichpfaaaDoor
namespace Rows

/-- THE TIED CARD OF 'laws.FnFlip'. -/
def fnFlipCard : Claim7 := { stood := { row := fnFlipRow, standIns := [], harness := (true, "4c058a944aaa813f11e2c7e63b84feedf2587c29c9c82390cecd6bdee6913745"), looks := true }, kinds := [], alts := [], laidByText := true, laidKinds := [.data], laidTests := true, laidLooks := .later }
def FnFlipCardSaid : Prop := Claim7.holds Tryd.pinned (.plain (OpenSpec.ofChange fnFlipSpec)) fnFlipCard

/-- THE TIED CARD OF 'laws.FnSwap'. -/
def fnSwapCard : Claim7 := { stood := { row := fnSwapRow, standIns := [], harness := (true, "4c058a944aaa813f11e2c7e63b84feedf2587c29c9c82390cecd6bdee6913745"), looks := true }, kinds := [], alts := [], laidByText := true, laidKinds := [.data], laidTests := true, laidLooks := .later }
def FnSwapCardSaid : Prop := Claim7.holds Tryd.pinned (.plain (OpenSpec.ofChange fnSwapSpec)) fnSwapCard

/-- THE TIED CARD OF 'laws.FnRealBack'. -/
def fnRealBackCard : Claim7 := { stood := { row := fnRealBackRow, standIns := [], harness := (true, "4c058a944aaa813f11e2c7e63b84feedf2587c29c9c82390cecd6bdee6913745"), looks := true }, kinds := [], alts := [], laidByText := true, laidKinds := [.data, .data, .data, .sentinel, .sentinel], laidTests := true, laidLooks := .later }
def FnRealBackCardSaid : Prop := Claim7.holds Tryd.pinned (.plain (OpenSpec.ofChange fnRealBackSpec)) fnRealBackCard

/-- THE TIED CARD OF 'laws.FnRealArg'. -/
def fnRealArgCard : Claim7 := { stood := { row := fnRealArgRow, standIns := [], harness := (true, "4c058a944aaa813f11e2c7e63b84feedf2587c29c9c82390cecd6bdee6913745"), looks := true }, kinds := [], alts := [], laidByText := true, laidKinds := [.data], laidTests := true, laidLooks := .later }
def FnRealArgCardSaid : Prop := Claim7.holds Tryd.pinned (.plain (OpenSpec.ofChange fnRealArgSpec)) fnRealArgCard

/-- THE TIED CARD OF 'laws.FnExactCmpText'. -/
def fnExactCmpTextCard : Claim7 := { stood := { row := fnExactCmpTextRow, standIns := [], harness := (true, "4c058a944aaa813f11e2c7e63b84feedf2587c29c9c82390cecd6bdee6913745"), looks := true }, kinds := [], alts := [], laidByText := true, laidKinds := [.data], laidTests := true, laidLooks := .later }
def FnExactCmpTextCardSaid : Prop := Claim7.holds Tryd.pinned (.plain (OpenSpec.ofChange fnExactCmpTextSpec)) fnExactCmpTextCard

/-- THE TIED CARD OF 'laws.FnExactCmpFlip'. -/
def fnExactCmpFlipCard : Claim7 := { stood := { row := fnExactCmpFlipRow, standIns := [], harness := (true, "4c058a944aaa813f11e2c7e63b84feedf2587c29c9c82390cecd6bdee6913745"), looks := true }, kinds := [], alts := [], laidByText := true, laidKinds := [.data], laidTests := true, laidLooks := .later }
def FnExactCmpFlipCardSaid : Prop := Claim7.holds Tryd.pinned (.plain (OpenSpec.ofChange fnExactCmpFlipSpec)) fnExactCmpFlipCard

/-- THE TIED CARD OF 'laws.FnExactCmpSwap'. -/
def fnExactCmpSwapCard : Claim7 := { stood := { row := fnExactCmpSwapRow, standIns := [], harness := (true, "4c058a944aaa813f11e2c7e63b84feedf2587c29c9c82390cecd6bdee6913745"), looks := true }, kinds := [], alts := [], laidByText := true, laidKinds := [.data], laidTests := true, laidLooks := .later }
def FnExactCmpSwapCardSaid : Prop := Claim7.holds Tryd.pinned (.plain (OpenSpec.ofChange fnExactCmpSwapSpec)) fnExactCmpSwapCard

/-- THE TIED CARD OF 'laws.FnExactRealArg'. -/
def fnExactRealArgCard : Claim7 := { stood := { row := fnExactRealArgRow, standIns := [], harness := (true, "4c058a944aaa813f11e2c7e63b84feedf2587c29c9c82390cecd6bdee6913745"), looks := true }, kinds := [], alts := [], laidByText := true, laidKinds := [.data], laidTests := true, laidLooks := .later }
def FnExactRealArgCardSaid : Prop := Claim7.holds Tryd.pinned (.plain (OpenSpec.ofChange fnExactRealArgSpec)) fnExactRealArgCard

/-- THE TIED CARD OF 'laws.FnExactRealText'. -/
def fnExactRealTextCard : Claim7 := { stood := { row := fnExactRealTextRow, standIns := [], harness := (true, "4c058a944aaa813f11e2c7e63b84feedf2587c29c9c82390cecd6bdee6913745"), looks := true }, kinds := [], alts := [], laidByText := true, laidKinds := [.data, .data, .data], laidTests := true, laidLooks := .later }
def FnExactRealTextCardSaid : Prop := Claim7.holds Tryd.pinned (.plain (OpenSpec.ofChange fnExactRealTextSpec)) fnExactRealTextCard

/-- THE TIED CARD OF 'laws.FnExactRealRead'. -/
def fnExactRealReadCard : Claim7 := { stood := { row := fnExactRealReadRow, standIns := [], harness := (true, "4c058a944aaa813f11e2c7e63b84feedf2587c29c9c82390cecd6bdee6913745"), looks := true }, kinds := [], alts := [], laidByText := true, laidKinds := [.data, .data, .data, .sentinel, .sentinel], laidTests := true, laidLooks := .later }
def FnExactRealReadCardSaid : Prop := Claim7.holds Tryd.pinned (.plain (OpenSpec.ofChange fnExactRealReadSpec)) fnExactRealReadCard

/-- THE SECOND FORM's CARD OF 'laws.FnFlip'. -/
def fnFlipUptoCard : Claim7 := { stood := { row := fnFlipUptoRow, standIns := [], harness := (true, "4c058a944aaa813f11e2c7e63b84feedf2587c29c9c82390cecd6bdee6913745"), looks := true }, kinds := [], alts := [], laidByText := true, laidKinds := [.data], laidTests := true, laidLooks := .later }
def FnFlipUptoCardSaid : Prop := Claim7.holds Tryd.pinned (.plain (OpenSpec.upto fnFlipSpec)) fnFlipUptoCard

/-- THE SECOND FORM's CARD OF 'laws.FnSwap'. -/
def fnSwapUptoCard : Claim7 := { stood := { row := fnSwapUptoRow, standIns := [], harness := (true, "4c058a944aaa813f11e2c7e63b84feedf2587c29c9c82390cecd6bdee6913745"), looks := true }, kinds := [], alts := [], laidByText := true, laidKinds := [.data], laidTests := true, laidLooks := .later }
def FnSwapUptoCardSaid : Prop := Claim7.holds Tryd.pinned (.plain (OpenSpec.upto fnSwapSpec)) fnSwapUptoCard

/-- THE SECOND FORM's CARD OF 'laws.FnRealBack'. -/
def fnRealBackUptoCard : Claim7 := { stood := { row := fnRealBackUptoRow, standIns := [], harness := (true, "4c058a944aaa813f11e2c7e63b84feedf2587c29c9c82390cecd6bdee6913745"), looks := true }, kinds := [], alts := [], laidByText := true, laidKinds := [.data, .data, .data, .sentinel, .sentinel], laidTests := true, laidLooks := .later }
def FnRealBackUptoCardSaid : Prop := Claim7.holds Tryd.pinned (.plain (OpenSpec.upto fnRealBackSpec)) fnRealBackUptoCard

/-- THE SECOND FORM's CARD OF 'laws.FnRealArg'. -/
def fnRealArgUptoCard : Claim7 := { stood := { row := fnRealArgUptoRow, standIns := [], harness := (true, "4c058a944aaa813f11e2c7e63b84feedf2587c29c9c82390cecd6bdee6913745"), looks := true }, kinds := [], alts := [], laidByText := true, laidKinds := [.data], laidTests := true, laidLooks := .later }
def FnRealArgUptoCardSaid : Prop := Claim7.holds Tryd.pinned (.plain (OpenSpec.upto fnRealArgSpec)) fnRealArgUptoCard

/-- THE SECOND FORM's CARD OF 'laws.FnExactCmpText'. -/
def fnExactCmpTextUptoCard : Claim7 := { stood := { row := fnExactCmpTextUptoRow, standIns := [], harness := (true, "4c058a944aaa813f11e2c7e63b84feedf2587c29c9c82390cecd6bdee6913745"), looks := true }, kinds := [], alts := [], laidByText := true, laidKinds := [.data], laidTests := true, laidLooks := .later }
def FnExactCmpTextUptoCardSaid : Prop := Claim7.holds Tryd.pinned (.plain (OpenSpec.upto fnExactCmpTextSpec)) fnExactCmpTextUptoCard

/-- THE SECOND FORM's CARD OF 'laws.FnExactCmpFlip'. -/
def fnExactCmpFlipUptoCard : Claim7 := { stood := { row := fnExactCmpFlipUptoRow, standIns := [], harness := (true, "4c058a944aaa813f11e2c7e63b84feedf2587c29c9c82390cecd6bdee6913745"), looks := true }, kinds := [], alts := [], laidByText := true, laidKinds := [.data], laidTests := true, laidLooks := .later }
def FnExactCmpFlipUptoCardSaid : Prop := Claim7.holds Tryd.pinned (.plain (OpenSpec.upto fnExactCmpFlipSpec)) fnExactCmpFlipUptoCard

/-- THE SECOND FORM's CARD OF 'laws.FnExactCmpSwap'. -/
def fnExactCmpSwapUptoCard : Claim7 := { stood := { row := fnExactCmpSwapUptoRow, standIns := [], harness := (true, "4c058a944aaa813f11e2c7e63b84feedf2587c29c9c82390cecd6bdee6913745"), looks := true }, kinds := [], alts := [], laidByText := true, laidKinds := [.data], laidTests := true, laidLooks := .later }
def FnExactCmpSwapUptoCardSaid : Prop := Claim7.holds Tryd.pinned (.plain (OpenSpec.upto fnExactCmpSwapSpec)) fnExactCmpSwapUptoCard

/-- THE SECOND FORM's CARD OF 'laws.FnExactRealArg'. -/
def fnExactRealArgUptoCard : Claim7 := { stood := { row := fnExactRealArgUptoRow, standIns := [], harness := (true, "4c058a944aaa813f11e2c7e63b84feedf2587c29c9c82390cecd6bdee6913745"), looks := true }, kinds := [], alts := [], laidByText := true, laidKinds := [.data], laidTests := true, laidLooks := .later }
def FnExactRealArgUptoCardSaid : Prop := Claim7.holds Tryd.pinned (.plain (OpenSpec.upto fnExactRealArgSpec)) fnExactRealArgUptoCard

/-- THE SECOND FORM's CARD OF 'laws.FnExactRealText'. -/
def fnExactRealTextUptoCard : Claim7 := { stood := { row := fnExactRealTextUptoRow, standIns := [], harness := (true, "4c058a944aaa813f11e2c7e63b84feedf2587c29c9c82390cecd6bdee6913745"), looks := true }, kinds := [], alts := [], laidByText := true, laidKinds := [.data, .data, .data], laidTests := true, laidLooks := .later }
def FnExactRealTextUptoCardSaid : Prop := Claim7.holds Tryd.pinned (.plain (OpenSpec.upto fnExactRealTextSpec)) fnExactRealTextUptoCard

/-- THE SECOND FORM's CARD OF 'laws.FnExactRealRead'. -/
def fnExactRealReadUptoCard : Claim7 := { stood := { row := fnExactRealReadUptoRow, standIns := [], harness := (true, "4c058a944aaa813f11e2c7e63b84feedf2587c29c9c82390cecd6bdee6913745"), looks := true }, kinds := [], alts := [], laidByText := true, laidKinds := [.data, .data, .data, .sentinel, .sentinel], laidTests := true, laidLooks := .later }
def FnExactRealReadUptoCardSaid : Prop := Claim7.holds Tryd.pinned (.plain (OpenSpec.upto fnExactRealReadSpec)) fnExactRealReadUptoCard
end Rows
end Go.Proofs.YtpjpjndichpfaaaDoor
