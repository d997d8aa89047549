/-
  DERIVED. GIVEN WITH THE SEED: THE CARDS: each row of YtcihplachlokiaaDoorRows.lean that lists a variable, with what it lists TIED to the program's text (the seventh form; the later family's looks); each row that meets fmt, with fmt's text TOLD by the authors' own Lean function (tested against real Go, not proved from fmt's source: count such statements apart). THE CARD IS WHAT COUNTS. Prove the row's statement (the work); the ties are given (YtcihplachlokiaaDoorTie.lean); close each card by the builder's one call (the guide's Derived/Test/ToyasCard.lean, 'card_holds'). Laid BY PROGRAM, IN A SANDBOX (cutbox-door.mjs). By AI agents, Wed Nov 11 2026. No macro, syntax, notation, axiom, sorry.
-/
import Derived.Test.YtcihplachlokiaaDoorRows
import GoSem.ClaimSeven
namespace Go.Proofs.YtcihplachlokiaaDoor
namespace Rows

/-- THE TIED CARD OF 'laws.FnPicOne'. -/
def fnPicOneCard : Claim7 := { stood := { row := fnPicOneRow, standIns := [], harness := (true, "ddad3005a6c0050652faace7dc73bfd5ce8fad95b4e479b5ee203f8cfbd370ee"), looks := true }, kinds := [], alts := [], laidByText := true, laidKinds := [.data], laidTests := true, laidLooks := .later }
def FnPicOneCardSaid : Prop := Claim7.holds Tryd.pinned (.plain (OpenSpec.ofChange fnPicOneSpec)) fnPicOneCard

/-- THE TIED CARD OF 'laws.FnExactPicMake'. -/
def fnExactPicMakeCard : Claim7 := { stood := { row := fnExactPicMakeRow, standIns := [], harness := (true, "ddad3005a6c0050652faace7dc73bfd5ce8fad95b4e479b5ee203f8cfbd370ee"), looks := true }, kinds := [], alts := [], laidByText := true, laidKinds := [.data], laidTests := true, laidLooks := .later }
def FnExactPicMakeCardSaid : Prop := Claim7.holds Tryd.pinned (.plain (OpenSpec.ofChange fnExactPicMakeSpec)) fnExactPicMakeCard

/-- THE TIED CARD OF 'laws.FnExactPicRead'. -/
def fnExactPicReadCard : Claim7 := { stood := { row := fnExactPicReadRow, standIns := [], harness := (true, "ddad3005a6c0050652faace7dc73bfd5ce8fad95b4e479b5ee203f8cfbd370ee"), looks := true }, kinds := [], alts := [], laidByText := true, laidKinds := [.data], laidTests := true, laidLooks := .later }
def FnExactPicReadCardSaid : Prop := Claim7.holds Tryd.pinned (.plain (OpenSpec.ofChange fnExactPicReadSpec)) fnExactPicReadCard

/-- THE SECOND FORM's CARD OF 'laws.FnPicOne'. -/
def fnPicOneUptoCard : Claim7 := { stood := { row := fnPicOneUptoRow, standIns := [], harness := (true, "ddad3005a6c0050652faace7dc73bfd5ce8fad95b4e479b5ee203f8cfbd370ee"), looks := true }, kinds := [], alts := [], laidByText := true, laidKinds := [.data], laidTests := true, laidLooks := .later }
def FnPicOneUptoCardSaid : Prop := Claim7.holds Tryd.pinned (.plain (OpenSpec.upto fnPicOneSpec)) fnPicOneUptoCard

/-- THE SECOND FORM's CARD OF 'laws.FnExactPicMake'. -/
def fnExactPicMakeUptoCard : Claim7 := { stood := { row := fnExactPicMakeUptoRow, standIns := [], harness := (true, "ddad3005a6c0050652faace7dc73bfd5ce8fad95b4e479b5ee203f8cfbd370ee"), looks := true }, kinds := [], alts := [], laidByText := true, laidKinds := [.data], laidTests := true, laidLooks := .later }
def FnExactPicMakeUptoCardSaid : Prop := Claim7.holds Tryd.pinned (.plain (OpenSpec.upto fnExactPicMakeSpec)) fnExactPicMakeUptoCard

/-- THE SECOND FORM's CARD OF 'laws.FnExactPicRead'. -/
def fnExactPicReadUptoCard : Claim7 := { stood := { row := fnExactPicReadUptoRow, standIns := [], harness := (true, "ddad3005a6c0050652faace7dc73bfd5ce8fad95b4e479b5ee203f8cfbd370ee"), looks := true }, kinds := [], alts := [], laidByText := true, laidKinds := [.data], laidTests := true, laidLooks := .later }
def FnExactPicReadUptoCardSaid : Prop := Claim7.holds Tryd.pinned (.plain (OpenSpec.upto fnExactPicReadSpec)) fnExactPicReadUptoCard
end Rows
end Go.Proofs.YtcihplachlokiaaDoor
