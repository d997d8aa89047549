/-
  DERIVED. GIVEN WITH THE SEED: THE CARDS: each row of YtkppcmpdghnmgaaDoorRows.lean that lists a variable, with what it lists TIED to the program's text (the seventh form; the later family's looks); each row that meets fmt, with fmt's text TOLD by the authors' own Lean function (tested against real Go, not proved from fmt's source: count such statements apart). THE CARD IS WHAT COUNTS. Prove the row's statement (the work); the ties are given (YtkppcmpdghnmgaaDoorTie.lean); close each card by the builder's one call (the guide's Derived/Test/ToyasCard.lean, 'card_holds'). Laid BY PROGRAM, IN A SANDBOX (cutbox-door.mjs). By AI agents, Wed Nov 11 2026. No macro, syntax, notation, axiom, sorry.
-/
import Derived.Test.YtkppcmpdghnmgaaDoorRows
import GoSem.ClaimSeven
namespace Go.Proofs.YtkppcmpdghnmgaaDoor
namespace Rows

/-- THE TIED CARD OF 'laws.FnExactBackNet'. -/
def fnExactBackNetCard : Claim7 := { stood := { row := fnExactBackNetRow, standIns := [], harness := (true, "43a0dffc6f9cc255da512aaa0bdd6f564eae370f67b3e5c759b6f163d2e03de6"), looks := false }, kinds := [], alts := [], laidByText := true, laidKinds := [.data, .data], laidTests := true, laidLooks := .later }
def FnExactBackNetCardSaid : Prop := Claim7.holds Tryd.pinned (.plain (OpenSpec.ofChange fnExactBackNetSpec)) fnExactBackNetCard

/-- THE SECOND FORM's CARD OF 'laws.FnExactBackNet'. -/
def fnExactBackNetUptoCard : Claim7 := { stood := { row := fnExactBackNetUptoRow, standIns := [], harness := (true, "43a0dffc6f9cc255da512aaa0bdd6f564eae370f67b3e5c759b6f163d2e03de6"), looks := false }, kinds := [], alts := [], laidByText := true, laidKinds := [.data, .data], laidTests := true, laidLooks := .later }
def FnExactBackNetUptoCardSaid : Prop := Claim7.holds Tryd.pinned (.plain (OpenSpec.upto fnExactBackNetSpec)) fnExactBackNetUptoCard
end Rows
end Go.Proofs.YtkppcmpdghnmgaaDoor
