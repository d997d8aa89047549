/-
  DERIVED. GIVEN WITH THE SEED: THE CARDS: each row of YthjbgjfihfkpcaaDoorRows.lean that lists a variable, with what it lists TIED to the program's text (the seventh form; the later family's looks); each row that meets fmt, with fmt's text TOLD by the authors' own Lean function (tested against real Go, not proved from fmt's source: count such statements apart). THE CARD IS WHAT COUNTS. Prove the row's statement (the work); the ties are given (YthjbgjfihfkpcaaDoorTie.lean); close each card by the builder's one call (the guide's Derived/Test/ToyasCard.lean, 'card_holds'). Laid BY PROGRAM, IN A SANDBOX (cutbox-door.mjs). By AI agents, Wed Nov 11 2026. No macro, syntax, notation, axiom, sorry.
-/
import Derived.Test.YthjbgjfihfkpcaaDoorRows
import GoSem.ClaimSeven
namespace Go.Proofs.YthjbgjfihfkpcaaDoor
namespace Rows

/-- THE TIED CARD OF 'laws.FnSureJoin'. -/
def fnSureJoinCard : Claim7 := { stood := { row := fnSureJoinRow, standIns := [], harness := (true, "c27b59bd979f78b436e6eda0c051311b82c3f3677ce6c334bbb6a729fb56e4c9"), looks := true }, kinds := [], alts := [], laidByText := true, laidKinds := [.data, .data], laidTests := true, laidLooks := .later }
def FnSureJoinCardSaid : Prop := Claim7.holds Tryd.pinned (.plain (OpenSpec.ofChange fnSureJoinSpec)) fnSureJoinCard

/-- THE SECOND FORM's CARD OF 'laws.FnSureJoin'. -/
def fnSureJoinUptoCard : Claim7 := { stood := { row := fnSureJoinUptoRow, standIns := [], harness := (true, "c27b59bd979f78b436e6eda0c051311b82c3f3677ce6c334bbb6a729fb56e4c9"), looks := true }, kinds := [], alts := [], laidByText := true, laidKinds := [.data, .data], laidTests := true, laidLooks := .later }
def FnSureJoinUptoCardSaid : Prop := Claim7.holds Tryd.pinned (.plain (OpenSpec.upto fnSureJoinSpec)) fnSureJoinUptoCard
end Rows
end Go.Proofs.YthjbgjfihfkpcaaDoor
