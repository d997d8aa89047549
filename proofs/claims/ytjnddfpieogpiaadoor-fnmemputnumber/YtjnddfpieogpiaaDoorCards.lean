/-
  DERIVED. GIVEN WITH THE SEED: THE CARDS: each row of YtjnddfpieogpiaaDoorRows.lean that lists a variable, with what it lists TIED to the program's text (the seventh form; the later family's looks); each row that meets fmt, with fmt's text TOLD by the authors' own Lean function (tested against real Go, not proved from fmt's source: count such statements apart). THE CARD IS WHAT COUNTS. Prove the row's statement (the work); the ties are given (YtjnddfpieogpiaaDoorTie.lean); close each card by the builder's one call (the guide's Derived/Test/ToyasCard.lean, 'card_holds'). Laid BY PROGRAM, IN A SANDBOX (cutbox-door.mjs). By AI agents, Wed Nov 11 2026. No macro, syntax, notation, axiom, sorry.
-/
import Derived.Test.YtjnddfpieogpiaaDoorRows
import GoSem.ClaimSeven
namespace Go.Proofs.YtjnddfpieogpiaaDoor
namespace Rows

/-- THE TIED CARD OF 'laws.FnMemPutNumber'. -/
def fnMemPutNumberCard : Claim7 := { stood := { row := fnMemPutNumberRow, standIns := [], harness := (true, "58806ffb553f4c690d90f4a94d3b2734da7f1fbe0a7d2620a584d28f44d116c2"), looks := false }, kinds := [], alts := [], laidByText := true, laidKinds := [.data], laidTests := true, laidLooks := .later }
def FnMemPutNumberCardSaid : Prop := Claim7.holds Tryd.pinned (.plain (OpenSpec.ofChange fnMemPutNumberSpec)) fnMemPutNumberCard

/-- THE SECOND FORM's CARD OF 'laws.FnMemPutNumber'. -/
def fnMemPutNumberUptoCard : Claim7 := { stood := { row := fnMemPutNumberUptoRow, standIns := [], harness := (true, "58806ffb553f4c690d90f4a94d3b2734da7f1fbe0a7d2620a584d28f44d116c2"), looks := false }, kinds := [], alts := [], laidByText := true, laidKinds := [.data], laidTests := true, laidLooks := .later }
def FnMemPutNumberUptoCardSaid : Prop := Claim7.holds Tryd.pinned (.plain (OpenSpec.upto fnMemPutNumberSpec)) fnMemPutNumberUptoCard
end Rows
end Go.Proofs.YtjnddfpieogpiaaDoor
