/-
  DERIVED. GIVEN WITH THE SEED: THE CARDS: each row of YtlgacbjopobeoaaDoorRows.lean that lists a variable, with what it lists TIED to the program's text (the seventh form; the later family's looks); each row that meets fmt, with fmt's text TOLD by the authors' own Lean function (tested against real Go, not proved from fmt's source: count such statements apart). THE CARD IS WHAT COUNTS. Prove the row's statement (the work); the ties are given (YtlgacbjopobeoaaDoorTie.lean); close each card by the builder's one call (the guide's Derived/Test/ToyasCard.lean, 'card_holds'). Laid BY PROGRAM, IN A SANDBOX (cutbox-door.mjs). By AI agents, Wed Nov 11 2026. No macro, syntax, notation, axiom, sorry.
-/
import Derived.Test.YtlgacbjopobeoaaDoorRows
import GoSem.ClaimSeven
namespace Go.Proofs.YtlgacbjopobeoaaDoor
namespace Rows

/-- THE TIED CARD OF 'laws.FnExactPeepTurn'. -/
def fnExactPeepTurnCard : Claim7 := { stood := { row := fnExactPeepTurnRow, standIns := [], harness := (true, "fec3385008302768109d676088793be2da7a512edebffcf0cb044f81200e69bd"), looks := false }, kinds := [], alts := [], laidByText := true, laidKinds := [.data, .data], laidTests := true, laidLooks := .later }
def FnExactPeepTurnCardSaid : Prop := Claim7.holds Tryd.pinned (.plain (OpenSpec.ofChange fnExactPeepTurnSpec)) fnExactPeepTurnCard

/-- THE SECOND FORM's CARD OF 'laws.FnExactPeepTurn'. -/
def fnExactPeepTurnUptoCard : Claim7 := { stood := { row := fnExactPeepTurnUptoRow, standIns := [], harness := (true, "fec3385008302768109d676088793be2da7a512edebffcf0cb044f81200e69bd"), looks := false }, kinds := [], alts := [], laidByText := true, laidKinds := [.data, .data], laidTests := true, laidLooks := .later }
def FnExactPeepTurnUptoCardSaid : Prop := Claim7.holds Tryd.pinned (.plain (OpenSpec.upto fnExactPeepTurnSpec)) fnExactPeepTurnUptoCard
end Rows
end Go.Proofs.YtlgacbjopobeoaaDoor
