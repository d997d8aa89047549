/-
  DERIVED. GIVEN WITH THE SEED: THE CARDS: each row of YtlpoplnghfohmaaDoorRows.lean that lists a variable, with what it lists TIED to the program's text (the seventh form; the later family's looks); each row that meets fmt, with fmt's text TOLD by the authors' own Lean function (tested against real Go, not proved from fmt's source: count such statements apart). THE CARD IS WHAT COUNTS. Prove the row's statement (the work); the ties are given (YtlpoplnghfohmaaDoorTie.lean); close each card by the builder's one call (the guide's Derived/Test/ToyasCard.lean, 'card_holds'). Laid BY PROGRAM, IN A SANDBOX (cutbox-door.mjs). By AI agents, Wed Nov 11 2026. No macro, syntax, notation, axiom, sorry.
-/
import Derived.Test.YtlpoplnghfohmaaDoorRows
import GoSem.ClaimSeven
namespace Go.Proofs.YtlpoplnghfohmaaDoor
namespace Rows

/-- THE TIED CARD OF 'laws.FnMemPut'. -/
def fnMemPutCard : Claim7 := { stood := { row := fnMemPutRow, standIns := [], harness := (true, "26b1fb4fd429c1f07deee7b8ce9c727a71fb93b6fc3a3c7ca2f47cb811309ab8"), looks := false }, kinds := [], alts := [], laidByText := true, laidKinds := [.data], laidTests := true, laidLooks := .later }
def FnMemPutCardSaid : Prop := Claim7.holds Tryd.pinned (.plain (OpenSpec.ofChange fnMemPutSpec)) fnMemPutCard

/-- THE TIED CARD OF 'laws.FnMemRound'. -/
def fnMemRoundCard : Claim7 := { stood := { row := fnMemRoundRow, standIns := [], harness := (true, "26b1fb4fd429c1f07deee7b8ce9c727a71fb93b6fc3a3c7ca2f47cb811309ab8"), looks := false }, kinds := [], alts := [], laidByText := true, laidKinds := [.data], laidTests := true, laidLooks := .later }
def FnMemRoundCardSaid : Prop := Claim7.holds Tryd.pinned (.plain (OpenSpec.ofChange fnMemRoundSpec)) fnMemRoundCard

/-- THE TIED CARD OF 'laws.FnActEdge'. -/
def fnActEdgeCard : Claim7 := { stood := { row := fnActEdgeRow, standIns := [], harness := (true, "26b1fb4fd429c1f07deee7b8ce9c727a71fb93b6fc3a3c7ca2f47cb811309ab8"), looks := false }, kinds := [], alts := [], laidByText := true, laidKinds := [.data], laidTests := true, laidLooks := .later }
def FnActEdgeCardSaid : Prop := Claim7.holds Tryd.pinned (.plain (OpenSpec.ofChange fnActEdgeSpec)) fnActEdgeCard

/-- THE TIED CARD OF 'laws.FnActStep'. -/
def fnActStepCard : Claim7 := { stood := { row := fnActStepRow, standIns := [], harness := (true, "26b1fb4fd429c1f07deee7b8ce9c727a71fb93b6fc3a3c7ca2f47cb811309ab8"), looks := false }, kinds := [], alts := [], laidByText := true, laidKinds := [.data], laidTests := true, laidLooks := .later }
def FnActStepCardSaid : Prop := Claim7.holds Tryd.pinned (.plain (OpenSpec.ofChange fnActStepSpec)) fnActStepCard

/-- THE SECOND FORM's CARD OF 'laws.FnMemPut'. -/
def fnMemPutUptoCard : Claim7 := { stood := { row := fnMemPutUptoRow, standIns := [], harness := (true, "26b1fb4fd429c1f07deee7b8ce9c727a71fb93b6fc3a3c7ca2f47cb811309ab8"), looks := false }, kinds := [], alts := [], laidByText := true, laidKinds := [.data], laidTests := true, laidLooks := .later }
def FnMemPutUptoCardSaid : Prop := Claim7.holds Tryd.pinned (.plain (OpenSpec.upto fnMemPutSpec)) fnMemPutUptoCard

/-- THE SECOND FORM's CARD OF 'laws.FnMemRound'. -/
def fnMemRoundUptoCard : Claim7 := { stood := { row := fnMemRoundUptoRow, standIns := [], harness := (true, "26b1fb4fd429c1f07deee7b8ce9c727a71fb93b6fc3a3c7ca2f47cb811309ab8"), looks := false }, kinds := [], alts := [], laidByText := true, laidKinds := [.data], laidTests := true, laidLooks := .later }
def FnMemRoundUptoCardSaid : Prop := Claim7.holds Tryd.pinned (.plain (OpenSpec.upto fnMemRoundSpec)) fnMemRoundUptoCard

/-- THE SECOND FORM's CARD OF 'laws.FnActEdge'. -/
def fnActEdgeUptoCard : Claim7 := { stood := { row := fnActEdgeUptoRow, standIns := [], harness := (true, "26b1fb4fd429c1f07deee7b8ce9c727a71fb93b6fc3a3c7ca2f47cb811309ab8"), looks := false }, kinds := [], alts := [], laidByText := true, laidKinds := [.data], laidTests := true, laidLooks := .later }
def FnActEdgeUptoCardSaid : Prop := Claim7.holds Tryd.pinned (.plain (OpenSpec.upto fnActEdgeSpec)) fnActEdgeUptoCard

/-- THE SECOND FORM's CARD OF 'laws.FnActStep'. -/
def fnActStepUptoCard : Claim7 := { stood := { row := fnActStepUptoRow, standIns := [], harness := (true, "26b1fb4fd429c1f07deee7b8ce9c727a71fb93b6fc3a3c7ca2f47cb811309ab8"), looks := false }, kinds := [], alts := [], laidByText := true, laidKinds := [.data], laidTests := true, laidLooks := .later }
def FnActStepUptoCardSaid : Prop := Claim7.holds Tryd.pinned (.plain (OpenSpec.upto fnActStepSpec)) fnActStepUptoCard
end Rows
end Go.Proofs.YtlpoplnghfohmaaDoor
