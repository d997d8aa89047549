/-
  DERIVED. GIVEN WITH THE SEED: THE CARDS: each row of YtidfjinmaiechaaDoorRows.lean that lists a variable, with what it lists TIED to the program's text (the seventh form; the later family's looks); each row that meets fmt, with fmt's text TOLD by the authors' own Lean function (tested against real Go, not proved from fmt's source: count such statements apart). THE CARD IS WHAT COUNTS. Prove the row's statement (the work); the ties are given (YtidfjinmaiechaaDoorTie.lean); close each card by the builder's one call (the guide's Derived/Test/ToyasCard.lean, 'card_holds'). Laid BY PROGRAM, IN A SANDBOX (cutbox-door.mjs). By AI agents, Wed Nov 11 2026. No macro, syntax, notation, axiom, sorry.
-/
import Derived.Test.YtidfjinmaiechaaDoorRows
import GoSem.ClaimSeven
namespace Go.Proofs.YtidfjinmaiechaaDoor
namespace Rows

/-- THE TIED CARD OF 'laws.FnExactListWord'. -/
def fnExactListWordCard : Claim7 := { stood := { row := fnExactListWordRow, standIns := [], harness := (true, "b275d0974d90687ed3beb0a3ec7fe75321d488fd09896b7c771cf1ddb97cff72"), looks := false }, kinds := [], alts := [], laidByText := true, laidKinds := [.data], laidTests := true, laidLooks := .later }
def FnExactListWordCardSaid : Prop := Claim7.holds Tryd.pinned (.plain (OpenSpec.ofChange fnExactListWordSpec)) fnExactListWordCard

/-- THE TIED CARD OF 'laws.FnExactListOk'. -/
def fnExactListOkCard : Claim7 := { stood := { row := fnExactListOkRow, standIns := [], harness := (true, "b275d0974d90687ed3beb0a3ec7fe75321d488fd09896b7c771cf1ddb97cff72"), looks := false }, kinds := [], alts := [], laidByText := true, laidKinds := [.data, .data], laidTests := true, laidLooks := .later }
def FnExactListOkCardSaid : Prop := Claim7.holds Tryd.pinned (.plain (OpenSpec.ofChange fnExactListOkSpec)) fnExactListOkCard

/-- THE TIED CARD OF 'laws.FnExactListLine'. -/
def fnExactListLineCard : Claim7 := { stood := { row := fnExactListLineRow, standIns := [], harness := (true, "b275d0974d90687ed3beb0a3ec7fe75321d488fd09896b7c771cf1ddb97cff72"), looks := false }, kinds := [], alts := [], laidByText := true, laidKinds := [.data, .data, .data, .data, .data, .data], laidTests := true, laidLooks := .later }
def FnExactListLineCardSaid : Prop := Claim7.holds Tryd.pinned (.plain (OpenSpec.ofChange fnExactListLineSpec)) fnExactListLineCard

/-- THE SECOND FORM's CARD OF 'laws.FnExactListWord'. -/
def fnExactListWordUptoCard : Claim7 := { stood := { row := fnExactListWordUptoRow, standIns := [], harness := (true, "b275d0974d90687ed3beb0a3ec7fe75321d488fd09896b7c771cf1ddb97cff72"), looks := false }, kinds := [], alts := [], laidByText := true, laidKinds := [.data], laidTests := true, laidLooks := .later }
def FnExactListWordUptoCardSaid : Prop := Claim7.holds Tryd.pinned (.plain (OpenSpec.upto fnExactListWordSpec)) fnExactListWordUptoCard

/-- THE SECOND FORM's CARD OF 'laws.FnExactListOk'. -/
def fnExactListOkUptoCard : Claim7 := { stood := { row := fnExactListOkUptoRow, standIns := [], harness := (true, "b275d0974d90687ed3beb0a3ec7fe75321d488fd09896b7c771cf1ddb97cff72"), looks := false }, kinds := [], alts := [], laidByText := true, laidKinds := [.data, .data], laidTests := true, laidLooks := .later }
def FnExactListOkUptoCardSaid : Prop := Claim7.holds Tryd.pinned (.plain (OpenSpec.upto fnExactListOkSpec)) fnExactListOkUptoCard

/-- THE SECOND FORM's CARD OF 'laws.FnExactListLine'. -/
def fnExactListLineUptoCard : Claim7 := { stood := { row := fnExactListLineUptoRow, standIns := [], harness := (true, "b275d0974d90687ed3beb0a3ec7fe75321d488fd09896b7c771cf1ddb97cff72"), looks := false }, kinds := [], alts := [], laidByText := true, laidKinds := [.data, .data, .data, .data, .data, .data], laidTests := true, laidLooks := .later }
def FnExactListLineUptoCardSaid : Prop := Claim7.holds Tryd.pinned (.plain (OpenSpec.upto fnExactListLineSpec)) fnExactListLineUptoCard
end Rows
end Go.Proofs.YtidfjinmaiechaaDoor
