/-
  DERIVED. GIVEN WITH THE SEED: THE CARDS: each row of YtcmmiamnbefefaaDoorRows.lean that lists a variable, with what it lists TIED to the program's text (the seventh form; the later family's looks); each row that meets fmt, with fmt's text TOLD by the authors' own Lean function (tested against real Go, not proved from fmt's source: count such statements apart). THE CARD IS WHAT COUNTS. Prove the row's statement (the work); the ties are given (YtcmmiamnbefefaaDoorTie.lean); close each card by the builder's one call (the guide's Derived/Test/ToyasCard.lean, 'card_holds'). Laid BY PROGRAM, IN A SANDBOX (cutbox-door.mjs). By AI agents, Wed Nov 11 2026. No macro, syntax, notation, axiom, sorry.
-/
import Derived.Test.YtcmmiamnbefefaaDoorRows
import GoSem.ClaimSeven
namespace Go.Proofs.YtcmmiamnbefefaaDoor
namespace Rows

/-- THE TIED CARD OF 'laws.FnSureTop'. -/
def fnSureTopCard : Claim7 := { stood := { row := fnSureTopRow, standIns := [], harness := (true, "1ed5134cba296ddc865c214ba66b39e089862d057795c0717191db344e922756"), looks := true }, kinds := [], alts := [], laidByText := true, laidKinds := [.data, .data], laidTests := true, laidLooks := .later }
def FnSureTopCardSaid : Prop := Claim7.holds Tryd.pinned (.plain (OpenSpec.ofChange fnSureTopSpec)) fnSureTopCard

/-- THE TIED CARD OF 'laws.FnSureFirst'. -/
def fnSureFirstCard : Claim7 := { stood := { row := fnSureFirstRow, standIns := [], harness := (true, "1ed5134cba296ddc865c214ba66b39e089862d057795c0717191db344e922756"), looks := true }, kinds := [], alts := [], laidByText := true, laidKinds := [.data, .data], laidTests := true, laidLooks := .later }
def FnSureFirstCardSaid : Prop := Claim7.holds Tryd.pinned (.plain (OpenSpec.ofChange fnSureFirstSpec)) fnSureFirstCard

/-- THE TIED CARD OF 'laws.FnExactSureCheck'. -/
def fnExactSureCheckCard : Claim7 := { stood := { row := fnExactSureCheckRow, standIns := [], harness := (true, "1ed5134cba296ddc865c214ba66b39e089862d057795c0717191db344e922756"), looks := true }, kinds := [], alts := [], laidByText := true, laidKinds := [.data, .data], laidTests := true, laidLooks := .later }
def FnExactSureCheckCardSaid : Prop := Claim7.holds Tryd.pinned (.plain (OpenSpec.ofChange fnExactSureCheckSpec)) fnExactSureCheckCard

/-- THE TIED CARD OF 'laws.FnExactSureRungs'. -/
def fnExactSureRungsCard : Claim7 := { stood := { row := fnExactSureRungsRow, standIns := [], harness := (true, "1ed5134cba296ddc865c214ba66b39e089862d057795c0717191db344e922756"), looks := true }, kinds := [], alts := [], laidByText := true, laidKinds := [.data, .data], laidTests := true, laidLooks := .later }
def FnExactSureRungsCardSaid : Prop := Claim7.holds Tryd.pinned (.plain (OpenSpec.ofChange fnExactSureRungsSpec)) fnExactSureRungsCard

/-- THE SECOND FORM's CARD OF 'laws.FnSureTop'. -/
def fnSureTopUptoCard : Claim7 := { stood := { row := fnSureTopUptoRow, standIns := [], harness := (true, "1ed5134cba296ddc865c214ba66b39e089862d057795c0717191db344e922756"), looks := true }, kinds := [], alts := [], laidByText := true, laidKinds := [.data, .data], laidTests := true, laidLooks := .later }
def FnSureTopUptoCardSaid : Prop := Claim7.holds Tryd.pinned (.plain (OpenSpec.upto fnSureTopSpec)) fnSureTopUptoCard

/-- THE SECOND FORM's CARD OF 'laws.FnSureFirst'. -/
def fnSureFirstUptoCard : Claim7 := { stood := { row := fnSureFirstUptoRow, standIns := [], harness := (true, "1ed5134cba296ddc865c214ba66b39e089862d057795c0717191db344e922756"), looks := true }, kinds := [], alts := [], laidByText := true, laidKinds := [.data, .data], laidTests := true, laidLooks := .later }
def FnSureFirstUptoCardSaid : Prop := Claim7.holds Tryd.pinned (.plain (OpenSpec.upto fnSureFirstSpec)) fnSureFirstUptoCard

/-- THE SECOND FORM's CARD OF 'laws.FnExactSureCheck'. -/
def fnExactSureCheckUptoCard : Claim7 := { stood := { row := fnExactSureCheckUptoRow, standIns := [], harness := (true, "1ed5134cba296ddc865c214ba66b39e089862d057795c0717191db344e922756"), looks := true }, kinds := [], alts := [], laidByText := true, laidKinds := [.data, .data], laidTests := true, laidLooks := .later }
def FnExactSureCheckUptoCardSaid : Prop := Claim7.holds Tryd.pinned (.plain (OpenSpec.upto fnExactSureCheckSpec)) fnExactSureCheckUptoCard

/-- THE SECOND FORM's CARD OF 'laws.FnExactSureRungs'. -/
def fnExactSureRungsUptoCard : Claim7 := { stood := { row := fnExactSureRungsUptoRow, standIns := [], harness := (true, "1ed5134cba296ddc865c214ba66b39e089862d057795c0717191db344e922756"), looks := true }, kinds := [], alts := [], laidByText := true, laidKinds := [.data, .data], laidTests := true, laidLooks := .later }
def FnExactSureRungsUptoCardSaid : Prop := Claim7.holds Tryd.pinned (.plain (OpenSpec.upto fnExactSureRungsSpec)) fnExactSureRungsUptoCard
end Rows
end Go.Proofs.YtcmmiamnbefefaaDoor
