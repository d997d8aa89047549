/-
  DERIVED. GIVEN WITH THE SEED: THE CARDS: each row of YtllmabgollkigaaGreatDoorRows.lean that lists a variable, with what it lists TIED to the program's text (the seventh form; the later family's looks); each row that meets fmt, with fmt's text TOLD by the authors' own Lean function (tested against real Go, not proved from fmt's source: count such statements apart). THE CARD IS WHAT COUNTS. Prove the row's statement (the work); the ties are given (YtllmabgollkigaaGreatDoorTie.lean); close each card by the builder's one call (the guide's Derived/Test/ToyasCard.lean, 'card_holds'). Laid BY PROGRAM, IN A SANDBOX (cutbox-door.mjs). By AI agents, Wed Nov 11 2026. No macro, syntax, notation, axiom, sorry.
-/
import Derived.Test.YtllmabgollkigaaGreatDoorRows
import GoSem.ClaimSeven
namespace Go.Proofs.YtllmabgollkigaaGreatDoor
namespace Rows

/-- THE TIED CARD OF 'laws.FnTextBack'. -/
def fnTextBackCard : Claim7 := { stood := { row := fnTextBackRow, standIns := [], harness := (true, "973d7a88ab37083bb7a80113b36704775d8a9da0f39472cc67cd6f2ee457d48e"), looks := true }, kinds := [], alts := [], laidByText := true, laidKinds := [.data, .data, .data, .data, .handle, .data, .data, .pinned], laidTests := true, laidLooks := .later }
def FnTextBackCardSaid : Prop := Claim7.holds Tryz.pinned (.plain (OpenSpec.ofChange fnTextBackSpec)) fnTextBackCard

/-- THE TIED CARD OF 'laws.FnTextRead'. -/
def fnTextReadCard : Claim7 := { stood := { row := fnTextReadRow, standIns := [], harness := (true, "973d7a88ab37083bb7a80113b36704775d8a9da0f39472cc67cd6f2ee457d48e"), looks := true }, kinds := [], alts := [], laidByText := true, laidKinds := [.data, .data, .data, .data, .handle, .data, .data, .pinned], laidTests := true, laidLooks := .later }
def FnTextReadCardSaid : Prop := Claim7.holds Tryz.pinned (.plain (OpenSpec.ofChange fnTextReadSpec)) fnTextReadCard

/-- THE TIED CARD OF 'laws.FnTextLines'. -/
def fnTextLinesCard : Claim7 := { stood := { row := fnTextLinesRow, standIns := [], harness := (true, "973d7a88ab37083bb7a80113b36704775d8a9da0f39472cc67cd6f2ee457d48e"), looks := true }, kinds := [], alts := [], laidByText := true, laidKinds := [.data, .data, .data, .data, .handle, .data, .data, .pinned], laidTests := true, laidLooks := .later }
def FnTextLinesCardSaid : Prop := Claim7.holds Tryz.pinned (.plain (OpenSpec.ofChange fnTextLinesSpec)) fnTextLinesCard

/-- THE TIED CARD OF 'laws.FnExactTextRead'. -/
def fnExactTextReadCard : Claim7 := { stood := { row := fnExactTextReadRow, standIns := [], harness := (true, "973d7a88ab37083bb7a80113b36704775d8a9da0f39472cc67cd6f2ee457d48e"), looks := true }, kinds := [], alts := [], laidByText := true, laidKinds := [.data, .data, .data, .data, .handle, .data, .data, .pinned], laidTests := true, laidLooks := .later }
def FnExactTextReadCardSaid : Prop := Claim7.holds Tryz.pinned (.plain (OpenSpec.ofChange fnExactTextReadSpec)) fnExactTextReadCard

/-- THE SECOND FORM's CARD OF 'laws.FnTextBack'. -/
def fnTextBackUptoCard : Claim7 := { stood := { row := fnTextBackUptoRow, standIns := [], harness := (true, "973d7a88ab37083bb7a80113b36704775d8a9da0f39472cc67cd6f2ee457d48e"), looks := true }, kinds := [], alts := [], laidByText := true, laidKinds := [.data, .data, .data, .data, .handle, .data, .data, .pinned], laidTests := true, laidLooks := .later }
def FnTextBackUptoCardSaid : Prop := Claim7.holds Tryz.pinned (.plain (OpenSpec.upto fnTextBackSpec)) fnTextBackUptoCard

/-- THE SECOND FORM's CARD OF 'laws.FnTextRead'. -/
def fnTextReadUptoCard : Claim7 := { stood := { row := fnTextReadUptoRow, standIns := [], harness := (true, "973d7a88ab37083bb7a80113b36704775d8a9da0f39472cc67cd6f2ee457d48e"), looks := true }, kinds := [], alts := [], laidByText := true, laidKinds := [.data, .data, .data, .data, .handle, .data, .data, .pinned], laidTests := true, laidLooks := .later }
def FnTextReadUptoCardSaid : Prop := Claim7.holds Tryz.pinned (.plain (OpenSpec.upto fnTextReadSpec)) fnTextReadUptoCard

/-- THE SECOND FORM's CARD OF 'laws.FnTextLines'. -/
def fnTextLinesUptoCard : Claim7 := { stood := { row := fnTextLinesUptoRow, standIns := [], harness := (true, "973d7a88ab37083bb7a80113b36704775d8a9da0f39472cc67cd6f2ee457d48e"), looks := true }, kinds := [], alts := [], laidByText := true, laidKinds := [.data, .data, .data, .data, .handle, .data, .data, .pinned], laidTests := true, laidLooks := .later }
def FnTextLinesUptoCardSaid : Prop := Claim7.holds Tryz.pinned (.plain (OpenSpec.upto fnTextLinesSpec)) fnTextLinesUptoCard

/-- THE SECOND FORM's CARD OF 'laws.FnExactTextRead'. -/
def fnExactTextReadUptoCard : Claim7 := { stood := { row := fnExactTextReadUptoRow, standIns := [], harness := (true, "973d7a88ab37083bb7a80113b36704775d8a9da0f39472cc67cd6f2ee457d48e"), looks := true }, kinds := [], alts := [], laidByText := true, laidKinds := [.data, .data, .data, .data, .handle, .data, .data, .pinned], laidTests := true, laidLooks := .later }
def FnExactTextReadUptoCardSaid : Prop := Claim7.holds Tryz.pinned (.plain (OpenSpec.upto fnExactTextReadSpec)) fnExactTextReadUptoCard
end Rows
end Go.Proofs.YtllmabgollkigaaGreatDoor
