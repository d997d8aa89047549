/-
  DERIVED. GIVEN WITH THE SEED: THE CARDS: each row of YtddjohelgeieiaaDoorRows.lean that lists a variable, with what it lists TIED to the program's text (the seventh form; the later family's looks); each row that meets fmt, with fmt's text TOLD by the authors' own Lean function (tested against real Go, not proved from fmt's source: count such statements apart). THE CARD IS WHAT COUNTS. Prove the row's statement (the work); the ties are given (YtddjohelgeieiaaDoorTie.lean); close each card by the builder's one call (the guide's Derived/Test/ToyasCard.lean, 'card_holds'). Laid BY PROGRAM, IN A SANDBOX (cutbox-door.mjs). By AI agents, Wed Nov 11 2026. No macro, syntax, notation, axiom, sorry.
-/
import Derived.Test.YtddjohelgeieiaaDoorRows
import GoSem.ClaimSeven
namespace Go.Proofs.YtddjohelgeieiaaDoor
namespace Rows

/-- THE TIED CARD OF 'laws.FnElemKinds'. -/
def fnElemKindsCard : Claim7 := { stood := { row := fnElemKindsRow, standIns := [], harness := (true, "1f04a2f16c20379b61af31e378d2eff5284287e6136eb0e2946b89fec9373b68"), looks := false }, kinds := [], alts := [], laidByText := true, laidKinds := [.data, .data, .data, .data, .data], laidTests := true, laidLooks := .later }
def FnElemKindsCardSaid : Prop := Claim7.holds Tryd.pinned (.plain (OpenSpec.ofChange fnElemKindsSpec)) fnElemKindsCard

/-- THE TIED CARD OF 'laws.FnExactElemArity'. -/
def fnExactElemArityCard : Claim7 := { stood := { row := fnExactElemArityRow, standIns := [], harness := (true, "1f04a2f16c20379b61af31e378d2eff5284287e6136eb0e2946b89fec9373b68"), looks := false }, kinds := [], alts := [], laidByText := true, laidKinds := [.data], laidTests := true, laidLooks := .later }
def FnExactElemArityCardSaid : Prop := Claim7.holds Tryd.pinned (.plain (OpenSpec.ofChange fnExactElemAritySpec)) fnExactElemArityCard

/-- THE TIED CARD OF 'laws.FnExactElemName'. -/
def fnExactElemNameCard : Claim7 := { stood := { row := fnExactElemNameRow, standIns := [], harness := (true, "1f04a2f16c20379b61af31e378d2eff5284287e6136eb0e2946b89fec9373b68"), looks := false }, kinds := [], alts := [], laidByText := true, laidKinds := [.data], laidTests := true, laidLooks := .later }
def FnExactElemNameCardSaid : Prop := Claim7.holds Tryd.pinned (.plain (OpenSpec.ofChange fnExactElemNameSpec)) fnExactElemNameCard

/-- THE TIED CARD OF 'laws.FnExactElemIsContact'. -/
def fnExactElemIsContactCard : Claim7 := { stood := { row := fnExactElemIsContactRow, standIns := [], harness := (true, "1f04a2f16c20379b61af31e378d2eff5284287e6136eb0e2946b89fec9373b68"), looks := false }, kinds := [], alts := [], laidByText := true, laidKinds := [.data], laidTests := true, laidLooks := .later }
def FnExactElemIsContactCardSaid : Prop := Claim7.holds Tryd.pinned (.plain (OpenSpec.ofChange fnExactElemIsContactSpec)) fnExactElemIsContactCard

/-- THE TIED CARD OF 'laws.FnExactElemIsCoil'. -/
def fnExactElemIsCoilCard : Claim7 := { stood := { row := fnExactElemIsCoilRow, standIns := [], harness := (true, "1f04a2f16c20379b61af31e378d2eff5284287e6136eb0e2946b89fec9373b68"), looks := false }, kinds := [], alts := [], laidByText := true, laidKinds := [.data], laidTests := true, laidLooks := .later }
def FnExactElemIsCoilCardSaid : Prop := Claim7.holds Tryd.pinned (.plain (OpenSpec.ofChange fnExactElemIsCoilSpec)) fnExactElemIsCoilCard

/-- THE TIED CARD OF 'laws.FnExactElemText'. -/
def fnExactElemTextCard : Claim7 := { stood := { row := fnExactElemTextRow, standIns := [], harness := (true, "1f04a2f16c20379b61af31e378d2eff5284287e6136eb0e2946b89fec9373b68"), looks := false }, kinds := [], alts := [], laidByText := true, laidKinds := [.data, .data, .data, .data, .data], laidTests := true, laidLooks := .later }
def FnExactElemTextCardSaid : Prop := Claim7.holds Tryd.pinned (.plain (OpenSpec.ofChange fnExactElemTextSpec)) fnExactElemTextCard

/-- THE SECOND FORM's CARD OF 'laws.FnElemKinds'. -/
def fnElemKindsUptoCard : Claim7 := { stood := { row := fnElemKindsUptoRow, standIns := [], harness := (true, "1f04a2f16c20379b61af31e378d2eff5284287e6136eb0e2946b89fec9373b68"), looks := false }, kinds := [], alts := [], laidByText := true, laidKinds := [.data, .data, .data, .data, .data], laidTests := true, laidLooks := .later }
def FnElemKindsUptoCardSaid : Prop := Claim7.holds Tryd.pinned (.plain (OpenSpec.upto fnElemKindsSpec)) fnElemKindsUptoCard

/-- THE SECOND FORM's CARD OF 'laws.FnExactElemArity'. -/
def fnExactElemArityUptoCard : Claim7 := { stood := { row := fnExactElemArityUptoRow, standIns := [], harness := (true, "1f04a2f16c20379b61af31e378d2eff5284287e6136eb0e2946b89fec9373b68"), looks := false }, kinds := [], alts := [], laidByText := true, laidKinds := [.data], laidTests := true, laidLooks := .later }
def FnExactElemArityUptoCardSaid : Prop := Claim7.holds Tryd.pinned (.plain (OpenSpec.upto fnExactElemAritySpec)) fnExactElemArityUptoCard

/-- THE SECOND FORM's CARD OF 'laws.FnExactElemName'. -/
def fnExactElemNameUptoCard : Claim7 := { stood := { row := fnExactElemNameUptoRow, standIns := [], harness := (true, "1f04a2f16c20379b61af31e378d2eff5284287e6136eb0e2946b89fec9373b68"), looks := false }, kinds := [], alts := [], laidByText := true, laidKinds := [.data], laidTests := true, laidLooks := .later }
def FnExactElemNameUptoCardSaid : Prop := Claim7.holds Tryd.pinned (.plain (OpenSpec.upto fnExactElemNameSpec)) fnExactElemNameUptoCard

/-- THE SECOND FORM's CARD OF 'laws.FnExactElemIsContact'. -/
def fnExactElemIsContactUptoCard : Claim7 := { stood := { row := fnExactElemIsContactUptoRow, standIns := [], harness := (true, "1f04a2f16c20379b61af31e378d2eff5284287e6136eb0e2946b89fec9373b68"), looks := false }, kinds := [], alts := [], laidByText := true, laidKinds := [.data], laidTests := true, laidLooks := .later }
def FnExactElemIsContactUptoCardSaid : Prop := Claim7.holds Tryd.pinned (.plain (OpenSpec.upto fnExactElemIsContactSpec)) fnExactElemIsContactUptoCard

/-- THE SECOND FORM's CARD OF 'laws.FnExactElemIsCoil'. -/
def fnExactElemIsCoilUptoCard : Claim7 := { stood := { row := fnExactElemIsCoilUptoRow, standIns := [], harness := (true, "1f04a2f16c20379b61af31e378d2eff5284287e6136eb0e2946b89fec9373b68"), looks := false }, kinds := [], alts := [], laidByText := true, laidKinds := [.data], laidTests := true, laidLooks := .later }
def FnExactElemIsCoilUptoCardSaid : Prop := Claim7.holds Tryd.pinned (.plain (OpenSpec.upto fnExactElemIsCoilSpec)) fnExactElemIsCoilUptoCard

/-- THE SECOND FORM's CARD OF 'laws.FnExactElemText'. -/
def fnExactElemTextUptoCard : Claim7 := { stood := { row := fnExactElemTextUptoRow, standIns := [], harness := (true, "1f04a2f16c20379b61af31e378d2eff5284287e6136eb0e2946b89fec9373b68"), looks := false }, kinds := [], alts := [], laidByText := true, laidKinds := [.data, .data, .data, .data, .data], laidTests := true, laidLooks := .later }
def FnExactElemTextUptoCardSaid : Prop := Claim7.holds Tryd.pinned (.plain (OpenSpec.upto fnExactElemTextSpec)) fnExactElemTextUptoCard
end Rows
end Go.Proofs.YtddjohelgeieiaaDoor
