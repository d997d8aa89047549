/- Closed facts of the row FnExactListParse. -/
import Derived.Test.YtidfjinmaiechaaGreatDoorCards
import Derived.Test.YtidfjinmaiechaaGreatDoorTie
import Derived.WalkKit
import Derived.ProofKit
import Derived.OpenShut
import Derived.ShutString
import Derived.ChangeOld
import Derived.ChangeVars
import Derived.Below
import Derived.OpenVars
import Derived.Lay
import Derived.LaidHandle
import Derived.SevenTiedAt
import Derived.Lib.SmallJoins
import Derived.Laws.Cover2
import Derived.Test.YtidfjinmaiechaaGreatDoorChecked
namespace Go.Proofs.YtidfjinmaiechaaGreatDoor
open Go.ChangeShapes Go.WideShapes Go.ChangeAt Go.RowKit Go.Joins
open Go.ChangeMaps (open_string shut_string)
set_option linter.unusedVariables false

theorem fnExactListParse_closed : joinedFacts Tryz.prog 4 Tryz.f4 Rows.fnExactListParseSpec Rows.fnExactListParseRow = true := by kernel_rfl
theorem fnExactListParse_fname : Tryz.prog.funcNamed Rows.fnExactListParseRow.func = some 4 := by kernel_rfl
theorem fnExactListParse_inst : Tryz.f4.isInstance Tryz.prog Rows.fnExactListParseRow.origin Rows.fnExactListParseRow.targs := of_decide_eq_true (by kernel_rfl)
theorem fnExactListParse_wrap : Tryz.f4.isWrapper Tryz.prog Rows.fnExactListParseRow.wrapper Rows.fnExactListParseRow.mainSum := by unfold Func.isWrapper; first | (rw [if_pos (by decide +kernel)]; kernel_rfl) | (rw [if_neg (by decide +kernel)]; exact ⟨rfl, rfl⟩)
end Go.Proofs.YtidfjinmaiechaaGreatDoor
