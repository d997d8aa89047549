/- Closed facts of the row FnListParse. -/
import Derived.Test.YtndfmgbdfcggmaaGreatDoorCards
import Derived.Test.YtndfmgbdfcggmaaGreatDoorTie
import Derived.WalkKit
import Derived.ProofKit
import Derived.OpenShut
import Derived.ShutString
import Derived.ChangeOld
import Derived.ChangeVars
import Derived.Below
import Derived.OpenVars
import Derived.Lay
import Derived.LaidHandle
import Derived.SevenTiedAt
import Derived.Lib.SmallJoins
import Derived.Laws.Cover2
import Derived.Test.YtndfmgbdfcggmaaGreatDoorChecked
namespace Go.Proofs.YtndfmgbdfcggmaaGreatDoor
open Go.ChangeShapes Go.WideShapes Go.ChangeAt Go.RowKit Go.Joins
open Go.ChangeMaps (open_string shut_string)
set_option linter.unusedVariables false

theorem fnListParse_closed : joinedFacts Tryz.prog 4 Tryz.f4 Rows.fnListParseSpec Rows.fnListParseRow = true := by kernel_rfl
theorem fnListParse_fname : Tryz.prog.funcNamed Rows.fnListParseRow.func = some 4 := by kernel_rfl
theorem fnListParse_inst : Tryz.f4.isInstance Tryz.prog Rows.fnListParseRow.origin Rows.fnListParseRow.targs := of_decide_eq_true (by kernel_rfl)
theorem fnListParse_wrap : Tryz.f4.isWrapper Tryz.prog Rows.fnListParseRow.wrapper Rows.fnListParseRow.mainSum := by unfold Func.isWrapper; first | (rw [if_pos (by decide +kernel)]; kernel_rfl) | (rw [if_neg (by decide +kernel)]; exact ⟨rfl, rfl⟩)
end Go.Proofs.YtndfmgbdfcggmaaGreatDoor
