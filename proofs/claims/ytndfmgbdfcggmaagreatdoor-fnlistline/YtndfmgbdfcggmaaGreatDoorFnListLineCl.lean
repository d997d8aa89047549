/- Closed facts of the row FnListLine. -/
import Derived.Test.YtndfmgbdfcggmaaGreatDoorCards
import Derived.Test.YtndfmgbdfcggmaaGreatDoorTie
import Derived.WalkKit
import Derived.ProofKit
import Derived.OpenShut
import Derived.ShutString
import Derived.ChangeOld
import Derived.ChangeVars
import Derived.Below
import Derived.OpenVars
import Derived.Lay
import Derived.LaidHandle
import Derived.SevenTiedAt
import Derived.Lib.SmallJoins
import Derived.Laws.Cover2
import Derived.Test.YtndfmgbdfcggmaaGreatDoorChecked
namespace Go.Proofs.YtndfmgbdfcggmaaGreatDoor
open Go.ChangeShapes Go.WideShapes Go.ChangeAt Go.RowKit Go.Joins
open Go.ChangeMaps (open_string shut_string)
set_option linter.unusedVariables false

theorem fnListLine_closed : joinedFacts Tryz.prog 5 Tryz.f5 Rows.fnListLineSpec Rows.fnListLineRow = true := by kernel_rfl
theorem fnListLine_fname : Tryz.prog.funcNamed Rows.fnListLineRow.func = some 5 := by kernel_rfl
theorem fnListLine_inst : Tryz.f5.isInstance Tryz.prog Rows.fnListLineRow.origin Rows.fnListLineRow.targs := of_decide_eq_true (by kernel_rfl)
theorem fnListLine_wrap : Tryz.f5.isWrapper Tryz.prog Rows.fnListLineRow.wrapper Rows.fnListLineRow.mainSum := by unfold Func.isWrapper; first | (rw [if_pos (by decide +kernel)]; kernel_rfl) | (rw [if_neg (by decide +kernel)]; exact ⟨rfl, rfl⟩)
end Go.Proofs.YtndfmgbdfcggmaaGreatDoor
