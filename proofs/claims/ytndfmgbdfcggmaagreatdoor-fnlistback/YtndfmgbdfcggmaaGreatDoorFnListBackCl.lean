/- Closed facts of the row FnListBack. -/
import Derived.Test.YtndfmgbdfcggmaaGreatDoorCards
import Derived.Test.YtndfmgbdfcggmaaGreatDoorTie
import Derived.WalkKit
import Derived.ProofKit
import Derived.OpenShut
import Derived.ShutString
import Derived.ChangeOld
import Derived.ChangeVars
import Derived.Below
import Derived.OpenVars
import Derived.Lay
import Derived.LaidHandle
import Derived.SevenTiedAt
import Derived.Lib.SmallJoins
import Derived.Laws.Cover2
import Derived.Test.YtndfmgbdfcggmaaGreatDoorChecked
namespace Go.Proofs.YtndfmgbdfcggmaaGreatDoor
open Go.ChangeShapes Go.WideShapes Go.ChangeAt Go.RowKit Go.Joins
open Go.ChangeMaps (open_string shut_string)
set_option linter.unusedVariables false

theorem fnListBack_closed : joinedFacts Tryz.prog 3 Tryz.f3 Rows.fnListBackSpec Rows.fnListBackRow = true := by kernel_rfl
theorem fnListBack_fname : Tryz.prog.funcNamed Rows.fnListBackRow.func = some 3 := by kernel_rfl
theorem fnListBack_inst : Tryz.f3.isInstance Tryz.prog Rows.fnListBackRow.origin Rows.fnListBackRow.targs := of_decide_eq_true (by kernel_rfl)
theorem fnListBack_wrap : Tryz.f3.isWrapper Tryz.prog Rows.fnListBackRow.wrapper Rows.fnListBackRow.mainSum := by unfold Func.isWrapper; first | (rw [if_pos (by decide +kernel)]; kernel_rfl) | (rw [if_neg (by decide +kernel)]; exact ⟨rfl, rfl⟩)
end Go.Proofs.YtndfmgbdfcggmaaGreatDoor
