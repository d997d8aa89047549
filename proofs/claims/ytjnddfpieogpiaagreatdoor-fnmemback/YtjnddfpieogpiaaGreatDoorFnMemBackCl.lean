/- Closed facts of the row FnMemBack. -/
import Derived.Test.YtjnddfpieogpiaaGreatDoorCards
import Derived.Test.YtjnddfpieogpiaaGreatDoorTie
import Derived.WalkKit
import Derived.ProofKit
import Derived.OpenShut
import Derived.ShutString
import Derived.ChangeOld
import Derived.ChangeVars
import Derived.Below
import Derived.OpenVars
import Derived.Lay
import Derived.SevenTiedAt
import Derived.Lib.SmallJoins
import Derived.Laws.Cover2
import Derived.Test.YtjnddfpieogpiaaGreatDoorChecked
namespace Go.Proofs.YtjnddfpieogpiaaGreatDoor
open Go.ChangeShapes Go.WideShapes Go.ChangeAt Go.RowKit Go.Joins
open Go.ChangeMaps (open_string shut_string)
set_option linter.unusedVariables false

theorem fnMemBack_closed : joinedFacts Tryz.prog 3 Tryz.f3 Rows.fnMemBackSpec Rows.fnMemBackRow = true := by kernel_rfl
theorem fnMemBack_fname : Tryz.prog.funcNamed Rows.fnMemBackRow.func = some 3 := by kernel_rfl
theorem fnMemBack_inst : Tryz.f3.isInstance Tryz.prog Rows.fnMemBackRow.origin Rows.fnMemBackRow.targs := of_decide_eq_true (by kernel_rfl)
theorem fnMemBack_wrap : Tryz.f3.isWrapper Tryz.prog Rows.fnMemBackRow.wrapper Rows.fnMemBackRow.mainSum := by unfold Func.isWrapper; first | (rw [if_pos (by decide +kernel)]; kernel_rfl) | (rw [if_neg (by decide +kernel)]; exact ⟨rfl, rfl⟩)
end Go.Proofs.YtjnddfpieogpiaaGreatDoor
