/- Closed facts of the row FnExactMemRead. -/
import Derived.Test.YtjnddfpieogpiaaGreatDoorCards
import Derived.Test.YtjnddfpieogpiaaGreatDoorTie
import Derived.WalkKit
import Derived.ProofKit
import Derived.OpenShut
import Derived.ShutString
import Derived.ChangeOld
import Derived.ChangeVars
import Derived.Below
import Derived.OpenVars
import Derived.Lay
import Derived.SevenTiedAt
import Derived.Lib.SmallJoins
import Derived.Laws.Cover2
import Derived.Test.YtjnddfpieogpiaaGreatDoorChecked
namespace Go.Proofs.YtjnddfpieogpiaaGreatDoor
open Go.ChangeShapes Go.WideShapes Go.ChangeAt Go.RowKit Go.Joins
open Go.ChangeMaps (open_string shut_string)
set_option linter.unusedVariables false

theorem fnExactMemRead_closed : joinedFacts Tryz.prog 5 Tryz.f5 Rows.fnExactMemReadSpec Rows.fnExactMemReadRow = true := by kernel_rfl
theorem fnExactMemRead_fname : Tryz.prog.funcNamed Rows.fnExactMemReadRow.func = some 5 := by kernel_rfl
theorem fnExactMemRead_inst : Tryz.f5.isInstance Tryz.prog Rows.fnExactMemReadRow.origin Rows.fnExactMemReadRow.targs := of_decide_eq_true (by kernel_rfl)
theorem fnExactMemRead_wrap : Tryz.f5.isWrapper Tryz.prog Rows.fnExactMemReadRow.wrapper Rows.fnExactMemReadRow.mainSum := by unfold Func.isWrapper; first | (rw [if_pos (by decide +kernel)]; kernel_rfl) | (rw [if_neg (by decide +kernel)]; exact ⟨rfl, rfl⟩)
end Go.Proofs.YtjnddfpieogpiaaGreatDoor
