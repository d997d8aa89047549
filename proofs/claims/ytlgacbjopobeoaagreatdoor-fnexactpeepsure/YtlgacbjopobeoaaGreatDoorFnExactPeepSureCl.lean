/- Closed facts of the row FnExactPeepSure. -/
import Derived.Test.YtlgacbjopobeoaaGreatDoorChecked
import Derived.Test.YtlgacbjopobeoaaGreatDoorCards
import Derived.Test.YtlgacbjopobeoaaGreatDoorTie
import Derived.WalkKit
import Derived.ProofKit
import Derived.OpenShut
import Derived.ShutString
import Derived.ChangeOld
import Derived.ChangeVars
import Derived.Below
import Derived.OpenVars
import Derived.Lay
import Derived.SevenTiedAt
import Derived.Lib.SmallJoins
import Derived.Laws.Cover2
namespace Go.Proofs.YtlgacbjopobeoaaGreatDoor
open Go.ChangeShapes Go.WideShapes Go.ChangeAt Go.RowKit Go.Joins
open Go.ChangeMaps (open_string shut_string)
set_option linter.unusedVariables false

theorem fnExactPeepSure_closed : joinedFacts Tryz.prog 8 Tryz.f8 Rows.fnExactPeepSureSpec Rows.fnExactPeepSureRow = true := by kernel_rfl
theorem fnExactPeepSure_fname : Tryz.prog.funcNamed Rows.fnExactPeepSureRow.func = some 8 := by kernel_rfl
theorem fnExactPeepSure_inst : Tryz.f8.isInstance Tryz.prog Rows.fnExactPeepSureRow.origin Rows.fnExactPeepSureRow.targs := of_decide_eq_true (by kernel_rfl)
theorem fnExactPeepSure_wrap : Tryz.f8.isWrapper Tryz.prog Rows.fnExactPeepSureRow.wrapper Rows.fnExactPeepSureRow.mainSum := by unfold Func.isWrapper; first | (rw [if_pos (by decide +kernel)]; kernel_rfl) | (rw [if_neg (by decide +kernel)]; exact ⟨rfl, rfl⟩)
end Go.Proofs.YtlgacbjopobeoaaGreatDoor
