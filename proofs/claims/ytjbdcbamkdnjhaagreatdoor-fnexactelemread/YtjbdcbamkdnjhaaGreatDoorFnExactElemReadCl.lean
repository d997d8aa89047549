/- Closed facts of the row FnExactElemRead. -/
import Derived.Test.YtjbdcbamkdnjhaaGreatDoorCards
import Derived.Test.YtjbdcbamkdnjhaaGreatDoorTie
import Derived.WalkKit
import Derived.ProofKit
import Derived.OpenShut
import Derived.ShutString
import Derived.ChangeOld
import Derived.ChangeVars
import Derived.Below
import Derived.OpenVars
import Derived.Lay
import Derived.LaidHandle
import Derived.SevenTiedAt
import Derived.Lib.SmallJoins
import Derived.Laws.Cover2
import Derived.Test.YtjbdcbamkdnjhaaGreatDoorChecked
namespace Go.Proofs.YtjbdcbamkdnjhaaGreatDoor
open Go.ChangeShapes Go.WideShapes Go.ChangeAt Go.RowKit Go.Joins
open Go.ChangeMaps (open_string shut_string)
set_option linter.unusedVariables false

theorem fnExactElemRead_closed : joinedFacts Tryz.prog 6 Tryz.f6 Rows.fnExactElemReadSpec Rows.fnExactElemReadRow = true := by kernel_rfl
theorem fnExactElemRead_fname : Tryz.prog.funcNamed Rows.fnExactElemReadRow.func = some 6 := by kernel_rfl
theorem fnExactElemRead_inst : Tryz.f6.isInstance Tryz.prog Rows.fnExactElemReadRow.origin Rows.fnExactElemReadRow.targs := of_decide_eq_true (by kernel_rfl)
theorem fnExactElemRead_wrap : Tryz.f6.isWrapper Tryz.prog Rows.fnExactElemReadRow.wrapper Rows.fnExactElemReadRow.mainSum := by unfold Func.isWrapper; first | (rw [if_pos (by decide +kernel)]; kernel_rfl) | (rw [if_neg (by decide +kernel)]; exact ⟨rfl, rfl⟩)
end Go.Proofs.YtjbdcbamkdnjhaaGreatDoor
