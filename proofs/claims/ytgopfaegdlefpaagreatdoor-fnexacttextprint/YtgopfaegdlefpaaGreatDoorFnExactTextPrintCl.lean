/- Closed facts of the row FnExactTextPrint. -/
import Derived.Test.YtgopfaegdlefpaaGreatDoorCards
import Derived.Test.YtgopfaegdlefpaaGreatDoorTie
import Derived.WalkKit
import Derived.ProofKit
import Derived.OpenShut
import Derived.ShutString
import Derived.ChangeOld
import Derived.ChangeVars
import Derived.Below
import Derived.OpenVars
import Derived.Lay
import Derived.LaidHandle
import Derived.SevenTiedAt
import Derived.Lib.SmallJoins
import Derived.Laws.Cover2
import Derived.Test.YtgopfaegdlefpaaGreatDoorChecked
namespace Go.Proofs.YtgopfaegdlefpaaGreatDoor
open Go.ChangeShapes Go.WideShapes Go.ChangeAt Go.RowKit Go.Joins
open Go.ChangeMaps (open_string shut_string)
set_option linter.unusedVariables false

theorem fnExactTextPrint_closed : joinedFacts Tryz.prog 7 Tryz.f7 Rows.fnExactTextPrintSpec Rows.fnExactTextPrintRow = true := by kernel_rfl
theorem fnExactTextPrint_fname : Tryz.prog.funcNamed Rows.fnExactTextPrintRow.func = some 7 := by kernel_rfl
theorem fnExactTextPrint_inst : Tryz.f7.isInstance Tryz.prog Rows.fnExactTextPrintRow.origin Rows.fnExactTextPrintRow.targs := of_decide_eq_true (by kernel_rfl)
theorem fnExactTextPrint_wrap : Tryz.f7.isWrapper Tryz.prog Rows.fnExactTextPrintRow.wrapper Rows.fnExactTextPrintRow.mainSum := by unfold Func.isWrapper; first | (rw [if_pos (by decide +kernel)]; kernel_rfl) | (rw [if_neg (by decide +kernel)]; exact ⟨rfl, rfl⟩)
end Go.Proofs.YtgopfaegdlefpaaGreatDoor
