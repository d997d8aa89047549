/- Closed facts of the row FnElemBack. -/
import Derived.Test.YtjbdcbamkdnjhaaGreatDoorCards
import Derived.Test.YtjbdcbamkdnjhaaGreatDoorTie
import Derived.WalkKit
import Derived.ProofKit
import Derived.OpenShut
import Derived.ShutString
import Derived.ChangeOld
import Derived.ChangeVars
import Derived.Below
import Derived.OpenVars
import Derived.Lay
import Derived.LaidHandle
import Derived.SevenTiedAt
import Derived.Lib.SmallJoins
import Derived.Laws.Cover2
import Derived.Test.YtjbdcbamkdnjhaaGreatDoorChecked
namespace Go.Proofs.YtjbdcbamkdnjhaaGreatDoor
open Go.ChangeShapes Go.WideShapes Go.ChangeAt Go.RowKit Go.Joins
open Go.ChangeMaps (open_string shut_string)
set_option linter.unusedVariables false

theorem fnElemBack_closed : joinedFacts Tryz.prog 3 Tryz.f3 Rows.fnElemBackSpec Rows.fnElemBackRow = true := by kernel_rfl
theorem fnElemBack_fname : Tryz.prog.funcNamed Rows.fnElemBackRow.func = some 3 := by kernel_rfl
theorem fnElemBack_inst : Tryz.f3.isInstance Tryz.prog Rows.fnElemBackRow.origin Rows.fnElemBackRow.targs := of_decide_eq_true (by kernel_rfl)
theorem fnElemBack_wrap : Tryz.f3.isWrapper Tryz.prog Rows.fnElemBackRow.wrapper Rows.fnElemBackRow.mainSum := by unfold Func.isWrapper; first | (rw [if_pos (by decide +kernel)]; kernel_rfl) | (rw [if_neg (by decide +kernel)]; exact ⟨rfl, rfl⟩)
end Go.Proofs.YtjbdcbamkdnjhaaGreatDoor
