/- Closed facts of the row FnExactTextRead. -/
import Derived.Test.YtllmabgollkigaaGreatDoorCards
import Derived.Test.YtllmabgollkigaaGreatDoorTie
import Derived.WalkKit
import Derived.ProofKit
import Derived.OpenShut
import Derived.ShutString
import Derived.ChangeOld
import Derived.ChangeVars
import Derived.Below
import Derived.OpenVars
import Derived.Lay
import Derived.LaidHandle
import Derived.SevenTiedAt
import Derived.Lib.SmallJoins
import Derived.Laws.Cover2
import Derived.Test.YtllmabgollkigaaGreatDoorChecked
namespace Go.Proofs.YtllmabgollkigaaGreatDoor
open Go.ChangeShapes Go.WideShapes Go.ChangeAt Go.RowKit Go.Joins
open Go.ChangeMaps (open_string shut_string)
set_option linter.unusedVariables false
theorem fnExactTextRead_closed:joinedFacts Tryz.prog 6 Tryz.f6 Rows.fnExactTextReadSpec Rows.fnExactTextReadRow=true:=by kernel_rfl
theorem fnExactTextRead_fname:Tryz.prog.funcNamed Rows.fnExactTextReadRow.func=some 6:=by kernel_rfl
theorem fnExactTextRead_inst:Tryz.f6.isInstance Tryz.prog Rows.fnExactTextReadRow.origin Rows.fnExactTextReadRow.targs:=of_decide_eq_true (by kernel_rfl)
theorem fnExactTextRead_wrap:Tryz.f6.isWrapper Tryz.prog Rows.fnExactTextReadRow.wrapper Rows.fnExactTextReadRow.mainSum:=by unfold Func.isWrapper;first|(rw [if_pos (by decide +kernel)];kernel_rfl)|(rw [if_neg (by decide +kernel)];exact ⟨rfl,rfl⟩)
end Go.Proofs.YtllmabgollkigaaGreatDoor
