/- The law FnExactPeepSure holds at every input, where the listed package-level variables start as the program's text lays them. -/
import Derived.Test.YtlgacbjopobeoaaGreatDoorFnExactPeepSureSa
import Derived.Test.YtlgacbjopobeoaaGreatDoorCards
import Derived.Test.YtlgacbjopobeoaaGreatDoorTie
import Derived.WalkKit
import Derived.ProofKit
import Derived.OpenShut
import Derived.ShutString
import Derived.ChangeOld
import Derived.ChangeVars
import Derived.Below
import Derived.OpenVars
import Derived.Lay
import Derived.SevenTiedAt
import Derived.Lib.SmallJoins
import Derived.Laws.Cover2
namespace Go.Proofs.YtlgacbjopobeoaaGreatDoor
open Go.ChangeShapes Go.WideShapes Go.ChangeAt Go.RowKit Go.Joins
open Go.ChangeMaps (open_string shut_string)
set_option linter.unusedVariables false

theorem fnExactPeepSure_holds : Rows.FnExactPeepSureCardSaid :=
  Claim7.holds_tied_plain_at .later [] [.data] true (true, "e3e69ebcafbc74186c2ed7cae76c85065b3d0532f9805e7b3b00c1ca58250274") true fnExactPeepSure_said (fun _ h => by cases h) (by kernel_rfl) (fun _ h => by cases h) fnExactPeepSure_row_tie rfl ⟨rfl, rfl⟩ (by kernel_rfl) rfl
    (fun f fn hf hfn => by
      obtain rfl : f = 8 := Option.some.inj ((show Tryz.prog.funcNamed "loop.example/stile/laws.FnExactPeepSure" = some 8 by kernel_rfl).symm.trans hf) |>.symm
      obtain rfl : fn = Tryz.f8 := (Option.some.inj (Tryz.func8.symm.trans hfn)).symm
      exact ⟨by kernel_rfl, fun j t ht => by
        rw [Tryz.params8] at ht
        have hm : t ∈ [82] := by simpa using Array.mem_of_getElem? ht
        have hall : ([82].all fun u => !Tryz.prog.wantsStandIn u) = true := by kernel_rfl
        exact (show Tryz.prog.wantsStandIn t = false by simpa using List.all_eq_true.1 hall t hm)⟩)
    (by kernel_rfl)
#print axioms fnExactPeepSure_holds
end Go.Proofs.YtlgacbjopobeoaaGreatDoor
