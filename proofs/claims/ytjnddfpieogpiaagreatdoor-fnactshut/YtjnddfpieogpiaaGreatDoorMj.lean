/- MemPutWhole and MemPutReal, the program's and the specification's. -/
import Derived.Test.YtjnddfpieogpiaaGreatDoorMbM
import Derived.Test.YtjnddfpieogpiaaGreatDoorMfM
namespace Go.Proofs.YtjnddfpieogpiaaGreatDoor
open Go.RowKit Go.Shelf
set_option linter.unusedVariables false

theorem one_set {D : Array Value} (h : D.all (·.oneCell') = true) (i : Nat) {v : Value} (hv : v.oneCell' = true) : (D.setIfInBounds i v).all (·.oneCell') = true := by
  rw [Array.all_eq_true_iff_forall_mem] at h ⊢
  intro u hu
  obtain ⟨j, hj, rfl⟩ := Array.mem_iff_getElem.1 hu
  rw [Array.getElem_setIfInBounds (by simpa using hj)]
  split
  · exact hv
  · exact h _ (Array.getElem_mem _)


end Go.Proofs.YtjnddfpieogpiaaGreatDoor
