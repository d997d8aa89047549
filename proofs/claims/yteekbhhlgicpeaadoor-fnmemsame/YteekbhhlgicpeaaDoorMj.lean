/- MemPutWhole and MemPutReal, the program's and the specification's. -/
import Derived.Test.YteekbhhlgicpeaaDoorMd
import Derived.Test.YteekbhhlgicpeaaDoorMf
namespace Go.Proofs.YteekbhhlgicpeaaDoor
open Go.RowKit Go.Shelf
set_option linter.unusedVariables false

/-- The memory with a cell put, if the operand is of that kind. -/
def putk (c : Array Value) (K : Int) (base : Nat) (k n : Int) (v : Value) : Array Value := if k = K then c.setIfInBounds (base + (pl k n).toNat) v else c

theorem one_set {D : Array Value} (h : D.all (·.oneCell') = true) (i : Nat) {v : Value} (hv : v.oneCell' = true) : (D.setIfInBounds i v).all (·.oneCell') = true := by
  rw [Array.all_eq_true_iff_forall_mem] at h ⊢
  intro u hu
  obtain ⟨j, hj, rfl⟩ := Array.mem_iff_getElem.1 hu
  rw [Array.getElem_setIfInBounds (by simpa using hj)]
  split
  · exact hv
  · exact h _ (Array.getElem_mem _)


end Go.Proofs.YteekbhhlgicpeaaDoor
