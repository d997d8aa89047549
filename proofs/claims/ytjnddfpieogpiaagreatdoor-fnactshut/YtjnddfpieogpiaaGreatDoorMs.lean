/- The laws FnExactMemPutWhole and FnExactMemPutReal. -/
import Derived.Test.YtjnddfpieogpiaaGreatDoorMq
import Derived.Test.YtjnddfpieogpiaaGreatDoorMj
import Derived.Test.YtjnddfpieogpiaaGreatDoorMmM
import Derived.Deep.Cut
namespace Go.Proofs.YtjnddfpieogpiaaGreatDoor
open Go.RowKit Go.Shelf
set_option linter.unusedVariables false

theorem memOk_set {c : Array Value} (hc : MemOk c) (i : Nat) {v : Value} (hv : CellIs (kd i) v) : MemOk (c.setIfInBounds i v) :=
  ⟨by simpa using hc.size, fun j u hu => by
    by_cases hji : i = j
    · subst hji
      have hl : i < c.size := by have := (Array.getElem?_eq_some_iff.1 hu).1; simpa using this
      rw [Array.getElem?_setIfInBounds_self_of_lt hl] at hu
      exact Option.some.inj hu ▸ hv
    · rw [Array.getElem?_setIfInBounds_ne hji] at hu
      exact hc.cell j u hu⟩


end Go.Proofs.YtjnddfpieogpiaaGreatDoor
