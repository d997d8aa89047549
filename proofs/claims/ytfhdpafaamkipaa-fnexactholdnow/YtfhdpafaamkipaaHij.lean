/- The law FnExactHoldNow, at what comes in. -/
import Derived.Test.YtfhdpafaamkipaaHii
import Derived.Test.YtfhdpafaamkipaaHfr
namespace Go.Proofs.Ytfhdpafaamkipaa
open Go.RowKit
set_option linter.unusedVariables false

theorem walk_hnow (cs : Array Value) (w : World) (h : RomIn w (.agg cs)) :
    Calls Try.prog 10 #[.agg cs] w fun e w' => e = .returned (.bool true) ∧ Below w.heap.size w w' := by
  obtain ⟨r, xa, xb, na, ca, nb, cb, e, h1, h2, h3, h4, h5, h6, h7⟩ := h
  rw [e]
  exact law_hnow r xa xb na ca nb cb w h1 h2 h3 h6 h7
end Go.Proofs.Ytfhdpafaamkipaa
