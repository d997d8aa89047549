/- The law FnHoldFalls, at what comes in. -/
import Derived.Test.YtfhdpafaamkipaaHqb
import Derived.Test.YtfhdpafaamkipaaHwg
namespace Go.Proofs.Ytfhdpafaamkipaa
open Go.RowKit
set_option linter.unusedVariables false

theorem walk_falls (v : Value) (w : World) (h' : BtsIn w v) :
    Calls Try.prog 4 #[v] w fun e w' => e = .returned (.bool true) ∧ Below w.heap.size w w' := by
  obtain ⟨da, nd, cd, d, rfl, d1, d2, d3, d4⟩ := h'
  by_cases hl : nd ≤ 1048576
  · exact law_falls da nd cd (fL d) w (fL_byt d3) hl d4
  · have i1 : (1048576 : Int) < (nd : Int) := by omega
    clear d1 d3 d4
    go_enter Try.func4, Try.ntmps4
    go_wp2
    go_ret
    exact ⟨rfl, Below.refl _ _⟩
end Go.Proofs.Ytfhdpafaamkipaa
