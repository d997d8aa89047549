/- Walks of DevIsBit, DevIsWhole and DevIsReal, and the laws FnExactDevOk, FnExactDevIsBit, FnExactDevIsWhole, FnExactDevIsReal. -/
import Derived.Test.YteekbhhlgicpeaaDoorDe
namespace Go.Proofs.YteekbhhlgicpeaaDoor
open Go.RowKit
set_option linter.unusedVariables false

theorem ok_cases {k n p : Int} (h : okA k n p = true) : k = 1 ∨ k = 2 ∨ k = 3 ∨ k = 4 ∨ k = 5 ∨ k = 6 ∨ k = 7 ∨ k = 8 ∨ k = 9 ∨ k = 10 ∨ k = 11 ∨ k = 12 ∨ k = 13 := by
  by_cases h0 : k ≤ 0 ∨ 14 ≤ k
  · have e : okA k n p = decide (0 ≤ n ∧ n < kS k ∧ p = 0) := by
      unfold okA
      rw [if_neg (by omega), if_neg (by omega), if_neg (by omega)]
    rw [e, kS_out k (by omega)] at h
    simp at h
    omega
  · omega

end Go.Proofs.YteekbhhlgicpeaaDoor
