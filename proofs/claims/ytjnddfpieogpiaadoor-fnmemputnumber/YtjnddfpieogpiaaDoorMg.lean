/- Bits of words: the program's memIsOn, the specification's l5Bit. -/
import Derived.Test.YtjnddfpieogpiaaDoorMf
import Derived.Laws.BitsAllLaws
import Derived.Deep.LoopGhost
namespace Go.Proofs.YtjnddfpieogpiaaDoor
open Go.RowKit Go.Shelf
set_option linter.unusedVariables false

/-- Bit p of a number. -/
def btest (x p : Int) : Bool := decide (x / 2 ^ p.toNat % 2 = 1)

theorem div_bd (x : Int) (n : Nat) (h0 : 0 ≤ x) : 0 ≤ x / 2 ^ n ∧ x / 2 ^ n ≤ x := by
  have hp : (0 : Int) < 2 ^ n := Int.pow_pos (by omega)
  refine ⟨Int.ediv_nonneg h0 (by omega), ?_⟩
  exact Int.ediv_le_self _ h0
theorem and1_any (y : Int) (h0 : 0 ≤ y) : (((y.toNat &&& 1 : Nat) : Int) == 1) = decide (y % 2 = 1) := by
  rw [Nat.and_one_is_mod]
  by_cases h : y % 2 = 1
  · rw [decide_eq_true h]; simp; omega
  · rw [decide_eq_false h]; simp; omega

theorem div_next (x : Int) (n : Nat) : x / 2 ^ n / 2 = x / 2 ^ (n + 1) := by
  rw [Int.ediv_ediv_of_nonneg (Int.le_of_lt (Int.pow_pos (by omega))), Int.pow_succ]

end Go.Proofs.YtjnddfpieogpiaaDoor
