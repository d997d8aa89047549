/- The law FnRealArg: its walk. -/
import Derived.Test.YtpjpjndichpfaaaDoorAr
import Derived.Test.YtpjpjndichpfaaaDoorWs
import Derived.Test.YtpjpjndichpfaaaDoorDj
import Derived.Test.YtpjpjndichpfaaaDoorS
import Derived.Test.YtpjpjndichpfaaaDoorFmG
namespace Go.Proofs.YtpjpjndichpfaaaDoor
open Go.RowKit
set_option linter.unusedVariables false

theorem tenB_R (p : Nat) (hp : p ≤ 6) : Fm.sg (tenB p) = false ∧ Fm.R (Fm.rg (tenB p)) = 10 ^ p * Fm.U := by
  have hj : p = 0 ∨ p = 1 ∨ p = 2 ∨ p = 3 ∨ p = 4 ∨ p = 5 ∨ p = 6 := by omega
  rcases hj with rfl | rfl | rfl | rfl | rfl | rfl | rfl <;> exact ⟨by decide, by decide +kernel⟩

theorem natAbs_mul_pow (n : Int) (j : Nat) : (n * 10 ^ j).natAbs = n.natAbs * 10 ^ j := by
  rw [Int.natAbs_mul, Int.natAbs_pow]
  rfl
theorem neg_mul_pow (n : Int) (j : Nat) : decide (n * 10 ^ j < 0) = decide (n < 0) := by
  have hp : (0 : Int) < 10 ^ j := Int.pow_pos (by decide)
  by_cases h : n < 0
  · rw [decide_eq_true h, decide_eq_true (Int.mul_neg_of_neg_of_pos h hp)]
  · rw [decide_eq_false h, decide_eq_false (Int.not_lt.2 (Int.mul_nonneg (Int.not_lt.1 h) (Int.le_of_lt hp)))]

theorem decB_of (n : Int) (p : Nat) (hp : p ≤ 6) (hn : n.natAbs ≤ 999999999) : decB n p = Fm.decOf (n * 10 ^ (6 - p)) := by
  have h := tenB_R p hp
  have hd : floatBits .quo .f64 (floatOfInt .f64 n) (tenB p) = _ := Fm.div_dec n p (tenB p) hp hn (tenB_fin p).1 h.1 h.2
  unfold decB Fm.opB Fm.decOf
  rw [hd, natAbs_mul_pow, neg_mul_pow]
  rfl

theorem dec_bd (n : Int) (p : Nat) (hp1 : 1 ≤ p) (hn : n.natAbs ≤ 999999999) : (n * 10 ^ (6 - p)).natAbs < 1000000000000000 := by
  rw [natAbs_mul_pow]
  have h1 : 10 ^ (6 - p) ≤ 100000 := by
    have : ∀ j : Fin 7, 1 ≤ j.val → 10 ^ (6 - j.val) ≤ 100000 := by decide
    by_cases h : p < 7
    · exact this ⟨p, h⟩ hp1
    · have : 6 - p = 0 := by omega
      rw [this]; decide
  have := Nat.mul_le_mul hn h1
  omega

set_option maxHeartbeats 1000000 in
theorem wrdec (k n : Int) (p : Nat) (hp : p ≤ 6) (hn : n.natAbs ≤ 999999999) (w : World) :
    Calls Tryd.prog 31 #[.agg #[.int .i64 k, .int .i64 n, .int .i64 p]] w fun e w' => e = .returned (.int .i64 (n * 10 ^ (6 - p))) ∧ Below w.heap.size w w' := by
  obtain ⟨X, HX⟩ : ∃ X : Int, Hid (X = n * 10 ^ (6 - p)) := ⟨_, rfl⟩
  rw [← HX.out]
  go_enter Tryd.func31, Tryd.ntmps31
  go_wp2
  go_loopg [3, 4] (6 - p) (fun g x i wr => ∃ (j : Nat) (y : Int), j + g = 6 ∧ p ≤ j ∧ i = .int .i64 j ∧ x = .int .i64 y ∧ Hid (y = n * 10 ^ (j - p)) ∧ wr = w.alloc (.cells #[.int .i64 k, .int .i64 n, .int .i64 p] 41))
  case atStart => exact ⟨p, n, by omega, by omega, rfl, rfl, by show n = n * 10 ^ (p - p); rw [Nat.sub_self]; simp, rfl⟩
  case round =>
    obtain ⟨j, y, hj, hpj, rfl, rfl, Hy, rfl⟩ := hrel
    have hb : y.natAbs ≤ 999999999 * 1000000 := by
      rw [Hy.out, natAbs_mul_pow]
      refine Nat.mul_le_mul hn ?_
      have : ∀ j : Fin 7, 10 ^ j.val ≤ 1000000 := by decide
      exact this ⟨j - p, by omega⟩
    have b1 : -999999999000000 ≤ y := by omega
    have b2 : y ≤ 999999999000000 := by omega
    clear hb
    by_cases hlt : j < 6
    · have HN : Hid (y * 10 = n * 10 ^ (j + 1 - p)) := by
        have : j + 1 - p = (j - p) + 1 := by omega
        rw [this, Int.pow_succ, ← Int.mul_assoc, Hy.out]
        rfl
      clear Hy HX
      go_wp2
      go_roundg (gk - 1)
      case measure => omega
      case rel => exact ⟨j + 1, y * 10, by omega, by omega, by go_num, by go_num, HN, rfl⟩
    · obtain rfl : j = 6 := by omega
      obtain rfl : y = X := by rw [Hy.out, HX.out]
      clear Hy HX
      go_wp2
      go_ret
      exact ⟨rfl, by go_grown⟩
end Go.Proofs.YtpjpjndichpfaaaDoor
