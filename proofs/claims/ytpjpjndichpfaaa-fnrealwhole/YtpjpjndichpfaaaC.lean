/- Calculations with whole numbers: the program's. -/
import Derived.Test.YtpjpjndichpfaaaRows
import Derived.WalkKit
import Derived.ProofKit
import Derived.Handy
import Derived.WalkLawsBesides
import Derived.Deep.QuietTactic
import Derived.BigQuiet
import Derived.WalkSpells
namespace Go.Proofs.Ytpjpjndichpfaaa
open Go.RowKit
set_option linter.unusedVariables false

theorem wrap16 (n : Int) : IntKind.i16.wrap n = (n + 32768) % 65536 - 32768 := by
  simp only [IntKind.wrap, IntKind.bits, IntKind.signed]
  simp
  split <;> omega

/-- What is reckoned of two whole numbers. -/
def wk (op a b : Int) : Int := if op = 1 then IntKind.i16.wrap (a + b) else if op = 2 then IntKind.i16.wrap (a - b) else if op = 3 then IntKind.i16.wrap (a * b) else if b = 0 then 0 else if op = 4 then IntKind.i16.wrap (a.tdiv b) else if op = 5 then IntKind.i16.wrap (a.tmod b) else 0
def wok (op b : Int) : Bool := decide (op = 1) || decide (op = 2) || decide (op = 3) || (decide (op = 4) || decide (op = 5)) && decide (b ≠ 0)

theorem calc_cases (k : Int) : (k < 1 ∨ 6 ≤ k) ∨ k = 1 ∨ k = 2 ∨ k = 3 ∨ k = 4 ∨ k = 5 := by omega
theorem wk_out (op a b : Int) (h : op < 1 ∨ 6 ≤ op) : wk op a b = 0 := by
  unfold wk
  rw [if_neg (by omega), if_neg (by omega), if_neg (by omega), if_neg (show ¬ op = 4 by omega), if_neg (show ¬ op = 5 by omega), ite_self]
theorem wok_out (op b : Int) (h : op < 1 ∨ 6 ≤ op) : wok op b = false := by
  unfold wok
  rw [decide_eq_false (by omega), decide_eq_false (show ¬ op = 2 by omega), decide_eq_false (show ¬ op = 3 by omega), decide_eq_false (show ¬ op = 4 by omega), decide_eq_false (show ¬ op = 5 by omega)]
  rfl

theorem mul_bd {a b : Int} (ha : -32768 ≤ a ∧ a ≤ 32767) (hb : -32768 ≤ b ∧ b ≤ 32767) : -1073741824 ≤ a * b ∧ a * b ≤ 1073741824 := by
  have h : (a * b).natAbs ≤ 32768 * 32768 := by
    rw [Int.natAbs_mul]
    exact Nat.mul_le_mul (by omega) (by omega)
  omega
theorem div_bd {a b : Int} (ha : -32768 ≤ a ∧ a ≤ 32767) : -32768 ≤ a.tdiv b ∧ a.tdiv b ≤ 32768 := by
  have h : (a.tdiv b).natAbs ≤ a.natAbs := by
    rw [Int.natAbs_tdiv]
    exact Nat.div_le_self _ _
  omega
theorem mod_bd {a b : Int} (ha : -32768 ≤ a ∧ a ≤ 32767) : -32768 ≤ a.tmod b ∧ a.tmod b ≤ 32768 := by
  have h : (a.tmod b).natAbs ≤ a.natAbs := by
    rw [Int.natAbs_tmod]
    exact Nat.mod_le _ _
  omega

set_option maxHeartbeats 1000000 in
theorem impl_calc (op a b : Int) (w : World) (ha : -32768 ≤ a ∧ a ≤ 32767) (hb : -32768 ≤ b ∧ b ≤ 32767) :
    Calls Try.prog 11 #[.int .i64 op, .int .i16 a, .int .i16 b] w fun e w' => e = .returned (.tuple #[.int .i16 (wk op a b), .bool (wok op b)]) ∧ w' = w := by
  obtain ⟨m1, m2⟩ := mul_bd ha hb
  obtain ⟨d1, d2⟩ := div_bd (b := b) ha
  obtain ⟨t1, t2⟩ := mod_bd (b := b) ha
  obtain ⟨ha1, ha2⟩ := ha
  obtain ⟨hb1, hb2⟩ := hb
  by_cases h0 : b = 0
  · subst h0
    clear m1 m2 d1 d2 t1 t2
    rcases calc_cases op with h | rfl | rfl | rfl | rfl | rfl
    · rw [wk_out op a 0 h, wok_out op 0 h]
      have n1 : (op == 1) = false := by simp; omega
      have n2 : (op == 2) = false := by simp; omega
      have n3 : (op == 3) = false := by simp; omega
      have n4 : (op == 4) = false := by simp; omega
      have n5 : (op == 5) = false := by simp; omega
      go_enter Try.func11, Try.ntmps11
      go_wp2
      go_ret2
      exact ⟨rfl, rfl⟩
    all_goals
      go_enter Try.func11, Try.ntmps11
      go_wp2
      go_ret2
      refine ⟨?_, rfl⟩
      simp [wk, wok, wrap16]
      try omega
  · have b0 : (b != 0) = true := by simp [h0]
    rcases calc_cases op with h | rfl | rfl | rfl | rfl | rfl
    · rw [wk_out op a b h, wok_out op b h]
      have n1 : (op == 1) = false := by simp; omega
      have n2 : (op == 2) = false := by simp; omega
      have n3 : (op == 3) = false := by simp; omega
      have n4 : (op == 4) = false := by simp; omega
      have n5 : (op == 5) = false := by simp; omega
      go_enter Try.func11, Try.ntmps11
      go_wp2
      go_ret2
      exact ⟨rfl, rfl⟩
    all_goals
      go_enter Try.func11, Try.ntmps11
      go_wp2
      go_ret2
      refine ⟨?_, rfl⟩
      simp [wk, wok, h0]
end Go.Proofs.Ytpjpjndichpfaaa
