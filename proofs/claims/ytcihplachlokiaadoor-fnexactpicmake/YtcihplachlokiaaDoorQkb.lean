/- Operands that can be written. -/
import Derived.Test.YtcihplachlokiaaDoorQka
namespace Go.Proofs.YtcihplachlokiaaDoor
open Go.RowKit Go.Shelf
set_option linter.unusedVariables false
set_option linter.unusedSimpArgs false

set_option maxHeartbeats 1000000 in
theorem fit_i (k n p : Int) (w : World) : Calls Tryd.prog 75 #[.agg #[.int .i64 k, .int .i64 n, .int .i64 p]] w fun e w' => e = .returned (.bool (fitB k n p)) ∧ Below w.heap.size w w' := by
  have HW : Hid (∀ W, Calls Tryd.prog 76 #[.int .i64 k] W fun e w' => e = .returned (.int .i64 (wdT k : Nat)) ∧ W = w') := fun W => wd_i k W
  have bA : Below w.heap.size w (w.alloc (.cells #[.int .i64 k, .int .i64 n, .int .i64 p] 87)) := (Below.refl _ _).alloc (Nat.le_refl _) _
  have hc : (k < 1 ∨ 13 < k) ∨ k = 12 ∨ k = 11 ∨ ((1 ≤ k ∧ k ≤ 13) ∧ k ≠ 12 ∧ k ≠ 11) := by omega
  rcases hc with h | rfl | rfl | ⟨⟨h1, h2⟩, h3, h4⟩
  · have e : fitB k n p = false := by unfold fitB; rw [if_pos h]
    have e2 : wdT k = 0 := by unfold wdT; rw [if_pos h]
    rw [e]; rw [e2] at HW
    clear e e2 h
    go_enter Tryd.func75, Tryd.ntmps75
    go_wp2_with fail
    refine (HW.out _).mono ?_
    rintro e w1 ⟨rfl, rfl⟩
    go_wp2
    go_ret
    exact ⟨by first | rfl | (show Ending.returned (.bool (decide _)) = _; rw [decide_eq_false (by omega)]), bA⟩
  · have hd : ¬ (-2147483648 ≤ n) ∨ ((-2147483648 ≤ n) ∧ ¬ (n ≤ 2147483647)) ∨ ((-2147483648 ≤ n) ∧ (n ≤ 2147483647) ∧ ¬ (0 ≤ p)) ∨ ((-2147483648 ≤ n) ∧ (n ≤ 2147483647) ∧ (0 ≤ p) ∧ ¬ (p ≤ 255)) ∨ ((-2147483648 ≤ n) ∧ (n ≤ 2147483647) ∧ (0 ≤ p) ∧ (p ≤ 255)) := by omega
    have ev : fitB 12 n p = decide (-2147483648 ≤ n ∧ n ≤ 2147483647 ∧ 0 ≤ p ∧ p ≤ 255) := rfl
    rcases hd with a | ⟨a, b⟩ | ⟨a, b, c⟩ | ⟨a, b, c, d⟩ | ⟨a, b, c, d⟩
    all_goals
      first
        | (have e : fitB 12 n p = true := by rw [ev]; exact decide_eq_true ⟨a, b, c, d⟩)
        | (have e : fitB 12 n p = false := by rw [ev]; exact decide_eq_false (by omega))
      rw [e]; clear e ev
      go_enter Tryd.func75, Tryd.ntmps75
      go_wp2_with fail
      refine (HW.out _).mono ?_
      rintro e w1 ⟨rfl, rfl⟩
      go_wp2
      go_ret
      exact ⟨by first | rfl | (show Ending.returned (.bool (decide _)) = _; rw [decide_eq_false (by omega)]), bA⟩
  · have hd : ¬ (-32768 ≤ n) ∨ ((-32768 ≤ n) ∧ ¬ (n ≤ 32767)) ∨ ((-32768 ≤ n) ∧ (n ≤ 32767) ∧ ¬ (0 ≤ p)) ∨ ((-32768 ≤ n) ∧ (n ≤ 32767) ∧ (0 ≤ p) ∧ ¬ (p ≤ 0)) ∨ ((-32768 ≤ n) ∧ (n ≤ 32767) ∧ (0 ≤ p) ∧ (p ≤ 0)) := by omega
    have ev : fitB 11 n p = decide (-32768 ≤ n ∧ n ≤ 32767 ∧ p = 0) := rfl
    rcases hd with a | ⟨a, b⟩ | ⟨a, b, c⟩ | ⟨a, b, c, d⟩ | ⟨a, b, c, d⟩
    all_goals
      first
        | (have e : fitB 11 n p = true := by rw [ev]; exact decide_eq_true ⟨a, b, by omega⟩)
        | (have e : fitB 11 n p = false := by rw [ev]; exact decide_eq_false (by omega))
      rw [e]; clear e ev
      go_enter Tryd.func75, Tryd.ntmps75
      go_wp2_with fail
      refine (HW.out _).mono ?_
      rintro e w1 ⟨rfl, rfl⟩
      go_wp2
      go_ret
      exact ⟨by first | rfl | (show Ending.returned (.bool (decide _)) = _; rw [decide_eq_false (by omega)]), bA⟩
  · have hd : ¬ (0 ≤ n) ∨ ((0 ≤ n) ∧ ¬ (n ≤ 255)) ∨ ((0 ≤ n) ∧ (n ≤ 255) ∧ ¬ (0 ≤ p)) ∨ ((0 ≤ n) ∧ (n ≤ 255) ∧ (0 ≤ p) ∧ ¬ (p ≤ 0)) ∨ ((0 ≤ n) ∧ (n ≤ 255) ∧ (0 ≤ p) ∧ (p ≤ 0)) := by omega
    have ev : fitB k n p = decide (0 ≤ n ∧ n ≤ 255 ∧ p = 0) := by unfold fitB; rw [if_neg (by omega), if_neg h3, if_neg h4]
    have e2 : wdT k = 1 := by unfold wdT; rw [if_neg (by omega), if_neg h3, if_neg h4]
    rw [e2] at HW
    rcases hd with a | ⟨a, b⟩ | ⟨a, b, c⟩ | ⟨a, b, c, d⟩ | ⟨a, b, c, d⟩
    all_goals
      first
        | (have e : fitB k n p = true := by rw [ev]; exact decide_eq_true ⟨a, b, by omega⟩)
        | (have e : fitB k n p = false := by rw [ev]; exact decide_eq_false (by omega))
      rw [e]; clear e ev e2 h3 h4
      go_enter Tryd.func75, Tryd.ntmps75
      go_wp2_with fail
      refine (HW.out _).mono ?_
      rintro e w1 ⟨rfl, rfl⟩
      go_wp2
      go_ret
      exact ⟨by first | rfl | (show Ending.returned (.bool (decide _)) = _; rw [decide_eq_false (by omega)]), bA⟩

set_option maxHeartbeats 1000000 in
theorem fit_s (k n p : Int) (w : World) : Calls Tryd.prog 56 #[.agg #[.int .i64 k, .int .i64 n, .int .i64 p]] w fun e w' => e = .returned (.bool (fitB k n p)) ∧ Below w.heap.size w w' := by
  have bA : Below w.heap.size w (w.alloc (.cells #[.int .i64 k, .int .i64 n, .int .i64 p] 87)) := (Below.refl _ _).alloc (Nat.le_refl _) _
  have hc : k < 1 ∨ 13 < k ∨ k = 12 ∨ k = 11 ∨ k = 13 ∨ ((1 ≤ k ∧ k ≤ 10) ∧ k ≠ 12 ∧ k ≠ 11 ∧ k ≠ 13) := by omega
  rcases hc with h | h | rfl | rfl | rfl | ⟨⟨h1, h2⟩, h3, h4, h5⟩
  · have e : fitB k n p = false := by unfold fitB; rw [if_pos (.inl h)]
    have e1 : (k == 12) = false := by simp; omega
    have e2 : (k == 11) = false := by simp; omega
    have e3 : (k == 13) = false := by simp; omega
    have h' : ¬ (1 ≤ k) := by omega
    rw [e]
    clear e h
    go_enter Tryd.func56, Tryd.ntmps56
    go_wp2
    go_ret
    exact ⟨by first | rfl | (show Ending.returned (.bool (decide _)) = _; rw [decide_eq_false (by omega)]), bA⟩
  · have e : fitB k n p = false := by unfold fitB; rw [if_pos (.inr h)]
    have e1 : (k == 12) = false := by simp; omega
    have e2 : (k == 11) = false := by simp; omega
    have e3 : (k == 13) = false := by simp; omega
    have h' : 1 ≤ k := by omega
    have h'' : ¬ (k ≤ 10) := by omega
    rw [e]
    clear e h
    go_enter Tryd.func56, Tryd.ntmps56
    go_wp2
    go_ret
    exact ⟨by first | rfl | (show Ending.returned (.bool (decide _)) = _; rw [decide_eq_false (by omega)]), bA⟩
  · have hd : ¬ (-2147483648 ≤ n) ∨ ((-2147483648 ≤ n) ∧ ¬ (n ≤ 2147483647)) ∨ ((-2147483648 ≤ n) ∧ (n ≤ 2147483647) ∧ ¬ (0 ≤ p)) ∨ ((-2147483648 ≤ n) ∧ (n ≤ 2147483647) ∧ (0 ≤ p) ∧ ¬ (p ≤ 255)) ∨ ((-2147483648 ≤ n) ∧ (n ≤ 2147483647) ∧ (0 ≤ p) ∧ (p ≤ 255)) := by omega
    have ev : fitB 12 n p = decide (-2147483648 ≤ n ∧ n ≤ 2147483647 ∧ 0 ≤ p ∧ p ≤ 255) := rfl
    rcases hd with a | ⟨a, b⟩ | ⟨a, b, c⟩ | ⟨a, b, c, d⟩ | ⟨a, b, c, d⟩
    all_goals
      first
        | (have e : fitB 12 n p = true := by rw [ev]; exact decide_eq_true ⟨a, b, c, d⟩)
        | (have e : fitB 12 n p = false := by rw [ev]; exact decide_eq_false (by omega))
      rw [e]; clear e ev
      go_enter Tryd.func56, Tryd.ntmps56
      go_wp2
      go_ret
      exact ⟨by first | rfl | (show Ending.returned (.bool (decide _)) = _; rw [decide_eq_false (by omega)]), bA⟩
  · have hd : ¬ (-32768 ≤ n) ∨ ((-32768 ≤ n) ∧ ¬ (n ≤ 32767)) ∨ ((-32768 ≤ n) ∧ (n ≤ 32767) ∧ ¬ (p = 0)) ∨ ((-32768 ≤ n) ∧ (n ≤ 32767) ∧ (p = 0)) := by omega
    have ev : fitB 11 n p = decide (-32768 ≤ n ∧ n ≤ 32767 ∧ p = 0) := rfl
    rcases hd with a | ⟨a, b⟩ | ⟨a, b, c⟩ | ⟨a, b, c⟩
    all_goals
      first
        | (have e : fitB 11 n p = true := by rw [ev]; exact decide_eq_true ⟨a, b, c⟩)
        | (have e : fitB 11 n p = false := by rw [ev]; exact decide_eq_false (by omega))
      rw [e]; clear e ev
      first | (have q : (p == 0) = false := by simpa using c) | (subst c; have q := True.intro) | have q := True.intro
      go_enter Tryd.func56, Tryd.ntmps56
      go_wp2
      go_ret
      exact ⟨by first | rfl | (show Ending.returned (.bool (decide _)) = _; rw [decide_eq_false (by omega)]), bA⟩
  · have hd : ¬ (0 ≤ n) ∨ ((0 ≤ n) ∧ ¬ (n ≤ 255)) ∨ ((0 ≤ n) ∧ (n ≤ 255) ∧ ¬ (p = 0)) ∨ ((0 ≤ n) ∧ (n ≤ 255) ∧ (p = 0)) := by omega
    have ev : fitB 13 n p = decide (0 ≤ n ∧ n ≤ 255 ∧ p = 0) := rfl
    rcases hd with a | ⟨a, b⟩ | ⟨a, b, c⟩ | ⟨a, b, c⟩
    all_goals
      first
        | (have e : fitB 13 n p = true := by rw [ev]; exact decide_eq_true ⟨a, b, c⟩)
        | (have e : fitB 13 n p = false := by rw [ev]; exact decide_eq_false (by omega))
      rw [e]; clear e ev
      first | (have q : (p == 0) = false := by simpa using c) | (subst c; have q := True.intro) | have q := True.intro
      go_enter Tryd.func56, Tryd.ntmps56
      go_wp2
      go_ret
      exact ⟨by first | rfl | (show Ending.returned (.bool (decide _)) = _; rw [decide_eq_false (by omega)]), bA⟩
  · have hd : ¬ (0 ≤ n) ∨ ((0 ≤ n) ∧ ¬ (n ≤ 255)) ∨ ((0 ≤ n) ∧ (n ≤ 255) ∧ ¬ (p = 0)) ∨ ((0 ≤ n) ∧ (n ≤ 255) ∧ (p = 0)) := by omega
    have ev : fitB k n p = decide (0 ≤ n ∧ n ≤ 255 ∧ p = 0) := by unfold fitB; rw [if_neg (by omega), if_neg h3, if_neg h4]
    have e1 : (k == 12) = false := by simp [h3]
    have e2 : (k == 11) = false := by simp [h4]
    have e3 : (k == 13) = false := by simp [h5]
    clear h3 h4 h5
    rcases hd with a | ⟨a, b⟩ | ⟨a, b, c⟩ | ⟨a, b, c⟩
    all_goals
      first
        | (have e : fitB k n p = true := by rw [ev]; exact decide_eq_true ⟨a, b, c⟩)
        | (have e : fitB k n p = false := by rw [ev]; exact decide_eq_false (by omega))
      rw [e]; clear e ev
      first | (have q : (p == 0) = false := by simpa using c) | (subst c; have q := True.intro) | have q := True.intro
      go_enter Tryd.func56, Tryd.ntmps56
      go_wp2
      go_ret
      exact ⟨by first | rfl | (show Ending.returned (.bool (decide _)) = _; rw [decide_eq_false (by omega)]), bA⟩
end Go.Proofs.YtcihplachlokiaaDoor
