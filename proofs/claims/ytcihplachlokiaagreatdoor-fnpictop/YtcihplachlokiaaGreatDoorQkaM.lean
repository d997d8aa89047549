/- An instruction as bytes: mathematics, and the small functions of both sides. -/
import Derived.Test.YtcihplachlokiaaGreatDoorZb
import Derived.Test.YtcihplachlokiaaGreatDoorEc
import Derived.Deep.RegionWith
import Derived.Deep.QuietTactic
import Derived.Deep.Cut
import Derived.BigQuiet
import Derived.Lib.QuietBelow
import Derived.WalkLawsBesides
namespace Go.Proofs.YtcihplachlokiaaGreatDoor
open Go.RowKit Go.Shelf
set_option linter.unusedVariables false
set_option linter.unusedSimpArgs false

def hasB (c : Int) : Bool := c == 1 || c == 2 || c == 3 || c == 10
def knB (c : Int) : Bool := decide (1 ≤ c) && decide (c ≤ 11)
def opB (c o : Int) : Bool := if c = 10 then decide (21 ≤ o) && decide (o ≤ 37) else decide (1 ≤ o) && decide (o ≤ 10)
def wdT (k : Int) : Nat := if k < 1 ∨ 13 < k then 0 else if k = 12 then 4 else if k = 11 then 2 else 1
def fitB (k n p : Int) : Bool :=
  if k < 1 ∨ 13 < k then false else if k = 12 then decide (-2147483648 ≤ n ∧ n ≤ 2147483647 ∧ 0 ≤ p ∧ p ≤ 255)
  else if k = 11 then decide (-32768 ≤ n ∧ n ≤ 32767 ∧ p = 0) else decide (0 ≤ n ∧ n ≤ 255 ∧ p = 0)

set_option maxHeartbeats 400000 in
theorem has_i (c : Int) (w : World) : Calls Tryz.prog 40 #[.int .i64 c] w fun e w' => e = .returned (.bool (hasB c)) ∧ w = w' := by
  by_cases h : c = 1 ∨ c = 2 ∨ c = 3 ∨ c = 10
  · rcases h with rfl | rfl | rfl | rfl
    all_goals
      go_enter Tryz.func40, Tryz.ntmps40
      go_wp2
      go_ret
      exact ⟨rfl, rfl⟩
  · have e : hasB c = false := by unfold hasB; simp; omega
    have e1 : (c == 1) = false := by simp; omega
    have e2 : (c == 2) = false := by simp; omega
    have e3 : (c == 3) = false := by simp; omega
    have e4 : (c == 10) = false := by simp; omega
    rw [e]
    clear h e
    go_enter Tryz.func40, Tryz.ntmps40
    go_wp2
    go_ret
    exact ⟨rfl, rfl⟩
set_option maxHeartbeats 400000 in
theorem has_s (c : Int) (w : World) : Calls Tryz.prog 35 #[.int .i64 c] w fun e w' => e = .returned (.bool (hasB c)) ∧ w = w' := by
  by_cases h : c = 1 ∨ c = 2 ∨ c = 3 ∨ c = 10
  · rcases h with rfl | rfl | rfl | rfl
    all_goals
      go_enter Tryz.func35, Tryz.ntmps35
      go_wp2
      go_ret
      exact ⟨rfl, rfl⟩
  · have e : hasB c = false := by unfold hasB; simp; omega
    have e1 : (c == 1) = false := by simp; omega
    have e2 : (c == 2) = false := by simp; omega
    have e3 : (c == 3) = false := by simp; omega
    have e4 : (c == 10) = false := by simp; omega
    rw [e]
    clear h e
    go_enter Tryz.func35, Tryz.ntmps35
    go_wp2
    go_ret
    exact ⟨rfl, rfl⟩
set_option maxHeartbeats 400000 in
theorem kn_i (c : Int) (w : World) : Calls Tryz.prog 60 #[.int .i64 c] w fun e w' => e = .returned (.bool (knB c)) ∧ w = w' := by
  by_cases h1 : 1 ≤ c
  · by_cases h2 : c ≤ 11
    · have e : knB c = true := by unfold knB; simp; omega
      rw [e]
      clear e
      go_enter Tryz.func60, Tryz.ntmps60
      go_wp2
      go_ret
      exact ⟨rfl, rfl⟩
    · have e : knB c = false := by unfold knB; simp; omega
      rw [e]
      clear e
      go_enter Tryz.func60, Tryz.ntmps60
      go_wp2
      go_ret
      exact ⟨rfl, rfl⟩
  · have e : knB c = false := by unfold knB; simp; omega
    rw [e]
    clear e
    go_enter Tryz.func60, Tryz.ntmps60
    go_wp2
    go_ret
    exact ⟨rfl, rfl⟩
set_option maxHeartbeats 400000 in
theorem op_i (c o : Int) (w : World) : Calls Tryz.prog 62 #[.int .i64 c, .int .i64 o] w fun e w' => e = .returned (.bool (opB c o)) ∧ w = w' := by
  by_cases h : c = 10
  · subst h
    have hc : (o < 21) ∨ (21 ≤ o ∧ o ≤ 37) ∨ (21 ≤ o ∧ ¬ o ≤ 37) := by omega
    rcases hc with h | ⟨h, h'⟩ | ⟨h, h'⟩
    · have e : opB 10 o = false := by unfold opB; simp; omega
      rw [e]; clear e
      go_enter Tryz.func62, Tryz.ntmps62
      go_wp2
      go_ret
      exact ⟨rfl, rfl⟩
    · have e : opB 10 o = true := by unfold opB; simp; omega
      rw [e]; clear e
      go_enter Tryz.func62, Tryz.ntmps62
      go_wp2
      go_ret
      exact ⟨rfl, rfl⟩
    · have e : opB 10 o = false := by unfold opB; simp; omega
      rw [e]; clear e
      go_enter Tryz.func62, Tryz.ntmps62
      go_wp2
      go_ret
      exact ⟨rfl, rfl⟩
  · have hc : (o < 1) ∨ (1 ≤ o ∧ o ≤ 10) ∨ (1 ≤ o ∧ ¬ o ≤ 10) := by omega
    have e1 : (c == 10) = false := by simp; omega
    rcases hc with h' | ⟨h', h''⟩ | ⟨h', h''⟩
    · have e : opB c o = false := by unfold opB; simp [h]; omega
      rw [e]; clear e h
      go_enter Tryz.func62, Tryz.ntmps62
      go_wp2
      go_ret
      exact ⟨rfl, rfl⟩
    · have e : opB c o = true := by unfold opB; simp [h]; omega
      rw [e]; clear e h
      go_enter Tryz.func62, Tryz.ntmps62
      go_wp2
      go_ret
      exact ⟨rfl, rfl⟩
    · have e : opB c o = false := by unfold opB; simp [h]; omega
      rw [e]; clear e h
      go_enter Tryz.func62, Tryz.ntmps62
      go_wp2
      go_ret
      exact ⟨rfl, rfl⟩
set_option maxHeartbeats 400000 in
theorem op_s (c o : Int) (w : World) : Calls Tryz.prog 42 #[.int .i64 c, .int .i64 o] w fun e w' => e = .returned (.bool (opB c o)) ∧ w = w' := by
  by_cases h : c = 10
  · subst h
    have hc : (o < 21) ∨ (21 ≤ o ∧ o ≤ 37) ∨ (21 ≤ o ∧ ¬ o ≤ 37) := by omega
    rcases hc with h | ⟨h, h'⟩ | ⟨h, h'⟩
    · have e : opB 10 o = false := by unfold opB; simp; omega
      rw [e]; clear e
      go_enter Tryz.func42, Tryz.ntmps42
      go_wp2
      go_ret
      exact ⟨rfl, rfl⟩
    · have e : opB 10 o = true := by unfold opB; simp; omega
      rw [e]; clear e
      go_enter Tryz.func42, Tryz.ntmps42
      go_wp2
      go_ret
      exact ⟨rfl, rfl⟩
    · have e : opB 10 o = false := by unfold opB; simp; omega
      rw [e]; clear e
      go_enter Tryz.func42, Tryz.ntmps42
      go_wp2
      go_ret
      exact ⟨rfl, rfl⟩
  · have hc : (o < 1) ∨ (1 ≤ o ∧ o ≤ 10) ∨ (1 ≤ o ∧ ¬ o ≤ 10) := by omega
    have e1 : (c == 10) = false := by simp; omega
    rcases hc with h' | ⟨h', h''⟩ | ⟨h', h''⟩
    · have e : opB c o = false := by unfold opB; simp [h]; omega
      rw [e]; clear e h
      go_enter Tryz.func42, Tryz.ntmps42
      go_wp2
      go_ret
      exact ⟨rfl, rfl⟩
    · have e : opB c o = true := by unfold opB; simp [h]; omega
      rw [e]; clear e h
      go_enter Tryz.func42, Tryz.ntmps42
      go_wp2
      go_ret
      exact ⟨rfl, rfl⟩
    · have e : opB c o = false := by unfold opB; simp [h]; omega
      rw [e]; clear e h
      go_enter Tryz.func42, Tryz.ntmps42
      go_wp2
      go_ret
      exact ⟨rfl, rfl⟩
set_option maxHeartbeats 400000 in
theorem wd_i (k : Int) (w : World) : Calls Tryz.prog 65 #[.int .i64 k] w fun e w' => e = .returned (.int .i64 (wdT k : Nat)) ∧ w = w' := by
  have hc : k < 1 ∨ 13 < k ∨ k = 12 ∨ k = 11 ∨ (1 ≤ k ∧ k ≤ 13 ∧ k ≠ 12 ∧ k ≠ 11) := by omega
  rcases hc with h | h | rfl | rfl | ⟨h1, h2, h3, h4⟩
  · have e : wdT k = 0 := by unfold wdT; rw [if_pos (.inl h)]
    rw [e]; clear e
    go_enter Tryz.func65, Tryz.ntmps65
    go_wp2
    go_ret
    exact ⟨rfl, rfl⟩
  · have e : wdT k = 0 := by unfold wdT; rw [if_pos (.inr h)]
    have h' : ¬ k < 1 := by omega
    rw [e]; clear e
    go_enter Tryz.func65, Tryz.ntmps65
    go_wp2
    go_ret
    exact ⟨rfl, rfl⟩
  · go_enter Tryz.func65, Tryz.ntmps65
    go_wp2
    go_ret
    exact ⟨rfl, rfl⟩
  · go_enter Tryz.func65, Tryz.ntmps65
    go_wp2
    go_ret
    exact ⟨rfl, rfl⟩
  · have e : wdT k = 1 := by unfold wdT; rw [if_neg (by omega), if_neg h3, if_neg h4]
    have e1 : (k == 12) = false := by simp [h3]
    have e2 : (k == 11) = false := by simp [h4]
    rw [e]; clear e h3 h4
    go_enter Tryz.func65, Tryz.ntmps65
    go_wp2
    go_ret
    exact ⟨rfl, rfl⟩
set_option maxHeartbeats 400000 in
theorem wd_s (k : Int) (w : World) (h1 : 1 ≤ k) (h2 : k ≤ 13) : Calls Tryz.prog 45 #[.int .i64 k] w fun e w' => e = .returned (.int .i64 (wdT k : Nat)) ∧ w = w' := by
  have hc : k = 12 ∨ k = 11 ∨ (k ≠ 12 ∧ k ≠ 11) := by omega
  rcases hc with rfl | rfl | ⟨h3, h4⟩
  · go_enter Tryz.func45, Tryz.ntmps45
    go_wp2
    go_ret
    exact ⟨rfl, rfl⟩
  · go_enter Tryz.func45, Tryz.ntmps45
    go_wp2
    go_ret
    exact ⟨rfl, rfl⟩
  · have e : wdT k = 1 := by unfold wdT; rw [if_neg (by omega), if_neg h3, if_neg h4]
    have e1 : (k == 12) = false := by simp [h3]
    have e2 : (k == 11) = false := by simp [h4]
    rw [e]; clear e h3 h4
    go_enter Tryz.func45, Tryz.ntmps45
    go_wp2
    go_ret
    exact ⟨rfl, rfl⟩
end Go.Proofs.YtcihplachlokiaaGreatDoor
/- Operands that can be written. -/
namespace Go.Proofs.YtcihplachlokiaaGreatDoor
open Go.RowKit Go.Shelf
set_option linter.unusedVariables false
set_option linter.unusedSimpArgs false

set_option maxHeartbeats 1000000 in
theorem fit_i (k n p : Int) (w : World) : Calls Tryz.prog 64 #[.agg #[.int .i64 k, .int .i64 n, .int .i64 p]] w fun e w' => e = .returned (.bool (fitB k n p)) ∧ Below w.heap.size w w' := by
  have HW : Hid (∀ W, Calls Tryz.prog 65 #[.int .i64 k] W fun e w' => e = .returned (.int .i64 (wdT k : Nat)) ∧ W = w') := fun W => wd_i k W
  have bA : Below w.heap.size w (w.alloc (.cells #[.int .i64 k, .int .i64 n, .int .i64 p] 72)) := (Below.refl _ _).alloc (Nat.le_refl _) _
  have hc : (k < 1 ∨ 13 < k) ∨ k = 12 ∨ k = 11 ∨ ((1 ≤ k ∧ k ≤ 13) ∧ k ≠ 12 ∧ k ≠ 11) := by omega
  rcases hc with h | rfl | rfl | ⟨⟨h1, h2⟩, h3, h4⟩
  · have e : fitB k n p = false := by unfold fitB; rw [if_pos h]
    have e2 : wdT k = 0 := by unfold wdT; rw [if_pos h]
    rw [e]; rw [e2] at HW
    clear e e2 h
    go_enter Tryz.func64, Tryz.ntmps64
    go_wp2_with fail
    refine (HW.out _).mono ?_
    rintro e w1 ⟨rfl, rfl⟩
    go_wp2
    go_ret
    exact ⟨by first | rfl | (show Ending.returned (.bool (decide _)) = _; rw [decide_eq_false (by omega)]), bA⟩
  · have hd : ¬ (-2147483648 ≤ n) ∨ ((-2147483648 ≤ n) ∧ ¬ (n ≤ 2147483647)) ∨ ((-2147483648 ≤ n) ∧ (n ≤ 2147483647) ∧ ¬ (0 ≤ p)) ∨ ((-2147483648 ≤ n) ∧ (n ≤ 2147483647) ∧ (0 ≤ p) ∧ ¬ (p ≤ 255)) ∨ ((-2147483648 ≤ n) ∧ (n ≤ 2147483647) ∧ (0 ≤ p) ∧ (p ≤ 255)) := by omega
    have ev : fitB 12 n p = decide (-2147483648 ≤ n ∧ n ≤ 2147483647 ∧ 0 ≤ p ∧ p ≤ 255) := rfl
    rcases hd with a | ⟨a, b⟩ | ⟨a, b, c⟩ | ⟨a, b, c, d⟩ | ⟨a, b, c, d⟩
    all_goals
      first
        | (have e : fitB 12 n p = true := by rw [ev]; exact decide_eq_true ⟨a, b, c, d⟩)
        | (have e : fitB 12 n p = false := by rw [ev]; exact decide_eq_false (by omega))
      rw [e]; clear e ev
      go_enter Tryz.func64, Tryz.ntmps64
      go_wp2_with fail
      refine (HW.out _).mono ?_
      rintro e w1 ⟨rfl, rfl⟩
      go_wp2
      go_ret
      exact ⟨by first | rfl | (show Ending.returned (.bool (decide _)) = _; rw [decide_eq_false (by omega)]), bA⟩
  · have hd : ¬ (-32768 ≤ n) ∨ ((-32768 ≤ n) ∧ ¬ (n ≤ 32767)) ∨ ((-32768 ≤ n) ∧ (n ≤ 32767) ∧ ¬ (0 ≤ p)) ∨ ((-32768 ≤ n) ∧ (n ≤ 32767) ∧ (0 ≤ p) ∧ ¬ (p ≤ 0)) ∨ ((-32768 ≤ n) ∧ (n ≤ 32767) ∧ (0 ≤ p) ∧ (p ≤ 0)) := by omega
    have ev : fitB 11 n p = decide (-32768 ≤ n ∧ n ≤ 32767 ∧ p = 0) := rfl
    rcases hd with a | ⟨a, b⟩ | ⟨a, b, c⟩ | ⟨a, b, c, d⟩ | ⟨a, b, c, d⟩
    all_goals
      first
        | (have e : fitB 11 n p = true := by rw [ev]; exact decide_eq_true ⟨a, b, by omega⟩)
        | (have e : fitB 11 n p = false := by rw [ev]; exact decide_eq_false (by omega))
      rw [e]; clear e ev
      go_enter Tryz.func64, Tryz.ntmps64
      go_wp2_with fail
      refine (HW.out _).mono ?_
      rintro e w1 ⟨rfl, rfl⟩
      go_wp2
      go_ret
      exact ⟨by first | rfl | (show Ending.returned (.bool (decide _)) = _; rw [decide_eq_false (by omega)]), bA⟩
  · have hd : ¬ (0 ≤ n) ∨ ((0 ≤ n) ∧ ¬ (n ≤ 255)) ∨ ((0 ≤ n) ∧ (n ≤ 255) ∧ ¬ (0 ≤ p)) ∨ ((0 ≤ n) ∧ (n ≤ 255) ∧ (0 ≤ p) ∧ ¬ (p ≤ 0)) ∨ ((0 ≤ n) ∧ (n ≤ 255) ∧ (0 ≤ p) ∧ (p ≤ 0)) := by omega
    have ev : fitB k n p = decide (0 ≤ n ∧ n ≤ 255 ∧ p = 0) := by unfold fitB; rw [if_neg (by omega), if_neg h3, if_neg h4]
    have e2 : wdT k = 1 := by unfold wdT; rw [if_neg (by omega), if_neg h3, if_neg h4]
    rw [e2] at HW
    rcases hd with a | ⟨a, b⟩ | ⟨a, b, c⟩ | ⟨a, b, c, d⟩ | ⟨a, b, c, d⟩
    all_goals
      first
        | (have e : fitB k n p = true := by rw [ev]; exact decide_eq_true ⟨a, b, by omega⟩)
        | (have e : fitB k n p = false := by rw [ev]; exact decide_eq_false (by omega))
      rw [e]; clear e ev e2 h3 h4
      go_enter Tryz.func64, Tryz.ntmps64
      go_wp2_with fail
      refine (HW.out _).mono ?_
      rintro e w1 ⟨rfl, rfl⟩
      go_wp2
      go_ret
      exact ⟨by first | rfl | (show Ending.returned (.bool (decide _)) = _; rw [decide_eq_false (by omega)]), bA⟩

set_option maxHeartbeats 1000000 in
theorem fit_s (k n p : Int) (w : World) : Calls Tryz.prog 44 #[.agg #[.int .i64 k, .int .i64 n, .int .i64 p]] w fun e w' => e = .returned (.bool (fitB k n p)) ∧ Below w.heap.size w w' := by
  have bA : Below w.heap.size w (w.alloc (.cells #[.int .i64 k, .int .i64 n, .int .i64 p] 72)) := (Below.refl _ _).alloc (Nat.le_refl _) _
  have hc : k < 1 ∨ 13 < k ∨ k = 12 ∨ k = 11 ∨ k = 13 ∨ ((1 ≤ k ∧ k ≤ 10) ∧ k ≠ 12 ∧ k ≠ 11 ∧ k ≠ 13) := by omega
  rcases hc with h | h | rfl | rfl | rfl | ⟨⟨h1, h2⟩, h3, h4, h5⟩
  · have e : fitB k n p = false := by unfold fitB; rw [if_pos (.inl h)]
    have e1 : (k == 12) = false := by simp; omega
    have e2 : (k == 11) = false := by simp; omega
    have e3 : (k == 13) = false := by simp; omega
    have h' : ¬ (1 ≤ k) := by omega
    rw [e]
    clear e h
    go_enter Tryz.func44, Tryz.ntmps44
    go_wp2
    go_ret
    exact ⟨by first | rfl | (show Ending.returned (.bool (decide _)) = _; rw [decide_eq_false (by omega)]), bA⟩
  · have e : fitB k n p = false := by unfold fitB; rw [if_pos (.inr h)]
    have e1 : (k == 12) = false := by simp; omega
    have e2 : (k == 11) = false := by simp; omega
    have e3 : (k == 13) = false := by simp; omega
    have h' : 1 ≤ k := by omega
    have h'' : ¬ (k ≤ 10) := by omega
    rw [e]
    clear e h
    go_enter Tryz.func44, Tryz.ntmps44
    go_wp2
    go_ret
    exact ⟨by first | rfl | (show Ending.returned (.bool (decide _)) = _; rw [decide_eq_false (by omega)]), bA⟩
  · have hd : ¬ (-2147483648 ≤ n) ∨ ((-2147483648 ≤ n) ∧ ¬ (n ≤ 2147483647)) ∨ ((-2147483648 ≤ n) ∧ (n ≤ 2147483647) ∧ ¬ (0 ≤ p)) ∨ ((-2147483648 ≤ n) ∧ (n ≤ 2147483647) ∧ (0 ≤ p) ∧ ¬ (p ≤ 255)) ∨ ((-2147483648 ≤ n) ∧ (n ≤ 2147483647) ∧ (0 ≤ p) ∧ (p ≤ 255)) := by omega
    have ev : fitB 12 n p = decide (-2147483648 ≤ n ∧ n ≤ 2147483647 ∧ 0 ≤ p ∧ p ≤ 255) := rfl
    rcases hd with a | ⟨a, b⟩ | ⟨a, b, c⟩ | ⟨a, b, c, d⟩ | ⟨a, b, c, d⟩
    all_goals
      first
        | (have e : fitB 12 n p = true := by rw [ev]; exact decide_eq_true ⟨a, b, c, d⟩)
        | (have e : fitB 12 n p = false := by rw [ev]; exact decide_eq_false (by omega))
      rw [e]; clear e ev
      go_enter Tryz.func44, Tryz.ntmps44
      go_wp2
      go_ret
      exact ⟨by first | rfl | (show Ending.returned (.bool (decide _)) = _; rw [decide_eq_false (by omega)]), bA⟩
  · have hd : ¬ (-32768 ≤ n) ∨ ((-32768 ≤ n) ∧ ¬ (n ≤ 32767)) ∨ ((-32768 ≤ n) ∧ (n ≤ 32767) ∧ ¬ (p = 0)) ∨ ((-32768 ≤ n) ∧ (n ≤ 32767) ∧ (p = 0)) := by omega
    have ev : fitB 11 n p = decide (-32768 ≤ n ∧ n ≤ 32767 ∧ p = 0) := rfl
    rcases hd with a | ⟨a, b⟩ | ⟨a, b, c⟩ | ⟨a, b, c⟩
    all_goals
      first
        | (have e : fitB 11 n p = true := by rw [ev]; exact decide_eq_true ⟨a, b, c⟩)
        | (have e : fitB 11 n p = false := by rw [ev]; exact decide_eq_false (by omega))
      rw [e]; clear e ev
      first | (have q : (p == 0) = false := by simpa using c) | (subst c; have q := True.intro) | have q := True.intro
      go_enter Tryz.func44, Tryz.ntmps44
      go_wp2
      go_ret
      exact ⟨by first | rfl | (show Ending.returned (.bool (decide _)) = _; rw [decide_eq_false (by omega)]), bA⟩
  · have hd : ¬ (0 ≤ n) ∨ ((0 ≤ n) ∧ ¬ (n ≤ 255)) ∨ ((0 ≤ n) ∧ (n ≤ 255) ∧ ¬ (p = 0)) ∨ ((0 ≤ n) ∧ (n ≤ 255) ∧ (p = 0)) := by omega
    have ev : fitB 13 n p = decide (0 ≤ n ∧ n ≤ 255 ∧ p = 0) := rfl
    rcases hd with a | ⟨a, b⟩ | ⟨a, b, c⟩ | ⟨a, b, c⟩
    all_goals
      first
        | (have e : fitB 13 n p = true := by rw [ev]; exact decide_eq_true ⟨a, b, c⟩)
        | (have e : fitB 13 n p = false := by rw [ev]; exact decide_eq_false (by omega))
      rw [e]; clear e ev
      first | (have q : (p == 0) = false := by simpa using c) | (subst c; have q := True.intro) | have q := True.intro
      go_enter Tryz.func44, Tryz.ntmps44
      go_wp2
      go_ret
      exact ⟨by first | rfl | (show Ending.returned (.bool (decide _)) = _; rw [decide_eq_false (by omega)]), bA⟩
  · have hd : ¬ (0 ≤ n) ∨ ((0 ≤ n) ∧ ¬ (n ≤ 255)) ∨ ((0 ≤ n) ∧ (n ≤ 255) ∧ ¬ (p = 0)) ∨ ((0 ≤ n) ∧ (n ≤ 255) ∧ (p = 0)) := by omega
    have ev : fitB k n p = decide (0 ≤ n ∧ n ≤ 255 ∧ p = 0) := by unfold fitB; rw [if_neg (by omega), if_neg h3, if_neg h4]
    have e1 : (k == 12) = false := by simp [h3]
    have e2 : (k == 11) = false := by simp [h4]
    have e3 : (k == 13) = false := by simp [h5]
    clear h3 h4 h5
    rcases hd with a | ⟨a, b⟩ | ⟨a, b, c⟩ | ⟨a, b, c⟩
    all_goals
      first
        | (have e : fitB k n p = true := by rw [ev]; exact decide_eq_true ⟨a, b, c⟩)
        | (have e : fitB k n p = false := by rw [ev]; exact decide_eq_false (by omega))
      rw [e]; clear e ev
      first | (have q : (p == 0) = false := by simpa using c) | (subst c; have q := True.intro) | have q := True.intro
      go_enter Tryz.func44, Tryz.ntmps44
      go_wp2
      go_ret
      exact ⟨by first | rfl | (show Ending.returned (.bool (decide _)) = _; rw [decide_eq_false (by omega)]), bA⟩
end Go.Proofs.YtcihplachlokiaaGreatDoor
/- Which instructions can be written: the program. -/
namespace Go.Proofs.YtcihplachlokiaaGreatDoor
open Go.RowKit Go.Shelf
set_option linter.unusedVariables false
set_option linter.unusedSimpArgs false

def fitA (x : ArgT) : Bool := fitB x.1 x.2.1 x.2.2
/-- What keeps an instruction from being written; 0, if nothing does. -/
def wrT (i : InstT) : Int :=
  if knB i.code = false then 2 else if hasB i.code = false then (if i.one.op = 0 ∧ i.one.args.length = 0 then 0 else 2)
  else if opB i.code i.one.op = false then 2 else if (i.one.args.length : Int) ≠ arN i.one.op then 2 else if i.one.args.all fitA then 0 else 3

/-- Operands at a slice. -/
def SlA (W : World) (a : Option Addr) (xs : List ArgT) : Prop := ∀ j x, xs[j]? = some x → ∃ b o, a = some ⟨b, o, none⟩ ∧ b < W.heap.size ∧ W.cell? ⟨b, o + j * 3, none⟩ = some (.int .i64 x.1) ∧ W.cell? ⟨b, o + j * 3 + 1, none⟩ = some (.int .i64 x.2.1) ∧ W.cell? ⟨b, o + j * 3 + 2, none⟩ = some (.int .i64 x.2.2)
theorem SlA.later {W W' : World} {B : Nat} {a : Option Addr} {xs : List ArgT} (h : SlA W a xs) (g : Below B W W') (hB : W.heap.size ≤ B) : SlA W' a xs := fun j x hx => by
  obtain ⟨b, o, h1, h2, h3, h4, h5⟩ := h j x hx
  exact ⟨b, o, h1, Nat.lt_of_lt_of_le h2 g.size, (g.cell (p := ⟨b, _, none⟩) (by show b < B; omega)).trans h3, (g.cell (p := ⟨b, _, none⟩) (by show b < B; omega)).trans h4, (g.cell (p := ⟨b, _, none⟩) (by show b < B; omega)).trans h5⟩
theorem slA_of {W : World} {lo : Nat} {v : Value} {xs : List ArgT} (h : RowIs W lo 3 ArgIs v xs) : ∃ a c, v = .slice a xs.length c ∧ xs.length ≤ 9223372036854775807 ∧ SlA W a xs := by
  obtain ⟨a, c, h1, h2, h3⟩ := h
  refine ⟨a, c, h1, h2, fun j x hx => ?_⟩
  obtain ⟨b, o, cs, e1, _, _, hr, hc⟩ := h3 j x hx
  have hc' : cs = [.int .i64 x.1, .int .i64 x.2.1, .int .i64 x.2.2] := hc
  subst hc'
  have c0 := hr 0 _ rfl
  exact ⟨b, o, e1, World.block_lt_of_cell? _ _ c0, c0, hr 1 _ rfl, hr 2 _ rfl⟩

set_option maxHeartbeats 400000 in
theorem nothing_i18 (op : Int) (a : Option Addr) (l c : Nat) (w : World) (hl : l ≤ 9223372036854775807) :
    Calls Tryz.prog 61 #[.agg #[.int .i64 op, .slice a l c]] w fun e w' => e = .returned (.bool (decide (op = 0) && decide (l = 0))) ∧ Below w.heap.size w w' := by
  have b0 : ∀ A, Below w.heap.size w (w.alloc A) := fun A => (Below.refl _ _).alloc (Nat.le_refl _) _
  by_cases h1 : op = 0
  · subst h1
    by_cases h2 : l = 0
    · subst h2
      go_enter Tryz.func61, Tryz.ntmps61
      go_wp2
      go_ret
      exact ⟨by simp, b0 _⟩
    · have e1 : ((l : Int) == 0) = false := by simp; omega
      go_enter Tryz.func61, Tryz.ntmps61
      go_wp2
      go_ret
      exact ⟨by simp [h2], b0 _⟩
  · have e1 : (op == 0) = false := by simp [h1]
    go_enter Tryz.func61, Tryz.ntmps61
    go_wp2
    go_ret
    exact ⟨by simp [h1], b0 _⟩

/-- The instruction in its box, from a world on. -/
def LI (w : World) (c op : Int) (s : Value) (W : World) : Prop := W.heap[w.heap.size]? = some (.cells #[.int .i64 c, .int .i64 op, s] 44 (0, 0)) ∧ Below w.heap.size w W
theorem LI.later {w W W' : World} {c op : Int} {s : Value} (h : LI w c op s W) (g : Below W.heap.size W W') : LI w c op s W' :=
  ⟨(g.block _ (Array.getElem?_eq_some_iff.1 h.1).1).trans h.1, h.2.trans (g.mono h.2.size)⟩
theorem LI.cells {w W : World} {c op : Int} {s : Value} (h : LI w c op s W) : W.cell? ⟨w.heap.size, 0, none⟩ = some (.int .i64 c) ∧ W.cell? ⟨w.heap.size, 1, none⟩ = some (.int .i64 op) ∧ W.cell? ⟨w.heap.size, 2, none⟩ = some s ∧ w.heap.size < W.heap.size :=
  ⟨(cell_of_row _ _ _ _ _ _ h.1).trans rfl, (cell_of_row _ _ _ _ _ _ h.1).trans rfl, (cell_of_row _ _ _ _ _ _ h.1).trans rfl, (Array.getElem?_eq_some_iff.1 h.1).1⟩
theorem LI.start (w : World) (c op : Int) (s : Value) : LI w c op s (w.alloc (.cells #[.int .i64 c, .int .i64 op, s] 44)) := ⟨heap_alloc_last _ _, (Below.refl _ _).alloc (Nat.le_refl _) _⟩

theorem bdn18 {B : Nat} {a w : World} (h : Below B a w) (n : Nat) : Below B a (w.drewN n) := ⟨h.os, h.tape, h.output, h.size, h.block⟩
theorem all_no {α : Type} {f : α → Bool} : ∀ {xs : List α} {j : Nat} {x : α}, xs[j]? = some x → f x = false → xs.all f = false := fun {xs j x} h hf => by
  rw [List.all_eq_false]
  exact ⟨x, List.mem_of_getElem? h, by simp [hf]⟩

set_option maxRecDepth 10000 in
set_option maxHeartbeats 4000000 in
theorem wrong_i (c op : Int) (a : Option Addr) (len cap : Nat) (xs : List ArgT) (w : World) (hl : len = xs.length) (hm : len ≤ 9223372036854775807) (hx : SlA w a xs) :
    Calls Tryz.prog 39 #[.agg #[.int .i64 c, .int .i64 op, .slice a len cap]] w fun e w' => e = .returned (.int .i64 (wrT ⟨c, ⟨op, xs⟩⟩)) ∧ Below w.heap.size w w' := by
  have HB : Hid (∀ W, Calls Tryz.prog 40 #[.int .i64 c] W fun e w' => e = .returned (.bool (hasB c)) ∧ W = w') := fun W => has_i c W
  have HK : Hid (∀ W, Calls Tryz.prog 60 #[.int .i64 c] W fun e w' => e = .returned (.bool (knB c)) ∧ W = w') := fun W => kn_i c W
  have HN : Hid (∀ W, Calls Tryz.prog 61 #[.agg #[.int .i64 op, .slice a len cap]] W fun e w' => e = .returned (.bool (decide (op = 0) && decide (len = 0))) ∧ Below W.heap.size W w') := fun W => nothing_i18 op a len cap W hm
  have HO : Hid (∀ W, Calls Tryz.prog 62 #[.int .i64 c, .int .i64 op] W fun e w' => e = .returned (.bool (opB c op)) ∧ W = w') := fun W => op_i c op W
  have HA : Hid (∀ W, Calls Tryz.prog 63 #[.int .i64 op] W fun e w' => e = .returned (.int .i64 (arN op)) ∧ Below W.heap.size W w') := fun W => impl_arity op W
  have HX : Hid (SlA w a xs) := hx
  have I0 := LI.start w c op (.slice a len cap)
  have HWr : Hid (wrT ⟨c, ⟨op, xs⟩⟩ = if knB c = false then 2 else if hasB c = false then (if op = 0 ∧ xs.length = 0 then 0 else 2) else if opB c op = false then 2 else if (xs.length : Int) ≠ arN op then 2 else if xs.all fitA then 0 else 3) := rfl
  rw [HWr.out]
  have Hl : Hid (len = xs.length) := hl
  clear hx HWr
  by_cases hk : knB c = false
  · rw [if_pos hk]
    rw [hk] at HK
    obtain ⟨hb, Hb⟩ : ∃ b, Hid (b = hasB c) := ⟨_, rfl⟩
    rw [← Hb.out] at HB
    clear hk hl
    go_enter Tryz.func39, Tryz.ntmps39
    go_wp2_with fail
    refine (HB.out _).mono ?_
    rintro e w1 ⟨rfl, rfl⟩
    go_wp2_with fail
    refine (HK.out _).mono ?_
    rintro e w1 ⟨rfl, rfl⟩
    have b1 := I0.2
    go_wp2
    go_ret
    exact ⟨rfl, b1⟩
  · rw [if_neg hk]
    have hk' : knB c = true := by simpa using hk
    rw [hk'] at HK
    clear hk hk'
    by_cases hh : hasB c = false
    · rw [if_pos hh]
      rw [hh] at HB
      clear hh
      by_cases hn : op = 0 ∧ xs.length = 0
      · rw [if_pos hn]
        have e1 : (decide (op = 0) && decide (len = 0)) = true := by rw [hl]; simp [hn.1, hn.2]
        have e2 : len = 0 := by omega
        rw [e1] at HN
        subst e2
        clear hn e1 hl HX
        go_enter Tryz.func39, Tryz.ntmps39
        go_upto_region 1 with fail
        generalize (w.alloc (.cells #[.int .i64 c, .int .i64 op, .slice a 0 cap] 44)) = W0 at I0 ⊢
        obtain ⟨p0, p1, p2, p3⟩ := I0.cells
        go_wp2_with fail
        refine (HB.out _).mono ?_
        rintro e w1 ⟨rfl, rfl⟩
        go_wp2_with fail
        refine (HK.out _).mono ?_
        rintro e w1 ⟨rfl, rfl⟩
        go_wp2_with fail
        refine (HN.out _).mono ?_
        rintro e w2 ⟨rfl, g2⟩
        have I2 := I0.later g2
        obtain ⟨q0, q1, q2, q3⟩ := I2.cells
        have b2 := I2.2
        clear p0 p1 p2 p3 g2 I0 I2
        go_wp2
        go_quiet (fail)
        go_wp2
        go_rounds 1
        go_ret
        exact ⟨rfl, bdn18 b2 _⟩
      · rw [if_neg hn]
        have e1 : (decide (op = 0) && decide (len = 0)) = false := by
          rw [hl]
          by_cases h : op = 0
          · have : ¬ xs.length = 0 := fun h' => hn ⟨h, h'⟩
            simp [h]; exact fun h' => this (by rw [h']; rfl)
          · simp [h]
        rw [e1] at HN
        clear hn e1 hl HX
        go_enter Tryz.func39, Tryz.ntmps39
        go_upto_region 1 with fail
        generalize (w.alloc (.cells #[.int .i64 c, .int .i64 op, .slice a len cap] 44)) = W0 at I0 ⊢
        obtain ⟨p0, p1, p2, p3⟩ := I0.cells
        go_wp2_with fail
        refine (HB.out _).mono ?_
        rintro e w1 ⟨rfl, rfl⟩
        go_wp2_with fail
        refine (HK.out _).mono ?_
        rintro e w1 ⟨rfl, rfl⟩
        go_wp2_with fail
        refine (HN.out _).mono ?_
        rintro e w2 ⟨rfl, g2⟩
        have b2 := (I0.later g2).2
        clear p0 p1 p2 p3 g2 I0
        go_wp2
        go_ret
        exact ⟨rfl, b2⟩
    · rw [if_neg hh]
      have hh' : hasB c = true := by simpa using hh
      rw [hh'] at HB
      clear hh hh' HN
      by_cases ho : opB c op = false
      · rw [if_pos ho]
        rw [ho] at HO
        clear ho HA HX hl
        go_enter Tryz.func39, Tryz.ntmps39
        go_upto_region 1 with fail
        generalize (w.alloc (.cells #[.int .i64 c, .int .i64 op, .slice a len cap] 44)) = W0 at I0 ⊢
        obtain ⟨p0, p1, p2, p3⟩ := I0.cells
        go_wp2_with fail
        refine (HB.out _).mono ?_
        rintro e w1 ⟨rfl, rfl⟩
        go_wp2_with fail
        refine (HK.out _).mono ?_
        rintro e w1 ⟨rfl, rfl⟩
        have cO : ∀ d os, Calls Tryz.prog 62 #[.int .i64 c, .int .i64 op] (Sort.grow (redrawn W0 d) os) fun e w'' => e = .returned (.bool false) ∧ ∃ p : Regrown, w'' = Sort.grow (redrawn W0 p.d) p.os :=
          fun d os => Calls.regrown_of ((HO.out _).mono fun e w' ⟨h1, h2⟩ => ⟨h1, by rw [← h2]; exact Below.refl _ _⟩)
        have q0 : ∀ d os, (Sort.grow (redrawn W0 d) os).cell? ⟨w.heap.size, 0, none⟩ = some (.int .i64 c) := fun d os => ((I0.later (below_regrown W0 d os)).cells).1
        have q1 : ∀ d os, (Sort.grow (redrawn W0 d) os).cell? ⟨w.heap.size, 1, none⟩ = some (.int .i64 op) := fun d os => ((I0.later (below_regrown W0 d os)).cells).2.1
        have q2 : ∀ d os, (Sort.grow (redrawn W0 d) os).cell? ⟨w.heap.size, 2, none⟩ = some (.slice a len cap) := fun d os => ((I0.later (below_regrown W0 d os)).cells).2.2.1
        clear p0 p1 p2 p3
        go_upto_region 6 with fail
        refine wp_region_quiet_below (by kernel_rfl) (by kernel_rfl) ?_
        repeat (go_big_quiet_step (first | with_reducible exact cO _ _))
        refine wpQuiet_nil ?_
        intro w7 hw'
        have b7 : Below w.heap.size w w7 := by
          obtain ⟨⟨dq, osq⟩, rfl⟩ := hw'
          exact (I0.later (below_regrown W0 dq osq)).2
        clear hw' cO q0 q1 q2
        go_wp2
        go_ret
        exact ⟨rfl, b7⟩
      · rw [if_neg ho]
        have ho' : opB c op = true := by simpa using ho
        rw [ho'] at HO
        clear ho ho'
        by_cases ha : (xs.length : Int) ≠ arN op
        · rw [if_pos ha]
          have ea : ((len : Int) != arN op) = true := by rw [hl]; simpa using ha
          obtain ⟨N, HNn⟩ : ∃ N, Hid (N = arN op) := ⟨_, rfl⟩
          rw [← HNn.out] at HA ea
          clear ha HX hl
          go_enter Tryz.func39, Tryz.ntmps39
          go_upto_region 1 with fail
          generalize (w.alloc (.cells #[.int .i64 c, .int .i64 op, .slice a len cap] 44)) = W0 at I0 ⊢
          obtain ⟨p0, p1, p2, p3⟩ := I0.cells
          go_wp2_with fail
          refine (HB.out _).mono ?_
          rintro e w1 ⟨rfl, rfl⟩
          go_wp2_with fail
          refine (HK.out _).mono ?_
          rintro e w1 ⟨rfl, rfl⟩
          have cO : ∀ d os, Calls Tryz.prog 62 #[.int .i64 c, .int .i64 op] (Sort.grow (redrawn W0 d) os) fun e w'' => e = .returned (.bool true) ∧ ∃ p : Regrown, w'' = Sort.grow (redrawn W0 p.d) p.os :=
            fun d os => Calls.regrown_of ((HO.out _).mono fun e w' ⟨h1, h2⟩ => ⟨h1, by rw [← h2]; exact Below.refl _ _⟩)
          have cA : ∀ d os, Calls Tryz.prog 63 #[.int .i64 op] (Sort.grow (redrawn W0 d) os) fun e w'' => e = .returned (.int .i64 N) ∧ ∃ p : Regrown, w'' = Sort.grow (redrawn W0 p.d) p.os :=
            fun d os => Calls.regrown_of (HA.out _)
          have q0 : ∀ d os, (Sort.grow (redrawn W0 d) os).cell? ⟨w.heap.size, 0, none⟩ = some (.int .i64 c) := fun d os => ((I0.later (below_regrown W0 d os)).cells).1
          have q1 : ∀ d os, (Sort.grow (redrawn W0 d) os).cell? ⟨w.heap.size, 1, none⟩ = some (.int .i64 op) := fun d os => ((I0.later (below_regrown W0 d os)).cells).2.1
          have q2 : ∀ d os, (Sort.grow (redrawn W0 d) os).cell? ⟨w.heap.size, 2, none⟩ = some (.slice a len cap) := fun d os => ((I0.later (below_regrown W0 d os)).cells).2.2.1
          clear p0 p1 p2 p3
          go_upto_region 6 with fail
          refine wp_region_quiet_below (by kernel_rfl) (by kernel_rfl) ?_
          repeat (go_big_quiet_step (first | with_reducible exact cO _ _ | with_reducible exact cA _ _))
          refine wpQuiet_nil ?_
          intro w7 hw'
          have b7 : Below w.heap.size w w7 := by
            obtain ⟨⟨dq, osq⟩, rfl⟩ := hw'
            exact (I0.later (below_regrown W0 dq osq)).2
          clear hw' cO cA q0 q1 q2
          go_wp2
          go_ret
          exact ⟨rfl, b7⟩
        · rw [if_neg ha]
          obtain ⟨V, HV0⟩ : ∃ V : Int, Hid (V = if xs.all fitA then 0 else 3) := ⟨_, rfl⟩
          rw [← HV0.out]
          have ea : ((len : Int) != arN op) = false := by rw [hl]; simpa using ha
          obtain ⟨N, HNn⟩ : ∃ N, Hid (N = arN op) := ⟨_, rfl⟩
          rw [← HNn.out] at HA ea
          clear ha hl
          go_enter Tryz.func39, Tryz.ntmps39
          go_upto_region 1 with fail
          generalize (w.alloc (.cells #[.int .i64 c, .int .i64 op, .slice a len cap] 44)) = W0 at I0 ⊢
          obtain ⟨p0, p1, p2, p3⟩ := I0.cells
          go_wp2_with fail
          refine (HB.out _).mono ?_
          rintro e w1 ⟨rfl, rfl⟩
          go_wp2_with fail
          refine (HK.out _).mono ?_
          rintro e w1 ⟨rfl, rfl⟩
          have cO : ∀ d os, Calls Tryz.prog 62 #[.int .i64 c, .int .i64 op] (Sort.grow (redrawn W0 d) os) fun e w'' => e = .returned (.bool true) ∧ ∃ p : Regrown, w'' = Sort.grow (redrawn W0 p.d) p.os :=
            fun d os => Calls.regrown_of ((HO.out _).mono fun e w' ⟨h1, h2⟩ => ⟨h1, by rw [← h2]; exact Below.refl _ _⟩)
          have cA : ∀ d os, Calls Tryz.prog 63 #[.int .i64 op] (Sort.grow (redrawn W0 d) os) fun e w'' => e = .returned (.int .i64 N) ∧ ∃ p : Regrown, w'' = Sort.grow (redrawn W0 p.d) p.os :=
            fun d os => Calls.regrown_of (HA.out _)
          have q0 : ∀ d os, (Sort.grow (redrawn W0 d) os).cell? ⟨w.heap.size, 0, none⟩ = some (.int .i64 c) := fun d os => ((I0.later (below_regrown W0 d os)).cells).1
          have q1 : ∀ d os, (Sort.grow (redrawn W0 d) os).cell? ⟨w.heap.size, 1, none⟩ = some (.int .i64 op) := fun d os => ((I0.later (below_regrown W0 d os)).cells).2.1
          have q2 : ∀ d os, (Sort.grow (redrawn W0 d) os).cell? ⟨w.heap.size, 2, none⟩ = some (.slice a len cap) := fun d os => ((I0.later (below_regrown W0 d os)).cells).2.2.1
          clear p0 p1 p2 p3
          go_upto_region 6 with fail
          refine wp_region_quiet_below (by kernel_rfl) (by kernel_rfl) ?_
          repeat (go_big_quiet_step (first | with_reducible exact cO _ _ | with_reducible exact cA _ _))
          refine wpQuiet_nil ?_
          intro w7 hw'
          have I7 : LI w c op (.slice a len cap) w7 := by
            obtain ⟨⟨dq, osq⟩, rfl⟩ := hw'
            exact I0.later (below_regrown W0 dq osq)
          have b7 : Hid (Below w.heap.size w w7) := I7.2
          obtain ⟨p0, p1, p2, p3⟩ := I7.cells
          clear hw' cO cA q0 q1 q2 I0 I7 HB HK HO HA
          go_wp2
          go_loopw [5, 49] (fun _ i wr => ∃ k : Nat, k ≤ len ∧ i = .int .i64 k ∧ Hid ((xs.take k).all fitA = true ∧ Below w.heap.size w wr)) (fun _ i _ => len - (intOf i).toNat)
          case atStart => exact ⟨0, Nat.zero_le _, rfl, rfl, b7.out⟩
          case round =>
            clear b7 p0 p1 p2 p3
            obtain ⟨k, hk, rfl, HR⟩ := hrel
            by_cases hlt : k < len
            · have ik : (k : Int) < (len : Int) := by omega
              obtain ⟨x, hxk⟩ : ∃ x, xs[k]? = some x := ⟨_, List.getElem?_eq_getElem (by have := Hl.out; omega)⟩
              obtain ⟨b, o, rfl, hb, c0, c1, c2⟩ := (HX.out.later HR.out.2 (Nat.le_refl _)) k x hxk
              obtain ⟨xk, xn, xp⟩ := x
              have HFi : Hid (∀ W, Calls Tryz.prog 64 #[.agg #[.int .i64 xk, .int .i64 xn, .int .i64 xp]] W fun e w' => e = .returned (.bool (fitA (xk, xn, xp))) ∧ Below W.heap.size W w') := fun W => fit_i xk xn xp W
              simp only [] at c0 c1 c2
              have bz := HR.out.2.size
              have HT : Hid ((xs.take (k + 1)).all fitA = ((xs.take k).all fitA && fitA (xk, xn, xp))) := (by rw [List.take_succ_eq_append_getElem (by have := Hl.out; omega), List.all_append]; rw [show xs[k]'(by have := Hl.out; omega) = (xk, xn, xp) from Option.some.inj ((List.getElem?_eq_getElem _).symm.trans hxk)]; simp : (xs.take (k + 1)).all fitA = ((xs.take k).all fitA && fitA (xk, xn, xp)))
              have HNo : Hid (fitA (xk, xn, xp) = false → xs.all fitA = false) := all_no hxk
              clear hxk hb
              obtain ⟨F, HF⟩ : ∃ F, Hid (F = fitA (xk, xn, xp)) := ⟨_, rfl⟩
              rw [← HF.out] at HFi HT HNo
              go_wp2_with fail
              refine (HFi.out _).mono ?_
              rintro e w8 ⟨rfl, g8⟩
              have b8 : Hid (Below w.heap.size w w8) := (HR.out.2.alloc bz _).trans (g8.mono (by simp; omega))
              clear g8 HFi c0 c1 c2
              cases F with
              | true =>
                have HT2 : Hid ((xs.take (k + 1)).all fitA = true ∧ Below w.heap.size w w8) := ⟨by rw [HT.out, HR.out.1]; rfl, b8.out⟩
                clear HT HNo HF HR b8
                go_wp2
                go_roundw
                case rel => exact ⟨k + 1, by omega, by go_num, HT2⟩
                case measure => simp [intOf]; omega
              | false =>
                have HV : Hid (V = 3) := (by rw [HV0.out, HNo.out rfl]; rfl : V = 3)
                have b9 := b8.out
                clear HT HNo HF HR b8
                go_wp2
                go_ret
                exact ⟨by rw [HV.out]; rfl, b9⟩
            · have hkn : k = xs.length := by have := Hl.out; omega
              have HV : Hid (xs.all fitA = true) := (by have := HR.out.1; rwa [hkn, List.take_length] at this : xs.all fitA = true)
              have HV2 : Hid (V = 0) := (by rw [HV0.out, HV.out]; rfl : V = 0)
              have b9 := HR.out.2
              have ik : ¬ ((k : Int) < (len : Int)) := by omega
              clear HR hkn
              go_wp2
              go_ret
              exact ⟨by rw [HV2.out]; rfl, b9⟩
end Go.Proofs.YtcihplachlokiaaGreatDoor
/- Which instructions can be written: the specification. -/
namespace Go.Proofs.YtcihplachlokiaaGreatDoor
open Go.RowKit Go.Shelf
set_option linter.unusedVariables false
set_option linter.unusedSimpArgs false

set_option maxRecDepth 10000 in
set_option maxHeartbeats 4000000 in
theorem wrong_s (c op : Int) (a : Option Addr) (len cap : Nat) (xs : List ArgT) (w : World) (hl : len = xs.length) (hm : len ≤ 9223372036854775807) (hx : SlA w a xs) :
    Calls Tryz.prog 19 #[.agg #[.int .i64 c, .int .i64 op, .slice a len cap]] w fun e w' => e = .returned (.int .i64 (wrT ⟨c, ⟨op, xs⟩⟩)) ∧ Below w.heap.size w w' := by
  have HB : Hid (∀ W, Calls Tryz.prog 35 #[.int .i64 c] W fun e w' => e = .returned (.bool (hasB c)) ∧ W = w') := fun W => has_s c W
  have HO : Hid (∀ W, Calls Tryz.prog 42 #[.int .i64 c, .int .i64 op] W fun e w' => e = .returned (.bool (opB c op)) ∧ W = w') := fun W => op_s c op W
  have HA : Hid (∀ W, Calls Tryz.prog 43 #[.int .i64 op] W fun e w' => e = .returned (.int .i64 (arN op)) ∧ w' = W) := fun W => spec_arity op W
  have HX : Hid (SlA w a xs) := hx
  have I0 := LI.start w c op (.slice a len cap)
  have HWr : Hid (wrT ⟨c, ⟨op, xs⟩⟩ = if knB c = false then 2 else if hasB c = false then (if op = 0 ∧ xs.length = 0 then 0 else 2) else if opB c op = false then 2 else if (xs.length : Int) ≠ arN op then 2 else if xs.all fitA then 0 else 3) := rfl
  rw [HWr.out]
  have Hl : Hid (len = xs.length) := hl
  clear hx HWr
  by_cases hk : knB c = false
  · rw [if_pos hk]
    have b1 := I0.2
    have hk2 : c < 1 ∨ (¬ c < 1 ∧ 11 < c) := by unfold knB at hk; simp at hk; omega
    clear hk hl I0
    rcases hk2 with hk2 | ⟨hk2, hk3⟩
    · go_enter Tryz.func19, Tryz.ntmps19
      go_wp2
      go_ret
      exact ⟨rfl, b1⟩
    · go_enter Tryz.func19, Tryz.ntmps19
      go_wp2
      go_ret
      exact ⟨rfl, b1⟩
  · rw [if_neg hk]
    have hk1 : ¬ c < 1 := by unfold knB at hk; simp at hk; omega
    have hk2 : ¬ 11 < c := by unfold knB at hk; simp at hk; omega
    clear hk
    by_cases hh : hasB c = false
    · rw [if_pos hh]
      rw [hh] at HB
      clear hh
      by_cases hn : op = 0
      · subst hn
        by_cases hn2 : xs.length = 0
        · rw [if_pos ⟨rfl, hn2⟩]
          have e2 : len = 0 := by omega
          subst e2
          clear hn2 hl HX
          go_enter Tryz.func19, Tryz.ntmps19
          go_upto_region 1 with fail
          generalize (w.alloc (.cells #[.int .i64 c, .int .i64 0, .slice a 0 cap] 44)) = W0 at I0 ⊢
          obtain ⟨p0, p1, p2, p3⟩ := I0.cells
          have b2 := I0.2
          go_wp2_with fail
          refine (HB.out _).mono ?_
          rintro e w1 ⟨rfl, rfl⟩
          go_wp2
          go_ret
          exact ⟨rfl, b2⟩
        · rw [if_neg (fun h => hn2 h.2)]
          have e2 : 0 < (len : Int) := by omega
          clear hn2 hl HX
          go_enter Tryz.func19, Tryz.ntmps19
          go_upto_region 1 with fail
          generalize (w.alloc (.cells #[.int .i64 c, .int .i64 0, .slice a len cap] 44)) = W0 at I0 ⊢
          obtain ⟨p0, p1, p2, p3⟩ := I0.cells
          have b2 := I0.2
          go_wp2_with fail
          refine (HB.out _).mono ?_
          rintro e w1 ⟨rfl, rfl⟩
          go_wp2
          go_ret
          exact ⟨rfl, b2⟩
      · rw [if_neg (fun h => hn h.1)]
        have e2 : (op != 0) = true := by simpa using hn
        clear hn hl HX
        go_enter Tryz.func19, Tryz.ntmps19
        go_upto_region 1 with fail
        generalize (w.alloc (.cells #[.int .i64 c, .int .i64 op, .slice a len cap] 44)) = W0 at I0 ⊢
        obtain ⟨p0, p1, p2, p3⟩ := I0.cells
        have b2 := I0.2
        go_wp2_with fail
        refine (HB.out _).mono ?_
        rintro e w1 ⟨rfl, rfl⟩
        go_wp2
        go_ret
        exact ⟨rfl, b2⟩
    · rw [if_neg hh]
      have hh' : hasB c = true := by simpa using hh
      rw [hh'] at HB
      clear hh hh'
      by_cases ho : opB c op = false
      · rw [if_pos ho]
        rw [ho] at HO
        clear ho HA HX hl
        go_enter Tryz.func19, Tryz.ntmps19
        go_upto_region 1 with fail
        generalize (w.alloc (.cells #[.int .i64 c, .int .i64 op, .slice a len cap] 44)) = W0 at I0 ⊢
        obtain ⟨p0, p1, p2, p3⟩ := I0.cells
        go_wp2_with fail
        refine (HB.out _).mono ?_
        rintro e w1 ⟨rfl, rfl⟩
        have cO : ∀ d os, Calls Tryz.prog 42 #[.int .i64 c, .int .i64 op] (Sort.grow (redrawn W0 d) os) fun e w'' => e = .returned (.bool false) ∧ ∃ p : Regrown, w'' = Sort.grow (redrawn W0 p.d) p.os :=
          fun d os => Calls.regrown_of ((HO.out _).mono fun e w' ⟨h1, h2⟩ => ⟨h1, by rw [← h2]; exact Below.refl _ _⟩)
        have q0 : ∀ d os, (Sort.grow (redrawn W0 d) os).cell? ⟨w.heap.size, 0, none⟩ = some (.int .i64 c) := fun d os => ((I0.later (below_regrown W0 d os)).cells).1
        have q1 : ∀ d os, (Sort.grow (redrawn W0 d) os).cell? ⟨w.heap.size, 1, none⟩ = some (.int .i64 op) := fun d os => ((I0.later (below_regrown W0 d os)).cells).2.1
        have q2 : ∀ d os, (Sort.grow (redrawn W0 d) os).cell? ⟨w.heap.size, 2, none⟩ = some (.slice a len cap) := fun d os => ((I0.later (below_regrown W0 d os)).cells).2.2.1
        clear p0 p1 p2 p3
        go_upto_region 7 with fail
        refine wp_region_quiet_below (by kernel_rfl) (by kernel_rfl) ?_
        repeat (go_big_quiet_step (first | with_reducible exact cO _ _))
        refine wpQuiet_nil ?_
        intro w7 hw'
        have b7 : Below w.heap.size w w7 := by
          obtain ⟨⟨dq, osq⟩, rfl⟩ := hw'
          exact (I0.later (below_regrown W0 dq osq)).2
        clear hw' cO q0 q1 q2
        go_wp2
        go_ret
        exact ⟨rfl, b7⟩
      · rw [if_neg ho]
        have ho' : opB c op = true := by simpa using ho
        rw [ho'] at HO
        clear ho ho'
        by_cases ha : (xs.length : Int) ≠ arN op
        · rw [if_pos ha]
          have ea : ((len : Int) != arN op) = true := by rw [hl]; simpa using ha
          obtain ⟨N, HNn⟩ : ∃ N, Hid (N = arN op) := ⟨_, rfl⟩
          rw [← HNn.out] at HA ea
          clear ha HX hl
          go_enter Tryz.func19, Tryz.ntmps19
          go_upto_region 1 with fail
          generalize (w.alloc (.cells #[.int .i64 c, .int .i64 op, .slice a len cap] 44)) = W0 at I0 ⊢
          obtain ⟨p0, p1, p2, p3⟩ := I0.cells
          go_wp2_with fail
          refine (HB.out _).mono ?_
          rintro e w1 ⟨rfl, rfl⟩
          have cO : ∀ d os, Calls Tryz.prog 42 #[.int .i64 c, .int .i64 op] (Sort.grow (redrawn W0 d) os) fun e w'' => e = .returned (.bool true) ∧ ∃ p : Regrown, w'' = Sort.grow (redrawn W0 p.d) p.os :=
            fun d os => Calls.regrown_of ((HO.out _).mono fun e w' ⟨h1, h2⟩ => ⟨h1, by rw [← h2]; exact Below.refl _ _⟩)
          have cA : ∀ d os, Calls Tryz.prog 43 #[.int .i64 op] (Sort.grow (redrawn W0 d) os) fun e w'' => e = .returned (.int .i64 N) ∧ ∃ p : Regrown, w'' = Sort.grow (redrawn W0 p.d) p.os :=
            fun d os => Calls.regrown_of ((HA.out _).mono fun e w' ⟨h1, h2⟩ => ⟨h1, by rw [h2]; exact Below.refl _ _⟩)
          have q0 : ∀ d os, (Sort.grow (redrawn W0 d) os).cell? ⟨w.heap.size, 0, none⟩ = some (.int .i64 c) := fun d os => ((I0.later (below_regrown W0 d os)).cells).1
          have q1 : ∀ d os, (Sort.grow (redrawn W0 d) os).cell? ⟨w.heap.size, 1, none⟩ = some (.int .i64 op) := fun d os => ((I0.later (below_regrown W0 d os)).cells).2.1
          have q2 : ∀ d os, (Sort.grow (redrawn W0 d) os).cell? ⟨w.heap.size, 2, none⟩ = some (.slice a len cap) := fun d os => ((I0.later (below_regrown W0 d os)).cells).2.2.1
          clear p0 p1 p2 p3
          go_upto_region 7 with fail
          refine wp_region_quiet_below (by kernel_rfl) (by kernel_rfl) ?_
          repeat (go_big_quiet_step (first | with_reducible exact cO _ _ | with_reducible exact cA _ _))
          refine wpQuiet_nil ?_
          intro w7 hw'
          have b7 : Below w.heap.size w w7 := by
            obtain ⟨⟨dq, osq⟩, rfl⟩ := hw'
            exact (I0.later (below_regrown W0 dq osq)).2
          clear hw' cO cA q0 q1 q2
          go_wp2
          go_ret
          exact ⟨rfl, b7⟩
        · rw [if_neg ha]
          obtain ⟨V, HV0⟩ : ∃ V : Int, Hid (V = if xs.all fitA then 0 else 3) := ⟨_, rfl⟩
          rw [← HV0.out]
          have ea : ((len : Int) != arN op) = false := by rw [hl]; simpa using ha
          obtain ⟨N, HNn⟩ : ∃ N, Hid (N = arN op) := ⟨_, rfl⟩
          rw [← HNn.out] at HA ea
          clear ha hl
          go_enter Tryz.func19, Tryz.ntmps19
          go_upto_region 1 with fail
          generalize (w.alloc (.cells #[.int .i64 c, .int .i64 op, .slice a len cap] 44)) = W0 at I0 ⊢
          obtain ⟨p0, p1, p2, p3⟩ := I0.cells
          go_wp2_with fail
          refine (HB.out _).mono ?_
          rintro e w1 ⟨rfl, rfl⟩
          have cO : ∀ d os, Calls Tryz.prog 42 #[.int .i64 c, .int .i64 op] (Sort.grow (redrawn W0 d) os) fun e w'' => e = .returned (.bool true) ∧ ∃ p : Regrown, w'' = Sort.grow (redrawn W0 p.d) p.os :=
            fun d os => Calls.regrown_of ((HO.out _).mono fun e w' ⟨h1, h2⟩ => ⟨h1, by rw [← h2]; exact Below.refl _ _⟩)
          have cA : ∀ d os, Calls Tryz.prog 43 #[.int .i64 op] (Sort.grow (redrawn W0 d) os) fun e w'' => e = .returned (.int .i64 N) ∧ ∃ p : Regrown, w'' = Sort.grow (redrawn W0 p.d) p.os :=
            fun d os => Calls.regrown_of ((HA.out _).mono fun e w' ⟨h1, h2⟩ => ⟨h1, by rw [h2]; exact Below.refl _ _⟩)
          have q0 : ∀ d os, (Sort.grow (redrawn W0 d) os).cell? ⟨w.heap.size, 0, none⟩ = some (.int .i64 c) := fun d os => ((I0.later (below_regrown W0 d os)).cells).1
          have q1 : ∀ d os, (Sort.grow (redrawn W0 d) os).cell? ⟨w.heap.size, 1, none⟩ = some (.int .i64 op) := fun d os => ((I0.later (below_regrown W0 d os)).cells).2.1
          have q2 : ∀ d os, (Sort.grow (redrawn W0 d) os).cell? ⟨w.heap.size, 2, none⟩ = some (.slice a len cap) := fun d os => ((I0.later (below_regrown W0 d os)).cells).2.2.1
          clear p0 p1 p2 p3
          go_upto_region 7 with fail
          refine wp_region_quiet_below (by kernel_rfl) (by kernel_rfl) ?_
          repeat (go_big_quiet_step (first | with_reducible exact cO _ _ | with_reducible exact cA _ _))
          refine wpQuiet_nil ?_
          intro w7 hw'
          have I7 : LI w c op (.slice a len cap) w7 := by
            obtain ⟨⟨dq, osq⟩, rfl⟩ := hw'
            exact I0.later (below_regrown W0 dq osq)
          have I7' : Hid (LI w c op (.slice a len cap) w7) := I7
          clear hw' cO cA q0 q1 q2 I0 I7 HB HO HA
          go_wp2
          go_loopw [3] (fun i wr => ∃ k : Nat, k ≤ len ∧ i = .int .i64 k ∧ Hid ((xs.take k).all fitA = true ∧ LI w c op (.slice a len cap) wr)) (fun i _ => len - (intOf i).toNat)
          case atStart => exact ⟨0, Nat.zero_le _, rfl, rfl, I7'.out⟩
          case round =>
            clear I7'
            obtain ⟨k, hk, rfl, HR⟩ := hrel
            obtain ⟨p0, p1, p2, p3⟩ := HR.out.2.cells
            by_cases hlt : k < len
            · have ik : (k : Int) < (len : Int) := by omega
              obtain ⟨x, hxk⟩ : ∃ x, xs[k]? = some x := ⟨_, List.getElem?_eq_getElem (by have := Hl.out; omega)⟩
              obtain ⟨b, o, rfl, hb, c0, c1, c2⟩ := (HX.out.later HR.out.2.2 (Nat.le_refl _)) k x hxk
              obtain ⟨xk, xn, xp⟩ := x
              have HFi : Hid (∀ W, Calls Tryz.prog 44 #[.agg #[.int .i64 xk, .int .i64 xn, .int .i64 xp]] W fun e w' => e = .returned (.bool (fitA (xk, xn, xp))) ∧ Below W.heap.size W w') := fun W => fit_s xk xn xp W
              simp only [] at c0 c1 c2
              have HT : Hid ((xs.take (k + 1)).all fitA = ((xs.take k).all fitA && fitA (xk, xn, xp))) := (by rw [List.take_succ_eq_append_getElem (by have := Hl.out; omega), List.all_append]; rw [show xs[k]'(by have := Hl.out; omega) = (xk, xn, xp) from Option.some.inj ((List.getElem?_eq_getElem _).symm.trans hxk)]; simp : (xs.take (k + 1)).all fitA = ((xs.take k).all fitA && fitA (xk, xn, xp)))
              have HNo : Hid (fitA (xk, xn, xp) = false → xs.all fitA = false) := all_no hxk
              clear hxk hb
              obtain ⟨F, HF⟩ : ∃ F, Hid (F = fitA (xk, xn, xp)) := ⟨_, rfl⟩
              rw [← HF.out] at HFi HT HNo
              go_wp2_with fail
              refine (HFi.out _).mono ?_
              rintro e w8 ⟨rfl, g8⟩
              have I8 : Hid (LI w c op (.slice (some ⟨b, o, none⟩) len cap) w8) := HR.out.2.later g8
              clear g8 HFi c0 c1 c2 p0 p1 p2 p3
              cases F with
              | true =>
                have HT2 : Hid ((xs.take (k + 1)).all fitA = true ∧ LI w c op (.slice (some ⟨b, o, none⟩) len cap) w8) := ⟨by rw [HT.out, HR.out.1]; rfl, I8.out⟩
                clear HT HNo HF HR I8
                go_wp2
                go_roundw
                case rel => exact ⟨k + 1, by omega, by go_num, HT2⟩
                case measure => simp [intOf]; omega
              | false =>
                have HV : Hid (V = 3) := (by rw [HV0.out, HNo.out rfl]; rfl : V = 3)
                have b9 := I8.out.2
                clear HT HNo HF HR I8
                go_wp2
                go_ret
                exact ⟨by rw [HV.out]; rfl, b9⟩
            · have hkn : k = xs.length := by have := Hl.out; omega
              have HV : Hid (xs.all fitA = true) := (by have := HR.out.1; rwa [hkn, List.take_length] at this : xs.all fitA = true)
              have HV2 : Hid (V = 0) := (by rw [HV0.out, HV.out]; rfl : V = 0)
              have b9 := HR.out.2.2
              have ik : ¬ ((k : Int) < (len : Int)) := by omega
              clear HR hkn
              go_wp2
              go_ret
              exact ⟨by rw [HV2.out]; rfl, b9⟩
end Go.Proofs.YtcihplachlokiaaGreatDoor
