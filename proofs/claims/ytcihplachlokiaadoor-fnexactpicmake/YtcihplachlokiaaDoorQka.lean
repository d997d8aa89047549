/- An instruction as bytes: mathematics, and the small functions of both sides. -/
import Derived.Test.YtcihplachlokiaaDoorZb
import Derived.Test.YtcihplachlokiaaDoorEc
namespace Go.Proofs.YtcihplachlokiaaDoor
open Go.RowKit Go.Shelf
set_option linter.unusedVariables false
set_option linter.unusedSimpArgs false

def hasB (c : Int) : Bool := c == 1 || c == 2 || c == 3 || c == 10
def knB (c : Int) : Bool := decide (1 ≤ c) && decide (c ≤ 11)
def opB (c o : Int) : Bool := if c = 10 then decide (21 ≤ o) && decide (o ≤ 37) else decide (1 ≤ o) && decide (o ≤ 10)
def wdT (k : Int) : Nat := if k < 1 ∨ 13 < k then 0 else if k = 12 then 4 else if k = 11 then 2 else 1
def fitB (k n p : Int) : Bool :=
  if k < 1 ∨ 13 < k then false else if k = 12 then decide (-2147483648 ≤ n ∧ n ≤ 2147483647 ∧ 0 ≤ p ∧ p ≤ 255)
  else if k = 11 then decide (-32768 ≤ n ∧ n ≤ 32767 ∧ p = 0) else decide (0 ≤ n ∧ n ≤ 255 ∧ p = 0)

set_option maxHeartbeats 400000 in
theorem has_i (c : Int) (w : World) : Calls Tryd.prog 60 #[.int .i64 c] w fun e w' => e = .returned (.bool (hasB c)) ∧ w = w' := by
  by_cases h : c = 1 ∨ c = 2 ∨ c = 3 ∨ c = 10
  · rcases h with rfl | rfl | rfl | rfl
    all_goals
      go_enter Tryd.func60, Tryd.ntmps60
      go_wp2
      go_ret
      exact ⟨rfl, rfl⟩
  · have e : hasB c = false := by unfold hasB; simp; omega
    have e1 : (c == 1) = false := by simp; omega
    have e2 : (c == 2) = false := by simp; omega
    have e3 : (c == 3) = false := by simp; omega
    have e4 : (c == 10) = false := by simp; omega
    rw [e]
    clear h e
    go_enter Tryd.func60, Tryd.ntmps60
    go_wp2
    go_ret
    exact ⟨rfl, rfl⟩
set_option maxHeartbeats 400000 in
theorem has_s (c : Int) (w : World) : Calls Tryd.prog 49 #[.int .i64 c] w fun e w' => e = .returned (.bool (hasB c)) ∧ w = w' := by
  by_cases h : c = 1 ∨ c = 2 ∨ c = 3 ∨ c = 10
  · rcases h with rfl | rfl | rfl | rfl
    all_goals
      go_enter Tryd.func49, Tryd.ntmps49
      go_wp2
      go_ret
      exact ⟨rfl, rfl⟩
  · have e : hasB c = false := by unfold hasB; simp; omega
    have e1 : (c == 1) = false := by simp; omega
    have e2 : (c == 2) = false := by simp; omega
    have e3 : (c == 3) = false := by simp; omega
    have e4 : (c == 10) = false := by simp; omega
    rw [e]
    clear h e
    go_enter Tryd.func49, Tryd.ntmps49
    go_wp2
    go_ret
    exact ⟨rfl, rfl⟩
set_option maxHeartbeats 400000 in
theorem kn_i (c : Int) (w : World) : Calls Tryd.prog 68 #[.int .i64 c] w fun e w' => e = .returned (.bool (knB c)) ∧ w = w' := by
  by_cases h1 : 1 ≤ c
  · by_cases h2 : c ≤ 11
    · have e : knB c = true := by unfold knB; simp; omega
      rw [e]
      clear e
      go_enter Tryd.func68, Tryd.ntmps68
      go_wp2
      go_ret
      exact ⟨rfl, rfl⟩
    · have e : knB c = false := by unfold knB; simp; omega
      rw [e]
      clear e
      go_enter Tryd.func68, Tryd.ntmps68
      go_wp2
      go_ret
      exact ⟨rfl, rfl⟩
  · have e : knB c = false := by unfold knB; simp; omega
    rw [e]
    clear e
    go_enter Tryd.func68, Tryd.ntmps68
    go_wp2
    go_ret
    exact ⟨rfl, rfl⟩
set_option maxHeartbeats 400000 in
theorem op_i (c o : Int) (w : World) : Calls Tryd.prog 69 #[.int .i64 c, .int .i64 o] w fun e w' => e = .returned (.bool (opB c o)) ∧ w = w' := by
  by_cases h : c = 10
  · subst h
    have hc : (o < 21) ∨ (21 ≤ o ∧ o ≤ 37) ∨ (21 ≤ o ∧ ¬ o ≤ 37) := by omega
    rcases hc with h | ⟨h, h'⟩ | ⟨h, h'⟩
    · have e : opB 10 o = false := by unfold opB; simp; omega
      rw [e]; clear e
      go_enter Tryd.func69, Tryd.ntmps69
      go_wp2
      go_ret
      exact ⟨rfl, rfl⟩
    · have e : opB 10 o = true := by unfold opB; simp; omega
      rw [e]; clear e
      go_enter Tryd.func69, Tryd.ntmps69
      go_wp2
      go_ret
      exact ⟨rfl, rfl⟩
    · have e : opB 10 o = false := by unfold opB; simp; omega
      rw [e]; clear e
      go_enter Tryd.func69, Tryd.ntmps69
      go_wp2
      go_ret
      exact ⟨rfl, rfl⟩
  · have hc : (o < 1) ∨ (1 ≤ o ∧ o ≤ 10) ∨ (1 ≤ o ∧ ¬ o ≤ 10) := by omega
    have e1 : (c == 10) = false := by simp; omega
    rcases hc with h' | ⟨h', h''⟩ | ⟨h', h''⟩
    · have e : opB c o = false := by unfold opB; simp [h]; omega
      rw [e]; clear e h
      go_enter Tryd.func69, Tryd.ntmps69
      go_wp2
      go_ret
      exact ⟨rfl, rfl⟩
    · have e : opB c o = true := by unfold opB; simp [h]; omega
      rw [e]; clear e h
      go_enter Tryd.func69, Tryd.ntmps69
      go_wp2
      go_ret
      exact ⟨rfl, rfl⟩
    · have e : opB c o = false := by unfold opB; simp [h]; omega
      rw [e]; clear e h
      go_enter Tryd.func69, Tryd.ntmps69
      go_wp2
      go_ret
      exact ⟨rfl, rfl⟩
set_option maxHeartbeats 400000 in
theorem op_s (c o : Int) (w : World) : Calls Tryd.prog 50 #[.int .i64 c, .int .i64 o] w fun e w' => e = .returned (.bool (opB c o)) ∧ w = w' := by
  by_cases h : c = 10
  · subst h
    have hc : (o < 21) ∨ (21 ≤ o ∧ o ≤ 37) ∨ (21 ≤ o ∧ ¬ o ≤ 37) := by omega
    rcases hc with h | ⟨h, h'⟩ | ⟨h, h'⟩
    · have e : opB 10 o = false := by unfold opB; simp; omega
      rw [e]; clear e
      go_enter Tryd.func50, Tryd.ntmps50
      go_wp2
      go_ret
      exact ⟨rfl, rfl⟩
    · have e : opB 10 o = true := by unfold opB; simp; omega
      rw [e]; clear e
      go_enter Tryd.func50, Tryd.ntmps50
      go_wp2
      go_ret
      exact ⟨rfl, rfl⟩
    · have e : opB 10 o = false := by unfold opB; simp; omega
      rw [e]; clear e
      go_enter Tryd.func50, Tryd.ntmps50
      go_wp2
      go_ret
      exact ⟨rfl, rfl⟩
  · have hc : (o < 1) ∨ (1 ≤ o ∧ o ≤ 10) ∨ (1 ≤ o ∧ ¬ o ≤ 10) := by omega
    have e1 : (c == 10) = false := by simp; omega
    rcases hc with h' | ⟨h', h''⟩ | ⟨h', h''⟩
    · have e : opB c o = false := by unfold opB; simp [h]; omega
      rw [e]; clear e h
      go_enter Tryd.func50, Tryd.ntmps50
      go_wp2
      go_ret
      exact ⟨rfl, rfl⟩
    · have e : opB c o = true := by unfold opB; simp [h]; omega
      rw [e]; clear e h
      go_enter Tryd.func50, Tryd.ntmps50
      go_wp2
      go_ret
      exact ⟨rfl, rfl⟩
    · have e : opB c o = false := by unfold opB; simp [h]; omega
      rw [e]; clear e h
      go_enter Tryd.func50, Tryd.ntmps50
      go_wp2
      go_ret
      exact ⟨rfl, rfl⟩
set_option maxHeartbeats 400000 in
theorem wd_i (k : Int) (w : World) : Calls Tryd.prog 76 #[.int .i64 k] w fun e w' => e = .returned (.int .i64 (wdT k : Nat)) ∧ w = w' := by
  have hc : k < 1 ∨ 13 < k ∨ k = 12 ∨ k = 11 ∨ (1 ≤ k ∧ k ≤ 13 ∧ k ≠ 12 ∧ k ≠ 11) := by omega
  rcases hc with h | h | rfl | rfl | ⟨h1, h2, h3, h4⟩
  · have e : wdT k = 0 := by unfold wdT; rw [if_pos (.inl h)]
    rw [e]; clear e
    go_enter Tryd.func76, Tryd.ntmps76
    go_wp2
    go_ret
    exact ⟨rfl, rfl⟩
  · have e : wdT k = 0 := by unfold wdT; rw [if_pos (.inr h)]
    have h' : ¬ k < 1 := by omega
    rw [e]; clear e
    go_enter Tryd.func76, Tryd.ntmps76
    go_wp2
    go_ret
    exact ⟨rfl, rfl⟩
  · go_enter Tryd.func76, Tryd.ntmps76
    go_wp2
    go_ret
    exact ⟨rfl, rfl⟩
  · go_enter Tryd.func76, Tryd.ntmps76
    go_wp2
    go_ret
    exact ⟨rfl, rfl⟩
  · have e : wdT k = 1 := by unfold wdT; rw [if_neg (by omega), if_neg h3, if_neg h4]
    have e1 : (k == 12) = false := by simp [h3]
    have e2 : (k == 11) = false := by simp [h4]
    rw [e]; clear e h3 h4
    go_enter Tryd.func76, Tryd.ntmps76
    go_wp2
    go_ret
    exact ⟨rfl, rfl⟩
set_option maxHeartbeats 400000 in
theorem wd_s (k : Int) (w : World) (h1 : 1 ≤ k) (h2 : k ≤ 13) : Calls Tryd.prog 57 #[.int .i64 k] w fun e w' => e = .returned (.int .i64 (wdT k : Nat)) ∧ w = w' := by
  have hc : k = 12 ∨ k = 11 ∨ (k ≠ 12 ∧ k ≠ 11) := by omega
  rcases hc with rfl | rfl | ⟨h3, h4⟩
  · go_enter Tryd.func57, Tryd.ntmps57
    go_wp2
    go_ret
    exact ⟨rfl, rfl⟩
  · go_enter Tryd.func57, Tryd.ntmps57
    go_wp2
    go_ret
    exact ⟨rfl, rfl⟩
  · have e : wdT k = 1 := by unfold wdT; rw [if_neg (by omega), if_neg h3, if_neg h4]
    have e1 : (k == 12) = false := by simp [h3]
    have e2 : (k == 11) = false := by simp [h4]
    rw [e]; clear e h3 h4
    go_enter Tryd.func57, Tryd.ntmps57
    go_wp2
    go_ret
    exact ⟨rfl, rfl⟩
end Go.Proofs.YtcihplachlokiaaDoor
