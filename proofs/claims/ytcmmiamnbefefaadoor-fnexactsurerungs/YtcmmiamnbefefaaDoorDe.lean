/- Walks of the specification's DevOk. -/
import Derived.Test.YtcmmiamnbefefaaDoorDc
namespace Go.Proofs.YtcmmiamnbefefaaDoor
open Go.RowKit
set_option linter.unusedVariables false

theorem bdrew {B : Nat} {a w : World} (h : Below B a w) (n : Nat) : Below B a (w.drewN n) := ⟨h.os, h.tape, h.output, h.size, h.block⟩

set_option maxHeartbeats 1000000 in
theorem spec_ok_int (n p : Int) (w : World) :
    Calls Tryd.prog 68 #[.agg #[.int .i64 11, .int .i64 n, .int .i64 p]] w fun e w' => e = .returned (.bool (okA 11 n p)) ∧ Below w.heap.size w w' := by
  have ho : okA 11 n p = decide (-32768 ≤ n ∧ n ≤ 32767 ∧ p = 0) := by simp [okA]
  rw [ho]
  clear ho
  by_cases h1 : -32768 ≤ n
  · by_cases h2 : n ≤ 32767
    · go_enter Tryd.func68, Tryd.ntmps68
      go_wp2
      go_ret
      exact ⟨ret_bool (by simp [h1, h2]; rfl), by go_grown⟩
    · go_enter Tryd.func68, Tryd.ntmps68
      go_wp2
      go_ret
      exact ⟨ret_bool (by simp; omega), by go_grown⟩
  · go_enter Tryd.func68, Tryd.ntmps68
    go_wp2
    go_ret
    exact ⟨ret_bool (by simp; omega), by go_grown⟩

set_option maxHeartbeats 1000000 in
theorem spec_ok_word (n p : Int) (w : World) :
    Calls Tryd.prog 68 #[.agg #[.int .i64 13, .int .i64 n, .int .i64 p]] w fun e w' => e = .returned (.bool (okA 13 n p)) ∧ Below w.heap.size w w' := by
  have ho : okA 13 n p = decide (0 ≤ n ∧ n ≤ 3 ∧ p = 0) := by simp [okA]
  rw [ho]
  clear ho
  by_cases h1 : 0 ≤ n
  · by_cases h2 : n ≤ 3
    · go_enter Tryd.func68, Tryd.ntmps68
      go_wp2
      go_ret
      exact ⟨ret_bool (by simp [h1, h2]; rfl), by go_grown⟩
    · go_enter Tryd.func68, Tryd.ntmps68
      go_wp2
      go_ret
      exact ⟨ret_bool (by simp; omega), by go_grown⟩
  · go_enter Tryd.func68, Tryd.ntmps68
    go_wp2
    go_ret
    exact ⟨ret_bool (by simp; omega), by go_grown⟩

set_option maxHeartbeats 2000000 in
theorem spec_ok_dec (n p : Int) (w : World) :
    Calls Tryd.prog 68 #[.agg #[.int .i64 12, .int .i64 n, .int .i64 p]] w fun e w' => e = .returned (.bool (okA 12 n p)) ∧ Below w.heap.size w w' := by
  rw [okA_dec]
  by_cases h1 : n < -999999999
  · go_enter Tryd.func68, Tryd.ntmps68
    go_wp2
    go_ret
    exact ⟨ret_bool (by simp [okD]; omega), by go_grown⟩
  by_cases h2 : 999999999 < n
  · go_enter Tryd.func68, Tryd.ntmps68
    go_wp2
    go_ret
    exact ⟨ret_bool (by simp [okD]; omega), by go_grown⟩
  by_cases h3 : p < 1
  · go_enter Tryd.func68, Tryd.ntmps68
    go_wp2
    go_ret
    exact ⟨ret_bool (by simp [okD]; omega), by go_grown⟩
  by_cases h4 : 6 < p
  · go_enter Tryd.func68, Tryd.ntmps68
    go_wp2
    go_ret
    exact ⟨ret_bool (by simp [okD]; omega), by go_grown⟩
  have a1 : -999999999 ≤ n := by omega
  have a2 : n ≤ 999999999 := by omega
  have a3 : 1 ≤ p := by omega
  have a4 : p ≤ 6 := by omega
  by_cases h5 : p = 1
  · subst h5
    go_enter Tryd.func68, Tryd.ntmps68
    go_wp2
    go_ret
    exact ⟨ret_bool (by simp [okD]; omega), by go_grown⟩
  · have h6 : (p == 1) = false := by simp [h5]
    go_enter Tryd.func68, Tryd.ntmps68
    go_wp2
    go_ret
    have e : okD n p = decide (¬ n.tmod 10 = 0) := by
      simp [okD, a1, a2, a3, a4, h5]
    rw [e]
    exact ⟨ret_bool (by simp; rfl), by go_grown⟩

set_option maxHeartbeats 2000000 in
theorem spec_ok_dev (k n p : Int) (w : World) (k1 : k ≠ 11) (k2 : k ≠ 12) (k3 : k ≠ 13) :
    Calls Tryd.prog 68 #[.agg #[.int .i64 k, .int .i64 n, .int .i64 p]] w fun e w' => e = .returned (.bool (okA k n p)) ∧ Below w.heap.size w w' := by
  have ho : okA k n p = decide (0 ≤ n ∧ n < kS k ∧ p = 0) := by simp [okA, k1, k2, k3]
  rw [ho]
  clear ho
  have hs := spec_size k
  obtain ⟨z, HZ⟩ : ∃ z, Hid (z = kS k) := ⟨_, rfl⟩
  rw [← HZ.out] at hs ⊢
  clear HZ
  have HS : Hid (∀ w : World, Calls Tryd.prog 89 #[.int .i64 k] w fun e w' => e = .returned (.int .i64 z) ∧ w' = w) := hs
  clear hs
  have e1 : (k == 11) = false := by simp [k1]
  have e2 : (k == 12) = false := by simp [k2]
  have e3 : (k == 13) = false := by simp [k3]
  by_cases h1 : 0 ≤ n
  · by_cases h2 : n < z
    · go_enter Tryd.func68, Tryd.ntmps68
      go_wp2
      go_quiet (first | (go_at_call 89; refine Calls.quiet_of_same (HS.out _)))
      go_wp2
      go_ret
      exact ⟨ret_bool (by simp [h1, h2]; rfl), bdrew (by go_grown) _⟩
    · have d2 : decide (n < z) = false := by simp; omega
      go_enter Tryd.func68, Tryd.ntmps68
      go_wp2
      go_quiet (first | (go_at_call 89; refine Calls.quiet_of_same (HS.out _)))
      go_wp2
      go_ret
      exact ⟨ret_bool (by simp; omega), bdrew (by go_grown) _⟩
  · have d1 : decide (0 ≤ n) = false := by simp; omega
    go_enter Tryd.func68, Tryd.ntmps68
    go_wp2
    go_quiet (fail)
    go_wp2
    go_ret
    exact ⟨ret_bool (by simp; omega), bdrew (by go_grown) _⟩

theorem spec_ok (k n p : Int) (w : World) :
    Calls Tryd.prog 68 #[.agg #[.int .i64 k, .int .i64 n, .int .i64 p]] w fun e w' => e = .returned (.bool (okA k n p)) ∧ Below w.heap.size w w' := by
  by_cases k2 : k = 12
  · subst k2; exact spec_ok_dec n p w
  by_cases k1 : k = 11
  · subst k1; exact spec_ok_int n p w
  by_cases k3 : k = 13
  · subst k3; exact spec_ok_word n p w
  exact spec_ok_dev k n p w k1 k2 k3

set_option maxHeartbeats 1000000 in
theorem to_arg (k n p : Int) (w : World) :
    Calls Tryd.prog 90 #[.agg #[.int .i64 k, .int .i64 n, .int .i64 p]] w fun e w' => e = .returned (.agg #[.int .i64 k, .int .i64 n, .int .i64 p]) ∧ Below w.heap.size w w' := by
  go_enter Tryd.func90, Tryd.ntmps90
  go_wp2
  go_returns
  exact ⟨rfl, by go_grown⟩
end Go.Proofs.YtcmmiamnbefefaaDoor
