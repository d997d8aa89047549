/- Walks of the specification's small stacks (forks). -/
import Derived.Test.YtlpeianinlnbeaaN
namespace Go.Proofs.Ytlpeianinlnbeaa
open Go.RowKit
set_option linter.unusedVariables false

theorem okS_small (b n : Int) (hb0 : 0 ≤ b) (hb1 : b ≤ 255) (h : n ≤ 8) : okS 16 b n = okS 8 b n := by
  unfold okS
  rw [decide_eq_decide]
  omega

set_option maxHeartbeats 400000 in
theorem spec_fork_ok (b n : Int) (w : World) (hb0 : 0 ≤ b) (hb1 : b ≤ 255) :
    Calls Try.prog 43 #[.agg #[.int .u8 b, .int .i64 n]] w fun e w' => e = .returned (.bool (okS 8 b n)) ∧ Below w.heap.size w w' := by
  by_cases h : n ≤ 8
  · rw [← okS_small b n hb0 hb1 h]
    go_enter Try.func43, Try.ntmps43
    go_wp2_with fail
    refine (spec_ok b n _ hb0 (by omega)).mono ?_
    rintro e w1 ⟨rfl, g1⟩
    have b1 : Below w.heap.size w w1 := ((Below.refl _ _).alloc (Nat.le_refl _) _).trans (g1.mono (by simp))
    clear g1
    go_wp2
    go_ret
    exact ⟨rfl, b1⟩
  · have d : decide (n ≤ 8) = false := by simp; omega
    go_enter Try.func43, Try.ntmps43
    go_wp2
    go_ret
    exact ⟨ret_bool (okS_over _ _ _ (by omega)).symm, by go_grown⟩

set_option maxHeartbeats 400000 in
theorem spec_wide (b n : Int) (w : World) (hb0 : 0 ≤ b) (hb1 : b ≤ 255) :
    Calls Try.prog 82 #[.agg #[.int .u8 b, .int .i64 n]] w fun e w' => e = .returned (.agg #[.int .u16 (nb 8 b n), .int .i64 (nn 8 b n)]) ∧ Below w.heap.size w w' := by
  cases hok : okS 8 b n with
  | true =>
    obtain ⟨K, rfl, h1, h2⟩ := okS_nat hok
    have e0 : nb 8 b K = b := by simp [nb, hok]
    have e1 : nn 8 b K = K := by simp [nn, hok]
    rw [e0, e1]
    clear e0 e1
    go_enter Try.func82, Try.ntmps82
    go_wp2_with fail
    refine (spec_fork_ok b K _ hb0 hb1).mono ?_
    rintro e w1 ⟨rfl, g1⟩
    have b1 : Below w.heap.size w w1 := (((Below.refl _ _).alloc (Nat.le_refl _) _).alloc (by simp) _).trans (g1.mono (by simp; omega))
    have s1 : Sk .u16 w1 (w.heap.size + 1) 0 0 := by
      have h := (Sk.fresh .u16 (w.alloc (.cells #[.int .u8 b, .int .i64 K] 36)) 0 0 25).later g1 (by simp)
      simpa using h
    have a0 : w1.cell? ⟨w.heap.size, 0, none⟩ = some (.int .u8 b) := cell_later g1 (by simp)
    have a1 : w1.cell? ⟨w.heap.size, 1, none⟩ = some (.int .i64 K) := cell_later g1 (by simp)
    clear g1
    obtain ⟨q0, q1, _, _⟩ := s1.set b K
    obtain ⟨c0, c1, f0, f1⟩ := s1
    go_wp2
    exact bodyPost_ret (v := .agg #[.int .u16 b, .int .i64 K]) (by simp [results, Try.results82, go_sem, q0, q1]) rfl ⟨rfl, by go_grown⟩
  | false =>
    have e0 : nb 8 b n = 0 := by simp [nb, hok]
    have e1 : nn 8 b n = 0 := by simp [nn, hok]
    rw [e0, e1]
    clear e0 e1
    go_enter Try.func82, Try.ntmps82
    go_wp2_with fail
    refine (spec_fork_ok b n _ hb0 hb1).mono ?_
    rintro e w1 ⟨rfl, g1⟩
    have b1 : Below w.heap.size w w1 := (((Below.refl _ _).alloc (Nat.le_refl _) _).alloc (by simp) _).trans (g1.mono (by simp; omega))
    have s1 : Sk .u16 w1 (w.heap.size + 1) 0 0 := by
      have h := (Sk.fresh .u16 (w.alloc (.cells #[.int .u8 b, .int .i64 n] 36)) 0 0 25).later g1 (by simp)
      simpa using h
    clear g1
    obtain ⟨q0, q1, _, _⟩ := s1.set 0 0
    obtain ⟨c0, c1, f0, f1⟩ := s1
    go_wp2
    exact bodyPost_ret (v := .agg #[.int .u16 0, .int .i64 0]) (by simp [results, Try.results82, go_sem, q0, q1]) rfl ⟨rfl, by go_grown⟩

set_option maxHeartbeats 400000 in
theorem spec_small (b : Int) (N : Nat) (w : World) (hb0 : 0 ≤ b) (hb1 : b ≤ 65535) (hN : N ≤ 16) :
    Calls Try.prog 81 #[.agg #[.int .u16 b, .int .i64 N]] w fun e w' => e = .returned (.agg #[.int .u8 (b % 256), .int .i64 (min N 8 : Nat)]) ∧ Below w.heap.size w w' := by
  by_cases h : N ≤ 8
  · have e : min N 8 = N := by omega
    rw [e]
    clear e
    have hm : b.tmod 256 = b % 256 := Int.tmod_eq_emod_of_nonneg hb0
    go_enter Try.func81, Try.ntmps81
    go_wp2
    go_returns
    exact ⟨rfl, by go_grown⟩
  · have e : min N 8 = 8 := by omega
    rw [e]
    clear e
    have hm : b.tmod 256 = b % 256 := Int.tmod_eq_emod_of_nonneg hb0
    go_enter Try.func81, Try.ntmps81
    go_wp2
    go_returns
    exact ⟨rfl, by go_grown⟩
end Go.Proofs.Ytlpeianinlnbeaa
