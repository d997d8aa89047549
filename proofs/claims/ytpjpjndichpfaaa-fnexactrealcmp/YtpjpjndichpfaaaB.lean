/- Tests and calculations of numbers: walks of the exact laws. -/
import Derived.Test.YtpjpjndichpfaaaA
namespace Go.Proofs.Ytpjpjndichpfaaa
open Go.RowKit
set_option linter.unusedVariables false

set_option maxHeartbeats 1000000 in
theorem spec_wcmp (op a b : Int) (w : World) :
    Calls Try.prog 15 #[.int .i64 op, .int .i16 a, .int .i16 b] w fun e w' => e = .returned (.bool (wc op a b)) ∧ w' = w := by
  rcases op_cases op with h | rfl | rfl | rfl | rfl | rfl | rfl
  · rw [wc_out op a b h]
    have n1 : (op == 1) = false := by simp; omega
    have n2 : (op == 2) = false := by simp; omega
    have n3 : (op == 3) = false := by simp; omega
    have n4 : (op == 4) = false := by simp; omega
    have n5 : (op == 5) = false := by simp; omega
    have n6 : (op == 6) = false := by simp; omega
    go_enter Try.func15, Try.ntmps15
    go_wp2
    go_ret
    exact ⟨rfl, rfl⟩
  all_goals
    go_enter Try.func15, Try.ntmps15
    go_wp2
    go_ret
    exact ⟨rfl, rfl⟩

set_option maxHeartbeats 1000000 in
theorem spec_rcmp (op : Int) (a b : Nat) (w : World) :
    Calls Try.prog 18 #[.int .i64 op, .float .f64 a, .float .f64 b] w fun e w' => e = .returned (.bool (rc op a b)) ∧ w' = w := by
  rcases op_cases op with h | rfl | rfl | rfl | rfl | rfl | rfl
  · rw [rc_out op a b h]
    have n1 : (op == 1) = false := by simp; omega
    have n2 : (op == 2) = false := by simp; omega
    have n3 : (op == 3) = false := by simp; omega
    have n4 : (op == 4) = false := by simp; omega
    have n5 : (op == 5) = false := by simp; omega
    have n6 : (op == 6) = false := by simp; omega
    go_enter Try.func18, Try.ntmps18
    go_wp2
    go_ret
    exact ⟨rfl, rfl⟩
  all_goals
    go_enter Try.func18, Try.ntmps18
    go_wp2
    go_ret
    exact ⟨rfl, rfl⟩

set_option maxHeartbeats 1000000 in
theorem walk_wcmp (op a b : Int) (w : World) (h0 : (Lit.int .i64 op).wf = true) (h1 : (Lit.int .i16 a).wf = true) (h2 : (Lit.int .i16 b).wf = true) :
    Calls Try.prog 5 #[.int .i64 op, .int .i16 a, .int .i16 b] w fun e w' => e = .returned (.bool true) ∧ Below w.heap.size w w' := by
  clear h0 h1 h2
  generalize hr : wc op a b = r
  have s1 := spec_wcmp op a b
  have s2 := impl_wcmp op a b
  rw [hr] at s1 s2
  go_enter Try.func5, Try.ntmps5
  go_wp2_with fail
  refine (s1 _).mono ?_
  rintro e w1 ⟨rfl, rfl⟩
  go_wp2_with fail
  refine (s2 _).mono ?_
  rintro e w2 ⟨rfl, g2⟩
  go_wp2
  go_ret
  exact ⟨rfl, g2⟩

set_option maxHeartbeats 1000000 in
theorem walk_rcmp (op : Int) (a b : Nat) (w : World) (h0 : (Lit.int .i64 op).wf = true) (h1 : (Lit.float .f64 a).wf = true) (h2 : (Lit.float .f64 b).wf = true) :
    Calls Try.prog 7 #[.int .i64 op, .float .f64 a, .float .f64 b] w fun e w' => e = .returned (.bool true) ∧ Below w.heap.size w w' := by
  clear h0 h1 h2
  generalize hr : rc op a b = r
  have s1 := spec_rcmp op a b
  have s2 := impl_rcmp op a b
  rw [hr] at s1 s2
  go_enter Try.func7, Try.ntmps7
  go_wp2_with fail
  refine (s1 _).mono ?_
  rintro e w1 ⟨rfl, rfl⟩
  go_wp2_with fail
  refine (s2 _).mono ?_
  rintro e w2 ⟨rfl, g2⟩
  go_wp2
  go_ret
  exact ⟨rfl, g2⟩
end Go.Proofs.Ytpjpjndichpfaaa
