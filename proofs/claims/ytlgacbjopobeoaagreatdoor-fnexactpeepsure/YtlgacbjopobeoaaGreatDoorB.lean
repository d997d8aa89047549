/- Tests and calculations of numbers: walks of the exact laws. -/
import Derived.Test.YtlgacbjopobeoaaGreatDoorAM
namespace Go.Proofs.YtlgacbjopobeoaaGreatDoor
open Go.RowKit
set_option linter.unusedVariables false

set_option maxHeartbeats 1000000 in
theorem spec_wcmp (op a b : Int) (w : World) :
    Calls Tryz.prog 80 #[.int .i64 op, .int .i16 a, .int .i16 b] w fun e w' => e = .returned (.bool (wc op a b)) ∧ w' = w := by
  rcases op_cases op with h | rfl | rfl | rfl | rfl | rfl | rfl
  · rw [wc_out op a b h]
    have n1 : (op == 1) = false := by simp; omega
    have n2 : (op == 2) = false := by simp; omega
    have n3 : (op == 3) = false := by simp; omega
    have n4 : (op == 4) = false := by simp; omega
    have n5 : (op == 5) = false := by simp; omega
    have n6 : (op == 6) = false := by simp; omega
    go_enter Tryz.func80, Tryz.ntmps80
    go_wp2
    go_ret
    exact ⟨rfl, rfl⟩
  all_goals
    go_enter Tryz.func80, Tryz.ntmps80
    go_wp2
    go_ret
    exact ⟨rfl, rfl⟩

set_option maxHeartbeats 1000000 in
theorem spec_rcmp (op : Int) (a b : Nat) (w : World) :
    Calls Tryz.prog 227 #[.int .i64 op, .float .f64 a, .float .f64 b] w fun e w' => e = .returned (.bool (rc op a b)) ∧ w' = w := by
  rcases op_cases op with h | rfl | rfl | rfl | rfl | rfl | rfl
  · rw [rc_out op a b h]
    have n1 : (op == 1) = false := by simp; omega
    have n2 : (op == 2) = false := by simp; omega
    have n3 : (op == 3) = false := by simp; omega
    have n4 : (op == 4) = false := by simp; omega
    have n5 : (op == 5) = false := by simp; omega
    have n6 : (op == 6) = false := by simp; omega
    go_enter Tryz.func227, Tryz.ntmps227
    go_wp2
    go_ret
    exact ⟨rfl, rfl⟩
  all_goals
    go_enter Tryz.func227, Tryz.ntmps227
    go_wp2
    go_ret
    exact ⟨rfl, rfl⟩

end Go.Proofs.YtlgacbjopobeoaaGreatDoor
