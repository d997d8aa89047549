/- What is no number, and bits made a number. -/
import Derived.Test.YtkmejeebkckcpaaE
import Derived.Below
import Derived.Laws.Externs
namespace Go.Proofs.Ytkmejeebkckcpaa
open Go.RowKit
set_option linter.unusedVariables false

theorem below_drew (w : World) : Below w.heap.size w w.drew := ⟨rfl, rfl, rfl, Nat.le_refl _, fun _ _ => rfl⟩
theorem wf_of_lt64 {x : Nat} (h : x < 18446744073709551616) : (Lit.float .f64 x).wf = true := wf_of_lt .f64 x h

theorem frombits (n : Int) (w : World) : (callFunc 19 #[.int .u64 n]).run Try.prog w = .ok (.value (.float .f64 n.toNat)) w :=
  (run_callFunc_extern Try.func19 (by kernel_rfl) (by kernel_rfl) (by kernel_rfl) (e := Extern.MathFloatBits.float64frombits) (by kernel_rfl) _ w).trans rfl
attribute [go_sem] frombits

set_option maxHeartbeats 1000000 in
theorem impl_nan (w : World) :
    Calls Try.prog 16 #[] w fun e w' => e = .returned (.float .f64 9221120237041090561) ∧ w' = w := by
  go_enter Try.func16, Try.ntmps16
  go_wp2
  go_ret
  exact ⟨rfl, rfl⟩

end Go.Proofs.Ytkmejeebkckcpaa
