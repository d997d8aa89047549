/- What is no number, and bits made a number. -/
import Derived.Test.YtjnddfpieogpiaaDoorE
import Derived.Below
import Derived.Laws.Externs
namespace Go.Proofs.YtjnddfpieogpiaaDoor
open Go.RowKit
set_option linter.unusedVariables false

theorem below_drew (w : World) : Below w.heap.size w w.drew := ⟨rfl, rfl, rfl, Nat.le_refl _, fun _ _ => rfl⟩
theorem wf_of_lt64 {x : Nat} (h : x < 18446744073709551616) : (Lit.float .f64 x).wf = true := wf_of_lt .f64 x h

set_option maxHeartbeats 1000000 in
theorem spec_nan (w : World) :
    Calls Tryd.prog 27 #[] w fun e w' => ∃ v, e = .returned (.float .f64 v) ∧ Fm.isN v ∧ (Lit.float .f64 v).wf = true ∧ Below w.heap.size w w' := by
  have hq : ∀ (t : TypeId) (w : World), (binOp .quo t (.float .f64 0) (.float .f64 0)).run Tryd.prog w = .ok (.float .f64 (Fm.nanOf (w.tape w.drawn (.nanBits .f64 0 0)))) w.drew := fun t w => Fm.run_none w .quo t 0 0 (by simp) (by decide +kernel)
  have h1 := Fm.nanOf_isN (w.tape w.drawn (.nanBits .f64 0 0))
  have h2 := Fm.nanOf_lt (w.tape w.drawn (.nanBits .f64 0 0))
  have H1 : Hid (Fm.isN (Fm.nanOf (w.tape w.drawn (.nanBits .f64 0 0))) ∧ Fm.nanOf (w.tape w.drawn (.nanBits .f64 0 0)) < 18446744073709551616) := ⟨h1, h2⟩
  clear h1 h2
  go_enter Tryd.func27, Tryd.ntmps27
  go_wp2
  go_ret
  exact ⟨_, rfl, H1.out.1, wf_of_lt64 H1.out.2, below_drew w⟩

theorem frombits (n : Int) (w : World) : (callFunc 37 #[.int .u64 n]).run Tryd.prog w = .ok (.value (.float .f64 n.toNat)) w :=
  (run_callFunc_extern Tryd.func37 (by kernel_rfl) (by kernel_rfl) (by kernel_rfl) (e := Extern.MathFloatBits.float64frombits) (by kernel_rfl) _ w).trans rfl
attribute [go_sem] frombits

set_option maxHeartbeats 1000000 in
theorem impl_nan (w : World) :
    Calls Tryd.prog 30 #[] w fun e w' => e = .returned (.float .f64 9221120237041090561) ∧ w' = w := by
  go_enter Tryd.func30, Tryd.ntmps30
  go_wp2
  go_ret
  exact ⟨rfl, rfl⟩

end Go.Proofs.YtjnddfpieogpiaaDoor
