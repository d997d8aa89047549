/- Calculations with real numbers; two real numbers held against each other. -/
import Derived.Test.YtjnddfpieogpiaaGreatDoorFmAM
import Derived.Below
import Derived.Laws.Externs
namespace Go.Proofs.YtjnddfpieogpiaaGreatDoor
open Go.RowKit
set_option linter.unusedVariables false

/-- One value: the same bits, or no number both. -/
def Same (x y : Nat) : Prop := x = y ∨ (Fm.isN x ∧ Fm.isN y)

theorem lt_of_wf {x : Nat} (h : (Lit.float .f64 x).wf = true) : x < 18446744073709551616 := by
  have : x < 2 ^ 64 := by simpa [Lit.wf] using h
  exact this

theorem quo_zero {x : Nat} (h : Fm.R (Fm.rg x) = 0) (t : TypeId) (w : World) : (binOp .quo t (.float .f64 4607182418800017408) (.float .f64 x)).run Tryz.prog w = .ok (.float .f64 (Ieee.double.word (Fm.sg x) Fm.infR)) w :=
  run_float_arith w .quo t .f64 _ x _ (Fm.inv_zero h)

theorem sv_zero {x : Nat} (h : Fm.sv x = 0) : Fm.R (Fm.rg x) = 0 := by
  unfold Fm.sv at h
  split at h <;> omega
theorem sv0 : Fm.sv 0 = 0 := by decide
theorem notN0 : ¬ Fm.isN 0 := by decide

end Go.Proofs.YtjnddfpieogpiaaGreatDoor
/- What is no number, and bits made a number. -/
namespace Go.Proofs.YtjnddfpieogpiaaGreatDoor
open Go.RowKit
set_option linter.unusedVariables false

theorem below_drew (w : World) : Below w.heap.size w w.drew := ⟨rfl, rfl, rfl, Nat.le_refl _, fun _ _ => rfl⟩
theorem wf_of_lt64 {x : Nat} (h : x < 18446744073709551616) : (Lit.float .f64 x).wf = true := wf_of_lt .f64 x h

set_option maxHeartbeats 1000000 in
theorem spec_nan (w : World) :
    Calls Tryz.prog 120 #[] w fun e w' => ∃ v, e = .returned (.float .f64 v) ∧ Fm.isN v ∧ (Lit.float .f64 v).wf = true ∧ Below w.heap.size w w' := by
  have hq : ∀ (t : TypeId) (w : World), (binOp .quo t (.float .f64 0) (.float .f64 0)).run Tryz.prog w = .ok (.float .f64 (Fm.nanOf (w.tape w.drawn (.nanBits .f64 0 0)))) w.drew := fun t w => Fm.run_none w .quo t 0 0 (by simp) (by decide +kernel)
  have h1 := Fm.nanOf_isN (w.tape w.drawn (.nanBits .f64 0 0))
  have h2 := Fm.nanOf_lt (w.tape w.drawn (.nanBits .f64 0 0))
  have H1 : Hid (Fm.isN (Fm.nanOf (w.tape w.drawn (.nanBits .f64 0 0))) ∧ Fm.nanOf (w.tape w.drawn (.nanBits .f64 0 0)) < 18446744073709551616) := ⟨h1, h2⟩
  clear h1 h2
  go_enter Tryz.func120, Tryz.ntmps120
  go_wp2
  go_ret
  exact ⟨_, rfl, H1.out.1, wf_of_lt64 H1.out.2, below_drew w⟩

theorem frombits (n : Int) (w : World) : (callFunc 149 #[.int .u64 n]).run Tryz.prog w = .ok (.value (.float .f64 n.toNat)) w :=
  (run_callFunc_extern Tryz.func149 (by kernel_rfl) (by kernel_rfl) (by kernel_rfl) (e := Extern.MathFloatBits.float64frombits) (by kernel_rfl) _ w).trans rfl
attribute [go_sem] frombits

set_option maxHeartbeats 1000000 in
theorem impl_nan (w : World) :
    Calls Tryz.prog 111 #[] w fun e w' => e = .returned (.float .f64 9221120237041090561) ∧ w' = w := by
  go_enter Tryz.func111, Tryz.ntmps111
  go_wp2
  go_ret
  exact ⟨rfl, rfl⟩

end Go.Proofs.YtjnddfpieogpiaaGreatDoor
