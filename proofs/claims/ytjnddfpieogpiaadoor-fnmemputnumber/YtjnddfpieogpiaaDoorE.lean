/- Calculations with real numbers; two real numbers held against each other. -/
import Derived.Test.YtjnddfpieogpiaaDoorA
namespace Go.Proofs.YtjnddfpieogpiaaDoor
open Go.RowKit
set_option linter.unusedVariables false

/-- One value: the same bits, or no number both. -/
def Same (x y : Nat) : Prop := x = y ∨ (Fm.isN x ∧ Fm.isN y)

theorem lt_of_wf {x : Nat} (h : (Lit.float .f64 x).wf = true) : x < 18446744073709551616 := by
  have : x < 2 ^ 64 := by simpa [Lit.wf] using h
  exact this

theorem quo_zero {x : Nat} (h : Fm.R (Fm.rg x) = 0) (t : TypeId) (w : World) : (binOp .quo t (.float .f64 4607182418800017408) (.float .f64 x)).run Tryd.prog w = .ok (.float .f64 (Ieee.double.word (Fm.sg x) Fm.infR)) w :=
  run_float_arith w .quo t .f64 _ x _ (Fm.inv_zero h)

theorem sv_zero {x : Nat} (h : Fm.sv x = 0) : Fm.R (Fm.rg x) = 0 := by
  unfold Fm.sv at h
  split at h <;> omega
theorem sv0 : Fm.sv 0 = 0 := by decide
theorem notN0 : ¬ Fm.isN 0 := by decide

end Go.Proofs.YtjnddfpieogpiaaDoor
