/- Calculations with real numbers; two real numbers held against each other. -/
import Derived.Test.YtlpoplnghfohmaaA
namespace Go.Proofs.Ytlpoplnghfohmaa
open Go.RowKit
set_option linter.unusedVariables false

/-- One value: the same bits, or no number both. -/
def Same (x y : Nat) : Prop := x = y ∨ (Fm.isN x ∧ Fm.isN y)

theorem lt_of_wf {x : Nat} (h : (Lit.float .f64 x).wf = true) : x < 18446744073709551616 := by
  have : x < 2 ^ 64 := by simpa [Lit.wf] using h
  exact this

theorem quo_zero {x : Nat} (h : Fm.R (Fm.rg x) = 0) (t : TypeId) (w : World) : (binOp .quo t (.float .f64 4607182418800017408) (.float .f64 x)).run Try.prog w = .ok (.float .f64 (Ieee.double.word (Fm.sg x) Fm.infR)) w :=
  run_float_arith w .quo t .f64 _ x _ (Fm.inv_zero h)

theorem sv_zero {x : Nat} (h : Fm.sv x = 0) : Fm.R (Fm.rg x) = 0 := by
  unfold Fm.sv at h
  split at h <;> omega
theorem sv0 : Fm.sv 0 = 0 := by decide
theorem notN0 : ¬ Fm.isN 0 := by decide

set_option maxHeartbeats 1000000 in
theorem same_eq (x : Nat) (w : World) (hw : (Lit.float .f64 x).wf = true) :
    Calls Try.prog 33 #[.float .f64 x, .float .f64 x] w fun e w' => e = .returned (.bool true) ∧ w' = w := by
  have hx := lt_of_wf hw
  clear hw
  have e1 := Fm.self_ne x
  have e2 := Fm.self_eq x
  by_cases hn : Fm.isN x
  · rw [decide_eq_true hn] at e1
    clear e2
    go_enter Try.func33, Try.ntmps33
    go_wp2
    go_ret
    exact ⟨rfl, rfl⟩
  · rw [decide_eq_false hn] at e1
    rw [decide_eq_true hn] at e2
    have e3 := Fm.eq_b hn notN0
    by_cases h0 : Fm.sv x = 0
    · rw [decide_eq_true (by rw [h0, sv0])] at e3
      have hq := quo_zero (sv_zero h0)
      generalize Ieee.double.word (Fm.sg x) Fm.infR = y at hq
      generalize hb : (Fm.F.order y 0 == some .gt) = b
      clear e2 hn h0
      go_enter Try.func33, Try.ntmps33
      go_wp2
      go_ret
      exact ⟨rfl, rfl⟩
    · rw [decide_eq_false (by rw [sv0]; exact h0)] at e3
      go_enter Try.func33, Try.ntmps33
      go_wp2
      go_ret
      exact ⟨rfl, rfl⟩

set_option maxHeartbeats 1000000 in
theorem same_nan (x y : Nat) (w : World) (hx : Fm.isN x) (hy : Fm.isN y) :
    Calls Try.prog 33 #[.float .f64 x, .float .f64 y] w fun e w' => e = .returned (.bool true) ∧ w' = w := by
  have e1 := Fm.self_ne x
  have e2 := Fm.self_ne y
  rw [decide_eq_true hx] at e1
  rw [decide_eq_true hy] at e2
  clear hx hy
  go_enter Try.func33, Try.ntmps33
  go_wp2
  go_ret
  exact ⟨rfl, rfl⟩

theorem same_r (x y : Nat) (w : World) (hw : (Lit.float .f64 x).wf = true) (h : Same x y) :
    Calls Try.prog 33 #[.float .f64 x, .float .f64 y] w fun e w' => e = .returned (.bool true) ∧ w' = w := by
  rcases h with rfl | ⟨hx, hy⟩
  · exact same_eq x w hw
  · exact same_nan x y w hx hy
end Go.Proofs.Ytlpoplnghfohmaa
