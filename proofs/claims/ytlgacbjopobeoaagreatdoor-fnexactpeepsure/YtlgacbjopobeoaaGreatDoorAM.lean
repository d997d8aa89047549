/- Tests of whole and real numbers: the program's and the specification's. -/
import Derived.Test.YtlgacbjopobeoaaGreatDoorRows
import Derived.Test.YtlgacbjopobeoaaGreatDoorFmAM
import Derived.WalkKit
import Derived.ProofKit
import Derived.Handy
import Derived.WalkLawsBesides
import Derived.Deep.QuietTactic
import Derived.BigQuiet
import Derived.WalkSpells
import Derived.Below
import Derived.Laws.Externs
namespace Go.Proofs.YtlgacbjopobeoaaGreatDoor
open Go.RowKit
set_option linter.unusedVariables false

theorem st_nilFunc (P : Program) (w : World) (a : Addr) (m : Mode) : (store a .nilFunc m).run P w = stored P w a .nilFunc m := run_store P w a _ m rfl
theorem st_func (P : Program) (w : World) (a : Addr) (m : Mode) (fn : Fn) (x y : Array Value) : (store a (.func fn x y) m).run P w = stored P w a (.func fn x y) m := run_store P w a _ m rfl
theorem st_float (P : Program) (w : World) (a : Addr) (m : Mode) (k : FloatKind) (x : Nat) : (store a (.float k x) m).run P w = stored P w a (.float k x) m := run_store P w a _ m rfl
attribute [go_sem] st_nilFunc st_func st_float

theorem op_cases (k : Int) : (k < 1 ∨ 7 ≤ k) ∨ k = 1 ∨ k = 2 ∨ k = 3 ∨ k = 4 ∨ k = 5 ∨ k = 6 := by omega

/-- What a test says of two whole numbers. -/
def wc (op a b : Int) : Bool := if op = 1 then decide (a < b) else if op = 2 then decide (a ≤ b) else if op = 3 then a == b else if op = 4 then a != b else if op = 5 then decide (b ≤ a) else if op = 6 then decide (b < a) else false
theorem wc_out (op a b : Int) (h : op < 1 ∨ 7 ≤ op) : wc op a b = false := by
  unfold wc
  rw [if_neg (by omega), if_neg (by omega), if_neg (by omega), if_neg (by omega), if_neg (by omega), if_neg (by omega)]
/-- What a test says of two real numbers. -/
def rc (op : Int) (a b : Nat) : Bool := if op = 1 then (Fm.F.order a b == some .lt) else if op = 2 then (Fm.F.order a b == some .lt || Fm.F.order a b == some .eq) else if op = 3 then (Fm.F.order a b == some .eq) else if op = 4 then (Fm.F.order a b != some .eq) else if op = 5 then (Fm.F.order a b == some .gt || Fm.F.order a b == some .eq) else if op = 6 then (Fm.F.order a b == some .gt) else false
theorem rc_out (op : Int) (a b : Nat) (h : op < 1 ∨ 7 ≤ op) : rc op a b = false := by
  unfold rc
  rw [if_neg (by omega), if_neg (by omega), if_neg (by omega), if_neg (by omega), if_neg (by omega), if_neg (by omega)]

set_option maxHeartbeats 1000000 in
theorem impl_wheld (op a b : Int) (w : World) :
    Calls Tryz.prog 340 #[.int .i64 op, .int .i16 a, .int .i16 b] w fun e w' => e = .returned (.bool (wc op a b)) ∧ Below w.heap.size w w' := by
  rcases op_cases op with h | rfl | rfl | rfl | rfl | rfl | rfl
  · rw [wc_out op a b h]
    by_cases h1 : op < 1
    · go_enter Tryz.func340, Tryz.ntmps340
      go_wp2
      go_returns
      exact ⟨rfl, by go_grown⟩
    · have h2 : 7 ≤ op := by omega
      go_enter Tryz.func340, Tryz.ntmps340
      go_wp2
      go_returns
      exact ⟨rfl, by go_grown⟩
  all_goals
    go_enter Tryz.func340, Tryz.ntmps340
    go_wp2
    go_returns
    exact ⟨rfl, by go_grown⟩

set_option maxHeartbeats 1000000 in
theorem impl_rheld (op : Int) (a b : Nat) (w : World) :
    Calls Tryz.prog 338 #[.int .i64 op, .float .f64 a, .float .f64 b] w fun e w' => e = .returned (.bool (rc op a b)) ∧ Below w.heap.size w w' := by
  rcases op_cases op with h | rfl | rfl | rfl | rfl | rfl | rfl
  · rw [rc_out op a b h]
    by_cases h1 : op < 1
    · go_enter Tryz.func338, Tryz.ntmps338
      go_wp2
      go_returns
      exact ⟨rfl, by go_grown⟩
    · have h2 : 7 ≤ op := by omega
      go_enter Tryz.func338, Tryz.ntmps338
      go_wp2
      go_returns
      exact ⟨rfl, by go_grown⟩
  all_goals
    go_enter Tryz.func338, Tryz.ntmps338
    go_wp2
    go_returns
    exact ⟨rfl, by go_grown⟩

set_option maxHeartbeats 1000000 in
theorem impl_wcmp (op a b : Int) (w : World) :
    Calls Tryz.prog 336 #[.int .i64 op, .int .i16 a, .int .i16 b] w fun e w' => e = .returned (.bool (wc op a b)) ∧ Below w.heap.size w w' := by
  go_enter Tryz.func336, Tryz.ntmps336
  go_wp2_with fail
  refine (impl_wheld op a b _).mono ?_
  rintro e w1 ⟨rfl, g1⟩
  go_wp2
  go_ret
  exact ⟨rfl, g1⟩

set_option maxHeartbeats 1000000 in
theorem impl_rcmp (op : Int) (a b : Nat) (w : World) :
    Calls Tryz.prog 334 #[.int .i64 op, .float .f64 a, .float .f64 b] w fun e w' => e = .returned (.bool (rc op a b)) ∧ Below w.heap.size w w' := by
  go_enter Tryz.func334, Tryz.ntmps334
  go_wp2_with fail
  refine (impl_rheld op a b _).mono ?_
  rintro e w1 ⟨rfl, g1⟩
  go_wp2
  go_ret
  exact ⟨rfl, g1⟩
end Go.Proofs.YtlgacbjopobeoaaGreatDoor
/- Calculations with real numbers; two real numbers held against each other. -/
namespace Go.Proofs.YtlgacbjopobeoaaGreatDoor
open Go.RowKit
set_option linter.unusedVariables false

/-- One value: the same bits, or no number both. -/
def Same (x y : Nat) : Prop := x = y ∨ (Fm.isN x ∧ Fm.isN y)

theorem lt_of_wf {x : Nat} (h : (Lit.float .f64 x).wf = true) : x < 18446744073709551616 := by
  have : x < 2 ^ 64 := by simpa [Lit.wf] using h
  exact this

theorem quo_zero {x : Nat} (h : Fm.R (Fm.rg x) = 0) (t : TypeId) (w : World) : (binOp .quo t (.float .f64 4607182418800017408) (.float .f64 x)).run Tryz.prog w = .ok (.float .f64 (Ieee.double.word (Fm.sg x) Fm.infR)) w :=
  run_float_arith w .quo t .f64 _ x _ (Fm.inv_zero h)

theorem sv_zero {x : Nat} (h : Fm.sv x = 0) : Fm.R (Fm.rg x) = 0 := by
  unfold Fm.sv at h
  split at h <;> omega
theorem sv0 : Fm.sv 0 = 0 := by decide
theorem notN0 : ¬ Fm.isN 0 := by decide

end Go.Proofs.YtlgacbjopobeoaaGreatDoor
/- What is no number, and bits made a number. -/
namespace Go.Proofs.YtlgacbjopobeoaaGreatDoor
open Go.RowKit
set_option linter.unusedVariables false

theorem below_drew (w : World) : Below w.heap.size w w.drew := ⟨rfl, rfl, rfl, Nat.le_refl _, fun _ _ => rfl⟩
theorem wf_of_lt64 {x : Nat} (h : x < 18446744073709551616) : (Lit.float .f64 x).wf = true := wf_of_lt .f64 x h

set_option maxHeartbeats 1000000 in
theorem spec_nan (w : World) :
    Calls Tryz.prog 181 #[] w fun e w' => ∃ v, e = .returned (.float .f64 v) ∧ Fm.isN v ∧ (Lit.float .f64 v).wf = true ∧ Below w.heap.size w w' := by
  have hq : ∀ (t : TypeId) (w : World), (binOp .quo t (.float .f64 0) (.float .f64 0)).run Tryz.prog w = .ok (.float .f64 (Fm.nanOf (w.tape w.drawn (.nanBits .f64 0 0)))) w.drew := fun t w => Fm.run_none w .quo t 0 0 (by simp) (by decide +kernel)
  have h1 := Fm.nanOf_isN (w.tape w.drawn (.nanBits .f64 0 0))
  have h2 := Fm.nanOf_lt (w.tape w.drawn (.nanBits .f64 0 0))
  have H1 : Hid (Fm.isN (Fm.nanOf (w.tape w.drawn (.nanBits .f64 0 0))) ∧ Fm.nanOf (w.tape w.drawn (.nanBits .f64 0 0)) < 18446744073709551616) := ⟨h1, h2⟩
  clear h1 h2
  go_enter Tryz.func181, Tryz.ntmps181
  go_wp2
  go_ret
  exact ⟨_, rfl, H1.out.1, wf_of_lt64 H1.out.2, below_drew w⟩

theorem frombits (n : Int) (w : World) : (callFunc 171 #[.int .u64 n]).run Tryz.prog w = .ok (.value (.float .f64 n.toNat)) w :=
  (run_callFunc_extern Tryz.func171 (by kernel_rfl) (by kernel_rfl) (by kernel_rfl) (e := Extern.MathFloatBits.float64frombits) (by kernel_rfl) _ w).trans rfl
attribute [go_sem] frombits

set_option maxHeartbeats 1000000 in
theorem impl_nan (w : World) :
    Calls Tryz.prog 109 #[] w fun e w' => e = .returned (.float .f64 9221120237041090561) ∧ w' = w := by
  go_enter Tryz.func109, Tryz.ntmps109
  go_wp2
  go_ret
  exact ⟨rfl, rfl⟩

end Go.Proofs.YtlgacbjopobeoaaGreatDoor
