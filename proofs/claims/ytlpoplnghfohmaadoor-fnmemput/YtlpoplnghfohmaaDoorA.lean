/- Tests of whole and real numbers: the program's and the specification's. -/
import Derived.Test.YtlpoplnghfohmaaDoorRows
import Derived.Test.YtlpoplnghfohmaaDoorFmE
import Derived.WalkKit
import Derived.ProofKit
import Derived.Handy
import Derived.WalkLawsBesides
import Derived.Deep.QuietTactic
import Derived.BigQuiet
import Derived.WalkSpells
namespace Go.Proofs.YtlpoplnghfohmaaDoor
open Go.RowKit
set_option linter.unusedVariables false

theorem st_nilFunc (P : Program) (w : World) (a : Addr) (m : Mode) : (store a .nilFunc m).run P w = stored P w a .nilFunc m := run_store P w a _ m rfl
theorem st_func (P : Program) (w : World) (a : Addr) (m : Mode) (fn : Fn) (x y : Array Value) : (store a (.func fn x y) m).run P w = stored P w a (.func fn x y) m := run_store P w a _ m rfl
theorem st_float (P : Program) (w : World) (a : Addr) (m : Mode) (k : FloatKind) (x : Nat) : (store a (.float k x) m).run P w = stored P w a (.float k x) m := run_store P w a _ m rfl
attribute [go_sem] st_nilFunc st_func st_float

theorem op_cases (k : Int) : (k < 1 ∨ 7 ≤ k) ∨ k = 1 ∨ k = 2 ∨ k = 3 ∨ k = 4 ∨ k = 5 ∨ k = 6 := by omega

/-- What a test says of two whole numbers. -/
def wc (op a b : Int) : Bool := if op = 1 then decide (a < b) else if op = 2 then decide (a ≤ b) else if op = 3 then a == b else if op = 4 then a != b else if op = 5 then decide (b ≤ a) else if op = 6 then decide (b < a) else false
theorem wc_out (op a b : Int) (h : op < 1 ∨ 7 ≤ op) : wc op a b = false := by
  unfold wc
  rw [if_neg (by omega), if_neg (by omega), if_neg (by omega), if_neg (by omega), if_neg (by omega), if_neg (by omega)]
/-- What a test says of two real numbers. -/
def rc (op : Int) (a b : Nat) : Bool := if op = 1 then (Fm.F.order a b == some .lt) else if op = 2 then (Fm.F.order a b == some .lt || Fm.F.order a b == some .eq) else if op = 3 then (Fm.F.order a b == some .eq) else if op = 4 then (Fm.F.order a b != some .eq) else if op = 5 then (Fm.F.order a b == some .gt || Fm.F.order a b == some .eq) else if op = 6 then (Fm.F.order a b == some .gt) else false
theorem rc_out (op : Int) (a b : Nat) (h : op < 1 ∨ 7 ≤ op) : rc op a b = false := by
  unfold rc
  rw [if_neg (by omega), if_neg (by omega), if_neg (by omega), if_neg (by omega), if_neg (by omega), if_neg (by omega)]

set_option maxHeartbeats 1000000 in
theorem impl_wheld (op a b : Int) (w : World) :
    Calls Tryd.prog 93 #[.int .i64 op, .int .i16 a, .int .i16 b] w fun e w' => e = .returned (.bool (wc op a b)) ∧ Below w.heap.size w w' := by
  rcases op_cases op with h | rfl | rfl | rfl | rfl | rfl | rfl
  · rw [wc_out op a b h]
    by_cases h1 : op < 1
    · go_enter Tryd.func93, Tryd.ntmps93
      go_wp2
      go_returns
      exact ⟨rfl, by go_grown⟩
    · have h2 : 7 ≤ op := by omega
      go_enter Tryd.func93, Tryd.ntmps93
      go_wp2
      go_returns
      exact ⟨rfl, by go_grown⟩
  all_goals
    go_enter Tryd.func93, Tryd.ntmps93
    go_wp2
    go_returns
    exact ⟨rfl, by go_grown⟩

set_option maxHeartbeats 1000000 in
theorem impl_rheld (op : Int) (a b : Nat) (w : World) :
    Calls Tryd.prog 92 #[.int .i64 op, .float .f64 a, .float .f64 b] w fun e w' => e = .returned (.bool (rc op a b)) ∧ Below w.heap.size w w' := by
  rcases op_cases op with h | rfl | rfl | rfl | rfl | rfl | rfl
  · rw [rc_out op a b h]
    by_cases h1 : op < 1
    · go_enter Tryd.func92, Tryd.ntmps92
      go_wp2
      go_returns
      exact ⟨rfl, by go_grown⟩
    · have h2 : 7 ≤ op := by omega
      go_enter Tryd.func92, Tryd.ntmps92
      go_wp2
      go_returns
      exact ⟨rfl, by go_grown⟩
  all_goals
    go_enter Tryd.func92, Tryd.ntmps92
    go_wp2
    go_returns
    exact ⟨rfl, by go_grown⟩

set_option maxHeartbeats 1000000 in
theorem impl_wcmp (op a b : Int) (w : World) :
    Calls Tryd.prog 91 #[.int .i64 op, .int .i16 a, .int .i16 b] w fun e w' => e = .returned (.bool (wc op a b)) ∧ Below w.heap.size w w' := by
  go_enter Tryd.func91, Tryd.ntmps91
  go_wp2_with fail
  refine (impl_wheld op a b _).mono ?_
  rintro e w1 ⟨rfl, g1⟩
  go_wp2
  go_ret
  exact ⟨rfl, g1⟩

set_option maxHeartbeats 1000000 in
theorem impl_rcmp (op : Int) (a b : Nat) (w : World) :
    Calls Tryd.prog 90 #[.int .i64 op, .float .f64 a, .float .f64 b] w fun e w' => e = .returned (.bool (rc op a b)) ∧ Below w.heap.size w w' := by
  go_enter Tryd.func90, Tryd.ntmps90
  go_wp2_with fail
  refine (impl_rheld op a b _).mono ?_
  rintro e w1 ⟨rfl, g1⟩
  go_wp2
  go_ret
  exact ⟨rfl, g1⟩
end Go.Proofs.YtlpoplnghfohmaaDoor
