/- Tests of whole and real numbers: the program's and the specification's. -/
import Derived.Test.YtjnddfpieogpiaaDoorRows
import Derived.Test.YtjnddfpieogpiaaDoorFmE
import Derived.WalkKit
import Derived.ProofKit
import Derived.Handy
import Derived.WalkLawsBesides
import Derived.Deep.QuietTactic
import Derived.BigQuiet
import Derived.WalkSpells
namespace Go.Proofs.YtjnddfpieogpiaaDoor
open Go.RowKit
set_option linter.unusedVariables false

theorem st_nilFunc (P : Program) (w : World) (a : Addr) (m : Mode) : (store a .nilFunc m).run P w = stored P w a .nilFunc m := run_store P w a _ m rfl
theorem st_func (P : Program) (w : World) (a : Addr) (m : Mode) (fn : Fn) (x y : Array Value) : (store a (.func fn x y) m).run P w = stored P w a (.func fn x y) m := run_store P w a _ m rfl
theorem st_float (P : Program) (w : World) (a : Addr) (m : Mode) (k : FloatKind) (x : Nat) : (store a (.float k x) m).run P w = stored P w a (.float k x) m := run_store P w a _ m rfl
attribute [go_sem] st_nilFunc st_func st_float

theorem op_cases (k : Int) : (k < 1 ∨ 7 ≤ k) ∨ k = 1 ∨ k = 2 ∨ k = 3 ∨ k = 4 ∨ k = 5 ∨ k = 6 := by omega

/-- What a test says of two whole numbers. -/
def wc (op a b : Int) : Bool := if op = 1 then decide (a < b) else if op = 2 then decide (a ≤ b) else if op = 3 then a == b else if op = 4 then a != b else if op = 5 then decide (b ≤ a) else if op = 6 then decide (b < a) else false
theorem wc_out (op a b : Int) (h : op < 1 ∨ 7 ≤ op) : wc op a b = false := by
  unfold wc
  rw [if_neg (by omega), if_neg (by omega), if_neg (by omega), if_neg (by omega), if_neg (by omega), if_neg (by omega)]
/-- What a test says of two real numbers. -/
def rc (op : Int) (a b : Nat) : Bool := if op = 1 then (Fm.F.order a b == some .lt) else if op = 2 then (Fm.F.order a b == some .lt || Fm.F.order a b == some .eq) else if op = 3 then (Fm.F.order a b == some .eq) else if op = 4 then (Fm.F.order a b != some .eq) else if op = 5 then (Fm.F.order a b == some .gt || Fm.F.order a b == some .eq) else if op = 6 then (Fm.F.order a b == some .gt) else false
theorem rc_out (op : Int) (a b : Nat) (h : op < 1 ∨ 7 ≤ op) : rc op a b = false := by
  unfold rc
  rw [if_neg (by omega), if_neg (by omega), if_neg (by omega), if_neg (by omega), if_neg (by omega), if_neg (by omega)]

end Go.Proofs.YtjnddfpieogpiaaDoor
