/- MemBit, the program's and the specification's. -/
import Derived.Test.YtjnddfpieogpiaaDoorMg
import Derived.Test.YtjnddfpieogpiaaDoorMd
namespace Go.Proofs.YtjnddfpieogpiaaDoor
open Go.RowKit Go.Shelf
set_option linter.unusedVariables false

/-- A number of a memory's cell. -/
def word (c : Array Value) (i : Nat) : Int := match c[i]? with | some (.int _ n) => n | _ => 0
/-- A truth of a memory's cell. -/
def flag (c : Array Value) (i : Nat) : Bool := match c[i]? with | some (.bool b) => b | _ => false
theorem word_of {c : Array Value} {i : Nat} {k : IntKind} {n : Int} (h : c[i]? = some (.int k n)) : word c i = n := by simp [word, h]
theorem flag_of {c : Array Value} {i : Nat} {b : Bool} (h : c[i]? = some (.bool b)) : flag c i = b := by simp [flag, h]

/-- The given bits. -/
def given (c : Array Value) (p : Int) : Bool := if p = 0 then true else if p = 2 then !flag c 134 else if p = 3 then flag c 135 else if p = 4 then decide (500 ≤ word c 133 % 1000) else false

/-- The bit that an operand asks for. -/
def mbit (c : Array Value) (k n : Int) : Bool :=
  if k = 1 then btest (word c 0) (pl k n) else if k = 2 then btest (word c 1) (pl k n) else if k = 3 then btest (word c 2) (pl k n) else if k = 4 then btest (word c 3) (pl k n) else if k = 5 then btest (word c 4) (pl k n)
  else if k = 6 then given c (pl k n) else if k = 7 then flag c (5 + 2 * (pl k n).toNat) else if k = 8 then flag c (37 + 3 * (pl k n).toNat) else false


end Go.Proofs.YtjnddfpieogpiaaDoor
