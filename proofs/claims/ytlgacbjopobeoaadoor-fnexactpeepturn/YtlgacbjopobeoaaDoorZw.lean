/- The words of instructions: ListWord, both sides; the law FnExactListWord. -/
import Derived.Test.YtlgacbjopobeoaaDoorChecked
import Derived.Test.YtlgacbjopobeoaaDoorRows
import Derived.Lib.LaidU8
import Derived.OpenVars
import Derived.Below
import Derived.WalkKit
import Derived.Lib.QuietBelow
namespace Go.Proofs.YtlgacbjopobeoaaDoor
open Go.RowKit
open Go.Lib (VarReads)
set_option linter.unusedVariables false

/-- The words. -/
def lwd (n : Int) : ByteArray := if n = 1 then ⟨#[108, 100]⟩ else if n = 2 then ⟨#[97, 110, 100]⟩ else if n = 3 then ⟨#[111, 114]⟩ else if n = 4 then ⟨#[97, 110, 98]⟩ else if n = 5 then ⟨#[111, 114, 98]⟩ else if n = 6 then ⟨#[105, 110, 118]⟩ else if n = 7 then ⟨#[109, 112, 115]⟩ else if n = 8 then ⟨#[109, 114, 100]⟩ else if n = 9 then ⟨#[109, 112, 112]⟩ else if n = 10 then ⟨#[99, 111, 105, 108]⟩ else if n = 11 then ⟨#[101, 110, 100]⟩ else ⟨#[]⟩
theorem lwd_out {n : Int} (h : n < 1 ∨ 11 < n) : lwd n = ⟨#[]⟩ := by
  unfold lwd
  rw [if_neg (by omega), if_neg (by omega), if_neg (by omega), if_neg (by omega), if_neg (by omega), if_neg (by omega), if_neg (by omega), if_neg (by omega), if_neg (by omega), if_neg (by omega), if_neg (by omega)]
theorem c12 (i : Nat) (h : i < 12) : i = 0 ∨ i = 1 ∨ i = 2 ∨ i = 3 ∨ i = 4 ∨ i = 5 ∨ i = 6 ∨ i = 7 ∨ i = 8 ∨ i = 9 ∨ i = 10 ∨ i = 11 := by omega

theorem cellsStr : Tryd.prog.cellsOf 9 = 1 := by kernel_rfl
theorem ba_listL {s : ByteArray} {l : List UInt8} (h : s.data.toList = l) : s = ⟨l.toArray⟩ := by rw [← h, Lib.mk_data]
end Go.Proofs.YtlgacbjopobeoaaDoor
