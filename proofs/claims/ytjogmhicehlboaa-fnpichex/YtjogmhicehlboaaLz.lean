/- Contracts of the library at this program, off the shelf. -/
import Derived.Test.YtjogmhicehlboaaChecked
import Derived.Shelf.Small.Strs
namespace Go.Proofs
open Go.Shelf
def Try.layX_ren : Go.Shelf.Ren := ⟨fun | 137 => 28 | 217 => 35 | 266 => 44 | n => n, fun | 9 => 9 | 5 => 5 | 3 => 3 | n => n, fun | n => n⟩
theorem Try.layX : Go.Proofs.Lays.n137 Try.prog Try.layX_ren := {
  mixed := by kernel_rfl
  f137 := Try.func28.trans (congrArg some (by kernel_rfl))
  f217 := Try.func35.trans (congrArg some (by kernel_rfl))
  f266 := Try.func44.trans (congrArg some (by kernel_rfl))
  t3 := Try.underlying3
  a3 := Try.isAgg3
  z3 := Try.sizeOf3
  v3 := Try.zeroValue3
  t5 := Try.underlying5
  a5 := Try.isAgg5
  z5 := Try.sizeOf5
  v5 := Try.zeroValue5
  t9 := Try.underlying9
  a9 := Try.isAgg9
  z9 := Try.sizeOf9
  v9 := Try.zeroValue9
  }
end Go.Proofs
