/- Contracts of the library at this program, off the shelf. -/
import Derived.Test.YtlgacbjopobeoaaGreatDoorChecked
import Derived.Shelf.Slices.Turned
namespace Go.Proofs
open Go.Shelf
def Tryz.layC_ren : Go.Shelf.Ren := ⟨fun | 107 => 284 | 108 => 296 | n => n, fun | 28 => 174 | 3 => 3 | 4 => 4 | 0 => 0 | n => n, fun | n => n⟩
theorem Tryz.layC : Go.Proofs.Lays.n107 Tryz.prog Tryz.layC_ren := {
  mixed := by kernel_rfl
  f107 := Tryz.func284.trans (congrArg some (by kernel_rfl))
  f108 := Tryz.func296.trans (congrArg some (by kernel_rfl))
  t0 := Tryz.underlying0
  a0 := Tryz.isAgg0
  z0 := Tryz.sizeOf0
  v0 := Tryz.zeroValue0
  t3 := Tryz.underlying3
  a3 := Tryz.isAgg3
  z3 := Tryz.sizeOf3
  v3 := Tryz.zeroValue3
  t4 := Tryz.underlying4
  a4 := Tryz.isAgg4
  z4 := Tryz.sizeOf4
  v4 := Tryz.zeroValue4
  t28 := Tryz.underlying174
  a28 := Tryz.isAgg174
  z28 := Tryz.sizeOf174
  v28 := Tryz.zeroValue174
  }
end Go.Proofs
