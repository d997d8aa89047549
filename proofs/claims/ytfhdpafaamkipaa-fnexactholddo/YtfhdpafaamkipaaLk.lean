/- The numbers of sync.Mutex's functions and types in this dump. Made by tools/gen19_locks.py. -/
import Derived.Test.YtfhdpafaamkipaaChecked
import Derived.Conc.MuLone
import Derived.KernelRfl
namespace Go.Proofs.Ytfhdpafaamkipaa
abbrev muLink : Go.Conc.Locks.MuLink := { lock := 66, unlock := 67, ilock := 70, iunlock := 71, lockSlow := 81, unlockSlow := 84, disable := 77, enable := 79, acquire := 80, relMerge := 82, cas32 := 78, add32 := 83, tMutex := 81, tIMutex := 79, tPMutex := 102, tPIMutex := 104, tPI32 := 106, tUP := 108, tNoCopy := 76, tU32 := 77 }
theorem muLib : Go.Conc.Locks.MuLib Try.prog muLink :=
  ⟨Try.func66, Try.func67, Try.func70, Try.func71, Try.func77, Try.func79, Try.func80, Try.func82, Try.func78, Try.func83, Try.underlying79, Try.runUnderlying79, Try.sizeOf79, Try.isAgg79, Try.zeroValue79, Try.underlying81, Try.runUnderlying81, Try.sizeOf81, Try.isAgg81, Try.zeroValue81, Try.underlying102, Try.runUnderlying102, Try.sizeOf102, Try.isAgg102, Try.zeroValue102, Try.underlying104, Try.runUnderlying104, Try.sizeOf104, Try.isAgg104, Try.zeroValue104, Try.underlying106, Try.runUnderlying106, Try.sizeOf106, Try.isAgg106, Try.zeroValue106, Try.underlying108, Try.runUnderlying108, Try.sizeOf108, Try.isAgg108, Try.zeroValue108, Try.underlying76, Try.runUnderlying76, Try.sizeOf76, Try.isAgg76, Try.zeroValue76, Try.underlying21, Try.runUnderlying21, Try.sizeOf21, Try.isAgg21, Try.zeroValue21, (by kernel_rfl)⟩
end Go.Proofs.Ytfhdpafaamkipaa
