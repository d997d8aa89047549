/-
  No cell of these rows narrows 'for every input' (looked for: loops, veiled, ifaces, maps, wideKeys, modest, calm, conditions, laid).
  DERIVED. THE GIVEN ROWS OF THIS SEAT. 9 by the template 'for every input the law returns true; each argument reads behind the call as it read before'; 0 by the template 'total and deterministic' (their statements: YtfhdpafaamkipaaTotals.lean).
  GIVEN WITH THE SEED: the statements are not yours to turn. If you find one false, say at which input.
  Laid BY PROGRAM, IN A SANDBOX (cutbox-rows.mjs): the forced cells as the released guide's own fill.sh prints them over the translation c67c7d1b4dcb3a6a… (all of the seat's roots in one cut). By AI agents, Wed Nov 11 2026. No macro, syntax, notation, axiom, sorry.
-/
import Derived.Test.YtfhdpafaamkipaaChecked
import GoSem.Claim
import GoSem.ClaimJoined
import GoSem.ClaimMapViews
import Derived.JoinedTies
import Derived.KernelRfl
namespace Go.Proofs.Ytfhdpafaamkipaa
/- THE CELL 'sum', in the pinned program and in every row, IS THE sha256 OF THE DUMP (.gsa) THAT YtfhdpafaamkipaaProg.lean LOADS. Nothing in Lean hashes anything: it is a label: what it is worth is what the hold of that sum in a sandbox is worth. -/
noncomputable def Try.pinned : Pinned := { name := "ytfhdpafaamkipaa", sum := "c67c7d1b4dcb3a6aadbab90a4dbd204d6a378f8a1185b95b9e75b1f6985c1990", checked := Try.checked }
namespace Rows
def none {H : Type} : Left H := { results := [], args := [] }

/-- 'laws.FnHoldTop': WHATEVER THE INPUT: true; the input reads as it did. -/
def fnHoldTopSpec : ChangeSpec := { name := "fnHoldTop", fn := fun _ => fun
  | [d] => { results := [.lit (.bool true)], args := [d] }
  | _ => none }
def fnHoldTopRow : OpenClaim := { program := "ytfhdpafaamkipaa", sum := "c67c7d1b4dcb3a6aadbab90a4dbd204d6a378f8a1185b95b9e75b1f6985c1990", func := "loop.example/stile/laws.FnHoldTop", spec := "fnHoldTop", inPlace := ["(*internal/sync.Mutex).Lock", "internal/race.Disable", "sync/atomic.CompareAndSwapInt32", "internal/race.Enable", "internal/race.Acquire", "(*internal/sync.Mutex).lockSlow", "internal/sync.runtime_canSpin", "internal/sync.runtime_doSpin", "internal/sync.throw", "internal/sync.runtime_nanotime", "internal/sync.runtime_SemacquireMutex", "sync/atomic.AddInt32", "(*internal/sync.Mutex).Unlock", "internal/race.ReleaseMerge", "(*internal/sync.Mutex).unlockSlow", "internal/sync.fatal", "internal/sync.runtime_Semrelease"], unfollowed := true, recurses := true, apart := false }
def FnHoldTopSaid : Prop := fnHoldTopRow.holds Try.pinned (OpenSpec.ofChange fnHoldTopSpec)

/-- ITS FALSE NEIGHBOUR: 'it returns false'. Refute it at one input. -/
def fnHoldTopWrong : ChangeSpec := { name := "fnHoldTop", fn := fun _ => fun
  | [d] => { results := [.lit (.bool false)], args := [d] }
  | _ => none }
def FnHoldTopWrongFalsely : Prop := fnHoldTopRow.holds Try.pinned (OpenSpec.ofChange fnHoldTopWrong)

/-- 'laws.FnHoldFalls': WHATEVER THE INPUT: true; the input reads as it did. -/
def fnHoldFallsSpec : ChangeSpec := { name := "fnHoldFalls", fn := fun _ => fun
  | [d] => { results := [.lit (.bool true)], args := [d] }
  | _ => none }
def fnHoldFallsRow : OpenClaim := { program := "ytfhdpafaamkipaa", sum := "c67c7d1b4dcb3a6aadbab90a4dbd204d6a378f8a1185b95b9e75b1f6985c1990", func := "loop.example/stile/laws.FnHoldFalls", spec := "fnHoldFalls", inPlace := ["(*internal/sync.Mutex).Lock", "internal/race.Disable", "sync/atomic.CompareAndSwapInt32", "internal/race.Enable", "internal/race.Acquire", "(*internal/sync.Mutex).lockSlow", "internal/sync.runtime_canSpin", "internal/sync.runtime_doSpin", "internal/sync.throw", "internal/sync.runtime_nanotime", "internal/sync.runtime_SemacquireMutex", "sync/atomic.AddInt32", "(*internal/sync.Mutex).Unlock", "internal/race.ReleaseMerge", "(*internal/sync.Mutex).unlockSlow", "internal/sync.fatal", "internal/sync.runtime_Semrelease"], unfollowed := true, recurses := true, apart := false }
def FnHoldFallsSaid : Prop := fnHoldFallsRow.holds Try.pinned (OpenSpec.ofChange fnHoldFallsSpec)

/-- ITS FALSE NEIGHBOUR: 'it returns false'. Refute it at one input. -/
def fnHoldFallsWrong : ChangeSpec := { name := "fnHoldFalls", fn := fun _ => fun
  | [d] => { results := [.lit (.bool false)], args := [d] }
  | _ => none }
def FnHoldFallsWrongFalsely : Prop := fnHoldFallsRow.holds Try.pinned (OpenSpec.ofChange fnHoldFallsWrong)

/-- 'laws.FnHoldOnce': WHATEVER THE INPUT: true; the input reads as it did. -/
def fnHoldOnceSpec : ChangeSpec := { name := "fnHoldOnce", fn := fun _ => fun
  | [d] => { results := [.lit (.bool true)], args := [d] }
  | _ => none }
def fnHoldOnceRow : OpenClaim := { program := "ytfhdpafaamkipaa", sum := "c67c7d1b4dcb3a6aadbab90a4dbd204d6a378f8a1185b95b9e75b1f6985c1990", func := "loop.example/stile/laws.FnHoldOnce", spec := "fnHoldOnce", inPlace := ["(*internal/sync.Mutex).Lock", "internal/race.Disable", "sync/atomic.CompareAndSwapInt32", "internal/race.Enable", "internal/race.Acquire", "(*internal/sync.Mutex).lockSlow", "internal/sync.runtime_canSpin", "internal/sync.runtime_doSpin", "internal/sync.throw", "internal/sync.runtime_nanotime", "internal/sync.runtime_SemacquireMutex", "sync/atomic.AddInt32", "(*internal/sync.Mutex).Unlock", "internal/race.ReleaseMerge", "(*internal/sync.Mutex).unlockSlow", "internal/sync.fatal", "internal/sync.runtime_Semrelease"], unfollowed := true, recurses := true, apart := false }
def FnHoldOnceSaid : Prop := fnHoldOnceRow.holds Try.pinned (OpenSpec.ofChange fnHoldOnceSpec)

/-- ITS FALSE NEIGHBOUR: 'it returns false'. Refute it at one input. -/
def fnHoldOnceWrong : ChangeSpec := { name := "fnHoldOnce", fn := fun _ => fun
  | [d] => { results := [.lit (.bool false)], args := [d] }
  | _ => none }
def FnHoldOnceWrongFalsely : Prop := fnHoldOnceRow.holds Try.pinned (OpenSpec.ofChange fnHoldOnceWrong)

/-- 'laws.FnHoldFold': WHATEVER THE INPUT: true; the input reads as it did. -/
def fnHoldFoldSpec : ChangeSpec := { name := "fnHoldFold", fn := fun _ => fun
  | [d] => { results := [.lit (.bool true)], args := [d] }
  | _ => none }
def fnHoldFoldRow : OpenClaim := { program := "ytfhdpafaamkipaa", sum := "c67c7d1b4dcb3a6aadbab90a4dbd204d6a378f8a1185b95b9e75b1f6985c1990", func := "loop.example/stile/laws.FnHoldFold", spec := "fnHoldFold", inPlace := ["(*internal/sync.Mutex).Lock", "internal/race.Disable", "sync/atomic.CompareAndSwapInt32", "internal/race.Enable", "internal/race.Acquire", "(*internal/sync.Mutex).lockSlow", "internal/sync.runtime_canSpin", "internal/sync.runtime_doSpin", "internal/sync.throw", "internal/sync.runtime_nanotime", "internal/sync.runtime_SemacquireMutex", "sync/atomic.AddInt32", "(*internal/sync.Mutex).Unlock", "internal/race.ReleaseMerge", "(*internal/sync.Mutex).unlockSlow", "internal/sync.fatal", "internal/sync.runtime_Semrelease"], unfollowed := true, recurses := true, apart := false }
def FnHoldFoldSaid : Prop := fnHoldFoldRow.holds Try.pinned (OpenSpec.ofChange fnHoldFoldSpec)

/-- ITS FALSE NEIGHBOUR: 'it returns false'. Refute it at one input. -/
def fnHoldFoldWrong : ChangeSpec := { name := "fnHoldFold", fn := fun _ => fun
  | [d] => { results := [.lit (.bool false)], args := [d] }
  | _ => none }
def FnHoldFoldWrongFalsely : Prop := fnHoldFoldRow.holds Try.pinned (OpenSpec.ofChange fnHoldFoldWrong)

/-- 'laws.FnExactHoldDo': WHATEVER THE INPUT: true; the input reads as it did. -/
def fnExactHoldDoSpec : ChangeSpec := { name := "fnExactHoldDo", fn := fun _ => fun
  | [d1, d2] => { results := [.lit (.bool true)], args := [d1, d2] }
  | _ => none }
def fnExactHoldDoRow : OpenClaim := { program := "ytfhdpafaamkipaa", sum := "c67c7d1b4dcb3a6aadbab90a4dbd204d6a378f8a1185b95b9e75b1f6985c1990", func := "loop.example/stile/laws.FnExactHoldDo", spec := "fnExactHoldDo", inPlace := ["(*internal/sync.Mutex).Lock", "internal/race.Disable", "sync/atomic.CompareAndSwapInt32", "internal/race.Enable", "internal/race.Acquire", "(*internal/sync.Mutex).lockSlow", "internal/sync.runtime_canSpin", "internal/sync.runtime_doSpin", "internal/sync.throw", "internal/sync.runtime_nanotime", "internal/sync.runtime_SemacquireMutex", "sync/atomic.AddInt32", "(*internal/sync.Mutex).Unlock", "internal/race.ReleaseMerge", "(*internal/sync.Mutex).unlockSlow", "internal/sync.fatal", "internal/sync.runtime_Semrelease"], unfollowed := true, recurses := true, apart := false }
def FnExactHoldDoSaid : Prop := fnExactHoldDoRow.holds Try.pinned (OpenSpec.ofChange fnExactHoldDoSpec)

/-- ITS FALSE NEIGHBOUR: 'it returns false'. Refute it at one input. -/
def fnExactHoldDoWrong : ChangeSpec := { name := "fnExactHoldDo", fn := fun _ => fun
  | [d1, d2] => { results := [.lit (.bool false)], args := [d1, d2] }
  | _ => none }
def FnExactHoldDoWrongFalsely : Prop := fnExactHoldDoRow.holds Try.pinned (OpenSpec.ofChange fnExactHoldDoWrong)

/-- 'laws.FnExactHoldPlay': WHATEVER THE INPUT: true; the input reads as it did. -/
def fnExactHoldPlaySpec : ChangeSpec := { name := "fnExactHoldPlay", fn := fun _ => fun
  | [d1, d2, d3] => { results := [.lit (.bool true)], args := [d1, d2, d3] }
  | _ => none }
def fnExactHoldPlayRow : OpenClaim := { program := "ytfhdpafaamkipaa", sum := "c67c7d1b4dcb3a6aadbab90a4dbd204d6a378f8a1185b95b9e75b1f6985c1990", func := "loop.example/stile/laws.FnExactHoldPlay", spec := "fnExactHoldPlay", inPlace := ["(*internal/sync.Mutex).Lock", "internal/race.Disable", "sync/atomic.CompareAndSwapInt32", "internal/race.Enable", "internal/race.Acquire", "(*internal/sync.Mutex).lockSlow", "internal/sync.runtime_canSpin", "internal/sync.runtime_doSpin", "internal/sync.throw", "internal/sync.runtime_nanotime", "internal/sync.runtime_SemacquireMutex", "sync/atomic.AddInt32", "(*internal/sync.Mutex).Unlock", "internal/race.ReleaseMerge", "(*internal/sync.Mutex).unlockSlow", "internal/sync.fatal", "internal/sync.runtime_Semrelease"], unfollowed := true, recurses := true, apart := false }
def FnExactHoldPlaySaid : Prop := fnExactHoldPlayRow.holds Try.pinned (OpenSpec.ofChange fnExactHoldPlaySpec)

/-- ITS FALSE NEIGHBOUR: 'it returns false'. Refute it at one input. -/
def fnExactHoldPlayWrong : ChangeSpec := { name := "fnExactHoldPlay", fn := fun _ => fun
  | [d1, d2, d3] => { results := [.lit (.bool false)], args := [d1, d2, d3] }
  | _ => none }
def FnExactHoldPlayWrongFalsely : Prop := fnExactHoldPlayRow.holds Try.pinned (OpenSpec.ofChange fnExactHoldPlayWrong)

/-- 'laws.FnExactHoldSlotNow': WHATEVER THE INPUT: true; the input reads as it did. -/
def fnExactHoldSlotNowSpec : ChangeSpec := { name := "fnExactHoldSlotNow", fn := fun _ => fun
  | [d] => { results := [.lit (.bool true)], args := [d] }
  | _ => none }
def fnExactHoldSlotNowRow : OpenClaim := { program := "ytfhdpafaamkipaa", sum := "c67c7d1b4dcb3a6aadbab90a4dbd204d6a378f8a1185b95b9e75b1f6985c1990", func := "loop.example/stile/laws.FnExactHoldSlotNow", spec := "fnExactHoldSlotNow", apart := false }
def FnExactHoldSlotNowSaid : Prop := fnExactHoldSlotNowRow.holds Try.pinned (OpenSpec.ofChange fnExactHoldSlotNowSpec)

/-- ITS FALSE NEIGHBOUR: 'it returns false'. Refute it at one input. -/
def fnExactHoldSlotNowWrong : ChangeSpec := { name := "fnExactHoldSlotNow", fn := fun _ => fun
  | [d] => { results := [.lit (.bool false)], args := [d] }
  | _ => none }
def FnExactHoldSlotNowWrongFalsely : Prop := fnExactHoldSlotNowRow.holds Try.pinned (OpenSpec.ofChange fnExactHoldSlotNowWrong)

/-- 'laws.FnExactHoldNow': WHATEVER THE INPUT: true; the input reads as it did. -/
def fnExactHoldNowSpec : ChangeSpec := { name := "fnExactHoldNow", fn := fun _ => fun
  | [d] => { results := [.lit (.bool true)], args := [d] }
  | _ => none }
def fnExactHoldNowRow : OpenClaim := { program := "ytfhdpafaamkipaa", sum := "c67c7d1b4dcb3a6aadbab90a4dbd204d6a378f8a1185b95b9e75b1f6985c1990", func := "loop.example/stile/laws.FnExactHoldNow", spec := "fnExactHoldNow", apart := false }
def FnExactHoldNowSaid : Prop := fnExactHoldNowRow.holds Try.pinned (OpenSpec.ofChange fnExactHoldNowSpec)

/-- ITS FALSE NEIGHBOUR: 'it returns false'. Refute it at one input. -/
def fnExactHoldNowWrong : ChangeSpec := { name := "fnExactHoldNow", fn := fun _ => fun
  | [d] => { results := [.lit (.bool false)], args := [d] }
  | _ => none }
def FnExactHoldNowWrongFalsely : Prop := fnExactHoldNowRow.holds Try.pinned (OpenSpec.ofChange fnExactHoldNowWrong)

/-- 'laws.FnExactHoldPlan': WHATEVER THE INPUT: true; the input reads as it did. -/
def fnExactHoldPlanSpec : ChangeSpec := { name := "fnExactHoldPlan", fn := fun _ => fun
  | [d1, d2] => { results := [.lit (.bool true)], args := [d1, d2] }
  | _ => none }
def fnExactHoldPlanRow : OpenClaim := { program := "ytfhdpafaamkipaa", sum := "c67c7d1b4dcb3a6aadbab90a4dbd204d6a378f8a1185b95b9e75b1f6985c1990", func := "loop.example/stile/laws.FnExactHoldPlan", spec := "fnExactHoldPlan", apart := false }
def FnExactHoldPlanSaid : Prop := fnExactHoldPlanRow.holds Try.pinned (OpenSpec.ofChange fnExactHoldPlanSpec)

/-- ITS FALSE NEIGHBOUR: 'it returns false'. Refute it at one input. -/
def fnExactHoldPlanWrong : ChangeSpec := { name := "fnExactHoldPlan", fn := fun _ => fun
  | [d1, d2] => { results := [.lit (.bool false)], args := [d1, d2] }
  | _ => none }
def FnExactHoldPlanWrongFalsely : Prop := fnExactHoldPlanRow.holds Try.pinned (OpenSpec.ofChange fnExactHoldPlanWrong)

/- THE SECOND FORM. 'bulk': how many values and letters a reading holds, each counted each time it is reached (what is shared counts as often as it is met; a slice's spare places count too). A statement '..UptoSaid' is the law's where the arguments, and the package variables that the reading takes, are together of bulk at most 1048576: NARROWER than '..Said'. Prove '..Said' where nothing that the law and all that it calls make is longer than what came in: it says more and counts as full. Else prove '..UptoSaid'. A law counts once. -/
mutual
def uptoBulk {H : Type} : DataW H → Nat
  | .lit (.string bytes) => bytes.length + 1
  | .lit _ => 1
  | .nil => 1
  | .ptr d => uptoBulk d + 1
  | .slice elems spare => uptoBulkAll elems + uptoBulkAll spare + 1
  | .agg parts => uptoBulkAll parts + 1
  | .iface _ d => uptoBulk d + 1
  | .map entries => uptoBulkEntries entries + 1
  | .held _ => 1
def uptoBulkAll {H : Type} : List (DataW H) → Nat
  | [] => 0
  | d :: r => uptoBulk d + uptoBulkAll r
def uptoBulkEntries {H : Type} : List (Lit × DataW H) → Nat
  | [] => 0
  | x :: r => uptoBulkEntry x + uptoBulkEntries r
def uptoBulkEntry {H : Type} : Lit × DataW H → Nat
  | (.string bytes, d) => bytes.length + uptoBulk d + 1
  | (_, d) => uptoBulk d + 1
 end
def uptoSmall : (H : Type) → List (DataW H) → Bool := fun _ ds => decide (uptoBulkAll ds ≤ 1048576)
def OpenSpec.upto (s : _root_.Go.ChangeSpec) : _root_.Go.OpenSpec := { _root_.Go.OpenSpec.ofChange s with cond := some uptoSmall }

/-- 'laws.FnHoldTop', WHERE WHAT IT READS IS OF BULK AT MOST 1048576: true; the input reads as it did. -/
def fnHoldTopUptoRow : OpenClaim := { program := "ytfhdpafaamkipaa", sum := "c67c7d1b4dcb3a6aadbab90a4dbd204d6a378f8a1185b95b9e75b1f6985c1990", func := "loop.example/stile/laws.FnHoldTop", spec := "fnHoldTop", inPlace := ["(*internal/sync.Mutex).Lock", "internal/race.Disable", "sync/atomic.CompareAndSwapInt32", "internal/race.Enable", "internal/race.Acquire", "(*internal/sync.Mutex).lockSlow", "internal/sync.runtime_canSpin", "internal/sync.runtime_doSpin", "internal/sync.throw", "internal/sync.runtime_nanotime", "internal/sync.runtime_SemacquireMutex", "sync/atomic.AddInt32", "(*internal/sync.Mutex).Unlock", "internal/race.ReleaseMerge", "(*internal/sync.Mutex).unlockSlow", "internal/sync.fatal", "internal/sync.runtime_Semrelease"], unfollowed := true, recurses := true, apart := false, narrowed := true }
def FnHoldTopUptoSaid : Prop := fnHoldTopUptoRow.holds Try.pinned (OpenSpec.upto fnHoldTopSpec)

/-- 'laws.FnHoldFalls', WHERE WHAT IT READS IS OF BULK AT MOST 1048576: true; the input reads as it did. -/
def fnHoldFallsUptoRow : OpenClaim := { program := "ytfhdpafaamkipaa", sum := "c67c7d1b4dcb3a6aadbab90a4dbd204d6a378f8a1185b95b9e75b1f6985c1990", func := "loop.example/stile/laws.FnHoldFalls", spec := "fnHoldFalls", inPlace := ["(*internal/sync.Mutex).Lock", "internal/race.Disable", "sync/atomic.CompareAndSwapInt32", "internal/race.Enable", "internal/race.Acquire", "(*internal/sync.Mutex).lockSlow", "internal/sync.runtime_canSpin", "internal/sync.runtime_doSpin", "internal/sync.throw", "internal/sync.runtime_nanotime", "internal/sync.runtime_SemacquireMutex", "sync/atomic.AddInt32", "(*internal/sync.Mutex).Unlock", "internal/race.ReleaseMerge", "(*internal/sync.Mutex).unlockSlow", "internal/sync.fatal", "internal/sync.runtime_Semrelease"], unfollowed := true, recurses := true, apart := false, narrowed := true }
def FnHoldFallsUptoSaid : Prop := fnHoldFallsUptoRow.holds Try.pinned (OpenSpec.upto fnHoldFallsSpec)

/-- 'laws.FnHoldOnce', WHERE WHAT IT READS IS OF BULK AT MOST 1048576: true; the input reads as it did. -/
def fnHoldOnceUptoRow : OpenClaim := { program := "ytfhdpafaamkipaa", sum := "c67c7d1b4dcb3a6aadbab90a4dbd204d6a378f8a1185b95b9e75b1f6985c1990", func := "loop.example/stile/laws.FnHoldOnce", spec := "fnHoldOnce", inPlace := ["(*internal/sync.Mutex).Lock", "internal/race.Disable", "sync/atomic.CompareAndSwapInt32", "internal/race.Enable", "internal/race.Acquire", "(*internal/sync.Mutex).lockSlow", "internal/sync.runtime_canSpin", "internal/sync.runtime_doSpin", "internal/sync.throw", "internal/sync.runtime_nanotime", "internal/sync.runtime_SemacquireMutex", "sync/atomic.AddInt32", "(*internal/sync.Mutex).Unlock", "internal/race.ReleaseMerge", "(*internal/sync.Mutex).unlockSlow", "internal/sync.fatal", "internal/sync.runtime_Semrelease"], unfollowed := true, recurses := true, apart := false, narrowed := true }
def FnHoldOnceUptoSaid : Prop := fnHoldOnceUptoRow.holds Try.pinned (OpenSpec.upto fnHoldOnceSpec)

/-- 'laws.FnHoldFold', WHERE WHAT IT READS IS OF BULK AT MOST 1048576: true; the input reads as it did. -/
def fnHoldFoldUptoRow : OpenClaim := { program := "ytfhdpafaamkipaa", sum := "c67c7d1b4dcb3a6aadbab90a4dbd204d6a378f8a1185b95b9e75b1f6985c1990", func := "loop.example/stile/laws.FnHoldFold", spec := "fnHoldFold", inPlace := ["(*internal/sync.Mutex).Lock", "internal/race.Disable", "sync/atomic.CompareAndSwapInt32", "internal/race.Enable", "internal/race.Acquire", "(*internal/sync.Mutex).lockSlow", "internal/sync.runtime_canSpin", "internal/sync.runtime_doSpin", "internal/sync.throw", "internal/sync.runtime_nanotime", "internal/sync.runtime_SemacquireMutex", "sync/atomic.AddInt32", "(*internal/sync.Mutex).Unlock", "internal/race.ReleaseMerge", "(*internal/sync.Mutex).unlockSlow", "internal/sync.fatal", "internal/sync.runtime_Semrelease"], unfollowed := true, recurses := true, apart := false, narrowed := true }
def FnHoldFoldUptoSaid : Prop := fnHoldFoldUptoRow.holds Try.pinned (OpenSpec.upto fnHoldFoldSpec)

/-- 'laws.FnExactHoldDo', WHERE WHAT IT READS IS OF BULK AT MOST 1048576: true; the input reads as it did. -/
def fnExactHoldDoUptoRow : OpenClaim := { program := "ytfhdpafaamkipaa", sum := "c67c7d1b4dcb3a6aadbab90a4dbd204d6a378f8a1185b95b9e75b1f6985c1990", func := "loop.example/stile/laws.FnExactHoldDo", spec := "fnExactHoldDo", inPlace := ["(*internal/sync.Mutex).Lock", "internal/race.Disable", "sync/atomic.CompareAndSwapInt32", "internal/race.Enable", "internal/race.Acquire", "(*internal/sync.Mutex).lockSlow", "internal/sync.runtime_canSpin", "internal/sync.runtime_doSpin", "internal/sync.throw", "internal/sync.runtime_nanotime", "internal/sync.runtime_SemacquireMutex", "sync/atomic.AddInt32", "(*internal/sync.Mutex).Unlock", "internal/race.ReleaseMerge", "(*internal/sync.Mutex).unlockSlow", "internal/sync.fatal", "internal/sync.runtime_Semrelease"], unfollowed := true, recurses := true, apart := false, narrowed := true }
def FnExactHoldDoUptoSaid : Prop := fnExactHoldDoUptoRow.holds Try.pinned (OpenSpec.upto fnExactHoldDoSpec)

/-- 'laws.FnExactHoldPlay', WHERE WHAT IT READS IS OF BULK AT MOST 1048576: true; the input reads as it did. -/
def fnExactHoldPlayUptoRow : OpenClaim := { program := "ytfhdpafaamkipaa", sum := "c67c7d1b4dcb3a6aadbab90a4dbd204d6a378f8a1185b95b9e75b1f6985c1990", func := "loop.example/stile/laws.FnExactHoldPlay", spec := "fnExactHoldPlay", inPlace := ["(*internal/sync.Mutex).Lock", "internal/race.Disable", "sync/atomic.CompareAndSwapInt32", "internal/race.Enable", "internal/race.Acquire", "(*internal/sync.Mutex).lockSlow", "internal/sync.runtime_canSpin", "internal/sync.runtime_doSpin", "internal/sync.throw", "internal/sync.runtime_nanotime", "internal/sync.runtime_SemacquireMutex", "sync/atomic.AddInt32", "(*internal/sync.Mutex).Unlock", "internal/race.ReleaseMerge", "(*internal/sync.Mutex).unlockSlow", "internal/sync.fatal", "internal/sync.runtime_Semrelease"], unfollowed := true, recurses := true, apart := false, narrowed := true }
def FnExactHoldPlayUptoSaid : Prop := fnExactHoldPlayUptoRow.holds Try.pinned (OpenSpec.upto fnExactHoldPlaySpec)

/-- 'laws.FnExactHoldSlotNow', WHERE WHAT IT READS IS OF BULK AT MOST 1048576: true; the input reads as it did. -/
def fnExactHoldSlotNowUptoRow : OpenClaim := { program := "ytfhdpafaamkipaa", sum := "c67c7d1b4dcb3a6aadbab90a4dbd204d6a378f8a1185b95b9e75b1f6985c1990", func := "loop.example/stile/laws.FnExactHoldSlotNow", spec := "fnExactHoldSlotNow", apart := false, narrowed := true }
def FnExactHoldSlotNowUptoSaid : Prop := fnExactHoldSlotNowUptoRow.holds Try.pinned (OpenSpec.upto fnExactHoldSlotNowSpec)

/-- 'laws.FnExactHoldNow', WHERE WHAT IT READS IS OF BULK AT MOST 1048576: true; the input reads as it did. -/
def fnExactHoldNowUptoRow : OpenClaim := { program := "ytfhdpafaamkipaa", sum := "c67c7d1b4dcb3a6aadbab90a4dbd204d6a378f8a1185b95b9e75b1f6985c1990", func := "loop.example/stile/laws.FnExactHoldNow", spec := "fnExactHoldNow", apart := false, narrowed := true }
def FnExactHoldNowUptoSaid : Prop := fnExactHoldNowUptoRow.holds Try.pinned (OpenSpec.upto fnExactHoldNowSpec)

/-- 'laws.FnExactHoldPlan', WHERE WHAT IT READS IS OF BULK AT MOST 1048576: true; the input reads as it did. -/
def fnExactHoldPlanUptoRow : OpenClaim := { program := "ytfhdpafaamkipaa", sum := "c67c7d1b4dcb3a6aadbab90a4dbd204d6a378f8a1185b95b9e75b1f6985c1990", func := "loop.example/stile/laws.FnExactHoldPlan", spec := "fnExactHoldPlan", apart := false, narrowed := true }
def FnExactHoldPlanUptoSaid : Prop := fnExactHoldPlanUptoRow.holds Try.pinned (OpenSpec.upto fnExactHoldPlanSpec)

end Rows
end Go.Proofs.Ytfhdpafaamkipaa
