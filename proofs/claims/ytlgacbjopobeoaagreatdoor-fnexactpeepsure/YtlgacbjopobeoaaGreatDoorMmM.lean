/- Regions that draw their order and only read: a load of whatever type. -/
import Derived.Test.YtlgacbjopobeoaaGreatDoorMa
import Derived.Lib.QuietBelow
import Derived.BigQuiet
import Derived.Deep.RegionHeld3
namespace Go.Proofs.YtlgacbjopobeoaaGreatDoor
open Go.RowKit
set_option linter.unusedVariables false
variable {P : Program}

theorem wpQ_load {ops : Array Oper} {rest : List Oper} {o : Oper} {a : Act} {C : World → Prop} {Q : Act → Prop} (hw : Region.wanted o (yielded ops a.tmps) = true) (ty : TypeId) (x : Operand) (ho : o.op = .load ty x)
    (g f : Nat) (hx : a.eval x = .pointer (some ⟨g, f, none⟩)) (v : Value) (hrun : ∀ w, C w → (loadVar ty ⟨g, f, none⟩).run P w = .ok v w)
    (h : wpQuiet P ops C Q rest (a.put o.dst v)) : wpQuiet P ops C Q (o :: rest) a :=
  BigFrame.wpQuiet_want hw fun K hK => ⟨v, fun w hC => by
    unfold Oper.quietAt execOp
    simp only [ho, hx, Instr.loadAt, Instr.sureAddr, Sem.run_bind, Sem.run_pure, Result.andThen_ok, hrun w hC]
    exact ⟨rfl, rfl⟩, hK _ h⟩

theorem row_regrown {w : World} {g : Nat} {o : Obj} (h : w.heap[g]? = some o) {w' : World} (hp : ∃ p : Regrown, w' = Sort.grow (redrawn w p.d) p.os) : w'.heap[g]? = some o := by
  obtain ⟨p, rfl⟩ := hp
  exact ((below_regrown w p.d p.os).block _ (Array.getElem?_eq_some_iff.1 h).1).trans h
end Go.Proofs.YtlgacbjopobeoaaGreatDoor
/- Regions that draw their order: loads of whatever type taken first, calls by their contracts, a new variable at whatever time. -/
namespace Go.Proofs.YtlgacbjopobeoaaGreatDoor
open Go.RowKit
set_option linter.unusedVariables false
section
variable {P : Program} {ops : Array Oper} {Q : Exit → Act → World → Prop} {S : World → Prop} {md : Region.Mode}

theorem tk_load {i : Nat} {oi : Oper} {fuel : Nat} {listed : Array Bool} {a : Act} {w : World} (hi : ops[i]? = some oi)
    (hs : Region.noSelect ops = true) (hf : Region.free md ops listed i = true) (hr : (Region.ready md ops listed).contains i = true)
    (hQ : ∀ (v : Value) c a w, Q (.panic c) (a.put oi.dst v) w → Q (.panic c) a w) (hw : Region.wanted oi (yielded ops a.tmps) = true) (ty : TypeId) (x : Operand) (ho : oi.op = .load ty x)
    (g f : Nat) (hx : a.eval x = .pointer (some ⟨g, f, none⟩)) (v : Value) (hrun : ∀ w, S w → (loadVar ty ⟨g, f, none⟩).run P w = .ok v w) (hS : S w)
    (h : wpAnyH P md ops Q S fuel (listed.setIfInBounds i true) (a.put oi.dst v) w) : wpAnyH P md ops Q S (fuel + 1) listed a w :=
  wpAnyH_take hi hs hf hr (hQ v) (.inl ⟨hw, fun w hw' => by
    unfold execOp
    simp only [ho, hx, Instr.loadAt, Instr.sureAddr, Sem.run_bind, Sem.run_pure, Result.andThen_ok, hrun w hw']⟩) hS h

theorem tk_move {i : Nat} {oi : Oper} {fuel : Nat} {listed : Array Bool} {a : Act} {w : World} (hi : ops[i]? = some oi)
    (hs : Region.noSelect ops = true) (hf : Region.free md ops listed i = true) (hr : (Region.ready md ops listed).contains i = true)
    (hQ : ∀ (v : Value) c a w, Q (.panic c) (a.put oi.dst v) w → Q (.panic c) a w) (hw : Region.wanted oi (yielded ops a.tmps) = true) (x : Operand) (ho : oi.op = .move x) (v : Value) (hx : a.eval x = v) (hS : S w)
    (h : wpAnyH P md ops Q S fuel (listed.setIfInBounds i true) (a.put oi.dst v) w) : wpAnyH P md ops Q S (fuel + 1) listed a w :=
  wpAnyH_take hi hs hf hr (hQ v) (.inl ⟨hw, fun w hw' => by
    unfold execOp
    simp [ho, hx]⟩) hS h

/-- A call that comes up. -/
theorem up_call {i : Nat} {o : Oper} {fuel : Nat} {listed : Array Bool} {a : Act} {w : World} (ho : ops[i]? = some o) (hw : Region.wanted o (yielded ops a.tmps) = true) (f : FuncId) (args : Array Value)
    (hrun : (execOp a.eval o).run P w = .ok (.enter f args) w) (R : Ending → World → Prop) (hc : Calls P f args w R)
    (h : ∀ e w', R e w' → ∃ v, e = .returned v ∧ S w' ∧ wpAnyH P md ops Q S fuel (listed.setIfInBounds i true) (a.put o.dst v) w') :
    wpOp P ops Q i (fun a' w' => S w' ∧ wpAnyH P md ops Q S fuel (listed.setIfInBounds i true) a' w') a w :=
  wpOp_step ho fun K' hK => by
    rw [if_pos hw]
    unfold Oper.wp
    rw [hrun]
    show Calls P f args w _
    refine hc.mono ?_
    intro e w' hR
    obtain ⟨v, rfl, hS, hh⟩ := h e w' hR
    exact hK _ _ ⟨hS, hh⟩

theorem run_own {w : World} {f : FuncId} {fn : Func} {args : Array Value} (hf : P.funcs[f]? = some fn) (hn : (fn.name == "runtime.NumGoroutine") = false) (hb : fn.body.isNone = false) :
    (callFunc f args).run P w = .ok (.enter f args) w := by
  unfold callFunc
  rw [Sem.run_bind, show Sem.run P program w = .ok P w from rfl]
  simp only [Result.andThen_ok, hf, hn, hb]
  rfl
theorem run_fcall {o : Oper} {a : Act} {w : World} {f : FuncId} {fn : Func} {xs : Array Operand} {ts : Array TypeId} (hf : P.funcs[f]? = some fn) (hn : (fn.name == "runtime.NumGoroutine") = false) (hb : fn.body.isNone = false)
    (hop : o.op = .call { callee := .value (.func f), args := xs, argTypes := ts }) :
    (execOp a.eval o).run P w = .ok (.enter f (xs.map a.eval)) w := by
  unfold execOp
  simp only [hop]
  simp [go_sem, run_own hf hn hb]

/-- A call of a function of the program that comes up. -/
theorem up_fcall {i : Nat} {o : Oper} {fuel : Nat} {listed : Array Bool} {a : Act} {w : World} {f : FuncId} {fn : Func} {xs : Array Operand} {ts : Array TypeId} (ho : ops[i]? = some o) (hw : Region.wanted o (yielded ops a.tmps) = true)
    (hf : P.funcs[f]? = some fn) (hn : (fn.name == "runtime.NumGoroutine") = false) (hb : fn.body.isNone = false) (hop : o.op = .call { callee := .value (.func f), args := xs, argTypes := ts })
    (args : List Value) (hargs : xs.toList.map a.eval = args) (R : Ending → World → Prop) (hc : Calls P f args.toArray w R)
    (h : ∀ e w', R e w' → ∃ v, e = .returned v ∧ S w' ∧ wpAnyH P md ops Q S fuel (listed.setIfInBounds i true) (a.put o.dst v) w') :
    wpOp P ops Q i (fun a' w' => S w' ∧ wpAnyH P md ops Q S fuel (listed.setIfInBounds i true) a' w') a w :=
  up_call ho hw f args.toArray (by rw [run_fcall hf hn hb hop, ← hargs]; cases xs; simp) R hc h

/-- A region, cut behind it. -/
theorem region_cut {id : Nat} {d : Bool} {a : Act} {w : World} (R : Act → World → Prop)
    (h1 : (Code.region id ops d).wp P (fun e a w => e = Exit.normal ∧ R a w) a w) (h2 : ∀ a w, R a w → Q .normal a w) : (Code.region id ops d).wp P Q a w :=
  Code.wp_mono (fun e a w h => by obtain ⟨rfl, h⟩ := h; exact h2 a w h) h1

/-- An operation that yields a value and leaves a world, when it comes up. -/
theorem up_value {i : Nat} {o : Oper} {fuel : Nat} {listed : Array Bool} {a : Act} {w : World} (ho : ops[i]? = some o) (hw : Region.wanted o (yielded ops a.tmps) = true) (v : Value) (w' : World)
    (hrun : (execOp a.eval o).run P w = .ok (.value v) w') (hS : S w') (h : wpAnyH P md ops Q S fuel (listed.setIfInBounds i true) (a.put o.dst v) w') :
    wpOp P ops Q i (fun a' w' => S w' ∧ wpAnyH P md ops Q S fuel (listed.setIfInBounds i true) a' w') a w :=
  wpOp_step ho fun K' hK => by
    rw [if_pos hw]
    unfold Oper.wp
    rw [hrun]
    exact hK _ _ ⟨hS, h⟩

theorem up_store {i : Nat} {o : Oper} {fuel : Nat} {listed : Array Bool} {a : Act} {w : World} (ho : ops[i]? = some o) (hw : Region.wanted o (yielded ops a.tmps) = true) (ty : TypeId) (x y : Operand) (hop : o.op = .store ty x y)
    (g f : Nat) (hx : a.eval x = .pointer (some ⟨g, f, none⟩)) (v : Value) (hy : a.eval y = v) (w' : World) (hrun : (storeVar ty ⟨g, f, none⟩ v).run P w = .ok () w')
    (hS : S w') (h : wpAnyH P md ops Q S fuel (listed.setIfInBounds i true) (a.put o.dst undef) w') :
    wpOp P ops Q i (fun a' w' => S w' ∧ wpAnyH P md ops Q S fuel (listed.setIfInBounds i true) a' w') a w :=
  wpOp_step ho fun K' hK => by
    rw [if_pos hw]
    unfold Oper.wp execOp
    simp only [hop, hx, hy, Instr.storeAt, Instr.sureAddr, Sem.run_bind, Sem.run_pure, Result.andThen_ok, hrun]
    exact hK _ _ ⟨hS, h⟩

theorem up_alloc {i : Nat} {o : Oper} {fuel : Nat} {listed : Array Bool} {a : Act} {w : World} (ho : ops[i]? = some o) (hw : Region.wanted o (yielded ops a.tmps) = true) (ty : TypeId) (hop : o.op = .alloc ty)
    (Z : Array Value) (hz : (zeroValue ty).run P w = .ok (.agg Z) w)
    (hS : S (w.alloc (.cells Z ty))) (h : wpAnyH P md ops Q S fuel (listed.setIfInBounds i true) (a.put o.dst (.pointer (some ⟨w.heap.size, 0, none⟩))) (w.alloc (.cells Z ty))) :
    wpOp P ops Q i (fun a' w' => S w' ∧ wpAnyH P md ops Q S fuel (listed.setIfInBounds i true) a' w') a w := by
  refine up_value ho hw _ _ ?_ hS h
  unfold execOp
  simp only [hop]
  simp [hz, newVar, newRow, newObj, Value.cells, go_sem]
  rfl

/-! The same with the frame and the list of what has come up written out. -/
theorem tk_load' {i : Nat} {oi : Oper} {fuel : Nat} {listed : Array Bool} {a : Act} {w : World} (hi : ops[i]? = some oi)
    (hs : Region.noSelect ops = true) (hf : Region.free md ops listed i = true) (hr : (Region.ready md ops listed).contains i = true)
    (hQ : ∀ (v : Value) c a w, Q (.panic c) (a.put oi.dst v) w → Q (.panic c) a w) (hw : Region.wanted oi (yielded ops a.tmps) = true) (ty : TypeId) (x : Operand) (ho : oi.op = .load ty x)
    (g f : Nat) (hx : a.eval x = .pointer (some ⟨g, f, none⟩)) (v : Value) (hrun : ∀ w, S w → (loadVar ty ⟨g, f, none⟩).run P w = .ok v w) (hS : S w) (l' : Array Bool) (hl : listed.setIfInBounds i true = l') (a' : Act) (ha : a.put oi.dst v = a')
    (h : wpAnyH P md ops Q S fuel l' a' w) : wpAnyH P md ops Q S (fuel + 1) listed a w := by
  subst hl ha
  exact tk_load hi hs hf hr hQ hw ty x ho g f hx v hrun hS h
theorem tk_move' {i : Nat} {oi : Oper} {fuel : Nat} {listed : Array Bool} {a : Act} {w : World} (hi : ops[i]? = some oi)
    (hs : Region.noSelect ops = true) (hf : Region.free md ops listed i = true) (hr : (Region.ready md ops listed).contains i = true)
    (hQ : ∀ (v : Value) c a w, Q (.panic c) (a.put oi.dst v) w → Q (.panic c) a w) (hw : Region.wanted oi (yielded ops a.tmps) = true) (x : Operand) (ho : oi.op = .move x) (v : Value) (hx : a.eval x = v) (hS : S w)
    (l' : Array Bool) (hl : listed.setIfInBounds i true = l') (a' : Act) (ha : a.put oi.dst v = a')
    (h : wpAnyH P md ops Q S fuel l' a' w) : wpAnyH P md ops Q S (fuel + 1) listed a w := by
  subst hl ha
  exact tk_move hi hs hf hr hQ hw x ho v hx hS h
theorem up_fcall' {i : Nat} {o : Oper} {fuel : Nat} {listed : Array Bool} {a : Act} {w : World} {f : FuncId} {fn : Func} {xs : Array Operand} {ts : Array TypeId} (ho : ops[i]? = some o) (hw : Region.wanted o (yielded ops a.tmps) = true)
    (hf : P.funcs[f]? = some fn) (hn : (fn.name == "runtime.NumGoroutine") = false) (hb : fn.body.isNone = false) (hop : o.op = .call { callee := .value (.func f), args := xs, argTypes := ts })
    (args : List Value) (hargs : xs.toList.map a.eval = args) (l' : Array Bool) (hl : listed.setIfInBounds i true = l') (v : Value) (a' : Act) (ha : a.put o.dst v = a') (T : World → Prop)
    (hc : Calls P f args.toArray w fun e w' => e = .returned v ∧ T w') (h : ∀ w', T w' → S w' ∧ wpAnyH P md ops Q S fuel l' a' w') :
    wpOp P ops Q i (fun a' w' => S w' ∧ wpAnyH P md ops Q S fuel (listed.setIfInBounds i true) a' w') a w := by
  subst hl ha
  exact up_fcall ho hw hf hn hb hop args hargs _ hc fun e w' hR => ⟨v, hR.1, h w' hR.2⟩
/-- As above, where the value hangs on the run. -/
theorem up_fcallV {i : Nat} {o : Oper} {fuel : Nat} {listed : Array Bool} {a : Act} {w : World} {f : FuncId} {fn : Func} {xs : Array Operand} {ts : Array TypeId} (ho : ops[i]? = some o) (hw : Region.wanted o (yielded ops a.tmps) = true)
    (hf : P.funcs[f]? = some fn) (hn : (fn.name == "runtime.NumGoroutine") = false) (hb : fn.body.isNone = false) (hop : o.op = .call { callee := .value (.func f), args := xs, argTypes := ts })
    (args : List Value) (hargs : xs.toList.map a.eval = args) (l' : Array Bool) (hl : listed.setIfInBounds i true = l') (A : Value → Act) (ha : ∀ v, a.put o.dst v = A v) (T : Value → World → Prop)
    (hc : Calls P f args.toArray w fun e w' => ∃ v, e = .returned v ∧ T v w') (h : ∀ v w', T v w' → S w' ∧ wpAnyH P md ops Q S fuel l' (A v) w') :
    wpOp P ops Q i (fun a' w' => S w' ∧ wpAnyH P md ops Q S fuel (listed.setIfInBounds i true) a' w') a w := by
  subst hl
  exact up_fcall ho hw hf hn hb hop args hargs _ hc fun e w' hR => by
    obtain ⟨v, he, ht⟩ := hR
    exact ⟨v, he, by rw [ha]; exact h v w' ht⟩
theorem up_store' {i : Nat} {o : Oper} {fuel : Nat} {listed : Array Bool} {a : Act} {w : World} (ho : ops[i]? = some o) (hw : Region.wanted o (yielded ops a.tmps) = true) (ty : TypeId) (x y : Operand) (hop : o.op = .store ty x y)
    (g f : Nat) (hx : a.eval x = .pointer (some ⟨g, f, none⟩)) (v : Value) (hy : a.eval y = v) (w' : World) (hrun : (storeVar ty ⟨g, f, none⟩ v).run P w = .ok () w')
    (hS : S w') (l' : Array Bool) (hl : listed.setIfInBounds i true = l') (a' : Act) (ha : a.put o.dst undef = a') (h : wpAnyH P md ops Q S fuel l' a' w') :
    wpOp P ops Q i (fun a' w' => S w' ∧ wpAnyH P md ops Q S fuel (listed.setIfInBounds i true) a' w') a w := by
  subst hl ha
  exact up_store ho hw ty x y hop g f hx v hy w' hrun hS h
theorem up_alloc' {i : Nat} {o : Oper} {fuel : Nat} {listed : Array Bool} {a : Act} {w : World} (ho : ops[i]? = some o) (hw : Region.wanted o (yielded ops a.tmps) = true) (ty : TypeId) (hop : o.op = .alloc ty)
    (Z : Array Value) (hz : (zeroValue ty).run P w = .ok (.agg Z) w) (hS : S (w.alloc (.cells Z ty))) (l' : Array Bool) (hl : listed.setIfInBounds i true = l') (a' : Act) (ha : a.put o.dst (.pointer (some ⟨w.heap.size, 0, none⟩)) = a')
    (h : wpAnyH P md ops Q S fuel l' a' (w.alloc (.cells Z ty))) :
    wpOp P ops Q i (fun a' w' => S w' ∧ wpAnyH P md ops Q S fuel (listed.setIfInBounds i true) a' w') a w := by
  subst hl ha
  exact up_alloc ho hw ty hop Z hz hS h
theorem held_start {id : Nat} {a : Act} {w : World} (hm : P.follows .mixedOrders = true) (hS : S w.drew) (n : Nat) (hn : ops.size = n) (l : Array Bool) (hl : Array.replicate n false = l)
    (h : ∀ W, S W → wpAnyH P .any ops Q S n l a W) : (Code.region id ops true).wp P Q a w := by
  subst hn hl
  exact wp_region_held_drew hm hS fun h0 => h _ h0
end
end Go.Proofs.YtlgacbjopobeoaaGreatDoor
