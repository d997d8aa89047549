/- Regions that draw their order and only read: a load of whatever type. -/
import Derived.Test.YtcihplachlokiaaGreatDoorMa
import Derived.Lib.QuietBelow
import Derived.BigQuiet
namespace Go.Proofs.YtcihplachlokiaaGreatDoor
open Go.RowKit
set_option linter.unusedVariables false
variable {P : Program}

theorem wpQ_load {ops : Array Oper} {rest : List Oper} {o : Oper} {a : Act} {C : World → Prop} {Q : Act → Prop} (hw : Region.wanted o (yielded ops a.tmps) = true) (ty : TypeId) (x : Operand) (ho : o.op = .load ty x)
    (g f : Nat) (hx : a.eval x = .pointer (some ⟨g, f, none⟩)) (v : Value) (hrun : ∀ w, C w → (loadVar ty ⟨g, f, none⟩).run P w = .ok v w)
    (h : wpQuiet P ops C Q rest (a.put o.dst v)) : wpQuiet P ops C Q (o :: rest) a :=
  BigFrame.wpQuiet_want hw fun K hK => ⟨v, fun w hC => by
    unfold Oper.quietAt execOp
    simp only [ho, hx, Instr.loadAt, Instr.sureAddr, Sem.run_bind, Sem.run_pure, Result.andThen_ok, hrun w hC]
    exact ⟨rfl, rfl⟩, hK _ h⟩

theorem row_regrown {w : World} {g : Nat} {o : Obj} (h : w.heap[g]? = some o) {w' : World} (hp : ∃ p : Regrown, w' = Sort.grow (redrawn w p.d) p.os) : w'.heap[g]? = some o := by
  obtain ⟨p, rfl⟩ := hp
  exact ((below_regrown w p.d p.os).block _ (Array.getElem?_eq_some_iff.1 h).1).trans h
end Go.Proofs.YtcihplachlokiaaGreatDoor
