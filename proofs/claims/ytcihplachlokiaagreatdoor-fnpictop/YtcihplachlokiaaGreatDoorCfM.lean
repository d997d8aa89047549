/- What the draws of lists stand on, on a seat that reads lists too. -/
import Derived.Test.YtcihplachlokiaaGreatDoorGbM
import Derived.Test.YtcihplachlokiaaGreatDoorZo
import Derived.Deep.Upon
namespace Go.Proofs.YtcihplachlokiaaGreatDoor
end Go.Proofs.YtcihplachlokiaaGreatDoor
/- An append whose run is known, in a region that draws. -/
namespace Go.Proofs.YtcihplachlokiaaGreatDoor.Rr
open Go.RowKit
set_option linter.unusedVariables false

section
variable {P : Program} {w : World}
/-- An append whose run is known, at a step of a region that draws. -/
theorem step_app_run {ops : Array Oper} {o : Oper} {a : Act} {K : Act → World → Prop} {Q : Exit → Act → World → Prop} {E : Prop} (hgd : o.guard = none) (s x : Operand) (t : TypeId)
    (ho : o.op = .call { callee := .builtin .append, args := #[s, x], argTypes := #[t, t] }) (v y : Value) (hs : a.eval s = v) (hx : a.eval x = y) (v' : Value) (w' : World)
    (hr : ∀ ty, (Builtin.append_ #[t, t] ty #[v, y]).run P w = .ok v' w') (h : K (a.put o.dst v') w') :
    if Region.wanted o (yielded ops a.tmps) = true then Oper.wp P o a w K Q else E := by
  have hw : Region.wanted o (yielded ops a.tmps) = true := by simp [Region.wanted, hgd]
  rw [if_pos hw]
  unfold Oper.wp execOp
  simp only [ho, resolve, invoke, builtin, Sem.run_bind, Sem.run_pure, Result.andThen_ok, List.map_toArray, List.map_cons, List.map_nil, hs, hx, hr]
  exact h
end
end Go.Proofs.YtcihplachlokiaaGreatDoor.Rr
