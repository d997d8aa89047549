/- Instructions handed in. -/
import Derived.Test.YtcihplachlokiaaDoorGeM
import Derived.Test.YtcihplachlokiaaDoorZaM
namespace Go.Proofs.YtcihplachlokiaaDoor
open Go.RowKit
set_option linter.unusedVariables false

section
variable {H : Type} {enc : TypeId × Value → H} {w : World} {base : Nat} {sp : Nat → Bool} {held : Bool}
theorem cellsIn : Tryd.prog.cellsOf 68 = 3 := by kernel_rfl

set_option maxRecDepth 100000 in
theorem inst_open {fuel : Nat} {cs : List Value} {x : DataW H × List MemPlace} (h : DataW.trod enc Tryd.prog w base sp held fuel 68 cs = some x) : ∃ t, InstIs w 0 t cs := by
  obtain ⟨xs, n, hk, hx, hl, hxl, hall⟩ := DataW.trod_struct Tryd.underlying68 h
  rw [cellsIn] at hl
  match cs, hl with
  | [c0, c1, c2], _ =>
    match xs, hxl with
    | [x0, x1], _ =>
      have h0 : DataW.trod enc Tryd.prog w base sp held n 3 (([c0, c1, c2].drop 0).take (Tryd.prog.cellsOf 3)) = [x0, x1][0]? := hall 0 _ rfl
      have h1 : DataW.trod enc Tryd.prog w base sp held n 66 (([c0, c1, c2].drop 1).take (Tryd.prog.cellsOf 66)) = [x0, x1][1]? := hall 1 _ rfl
      simp only [cellsI, cellsE, List.drop_zero, List.drop_succ_cons, List.take_succ_cons, List.take_zero, List.getElem?_cons_zero, List.getElem?_cons_succ] at h0 h1
      obtain ⟨v0, e0, _, _⟩ := DataW.trod_int Tryd.underlying3 h0
      obtain ⟨e, v, e1, hy⟩ := elem_open h1
      simp only [List.cons.injEq, and_true] at e0 e1
      exact ⟨⟨v0, e⟩, v, by rw [e0, e1.1, e1.2], hy⟩
theorem insts_open {fuel : Nat} {v : Value} {x : DataW H × List MemPlace} (h : DataW.trod enc Tryd.prog w base sp held fuel 30 [v] = some x) : ∃ xs, InstsIs w 0 v xs :=
  row_open Tryd.underlying30 cellsIn (by omega) (InstIs w 0) h fun n cs y _ h => inst_open h
end
end Go.Proofs.YtcihplachlokiaaDoor