/- What the listed variables, the handle and the world's shape give the walk that reads a list; the wrap of a law whose walk asks for the shape too. -/
import Derived.Test.YtndfmgbdfcggmaaGreatDoorZuM
import Derived.LaidLaws
import Derived.LaidHandle
import Derived.Handed
import Derived.Shelf.Vars
import Derived.Lib.LaidU8
import Derived.Lay
namespace Go.Proofs.YtndfmgbdfcggmaaGreatDoor
open Go.RowKit Go.Lib
set_option linter.unusedVariables false

theorem ml_of_shape {W : World} (h : W.ShapedOpen Tryz.prog) : ML W :=
  cell_of_shapedOpen_int (t := 3) (zero := #[.int .i64 0]) h (of_decide_eq_true (by kernel_rfl)) (by kernel_rfl) rfl (by kernel_rfl) (by kernel_rfl) Tryz.underlying3
theorem et_named : Tryz.prog.globalNamed "errors.errorType" = some 0 := by kernel_rfl
theorem rt_type : (Tryz.prog.cutTypes.find? (·.1 == "internal/reflectlite.rtype")).map (·.2) = some 127 := by kernel_rfl
theorem err_row : ((List.range 247).filter fun t => Tryz.prog.rowNamed t [101, 114, 114, 111, 114]) = [50] := by kernel_rfl
theorem types_size : Tryz.prog.types.size = 247 := by kernel_rfl
theorem err_name : (Rows.laid_errors_errorType : DataW Unit).handleName? = some [101, 114, 114, 111, 114] := by kernel_rfl
theorem err_nofn : (Rows.laid_errors_errorType : DataW Unit).funcsIn? = none := by kernel_rfl
theorem eh_of_laid {W : World} (h : handlesMet Tryz.prog [("errors.errorType", Rows.laid_errors_errorType)] W) : EH W := by
  have h1 := h _ (List.mem_singleton.2 rfl)
  simp only [err_nofn] at h1
  obtain ⟨name, u, ty, e1, e2, e3, e4, e5⟩ := h1
  obtain rfl := Option.some.inj (err_name.symm.trans e1)
  obtain rfl := Option.some.inj (rt_type.symm.trans e2)
  have hm : ty ∈ (List.range 247).filter fun t => Tryz.prog.rowNamed t [101, 114, 114, 111, 114] := List.mem_filter.2 ⟨List.mem_range.2 (by rw [← types_size]; exact e3), e4⟩
  rw [err_row] at hm
  obtain rfl := List.mem_singleton.1 hm
  have hh : typeHandle Tryz.prog 50 = .pointer (some ⟨10, 50, none⟩) := by kernel_rfl
  rw [hh] at e5
  have := World.var?_cell et_named e5 0
  simpa [EH] using this

/-- The world in which nothing is laid but the handle. -/
noncomputable def handleBase (os : Os) : World :=
  let w0 := World.holding Tryz.prog os ⟨#[], #[], []⟩
  { w0 with heap := w0.heap.modify 0 fun
      | .cells _ t frozen => .cells #[.iface 127 (.agg #[.pointer (some ⟨10, 50, none⟩)])] t frozen
      | o => o }
/-- The handle, and the plain data on a list. -/
noncomputable def handleWorld (os : Os) (plain : List (String × DataW Unit)) : World := (handleBase os).layVars Tryz.prog plain
theorem handleWorld_os (os : Os) (plain : List (String × DataW Unit)) : (handleWorld os plain).os = os := World.layVars_os _ _ _
theorem handleWorld_met {os : Os} {laid : List (String × DataW Unit)} (args : Array Value)
    (hf : (handleBase os).layFits Tryz.prog (laid.filter fun x => x.2.handleName?.isNone) [] = true)
    (hi : (handleBase os).layIfaces Tryz.prog (laid.filter fun x => x.2.handleName?.isNone) (handleWorld os (laid.filter fun x => x.2.handleName?.isNone)) = true)
    (hh : (laid.filter fun x => x.2.handleName?.isSome).all (handleAtB Tryz.prog ((handleWorld os (laid.filter fun x => x.2.handleName?.isNone)).forCall (fun _ _ => 0) ⟨#[], args, []⟩).memory) = true) :
    laidMetH Tryz.prog laid ((handleWorld os (laid.filter fun x => x.2.handleName?.isNone)).forCall (fun _ _ => 0) ⟨#[], args, []⟩).memory := by
  refine laidMetH_of_parts ?_ hh
  generalize (laid.filter fun x => x.2.handleName?.isNone) = pl at hf hi
  have e1 : (pl.filter fun x => (pl.map (·.1)).contains x.1) = pl := List.filter_eq_self.2 fun x hx => List.contains_iff_mem.2 (List.mem_map.2 ⟨x, hx, rfl⟩)
  have e2 : (pl.filter fun x => !(pl.map (·.1)).contains x.1) = [] := List.filter_eq_nil_iff.2 fun x hx => by rw [List.contains_iff_mem.2 (List.mem_map.2 ⟨x, hx, rfl⟩)]; simp
  have h : laidMet Tryz.prog pl (handleWorld os pl) := laidMet_layVars (w0 := handleBase os) (pl.map (·.1)) [] (by rw [e1]; rfl) (by rw [e1]; exact hf) (by rw [e1]; exact hi) (by rw [e2]; exact LaidIn.none)
  exact h.of_heap (by simp [World.memory, World.forCall, Input.heap])

/-- A law's lifted form out of a walk that is handed the world's shape beside what is laid. -/
theorem lift_shaped {H : Type} {enc : TypeId × Value → H} {asm0 : Assume} {C : Checked} {os : Os} {f : FuncId} {fn : Func} {s : ChangeSpec} {cs : List PathCond} {b1 b2 b3 b4 : Bool} {X : World → Array Value → Prop}
    (keep : ∀ (w w' : World) (args : Array Value), w.heap = w'.heap → X w args → X w' args) (own : ownKnob C.prog.godebug = none) (st : os.Started) (ni : C.prog.inits.idxOf? f = none) (hfn : C.prog.funcs[f]? = some fn)
    (wit : ∃ (w : World) (tape : Tape) (i : Input), w.os = os ∧ (w.forCall tape i).Shaped C.prog ∧ i.vars = [] ∧ Input.okWide C.prog (w.forCall tape i) .any w.heap.size f i ∧
      ((s.pre enc C.prog fn cs b1 (w.forCall tape i).memory i.args ∧ X (w.forCall tape i).memory i.args) ∧ sizedMet enc C.prog fn (OpenSpec.ofChange s) b1 (w.forCall tape i).memory i.args) ∧ asm0.holds C.prog (lone (Frame.enter C.prog f i.args .normal) [] (w.forCall tape i)))
    (walk : ∀ (W : World) (base : Nat) (args : Array Value) (ds gs : List (DataW H)) (before : List MemPlace),
      (∀ (j : Nat) t v, fn.params[j]? = some t → args[j]? = some v → Value.okWide C.prog W .any base t v) →
      DataW.Whole enc C.prog fn.params.toList s.vars b1 W args.toList ds gs before → W.ShapedOpen C.prog → X W args →
      Calls C.prog f args W fun e W' => ∃ v, e = .returned v ∧ s.post enc C.prog fn b1 b2 b3 b4 W args v W') :
    ReturnsInHanded asm0 C os f .any (fun w args => (s.pre enc C.prog fn cs b1 w args ∧ X w args) ∧ sizedMet enc C.prog fn (OpenSpec.ofChange s) b1 w args) (s.post enc C.prog fn b1 b2 b3 b4) := by
  refine returnsInHanded_of_calls own st ni wit (fun w tape i _ shape _ ok pre _ => ?_)
  obtain ⟨-, -, -, fn', hfn', -, -, -, -, vals⟩ := ok
  obtain rfl := Option.some.inj (hfn'.symm.trans hfn)
  obtain ⟨⟨⟨ds, gs, before, whole, -⟩, x⟩, -⟩ := pre
  refine (walk (w.forCall tape i) w.heap.size i.args ds gs before vals (DataW.Whole.of_heap (w' := w.forCall tape i) (by rfl) whole) shape (keep _ _ _ (by rfl) x)).mono ?_
  rintro e W' ⟨v, rfl, hp⟩
  exact ChangeSpec.post_blind hp

end Go.Proofs.YtndfmgbdfcggmaaGreatDoor
