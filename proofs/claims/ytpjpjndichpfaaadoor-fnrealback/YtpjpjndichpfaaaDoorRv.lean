/- What the listed variables and the world's shape give the walks that read texts; the wrap of a law whose walk asks for the shape too. -/
import Derived.Test.YtpjpjndichpfaaaDoorRg
import Derived.LaidLaws
import Derived.Handed
import Derived.Shelf.Vars
import Derived.Lib.LaidU8
namespace Go.Proofs.YtpjpjndichpfaaaDoor
open Go.RowKit Go.Lib
set_option linter.unusedVariables false

theorem g5_named : Tryd.prog.globalNamed "strconv.ErrSyntax" = some 5 := by kernel_rfl
theorem g6_named : Tryd.prog.globalNamed "strconv.ErrRange" = some 6 := by kernel_rfl
theorem g5_type : (Tryd.prog.globals[5]?).map (·.type) = some 88 := by kernel_rfl
theorem g6_type : (Tryd.prog.globals[6]?).map (·.type) = some 88 := by kernel_rfl

theorem es_of_reads {W : World} (h : VarReads Tryd.prog W "strconv.ErrSyntax" Rows.laid_strconv_ErrSyntax) : ∃ t p, W.cell? ⟨5, 0, none⟩ = some (.iface t p) := by
  obtain ⟨g, t, cs, fuel, p, hg, ht, hv, hd⟩ := h
  obtain rfl := Option.some.inj (g5_named.symm.trans hg)
  obtain rfl := Option.some.inj (g5_type.symm.trans ht)
  unfold Rows.laid_strconv_ErrSyntax at hd
  obtain ⟨f', u, v, hc, -, -⟩ := iface_of_trod Tryd.underlying88 hd
  have h0 := World.var?_cell hg hv 0
  rw [← Array.getElem?_toList, hc] at h0
  exact ⟨u, v, h0⟩
theorem er_of_reads {W : World} (h : VarReads Tryd.prog W "strconv.ErrRange" Rows.laid_strconv_ErrRange) : ∃ t p, W.cell? ⟨6, 0, none⟩ = some (.iface t p) := by
  obtain ⟨g, t, cs, fuel, p, hg, ht, hv, hd⟩ := h
  obtain rfl := Option.some.inj (g6_named.symm.trans hg)
  obtain rfl := Option.some.inj (g6_type.symm.trans ht)
  unfold Rows.laid_strconv_ErrRange at hd
  obtain ⟨f', u, v, hc, -, -⟩ := iface_of_trod Tryd.underlying88 hd
  have h0 := World.var?_cell hg hv 0
  rw [← Array.getElem?_toList, hc] at h0
  exact ⟨u, v, h0⟩
theorem ml_of_shape {W : World} (h : W.ShapedOpen Tryd.prog) : ∃ m, W.cell? ⟨4, 0, none⟩ = some (.int .i64 m) :=
  cell_of_shapedOpen_int (t := 3) (zero := #[.int .i64 0]) h (of_decide_eq_true (by kernel_rfl)) (by kernel_rfl) rfl (by kernel_rfl) (by kernel_rfl) Tryd.underlying3
theorem ev_of {W : World} (h : W.ShapedOpen Tryd.prog) (a : VarReads Tryd.prog W "internal/strconv.uint64pow10" Rows.laid_internal_strconv_uint64pow10) (b : VarReads Tryd.prog W "strconv.ErrRange" Rows.laid_strconv_ErrRange) (c : VarReads Tryd.prog W "strconv.ErrSyntax" Rows.laid_strconv_ErrSyntax) : EV W :=
  ⟨pt_of_reads a, ml_of_shape h, es_of_reads c, er_of_reads b⟩

/-- A law's lifted form out of a walk that is handed the world's shape beside what is laid. -/
theorem lift_shaped {H : Type} {enc : TypeId × Value → H} {asm0 : Assume} {C : Checked} {os : Os} {f : FuncId} {fn : Func} {s : ChangeSpec} {cs : List PathCond} {b1 b2 b3 b4 : Bool} {X : World → Array Value → Prop}
    (keep : ∀ (w w' : World) (args : Array Value), w.heap = w'.heap → X w args → X w' args) (own : ownKnob C.prog.godebug = none) (st : os.Started) (ni : C.prog.inits.idxOf? f = none) (hfn : C.prog.funcs[f]? = some fn)
    (wit : ∃ (w : World) (tape : Tape) (i : Input), w.os = os ∧ (w.forCall tape i).Shaped C.prog ∧ i.vars = [] ∧ Input.okWide C.prog (w.forCall tape i) .any w.heap.size f i ∧
      ((s.pre enc C.prog fn cs b1 (w.forCall tape i).memory i.args ∧ X (w.forCall tape i).memory i.args) ∧ sizedMet enc C.prog fn (OpenSpec.ofChange s) b1 (w.forCall tape i).memory i.args) ∧ asm0.holds C.prog (lone (Frame.enter C.prog f i.args .normal) [] (w.forCall tape i)))
    (walk : ∀ (W : World) (base : Nat) (args : Array Value) (ds gs : List (DataW H)) (before : List MemPlace),
      (∀ (j : Nat) t v, fn.params[j]? = some t → args[j]? = some v → Value.okWide C.prog W .any base t v) →
      DataW.Whole enc C.prog fn.params.toList s.vars b1 W args.toList ds gs before → W.ShapedOpen C.prog → X W args →
      Calls C.prog f args W fun e W' => ∃ v, e = .returned v ∧ s.post enc C.prog fn b1 b2 b3 b4 W args v W') :
    ReturnsInHanded asm0 C os f .any (fun w args => (s.pre enc C.prog fn cs b1 w args ∧ X w args) ∧ sizedMet enc C.prog fn (OpenSpec.ofChange s) b1 w args) (s.post enc C.prog fn b1 b2 b3 b4) := by
  refine returnsInHanded_of_calls own st ni wit (fun w tape i _ shape _ ok pre _ => ?_)
  obtain ⟨-, -, -, fn', hfn', -, -, -, -, vals⟩ := ok
  obtain rfl := Option.some.inj (hfn'.symm.trans hfn)
  obtain ⟨⟨⟨ds, gs, before, whole, -⟩, x⟩, -⟩ := pre
  refine (walk (w.forCall tape i) w.heap.size i.args ds gs before vals (DataW.Whole.of_heap (w' := w.forCall tape i) (by rfl) whole) shape (keep _ _ _ (by rfl) x)).mono ?_
  rintro e W' ⟨v, rfl, hp⟩
  exact ChangeSpec.post_blind hp
end Go.Proofs.YtpjpjndichpfaaaDoor
