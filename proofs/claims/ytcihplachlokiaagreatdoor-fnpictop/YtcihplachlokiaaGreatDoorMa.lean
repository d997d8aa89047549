/- Rows of cells: a part of a row is read, a part of a row is written. -/
import Derived.Deep.MidRow
import Derived.Deep.WholeRow
import Derived.Laws.CopyOwn
import Derived.Laws.CopyRow
import Derived.Below
namespace Go.Proofs.YtcihplachlokiaaGreatDoor
open Go.RowKit
set_option linter.unusedVariables false

/-- The row with other cells from a place on. -/
def putAt (C : Array Value) (o : Nat) : List Value → Array Value
  | [] => C
  | v :: vs => putAt (C.setIfInBounds o v) (o + 1) vs

theorem putAt_size (C : Array Value) (o : Nat) (vs : List Value) : (putAt C o vs).size = C.size := by
  induction vs generalizing C o with
  | nil => rfl
  | cons v vs ih => simp [putAt, ih]

theorem putAt_get (C : Array Value) (o : Nat) (vs : List Value) (h : o + vs.length ≤ C.size) (j : Nat) :
    (putAt C o vs)[j]? = if o ≤ j ∧ j < o + vs.length then vs[j - o]? else C[j]? := by
  induction vs generalizing C o with
  | nil =>
    have : ¬ (o ≤ j ∧ j < o + ([] : List Value).length) := by simp
    rw [if_neg this]; rfl
  | cons v vs ih =>
    simp only [List.length_cons] at h
    rw [putAt, ih _ _ (by simpa using by omega)]
    by_cases h1 : o + 1 ≤ j ∧ j < o + 1 + vs.length
    · have h2 : o ≤ j ∧ j < o + (v :: vs).length := by simp; omega
      rw [if_pos h1, if_pos h2, show j - o = (j - (o + 1)) + 1 by omega]
      simp
    · rw [if_neg h1]
      by_cases h3 : j = o
      · subst h3
        have h2 : j ≤ j ∧ j < j + (v :: vs).length := by simp
        rw [if_pos h2]
        simp
        rw [Array.getElem?_setIfInBounds_self_of_lt (by omega)]
      · have h2 : ¬ (o ≤ j ∧ j < o + (v :: vs).length) := by simp at h1 ⊢; omega
        rw [if_neg h2, Array.getElem?_setIfInBounds_ne (by omega)]

theorem setCells_row (g : Nat) (t : TypeId) (vs : List Value) : ∀ (o : Nat) (C : Array Value) (w : World), w.heap[g]? = some (.cells C t (0, 0)) →
    w.setCells g o vs = w.setRow g (putAt C o vs) := by
  induction vs with
  | nil => intro o C w h; exact (setRow_self w g C t _ h).symm
  | cons v vs ih =>
    intro o C w h
    rw [World.setCells, setCell_eq_setRow w g o C t _ v h, ih (o + 1) _ _ (setRow_heap w g C _ t _ h), setRow_setRow]
    rfl

theorem there_row {w : World} {g : Nat} {t : TypeId} {C : Array Value} (h : w.heap[g]? = some (.cells C t (0, 0))) (o n : Nat) (hn : o + n ≤ C.size) : w.there g o n := fun j hj => by
  refine ⟨?_, by simp [World.frozen?, h]⟩
  rw [cell_of_row _ _ _ _ _ _ h, Array.getElem?_eq_getElem (by omega)]
  rfl

theorem rows3 (w : World) (A B C : Obj) : (((w.alloc A).alloc B).alloc C).heap[w.heap.size]? = some A ∧ (((w.alloc A).alloc B).alloc C).heap[w.heap.size + 1]? = some B ∧ (((w.alloc A).alloc B).alloc C).heap[w.heap.size + 1 + 1]? = some C := by
  refine ⟨?_, ?_, ?_⟩
  · rw [heap_alloc_old _ _ _ (by simp <;> omega), heap_alloc_old _ _ _ (by simp), heap_alloc_last]
  · rw [heap_alloc_old _ _ _ (by simp)]
    have := heap_alloc_last (w.alloc A) B
    simpa using this
  · have := heap_alloc_last ((w.alloc A).alloc B) C
    simpa using this
theorem rows2 (w : World) (A B : Obj) : ((w.alloc A).alloc B).heap[w.heap.size]? = some A ∧ ((w.alloc A).alloc B).heap[w.heap.size + 1]? = some B := by
  refine ⟨?_, ?_⟩
  · rw [heap_alloc_old _ _ _ (by simp), heap_alloc_last]
  · have := heap_alloc_last (w.alloc A) B
    simpa using this

variable {P : Program}

theorem load_sub {w : World} {g : Nat} {t : TypeId} {C : Array Value} {fr : Nat × Nat} (h : w.heap[g]? = some (.cells C t fr)) (ty : TypeId) (d : TypeDesc) (o n : Nat) (hn : o + n ≤ C.size)
    (hu : P.underlying ty = some d) (hd : d.isRow = true) (hi : (P.info? ty).map (·.size) = some n) :
    (loadVar ty ⟨g, o, none⟩).run P w = .ok (.agg (C.extract o (o + n))) w := by
  have := run_loadVar_mid (P := P) w g o ty (C.extract o (o + n)).toList d (World.rangeAt_of_block h o n) hu hd (by rw [hi]; simp; omega)
  rwa [Array.toArray_toList] at this

theorem load_all {w : World} {g : Nat} {t : TypeId} {C : Array Value} {fr : Nat × Nat} (h : w.heap[g]? = some (.cells C t fr)) (ty : TypeId) (d : TypeDesc)
    (hu : P.underlying ty = some d) (hd : d.isRow = true) (hi : (P.info? ty).map (·.size) = some C.size) :
    (loadVar ty ⟨g, 0, none⟩).run P w = .ok (.agg C) w := by
  have := load_sub h ty d 0 C.size (by omega) hu hd hi
  simpa using this

theorem store_sub {w : World} {g : Nat} {t : TypeId} {C : Array Value} (h : w.heap[g]? = some (.cells C t (0, 0))) (ty : TypeId) (o : Nat) (D : Array Value) (hn : o + D.size ≤ C.size)
    (hi : (P.info? ty).map (·.size) = some D.size) (h1 : D.all (·.oneCell') = true) :
    (storeVar ty ⟨g, o, none⟩ (.agg D)).run P w = .ok () (w.setRow g (putAt C o D.toList)) := by
  rw [← setCells_row g t D.toList o C w h]
  exact run_storeVar_mid w g o ty D (there_row h o _ hn) hi h1

theorem store_all {w : World} {g : Nat} {t : TypeId} {C : Array Value} (h : w.heap[g]? = some (.cells C t (0, 0))) (ty : TypeId) (D : Array Value) (hn : C.size = D.size)
    (hi : (P.info? ty).map (·.size) = some D.size) (h1 : D.all (·.oneCell') = true) :
    (storeVar ty ⟨g, 0, none⟩ (.agg D)).run P w = .ok () (w.setRow g D) := by
  rw [store_sub h ty 0 D (by omega) hi h1]
  congr 2
  apply Array.ext_getElem?
  intro j
  rw [putAt_get _ _ _ (by simp; omega)]
  by_cases hj : j < D.size
  · simp [hj]
  · simp [hj]
    omega

/-- A load of whatever type, its run given. -/
theorem wpL_load {ops : Array Oper} {rest : List Oper} {o : Oper} {a : Act} {w : World} {Q : Exit → Act → World → Prop} (hgd : o.guard = none) (ty : TypeId) (x : Operand) (ho : o.op = .load ty x)
    (g f : Nat) (hx : a.eval x = .pointer (some ⟨g, f, none⟩)) (v : Value) (hrun : (loadVar ty ⟨g, f, none⟩).run P w = .ok v w)
    (h : wpList P ops Q rest (a.put o.dst v) w) : wpList P ops Q (o :: rest) a w :=
  wpList_plain hgd fun _ hK => by
    unfold Oper.wp execOp
    simp only [ho, hx, Instr.loadAt, Instr.sureAddr, Sem.run_bind, Sem.run_pure, Result.andThen_ok, hrun]
    exact hK _ _ h

/-- A store of whatever type, its run given. -/
theorem wpL_store {ops : Array Oper} {rest : List Oper} {o : Oper} {a : Act} {w : World} {Q : Exit → Act → World → Prop} (hgd : o.guard = none) (ty : TypeId) (x y : Operand) (ho : o.op = .store ty x y)
    (g f : Nat) (hx : a.eval x = .pointer (some ⟨g, f, none⟩)) (v : Value) (hy : a.eval y = v) (w' : World) (hrun : (storeVar ty ⟨g, f, none⟩ v).run P w = .ok () w')
    (h : wpList P ops Q rest (a.put o.dst undef) w') : wpList P ops Q (o :: rest) a w :=
  wpList_plain hgd fun _ hK => by
    unfold Oper.wp execOp
    simp only [ho, hx, hy, Instr.storeAt, Instr.sureAddr, Sem.run_bind, Sem.run_pure, Result.andThen_ok, hrun]
    exact hK _ _ h

theorem row_put {W : World} {B : Nat} {C : Array Value} {t : TypeId} (h : W.heap[B]? = some (.cells C t (0, 0))) (i : Nat) (a : Value) :
    (W.setCell ⟨B, i, none⟩ a).heap[B]? = some (.cells (C.setIfInBounds i a) t (0, 0)) := by
  rw [setCell_eq_setRow W B i C t (0, 0) a h]
  exact setRow_heap W B C _ t _ h

theorem row_other {W : World} {B : Nat} {o : Obj} (h : W.heap[B]? = some o) (b f : Nat) (hne : b ≠ B) (v : Value) : (W.setCell ⟨b, f, none⟩ v).heap[B]? = some o := by
  rw [← h]
  simp only [World.setCell]
  rw [Array.getElem?_modify]
  simp [hne]

theorem row_set {W : World} {B : Nat} {C : Array Value} {t : TypeId} (h : W.heap[B]? = some (.cells C t (0, 0))) (D : Array Value) : (W.setRow B D).heap[B]? = some (.cells D t (0, 0)) := setRow_heap W B C _ t _ h

theorem row_beside {W : World} {B : Nat} {o : Obj} (h : W.heap[B]? = some o) (b : Nat) (hne : b ≠ B) (D : Array Value) : (W.setRow b D).heap[B]? = some o := by
  rw [setRow_other _ _ _ _ (by omega)]; exact h

/-- A row handed back through a cell. -/
theorem ret_row {fn : Func} {R : Ending → World → Prop} {a : Act} {w : World} {p : Tmp} {ty : TypeId} (hf : fn.results = #[.cell p ty]) {g : Nat} (hp : a.tmps.getD p undef = .pointer (some ⟨g, 0, none⟩))
    {t : TypeId} {C : Array Value} (hg : w.heap[g]? = some (.cells C t (0, 0))) {d : TypeDesc} (hu : P.underlying ty = some d) (hd : (match d with | .struct _ | .array _ _ => true | _ => false) = true)
    (hi : (P.info? ty).map (·.size) = some C.size) (hdf : a.defers = []) (hR : R (.returned (.agg C)) w) : bodyPost P fn R .ret a w :=
  bodyPost_ret (results_cell_row hf a.tmps w g t C (0, 0) d hp hg hu hd hi) hdf hR
end Go.Proofs.YtcihplachlokiaaGreatDoor
