/- A value held against itself: equality of rows. -/
import Derived.Test.YtjnddfpieogpiaaGreatDoorMbM
import Derived.ChangeKeysEq
import Derived.Laws.StructEq
namespace Go.Proofs.YtjnddfpieogpiaaGreatDoor.Rr
open Go.RowKit
set_option linter.unusedVariables false

section
variable {P : Program}
/-- A part of a row. -/
def PartIs (P : Program) (t : TypeId) (cs : Array Value) (off : Nat) (v : Value) : Prop := ∀ w, (part t cs off).run P w = .ok v w

theorem part_cell {t : TypeId} {d : TypeDesc} {cs : Array Value} {off : Nat} {v : Value} (hu : P.underlying t = some d) (hd : d.isRow = false) (hx : cs[off]? = some v) : PartIs P t cs off v := fun w => by
  unfold part isAgg
  simp only [Sem.run_bind, run_underlying hu, Result.andThen_ok]
  cases d <;> simp [TypeDesc.isRow] at hd <;> simp [hx]
end
end Go.Proofs.YtjnddfpieogpiaaGreatDoor.Rr
/- A memory without real numbers is the same as itself. -/
namespace Go.Proofs.YtjnddfpieogpiaaGreatDoor.Rr
open Go.RowKit
set_option linter.unusedVariables false

/-- The memory with its real numbers taken off. -/
def noReal (c : Array Value) : Array Value := putAt c 117 (List.replicate 16 (.float .f64 0))
theorem noReal_get {c : Array Value} (hc : MemOk c) (i : Nat) : (noReal c)[i]? = if 117 ≤ i ∧ i < 133 then some (.float .f64 0) else c[i]? := by
  unfold noReal
  rw [putAt_get _ _ _ (by rw [List.length_replicate, hc.size]; omega), List.length_replicate]
  by_cases h : 117 ≤ i ∧ i < 117 + 16
  · rw [if_pos h, if_pos (by omega), List.getElem?_replicate, if_pos (by omega)]
  · rw [if_neg h, if_neg (by omega)]

theorem timer_fields : (Tryz.prog.fieldsOf 27).toList.map (fun f => (f.type, f.offset)) = [(4, 0), (25, 1)] := by kernel_rfl
theorem counter_fields : (Tryz.prog.fieldsOf 30).toList.map (fun f => (f.type, f.offset)) = [(4, 0), (4, 1), (25, 2)] := by kernel_rfl

theorem ex_get (c : Array Value) (n m i : Nat) (h : i < m - n) : (c.extract n m)[i]? = c[n + i]? := ext_get c n m i h

end Go.Proofs.YtjnddfpieogpiaaGreatDoor.Rr
/- Two rows held against each other: equality, both ways. -/
namespace Go.Proofs.YtjnddfpieogpiaaGreatDoor.Rr
open Go.RowKit
set_option linter.unusedVariables false

section
variable {P : Program}
/-- The two values are the same just if R. -/
def EqD (P : Program) (d : Nat) (t : TypeId) (v u : Value) (R : Prop) : Prop := ∃ r : Bool, (∀ w, (Op.equalIn d t v u).run P w = .ok r w) ∧ (r = true ↔ R)
theorem EqD.iff {d : Nat} {t : TypeId} {v u : Value} {R R' : Prop} (h : EqD P d t v u R) (e : R ↔ R') : EqD P d t v u R' := by
  obtain ⟨r, h1, h2⟩ := h
  exact ⟨r, h1, h2.trans e⟩

theorem eqFieldsD (d : Nat) (xs ys : Array Value) (Q : Field → Prop) : ∀ fs : List Field, (∀ f ∈ fs, f.name ≠ "_") → (∀ f ∈ fs, ∃ v u, PartIs P f.type xs f.offset v ∧ PartIs P f.type ys f.offset u ∧ EqD P d f.type v u (Q f)) → ∃ r : Bool, (∀ w, (Op.eqFields d xs ys fs).run P w = .ok r w) ∧ (r = true ↔ ∀ f ∈ fs, Q f)
  | [], _, _ => ⟨true, fun w => by simp [Op.eqFields], by simp⟩
  | i :: is, hn, h => by
    obtain ⟨v, u, hp, hq, r1, h1, h1'⟩ := h i (by simp)
    obtain ⟨r2, h2, h2'⟩ := eqFieldsD d xs ys Q is (fun j hj => hn j (by simp [hj])) (fun j hj => h j (by simp [hj]))
    have hni := hn i (by simp)
    cases r1 with
    | false =>
      refine ⟨false, fun w => by simp only [Op.eqFields, Sem.run_bind, Sem.run_ite, if_pos hni, hp w, hq w, h1 w, Result.andThen_ok]; simp, ?_⟩
      constructor
      · intro h; cases h
      · intro h; exact absurd (h1'.2 (h i (by simp))) (by simp)
    | true =>
      refine ⟨r2, fun w => ?_, ?_⟩
      · have := h2 w
        simp only [Op.eqFields, Sem.run_bind, Sem.run_ite, if_pos hni, hp w, hq w, h1 w, Result.andThen_ok]
        simpa using this
      · rw [h2']
        constructor
        · intro hh j hj
          rcases List.mem_cons.1 hj with rfl | hj
          · exact h1'.1 rfl
          · exact hh j hj
        · intro hh j hj; exact hh j (by simp [hj])
theorem eqD_struct {d : Nat} {t : TypeId} {xs ys : Array Value} {Q : Field → Prop} (ht : P.underlying t = some (.struct (P.fieldsOf t))) (hp : P.stoodInHeld t = false) (hn : ∀ f ∈ (P.fieldsOf t).toList, f.name ≠ "_") (h : ∀ f ∈ (P.fieldsOf t).toList, ∃ v u, PartIs P f.type xs f.offset v ∧ PartIs P f.type ys f.offset u ∧ EqD P d f.type v u (Q f)) : EqD P (d + 1) t (.agg xs) (.agg ys) (∀ f ∈ (P.fieldsOf t).toList, Q f) := by
  obtain ⟨r, h1, h2⟩ := eqFieldsD (P := P) d xs ys Q _ hn h
  exact ⟨r, fun w => (run_equalIn_struct w d t xs ys ht hp).trans (h1 w), h2⟩
theorem eqD_int {d : Nat} {t : TypeId} {k k' : IntKind} {a b : Int} (h : P.underlying t = some (.int k')) : EqD P (d + 1) t (.int k a) (.int k b) ((Value.int k a) = .int k b) :=
  ⟨a == b, fun w => run_equalIn_int w d t k k' a b h, by simp⟩
theorem eqD_bool {d : Nat} {t : TypeId} {a b : Bool} (h : P.underlying t = some .bool) : EqD P (d + 1) t (.bool a) (.bool b) ((Value.bool a) = .bool b) :=
  ⟨a == b, fun w => run_equalIn_bool w d t a b h, by simp⟩
end

/-- Two rows agree from a place on, so many cells. -/
def AgreeOn (x y : Array Value) (o n : Nat) : Prop := ∀ i, o ≤ i → i < o + n → x[i]? = y[i]?
theorem agree_one {x y : Array Value} {o : Nat} {v u : Value} (hx : x[o]? = some v) (hy : y[o]? = some u) : (v = u) ↔ AgreeOn x y o 1 := by
  constructor
  · intro h i h1 h2
    obtain rfl : i = o := by omega
    rw [hx, hy, h]
  · intro h
    have := h o (by omega) (by omega)
    rw [hx, hy] at this
    exact Option.some.inj this
theorem ex_agree {x y : Array Value} {o n p m : Nat} (h : p + m ≤ n) : AgreeOn (x.extract o (o + n)) (y.extract o (o + n)) p m ↔ AgreeOn x y (o + p) m := by
  constructor
  · intro hh i h1 h2
    have := hh (i - o) (by omega) (by omega)
    rw [ex_get _ _ _ _ (by omega), ex_get _ _ _ _ (by omega), show o + (i - o) = i by omega] at this
    exact this
  · intro hh i h1 h2
    rw [ex_get _ _ _ _ (by omega), ex_get _ _ _ _ (by omega)]
    exact hh (o + i) (by omega) (by omega)

theorem timer_names : (Tryz.prog.fieldsOf 27).toList.all (fun f => f.name != "_") = true := by kernel_rfl
theorem counter_names : (Tryz.prog.fieldsOf 30).toList.all (fun f => f.name != "_") = true := by kernel_rfl
theorem names_ne {fs : List Field} (h : fs.all (fun f => f.name != "_") = true) : ∀ f ∈ fs, f.name ≠ "_" := fun f hf => by
  have := List.all_eq_true.1 h f hf
  simpa using this

theorem eqD_timer (d : Nat) {x y : Array Value} {b b' : Bool} {n n' : Int} (h0 : x[0]? = some (.bool b)) (h1 : x[1]? = some (.int .u16 n)) (k0 : y[0]? = some (.bool b')) (k1 : y[1]? = some (.int .u16 n')) : EqD Tryz.prog (d + 1 + 1) 27 (.agg x) (.agg y) (AgreeOn x y 0 2) := by
  refine (eqD_struct (d := d + 1) (Q := fun f => AgreeOn x y f.offset 1) (by kernel_rfl) (by kernel_rfl) (names_ne timer_names) fun f hf => ?_).iff ?_
  · have hm : (f.type, f.offset) ∈ (Tryz.prog.fieldsOf 27).toList.map (fun f => (f.type, f.offset)) := List.mem_map.2 ⟨f, hf, rfl⟩
    rw [timer_fields] at hm
    simp only [List.mem_cons, Prod.mk.injEq, List.not_mem_nil, or_false] at hm
    rcases hm with ⟨e1, e2⟩ | ⟨e1, e2⟩
    · rw [e1, e2]; exact ⟨_, _, part_cell Tryz.underlying4 rfl h0, part_cell Tryz.underlying4 rfl k0, (eqD_bool Tryz.underlying4).iff (agree_one h0 k0)⟩
    · rw [e1, e2]; exact ⟨_, _, part_cell Tryz.underlying25 rfl h1, part_cell Tryz.underlying25 rfl k1, (eqD_int Tryz.underlying25).iff (agree_one h1 k1)⟩
  · have hm : ∀ o, o < 2 → ∃ f ∈ (Tryz.prog.fieldsOf 27).toList, f.offset = o := fun o ho => by
      have : o ∈ ((Tryz.prog.fieldsOf 27).toList.map (fun f => (f.type, f.offset))).map Prod.snd := by
        rw [timer_fields]; simp; omega
      simp only [List.map_map, List.mem_map, Function.comp] at this
      obtain ⟨f, hf, e⟩ := this
      exact ⟨f, hf, e⟩
    constructor
    · intro h i h1 h2
      obtain ⟨f, hf, e⟩ := hm i (by omega)
      exact h f hf i (by omega) (by omega)
    · intro h f hf i h1 h2
      have hm2 : (f.type, f.offset) ∈ (Tryz.prog.fieldsOf 27).toList.map (fun f => (f.type, f.offset)) := List.mem_map.2 ⟨f, hf, rfl⟩
      rw [timer_fields] at hm2
      simp only [List.mem_cons, Prod.mk.injEq, List.not_mem_nil, or_false] at hm2
      exact h i (by omega) (by rcases hm2 with ⟨_, e⟩ | ⟨_, e⟩ <;> omega)
theorem eqD_counter (d : Nat) {x y : Array Value} {b b' l l' : Bool} {n n' : Int} (h0 : x[0]? = some (.bool b)) (h1 : x[1]? = some (.bool l)) (h2 : x[2]? = some (.int .u16 n)) (k0 : y[0]? = some (.bool b')) (k1 : y[1]? = some (.bool l')) (k2 : y[2]? = some (.int .u16 n')) : EqD Tryz.prog (d + 1 + 1) 30 (.agg x) (.agg y) (AgreeOn x y 0 3) := by
  refine (eqD_struct (d := d + 1) (Q := fun f => AgreeOn x y f.offset 1) (by kernel_rfl) (by kernel_rfl) (names_ne counter_names) fun f hf => ?_).iff ?_
  · have hm : (f.type, f.offset) ∈ (Tryz.prog.fieldsOf 30).toList.map (fun f => (f.type, f.offset)) := List.mem_map.2 ⟨f, hf, rfl⟩
    rw [counter_fields] at hm
    simp only [List.mem_cons, Prod.mk.injEq, List.not_mem_nil, or_false] at hm
    rcases hm with ⟨e1, e2⟩ | ⟨e1, e2⟩ | ⟨e1, e2⟩
    · rw [e1, e2]; exact ⟨_, _, part_cell Tryz.underlying4 rfl h0, part_cell Tryz.underlying4 rfl k0, (eqD_bool Tryz.underlying4).iff (agree_one h0 k0)⟩
    · rw [e1, e2]; exact ⟨_, _, part_cell Tryz.underlying4 rfl h1, part_cell Tryz.underlying4 rfl k1, (eqD_bool Tryz.underlying4).iff (agree_one h1 k1)⟩
    · rw [e1, e2]; exact ⟨_, _, part_cell Tryz.underlying25 rfl h2, part_cell Tryz.underlying25 rfl k2, (eqD_int Tryz.underlying25).iff (agree_one h2 k2)⟩
  · have hm : ∀ o, o < 3 → ∃ f ∈ (Tryz.prog.fieldsOf 30).toList, f.offset = o := fun o ho => by
      have : o ∈ ((Tryz.prog.fieldsOf 30).toList.map (fun f => (f.type, f.offset))).map Prod.snd := by
        rw [counter_fields]; simp; omega
      simp only [List.map_map, List.mem_map, Function.comp] at this
      obtain ⟨f, hf, e⟩ := this
      exact ⟨f, hf, e⟩
    constructor
    · intro h i h1 h2
      obtain ⟨f, hf, e⟩ := hm i (by omega)
      exact h f hf i (by omega) (by omega)
    · intro h f hf i h1 h2
      have hm2 : (f.type, f.offset) ∈ (Tryz.prog.fieldsOf 30).toList.map (fun f => (f.type, f.offset)) := List.mem_map.2 ⟨f, hf, rfl⟩
      rw [counter_fields] at hm2
      simp only [List.mem_cons, Prod.mk.injEq, List.not_mem_nil, or_false] at hm2
      exact h i (by omega) (by rcases hm2 with ⟨_, e⟩ | ⟨_, e⟩ | ⟨_, e⟩ <;> omega)

end Go.Proofs.YtjnddfpieogpiaaGreatDoor.Rr
