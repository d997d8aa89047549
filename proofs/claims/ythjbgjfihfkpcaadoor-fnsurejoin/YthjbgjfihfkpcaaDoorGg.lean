/- Values held against each other by ==: operands of contacts and coils. -/
import Derived.Test.YthjbgjfihfkpcaaDoorGeM
import Derived.ChangeKeysEq
import Derived.Laws.StructEq
namespace Go.Proofs.YthjbgjfihfkpcaaDoor
open Go.RowKit
set_option linter.unusedVariables false

section
variable {P : Program}
/-- The value is the same as itself. -/
def EqR (P : Program) (d : Nat) (t : TypeId) (v : Value) : Prop := ∀ w, (Op.equalIn d t v v).run P w = .ok true w
/-- A part of a row. -/
def PartIs (P : Program) (t : TypeId) (cs : Array Value) (off : Nat) (v : Value) : Prop := ∀ w, (part t cs off).run P w = .ok v w

theorem eqItems_refl (d : Nat) (e : TypeId) (c : Nat) (xs : Array Value) : ∀ is : List Nat, (∀ i ∈ is, ∃ v, PartIs P e xs (i * c) v ∧ EqR P d e v) → ∀ w, (Op.eqItems d e c xs xs is).run P w = .ok true w
  | [], _, w => by simp [Op.eqItems]
  | i :: is, h, w => by
    obtain ⟨v, hp, he⟩ := h i (by simp)
    have ih := eqItems_refl d e c xs is (fun j hj => h j (by simp [hj])) w
    simp only [Op.eqItems, Sem.run_bind, hp w, he w, Result.andThen_ok]
    simpa using ih
theorem eqFields_refl (d : Nat) (xs : Array Value) : ∀ fs : List Field, (∀ f ∈ fs, ∃ v, PartIs P f.type xs f.offset v ∧ EqR P d f.type v) → ∀ w, (Op.eqFields d xs xs fs).run P w = .ok true w
  | [], _, w => by simp [Op.eqFields]
  | f :: fs, h, w => by
    obtain ⟨v, hp, he⟩ := h f (by simp)
    have ih := eqFields_refl d xs fs (fun j hj => h j (by simp [hj])) w
    simp only [Op.eqFields, Sem.run_bind, Sem.run_ite, hp w, he w, Result.andThen_ok]
    split
    · simpa using ih
    · exact ih
theorem eqR_array {d : Nat} {t e : TypeId} {n : Nat} {i : TypeInfo} {xs : Array Value} (hu : P.underlying t = some (.array n e)) (hi : P.info? e = some i) (h : ∀ j, j < n → ∃ v, PartIs P e xs (j * P.cellsOf e) v ∧ EqR P d e v) : EqR P (d + 1) t (.agg xs) := fun w =>
  (run_equalIn_array w d xs xs hu hi).trans (eqItems_refl d e _ xs _ (fun j hj => h j (by simpa using hj)) w)
theorem eqR_struct {d : Nat} {t : TypeId} {xs : Array Value} (ht : P.underlying t = some (.struct (P.fieldsOf t))) (hp : P.stoodInHeld t = false) (h : ∀ f ∈ (P.fieldsOf t).toList, ∃ v, PartIs P f.type xs f.offset v ∧ EqR P d f.type v) : EqR P (d + 1) t (.agg xs) := fun w =>
  (run_equalIn_struct w d t xs xs ht hp).trans (eqFields_refl d xs _ h w)
theorem eqR_int {d : Nat} {t : TypeId} {k k' : IntKind} {a : Int} (h : P.underlying t = some (.int k')) : EqR P (d + 1) t (.int k a) := fun w => by
  rw [run_equalIn_int w d t k k' a a h]; simp
theorem eqR_bool {d : Nat} {t : TypeId} {a : Bool} (h : P.underlying t = some .bool) : EqR P (d + 1) t (.bool a) := fun w => by
  rw [run_equalIn_bool w d t a a h]; simp
theorem eqR_zero {d : Nat} {t : TypeId} (h : P.underlying t = some (.float .f64)) : EqR P (d + 1) t (.float .f64 0) := fun w => by
  have h0 : Op.floatEq .f64 0 0 = true := by decide +kernel
  simp [Op.equalIn, run_underlying h, h0]
theorem part_cell {t : TypeId} {d : TypeDesc} {cs : Array Value} {off : Nat} {v : Value} (hu : P.underlying t = some d) (hd : d.isRow = false) (hx : cs[off]? = some v) : PartIs P t cs off v := fun w => by
  unfold part isAgg
  simp only [Sem.run_bind, run_underlying hu, Result.andThen_ok]
  cases d <;> simp [TypeDesc.isRow] at hd <;> simp [hx]
theorem part_row {t : TypeId} {d : TypeDesc} {cs : Array Value} {off n : Nat} {i : TypeInfo} (hu : P.underlying t = some d) (hd : d.isRow = true) (hi : P.info? t = some i) (hn : i.size = n) : PartIs P t cs off (.agg (cs.extract off (off + n))) := fun w => by
  unfold part isAgg
  simp only [Sem.run_bind, run_underlying hu, Result.andThen_ok]
  cases d <;> simp [TypeDesc.isRow] at hd <;> simp [sizeOf, typeInfo, hi, hn]
/-- The two values are the same just if R. -/
def EqD (P : Program) (d : Nat) (t : TypeId) (v u : Value) (R : Prop) : Prop := ∃ r : Bool, (∀ w, (Op.equalIn d t v u).run P w = .ok r w) ∧ (r = true ↔ R)
theorem EqD.iff {d : Nat} {t : TypeId} {v u : Value} {R R' : Prop} (h : EqD P d t v u R) (e : R ↔ R') : EqD P d t v u R' := by
  obtain ⟨r, h1, h2⟩ := h
  exact ⟨r, h1, h2.trans e⟩

theorem eqItemsD (d : Nat) (e : TypeId) (c : Nat) (xs ys : Array Value) (Q : Nat → Prop) : ∀ is : List Nat, (∀ i ∈ is, ∃ v u, PartIs P e xs (i * c) v ∧ PartIs P e ys (i * c) u ∧ EqD P d e v u (Q i)) → ∃ r : Bool, (∀ w, (Op.eqItems d e c xs ys is).run P w = .ok r w) ∧ (r = true ↔ ∀ i ∈ is, Q i)
  | [], _ => ⟨true, fun w => by simp [Op.eqItems], by simp⟩
  | i :: is, h => by
    obtain ⟨v, u, hp, hq, r1, h1, h1'⟩ := h i (by simp)
    obtain ⟨r2, h2, h2'⟩ := eqItemsD d e c xs ys Q is (fun j hj => h j (by simp [hj]))
    cases r1 with
    | false =>
      refine ⟨false, fun w => by simp only [Op.eqItems, Sem.run_bind, hp w, hq w, h1 w, Result.andThen_ok]; simp, ?_⟩
      constructor
      · intro h; cases h
      · intro h; exact absurd (h1'.2 (h i (by simp))) (by simp)
    | true =>
      refine ⟨r2, fun w => ?_, ?_⟩
      · have := h2 w
        simp only [Op.eqItems, Sem.run_bind, hp w, hq w, h1 w, Result.andThen_ok]
        simpa using this
      · rw [h2']
        constructor
        · intro hh j hj
          rcases List.mem_cons.1 hj with rfl | hj
          · exact h1'.1 rfl
          · exact hh j hj
        · intro hh j hj; exact hh j (by simp [hj])
theorem eqFieldsD (d : Nat) (xs ys : Array Value) (Q : Field → Prop) : ∀ fs : List Field, (∀ f ∈ fs, f.name ≠ "_") → (∀ f ∈ fs, ∃ v u, PartIs P f.type xs f.offset v ∧ PartIs P f.type ys f.offset u ∧ EqD P d f.type v u (Q f)) → ∃ r : Bool, (∀ w, (Op.eqFields d xs ys fs).run P w = .ok r w) ∧ (r = true ↔ ∀ f ∈ fs, Q f)
  | [], _, _ => ⟨true, fun w => by simp [Op.eqFields], by simp⟩
  | i :: is, hn, h => by
    obtain ⟨v, u, hp, hq, r1, h1, h1'⟩ := h i (by simp)
    obtain ⟨r2, h2, h2'⟩ := eqFieldsD d xs ys Q is (fun j hj => hn j (by simp [hj])) (fun j hj => h j (by simp [hj]))
    have hni := hn i (by simp)
    cases r1 with
    | false =>
      refine ⟨false, fun w => by simp only [Op.eqFields, Sem.run_bind, Sem.run_ite, if_pos hni, hp w, hq w, h1 w, Result.andThen_ok]; simp, ?_⟩
      constructor
      · intro h; cases h
      · intro h; exact absurd (h1'.2 (h i (by simp))) (by simp)
    | true =>
      refine ⟨r2, fun w => ?_, ?_⟩
      · have := h2 w
        simp only [Op.eqFields, Sem.run_bind, Sem.run_ite, if_pos hni, hp w, hq w, h1 w, Result.andThen_ok]
        simpa using this
      · rw [h2']
        constructor
        · intro hh j hj
          rcases List.mem_cons.1 hj with rfl | hj
          · exact h1'.1 rfl
          · exact hh j hj
        · intro hh j hj; exact hh j (by simp [hj])
theorem eqD_array {d : Nat} {t e : TypeId} {n : Nat} {i : TypeInfo} {xs ys : Array Value} {Q : Nat → Prop} (hu : P.underlying t = some (.array n e)) (hi : P.info? e = some i) (h : ∀ j, j < n → ∃ v u, PartIs P e xs (j * P.cellsOf e) v ∧ PartIs P e ys (j * P.cellsOf e) u ∧ EqD P d e v u (Q j)) : EqD P (d + 1) t (.agg xs) (.agg ys) (∀ j, j < n → Q j) := by
  obtain ⟨r, h1, h2⟩ := eqItemsD (P := P) d e (P.cellsOf e) xs ys Q (List.range n) (fun j hj => h j (by simpa using hj))
  exact ⟨r, fun w => (run_equalIn_array w d xs ys hu hi).trans (h1 w), by rw [h2]; simp⟩
theorem eqD_struct {d : Nat} {t : TypeId} {xs ys : Array Value} {Q : Field → Prop} (ht : P.underlying t = some (.struct (P.fieldsOf t))) (hp : P.stoodInHeld t = false) (hn : ∀ f ∈ (P.fieldsOf t).toList, f.name ≠ "_") (h : ∀ f ∈ (P.fieldsOf t).toList, ∃ v u, PartIs P f.type xs f.offset v ∧ PartIs P f.type ys f.offset u ∧ EqD P d f.type v u (Q f)) : EqD P (d + 1) t (.agg xs) (.agg ys) (∀ f ∈ (P.fieldsOf t).toList, Q f) := by
  obtain ⟨r, h1, h2⟩ := eqFieldsD (P := P) d xs ys Q _ hn h
  exact ⟨r, fun w => (run_equalIn_struct w d t xs ys ht hp).trans (h1 w), h2⟩
theorem eqD_int {d : Nat} {t : TypeId} {k k' : IntKind} {a b : Int} (h : P.underlying t = some (.int k')) : EqD P (d + 1) t (.int k a) (.int k b) ((Value.int k a) = .int k b) :=
  ⟨a == b, fun w => run_equalIn_int w d t k k' a b h, by simp⟩
theorem eqD_bool {d : Nat} {t : TypeId} {a b : Bool} (h : P.underlying t = some .bool) : EqD P (d + 1) t (.bool a) (.bool b) ((Value.bool a) = .bool b) :=
  ⟨a == b, fun w => run_equalIn_bool w d t a b h, by simp⟩
theorem eqD_zero {d : Nat} {t : TypeId} (h : P.underlying t = some (.float .f64)) : EqD P (d + 1) t (.float .f64 0) (.float .f64 0) True := ⟨true, eqR_zero h, by simp⟩

/-- Two rows agree from a place on, so many cells. -/
def AgreeOn (x y : Array Value) (o n : Nat) : Prop := ∀ i, o ≤ i → i < o + n → x[i]? = y[i]?
theorem agree_one {x y : Array Value} {o : Nat} {v u : Value} (hx : x[o]? = some v) (hy : y[o]? = some u) : (v = u) ↔ AgreeOn x y o 1 := by
  constructor
  · intro h i h1 h2
    obtain rfl : i = o := by omega
    rw [hx, hy, h]
  · intro h
    have := h o (by omega) (by omega)
    rw [hx, hy] at this
    exact Option.some.inj this
theorem agree_parts {x y : Array Value} {o n z : Nat} (hz : 0 < z) : (∀ j, j < n → AgreeOn x y (o + j * z) z) ↔ AgreeOn x y o (n * z) := by
  constructor
  · intro h i h1 h2
    have hd := Nat.div_add_mod (i - o) z
    have hm := Nat.mod_lt (i - o) hz
    have hlt : (i - o) / z < n := Nat.div_lt_of_lt_mul (by rw [Nat.mul_comm]; omega)
    have hc : (i - o) / z * z = z * ((i - o) / z) := Nat.mul_comm _ _
    exact h _ hlt i (by omega) (by omega)
  · intro h j hj i h1 h2
    have : j * z + z ≤ n * z := by
      have := Nat.mul_le_mul_right z (show j + 1 ≤ n by omega)
      rw [Nat.add_mul, Nat.one_mul] at this
      exact this
    exact h i (by omega) (by omega)
theorem names_ne {fs : List Field} (h : fs.all (fun f => f.name != "_") = true) : ∀ f ∈ fs, f.name ≠ "_" := fun f hf => by
  have := List.all_eq_true.1 h f hf
  simpa using this
end

theorem arg_names : (Tryd.prog.fieldsOf 52).toList.all (fun f => f.name != "_") = true := by kernel_rfl
theorem arg_fields : (Tryd.prog.fieldsOf 52).toList.map (fun f => (f.type, f.offset)) = [(3, 0), (3, 1), (3, 2)] := by kernel_rfl
theorem eqD_arg (d : Nat) (k n p k' n' p' : Int) : EqD Tryd.prog (d + 1 + 1) 52 (.agg #[.int .i64 k, .int .i64 n, .int .i64 p]) (.agg #[.int .i64 k', .int .i64 n', .int .i64 p']) (((k, n, p) : ArgT) = (k', n', p')) := by
  refine (eqD_struct (d := d + 1) (Q := fun f => AgreeOn #[.int .i64 k, .int .i64 n, .int .i64 p] #[.int .i64 k', .int .i64 n', .int .i64 p'] f.offset 1) (by kernel_rfl) (by kernel_rfl) (names_ne arg_names) fun f hf => ?_).iff ?_
  · have hm : (f.type, f.offset) ∈ (Tryd.prog.fieldsOf 52).toList.map (fun f => (f.type, f.offset)) := List.mem_map.2 ⟨f, hf, rfl⟩
    rw [arg_fields] at hm
    simp only [List.mem_cons, Prod.mk.injEq, List.not_mem_nil, or_false] at hm
    rcases hm with ⟨e1, e2⟩ | ⟨e1, e2⟩ | ⟨e1, e2⟩
    all_goals (rw [e1, e2]; exact ⟨_, _, part_cell Tryd.underlying3 rfl rfl, part_cell Tryd.underlying3 rfl rfl, (eqD_int Tryd.underlying3).iff (agree_one rfl rfl)⟩)
  · have hm : ∀ o, o < 3 → ∃ f ∈ (Tryd.prog.fieldsOf 52).toList, f.offset = o := fun o ho => by
      have : o ∈ ((Tryd.prog.fieldsOf 52).toList.map (fun f => (f.type, f.offset))).map Prod.snd := by
        rw [arg_fields]; simp; omega
      simp only [List.map_map, List.mem_map, Function.comp] at this
      obtain ⟨f, hf, e⟩ := this
      exact ⟨f, hf, e⟩
    constructor
    · intro h
      have g : ∀ o, o < 3 → AgreeOn #[.int .i64 k, .int .i64 n, .int .i64 p] #[.int .i64 k', .int .i64 n', .int .i64 p'] o 1 := fun o ho => by
        obtain ⟨f, hf, e⟩ := hm o ho
        have := h f hf
        rwa [e] at this
      have g0 := g 0 (by omega) 0 (by omega) (by omega)
      have g1 := g 1 (by omega) 1 (by omega) (by omega)
      have g2 := g 2 (by omega) 2 (by omega) (by omega)
      simp at g0 g1 g2
      rw [g0, g1, g2]
    · intro h f hf i h1 h2
      simp only [Prod.mk.injEq] at h
      obtain ⟨rfl, rfl, rfl⟩ := h
      rfl
end Go.Proofs.YthjbgjfihfkpcaaDoor
