/- A value held against itself: equality of rows. -/
import Derived.Test.YtlgacbjopobeoaaGreatDoorMbM
import Derived.ChangeKeysEq
import Derived.Laws.StructEq
namespace Go.Proofs.YtlgacbjopobeoaaGreatDoor
open Go.RowKit
set_option linter.unusedVariables false

section
variable {P : Program}
/-- The value is the same as itself. -/
def EqR (P : Program) (d : Nat) (t : TypeId) (v : Value) : Prop := ∀ w, (Op.equalIn d t v v).run P w = .ok true w
/-- A part of a row. -/
def PartIs (P : Program) (t : TypeId) (cs : Array Value) (off : Nat) (v : Value) : Prop := ∀ w, (part t cs off).run P w = .ok v w

theorem eqItems_refl (d : Nat) (e : TypeId) (c : Nat) (xs : Array Value) : ∀ is : List Nat, (∀ i ∈ is, ∃ v, PartIs P e xs (i * c) v ∧ EqR P d e v) → ∀ w, (Op.eqItems d e c xs xs is).run P w = .ok true w
  | [], _, w => by simp [Op.eqItems]
  | i :: is, h, w => by
    obtain ⟨v, hp, he⟩ := h i (by simp)
    have ih := eqItems_refl d e c xs is (fun j hj => h j (by simp [hj])) w
    simp only [Op.eqItems, Sem.run_bind, hp w, he w, Result.andThen_ok]
    simpa using ih
theorem eqFields_refl (d : Nat) (xs : Array Value) : ∀ fs : List Field, (∀ f ∈ fs, ∃ v, PartIs P f.type xs f.offset v ∧ EqR P d f.type v) → ∀ w, (Op.eqFields d xs xs fs).run P w = .ok true w
  | [], _, w => by simp [Op.eqFields]
  | f :: fs, h, w => by
    obtain ⟨v, hp, he⟩ := h f (by simp)
    have ih := eqFields_refl d xs fs (fun j hj => h j (by simp [hj])) w
    simp only [Op.eqFields, Sem.run_bind, Sem.run_ite, hp w, he w, Result.andThen_ok]
    split
    · simpa using ih
    · exact ih
theorem eqR_array {d : Nat} {t e : TypeId} {n : Nat} {i : TypeInfo} {xs : Array Value} (hu : P.underlying t = some (.array n e)) (hi : P.info? e = some i) (h : ∀ j, j < n → ∃ v, PartIs P e xs (j * P.cellsOf e) v ∧ EqR P d e v) : EqR P (d + 1) t (.agg xs) := fun w =>
  (run_equalIn_array w d xs xs hu hi).trans (eqItems_refl d e _ xs _ (fun j hj => h j (by simpa using hj)) w)
theorem eqR_struct {d : Nat} {t : TypeId} {xs : Array Value} (ht : P.underlying t = some (.struct (P.fieldsOf t))) (hp : P.stoodInHeld t = false) (h : ∀ f ∈ (P.fieldsOf t).toList, ∃ v, PartIs P f.type xs f.offset v ∧ EqR P d f.type v) : EqR P (d + 1) t (.agg xs) := fun w =>
  (run_equalIn_struct w d t xs xs ht hp).trans (eqFields_refl d xs _ h w)
theorem eqR_int {d : Nat} {t : TypeId} {k k' : IntKind} {a : Int} (h : P.underlying t = some (.int k')) : EqR P (d + 1) t (.int k a) := fun w => by
  rw [run_equalIn_int w d t k k' a a h]; simp
theorem eqR_bool {d : Nat} {t : TypeId} {a : Bool} (h : P.underlying t = some .bool) : EqR P (d + 1) t (.bool a) := fun w => by
  rw [run_equalIn_bool w d t a a h]; simp
theorem eqR_zero {d : Nat} {t : TypeId} (h : P.underlying t = some (.float .f64)) : EqR P (d + 1) t (.float .f64 0) := fun w => by
  have h0 : Op.floatEq .f64 0 0 = true := by decide +kernel
  simp [Op.equalIn, run_underlying h, h0]
theorem part_cell {t : TypeId} {d : TypeDesc} {cs : Array Value} {off : Nat} {v : Value} (hu : P.underlying t = some d) (hd : d.isRow = false) (hx : cs[off]? = some v) : PartIs P t cs off v := fun w => by
  unfold part isAgg
  simp only [Sem.run_bind, run_underlying hu, Result.andThen_ok]
  cases d <;> simp [TypeDesc.isRow] at hd <;> simp [hx]
theorem part_row {t : TypeId} {d : TypeDesc} {cs : Array Value} {off n : Nat} {i : TypeInfo} (hu : P.underlying t = some d) (hd : d.isRow = true) (hi : P.info? t = some i) (hn : i.size = n) : PartIs P t cs off (.agg (cs.extract off (off + n))) := fun w => by
  unfold part isAgg
  simp only [Sem.run_bind, run_underlying hu, Result.andThen_ok]
  cases d <;> simp [TypeDesc.isRow] at hd <;> simp [sizeOf, typeInfo, hi, hn]
end
end Go.Proofs.YtlgacbjopobeoaaGreatDoor
/- A memory without real numbers is the same as itself. -/
namespace Go.Proofs.YtlgacbjopobeoaaGreatDoor
open Go.RowKit
set_option linter.unusedVariables false

/-- The memory with its real numbers taken off. -/
def noReal (c : Array Value) : Array Value := putAt c 117 (List.replicate 16 (.float .f64 0))
theorem noReal_size (c : Array Value) : (noReal c).size = c.size := putAt_size _ _ _
theorem noReal_get {c : Array Value} (hc : MemOk c) (i : Nat) : (noReal c)[i]? = if 117 ≤ i ∧ i < 133 then some (.float .f64 0) else c[i]? := by
  unfold noReal
  rw [putAt_get _ _ _ (by rw [List.length_replicate, hc.size]; omega), List.length_replicate]
  by_cases h : 117 ≤ i ∧ i < 117 + 16
  · rw [if_pos h, if_pos (by omega), List.getElem?_replicate, if_pos (by omega)]
  · rw [if_neg h, if_neg (by omega)]

theorem mem_fields : (Tryz.prog.fieldsOf 39).toList.map (fun f => (f.type, f.offset)) = [(25, 0), (25, 1), (26, 2), (27, 3), (25, 4), (30, 5), (33, 37), (35, 85), (37, 117), (25, 133), (4, 134), (4, 135)] := by kernel_rfl
theorem timer_fields : (Tryz.prog.fieldsOf 29).toList.map (fun f => (f.type, f.offset)) = [(4, 0), (27, 1)] := by kernel_rfl
theorem counter_fields : (Tryz.prog.fieldsOf 32).toList.map (fun f => (f.type, f.offset)) = [(4, 0), (4, 1), (27, 2)] := by kernel_rfl

theorem ex_get (c : Array Value) (n m i : Nat) (h : i < m - n) : (c.extract n m)[i]? = c[n + i]? := ext_get c n m i h

theorem eqR_timer (d : Nat) {x : Array Value} {b : Bool} {n : Int} (h0 : x[0]? = some (.bool b)) (h1 : x[1]? = some (.int .u16 n)) : EqR Tryz.prog (d + 1 + 1) 29 (.agg x) := by
  refine eqR_struct (by kernel_rfl) (by kernel_rfl) fun f hf => ?_
  have hm : (f.type, f.offset) ∈ (Tryz.prog.fieldsOf 29).toList.map (fun f => (f.type, f.offset)) := List.mem_map.2 ⟨f, hf, rfl⟩
  rw [timer_fields] at hm
  simp only [List.mem_cons, Prod.mk.injEq, List.not_mem_nil, or_false] at hm
  rcases hm with ⟨e1, e2⟩ | ⟨e1, e2⟩
  · rw [e1, e2]; exact ⟨_, part_cell Tryz.underlying4 rfl h0, eqR_bool Tryz.underlying4⟩
  · rw [e1, e2]; exact ⟨_, part_cell Tryz.underlying27 rfl h1, eqR_int Tryz.underlying27⟩
theorem eqR_counter (d : Nat) {x : Array Value} {b l : Bool} {n : Int} (h0 : x[0]? = some (.bool b)) (h1 : x[1]? = some (.bool l)) (h2 : x[2]? = some (.int .u16 n)) : EqR Tryz.prog (d + 1 + 1) 32 (.agg x) := by
  refine eqR_struct (by kernel_rfl) (by kernel_rfl) fun f hf => ?_
  have hm : (f.type, f.offset) ∈ (Tryz.prog.fieldsOf 32).toList.map (fun f => (f.type, f.offset)) := List.mem_map.2 ⟨f, hf, rfl⟩
  rw [counter_fields] at hm
  simp only [List.mem_cons, Prod.mk.injEq, List.not_mem_nil, or_false] at hm
  rcases hm with ⟨e1, e2⟩ | ⟨e1, e2⟩ | ⟨e1, e2⟩
  · rw [e1, e2]; exact ⟨_, part_cell Tryz.underlying4 rfl h0, eqR_bool Tryz.underlying4⟩
  · rw [e1, e2]; exact ⟨_, part_cell Tryz.underlying4 rfl h1, eqR_bool Tryz.underlying4⟩
  · rw [e1, e2]; exact ⟨_, part_cell Tryz.underlying27 rfl h2, eqR_int Tryz.underlying27⟩
theorem cells_timer : Tryz.prog.cellsOf 29 = 2 := by kernel_rfl
theorem cells_counter : Tryz.prog.cellsOf 32 = 3 := by kernel_rfl
theorem cells_i16 : Tryz.prog.cellsOf 34 = 1 := by kernel_rfl
theorem cells_f64 : Tryz.prog.cellsOf 36 = 1 := by kernel_rfl
theorem cells_u64 : Tryz.prog.cellsOf 26 = 1 := by kernel_rfl
theorem some_info {t n : Nat} (h : (Tryz.prog.info? t).map (·.size) = some n) : ∃ i, Tryz.prog.info? t = some i ∧ i.size = n := Option.map_eq_some_iff.1 h

set_option maxRecDepth 100000 in
theorem eqR_mem {c : Array Value} (hc : MemOk c) : EqR Tryz.prog 10000 39 (.agg (noReal c)) := by
  refine eqR_struct (d := 9999) (by kernel_rfl) (by kernel_rfl) fun f hf => ?_
  have hm : (f.type, f.offset) ∈ (Tryz.prog.fieldsOf 39).toList.map (fun f => (f.type, f.offset)) := List.mem_map.2 ⟨f, hf, rfl⟩
  rw [mem_fields] at hm
  have lo : ∀ i, i < 117 ∨ 133 ≤ i → (noReal c)[i]? = c[i]? := fun i hi => by rw [noReal_get hc, if_neg (by omega)]
  have u32 : ∀ i, i < 136 → kd i = 32 → ∃ v, PartIs Tryz.prog 25 (noReal c) i v ∧ EqR Tryz.prog 9999 25 v := fun i hi hk => by
    obtain ⟨n, hn, _⟩ := hc.u32 hi hk
    have h117 : i < 117 ∨ 133 ≤ i := by
      rcases Nat.lt_or_ge i 117 with h | h
      · exact .inl h
      · rcases Nat.lt_or_ge i 133 with h' | h'
        · exfalso
          have := kd_r (k := i - 117) (by omega)
          rw [show 117 + (i - 117) = i by omega, hk] at this
          exact absurd this (by decide)
        · exact .inr h'
    exact ⟨_, part_cell Tryz.underlying25 rfl ((lo i h117).trans hn), eqR_int Tryz.underlying25⟩
  simp only [List.mem_cons, Prod.mk.injEq, List.not_mem_nil, or_false] at hm
  rcases hm with ⟨e1, e2⟩ | ⟨e1, e2⟩ | ⟨e1, e2⟩ | ⟨e1, e2⟩ | ⟨e1, e2⟩ | ⟨e1, e2⟩ | ⟨e1, e2⟩ | ⟨e1, e2⟩ | ⟨e1, e2⟩ | ⟨e1, e2⟩ | ⟨e1, e2⟩ | ⟨e1, e2⟩ <;> rw [e1, e2]
  · exact u32 0 (by omega) rfl
  · exact u32 1 (by omega) rfl
  · obtain ⟨n, hn, _⟩ := hc.u64 (i := 2) (by omega) rfl
    exact ⟨_, part_cell Tryz.underlying26 rfl ((lo 2 (by omega)).trans hn), eqR_int Tryz.underlying26⟩
  · obtain ⟨n, hn, _⟩ := hc.u16 (i := 3) (by omega) rfl
    exact ⟨_, part_cell Tryz.underlying27 rfl ((lo 3 (by omega)).trans hn), eqR_int Tryz.underlying27⟩
  · exact u32 4 (by omega) rfl
  · obtain ⟨i, hi, hs⟩ := some_info (t := 30) (n := 32) (by kernel_rfl)
    obtain ⟨i2, hi2, hs2⟩ := some_info (t := 29) (n := 2) (by kernel_rfl)
    refine ⟨_, part_row Tryz.underlying30 rfl hi hs, eqR_array (d := 9998) Tryz.underlying30 hi2 fun j hj => ?_⟩
    obtain ⟨b, hb⟩ := hc.bool (i := 5 + 2 * j) (by omega) (kd_t hj).1
    obtain ⟨n, hn, _⟩ := hc.u16 (i := 5 + 2 * j + 1) (by omega) (kd_t hj).2
    refine ⟨_, part_row Tryz.underlying29 rfl hi2 hs2, eqR_timer 9996 (b := b) (n := n) ?_ ?_⟩
    · rw [cells_timer, ex_get _ _ _ _ (by omega), ex_get _ _ _ _ (by omega), lo _ (by omega), show 5 + (j * 2 + 0) = 5 + 2 * j by omega]; exact hb
    · rw [cells_timer, ex_get _ _ _ _ (by omega), ex_get _ _ _ _ (by omega), lo _ (by omega), show 5 + (j * 2 + 1) = 5 + 2 * j + 1 by omega]; exact hn
  · obtain ⟨i, hi, hs⟩ := some_info (t := 33) (n := 48) (by kernel_rfl)
    obtain ⟨i2, hi2, hs2⟩ := some_info (t := 32) (n := 3) (by kernel_rfl)
    refine ⟨_, part_row Tryz.underlying33 rfl hi hs, eqR_array (d := 9998) Tryz.underlying33 hi2 fun j hj => ?_⟩
    obtain ⟨b, hb⟩ := hc.bool (i := 37 + 3 * j) (by omega) (kd_c hj).1
    obtain ⟨l, hl⟩ := hc.bool (i := 37 + 3 * j + 1) (by omega) (kd_c hj).2.1
    obtain ⟨n, hn, _⟩ := hc.u16 (i := 37 + 3 * j + 2) (by omega) (kd_c hj).2.2
    refine ⟨_, part_row Tryz.underlying32 rfl hi2 hs2, eqR_counter 9996 (b := b) (l := l) (n := n) ?_ ?_ ?_⟩
    · rw [cells_counter, ex_get _ _ _ _ (by omega), ex_get _ _ _ _ (by omega), lo _ (by omega), show 37 + (j * 3 + 0) = 37 + 3 * j by omega]; exact hb
    · rw [cells_counter, ex_get _ _ _ _ (by omega), ex_get _ _ _ _ (by omega), lo _ (by omega), show 37 + (j * 3 + 1) = 37 + 3 * j + 1 by omega]; exact hl
    · rw [cells_counter, ex_get _ _ _ _ (by omega), ex_get _ _ _ _ (by omega), lo _ (by omega), show 37 + (j * 3 + 2) = 37 + 3 * j + 2 by omega]; exact hn
  · obtain ⟨i, hi, hs⟩ := some_info (t := 35) (n := 32) (by kernel_rfl)
    obtain ⟨i2, hi2, hs2⟩ := some_info (t := 34) (n := 1) (by kernel_rfl)
    refine ⟨_, part_row Tryz.underlying35 rfl hi hs, eqR_array (d := 9998) Tryz.underlying35 hi2 fun j hj => ?_⟩
    obtain ⟨n, hn, _⟩ := hc.i16 (i := 85 + j) (by omega) (kd_d hj)
    refine ⟨_, part_cell Tryz.underlying34 rfl (?_ : _ = some (.int .i16 n)), eqR_int (d := 9997) Tryz.underlying34⟩
    rw [cells_i16, ex_get _ _ _ _ (by omega), lo _ (by omega), Nat.mul_one]; exact hn
  · obtain ⟨i, hi, hs⟩ := some_info (t := 37) (n := 16) (by kernel_rfl)
    obtain ⟨i2, hi2, hs2⟩ := some_info (t := 36) (n := 1) (by kernel_rfl)
    refine ⟨_, part_row Tryz.underlying37 rfl hi hs, eqR_array (d := 9998) Tryz.underlying37 hi2 fun j hj => ?_⟩
    refine ⟨_, part_cell Tryz.underlying36 rfl (?_ : _ = some (.float .f64 0)), eqR_zero (d := 9997) Tryz.underlying36⟩
    rw [cells_f64, ex_get _ _ _ _ (by omega), noReal_get hc, if_pos (by omega)]
  · exact u32 133 (by omega) rfl
  · obtain ⟨b, hb⟩ := hc.bool (i := 134) (by omega) rfl
    exact ⟨_, part_cell Tryz.underlying4 rfl ((lo 134 (by omega)).trans hb), eqR_bool Tryz.underlying4⟩
  · obtain ⟨b, hb⟩ := hc.bool (i := 135) (by omega) rfl
    exact ⟨_, part_cell Tryz.underlying4 rfl ((lo 135 (by omega)).trans hb), eqR_bool Tryz.underlying4⟩
end Go.Proofs.YtlgacbjopobeoaaGreatDoor
/- Two rows held against each other: equality, both ways. -/
namespace Go.Proofs.YtlgacbjopobeoaaGreatDoor
open Go.RowKit
set_option linter.unusedVariables false

section
variable {P : Program}
/-- The two values are the same just if R. -/
def EqD (P : Program) (d : Nat) (t : TypeId) (v u : Value) (R : Prop) : Prop := ∃ r : Bool, (∀ w, (Op.equalIn d t v u).run P w = .ok r w) ∧ (r = true ↔ R)
theorem EqD.iff {d : Nat} {t : TypeId} {v u : Value} {R R' : Prop} (h : EqD P d t v u R) (e : R ↔ R') : EqD P d t v u R' := by
  obtain ⟨r, h1, h2⟩ := h
  exact ⟨r, h1, h2.trans e⟩

theorem eqItemsD (d : Nat) (e : TypeId) (c : Nat) (xs ys : Array Value) (Q : Nat → Prop) : ∀ is : List Nat, (∀ i ∈ is, ∃ v u, PartIs P e xs (i * c) v ∧ PartIs P e ys (i * c) u ∧ EqD P d e v u (Q i)) → ∃ r : Bool, (∀ w, (Op.eqItems d e c xs ys is).run P w = .ok r w) ∧ (r = true ↔ ∀ i ∈ is, Q i)
  | [], _ => ⟨true, fun w => by simp [Op.eqItems], by simp⟩
  | i :: is, h => by
    obtain ⟨v, u, hp, hq, r1, h1, h1'⟩ := h i (by simp)
    obtain ⟨r2, h2, h2'⟩ := eqItemsD d e c xs ys Q is (fun j hj => h j (by simp [hj]))
    cases r1 with
    | false =>
      refine ⟨false, fun w => by simp only [Op.eqItems, Sem.run_bind, hp w, hq w, h1 w, Result.andThen_ok]; simp, ?_⟩
      constructor
      · intro h; cases h
      · intro h; exact absurd (h1'.2 (h i (by simp))) (by simp)
    | true =>
      refine ⟨r2, fun w => ?_, ?_⟩
      · have := h2 w
        simp only [Op.eqItems, Sem.run_bind, hp w, hq w, h1 w, Result.andThen_ok]
        simpa using this
      · rw [h2']
        constructor
        · intro hh j hj
          rcases List.mem_cons.1 hj with rfl | hj
          · exact h1'.1 rfl
          · exact hh j hj
        · intro hh j hj; exact hh j (by simp [hj])
theorem eqFieldsD (d : Nat) (xs ys : Array Value) (Q : Field → Prop) : ∀ fs : List Field, (∀ f ∈ fs, f.name ≠ "_") → (∀ f ∈ fs, ∃ v u, PartIs P f.type xs f.offset v ∧ PartIs P f.type ys f.offset u ∧ EqD P d f.type v u (Q f)) → ∃ r : Bool, (∀ w, (Op.eqFields d xs ys fs).run P w = .ok r w) ∧ (r = true ↔ ∀ f ∈ fs, Q f)
  | [], _, _ => ⟨true, fun w => by simp [Op.eqFields], by simp⟩
  | i :: is, hn, h => by
    obtain ⟨v, u, hp, hq, r1, h1, h1'⟩ := h i (by simp)
    obtain ⟨r2, h2, h2'⟩ := eqFieldsD d xs ys Q is (fun j hj => hn j (by simp [hj])) (fun j hj => h j (by simp [hj]))
    have hni := hn i (by simp)
    cases r1 with
    | false =>
      refine ⟨false, fun w => by simp only [Op.eqFields, Sem.run_bind, Sem.run_ite, if_pos hni, hp w, hq w, h1 w, Result.andThen_ok]; simp, ?_⟩
      constructor
      · intro h; cases h
      · intro h; exact absurd (h1'.2 (h i (by simp))) (by simp)
    | true =>
      refine ⟨r2, fun w => ?_, ?_⟩
      · have := h2 w
        simp only [Op.eqFields, Sem.run_bind, Sem.run_ite, if_pos hni, hp w, hq w, h1 w, Result.andThen_ok]
        simpa using this
      · rw [h2']
        constructor
        · intro hh j hj
          rcases List.mem_cons.1 hj with rfl | hj
          · exact h1'.1 rfl
          · exact hh j hj
        · intro hh j hj; exact hh j (by simp [hj])
theorem eqD_array {d : Nat} {t e : TypeId} {n : Nat} {i : TypeInfo} {xs ys : Array Value} {Q : Nat → Prop} (hu : P.underlying t = some (.array n e)) (hi : P.info? e = some i) (h : ∀ j, j < n → ∃ v u, PartIs P e xs (j * P.cellsOf e) v ∧ PartIs P e ys (j * P.cellsOf e) u ∧ EqD P d e v u (Q j)) : EqD P (d + 1) t (.agg xs) (.agg ys) (∀ j, j < n → Q j) := by
  obtain ⟨r, h1, h2⟩ := eqItemsD (P := P) d e (P.cellsOf e) xs ys Q (List.range n) (fun j hj => h j (by simpa using hj))
  exact ⟨r, fun w => (run_equalIn_array w d xs ys hu hi).trans (h1 w), by rw [h2]; simp⟩
theorem eqD_struct {d : Nat} {t : TypeId} {xs ys : Array Value} {Q : Field → Prop} (ht : P.underlying t = some (.struct (P.fieldsOf t))) (hp : P.stoodInHeld t = false) (hn : ∀ f ∈ (P.fieldsOf t).toList, f.name ≠ "_") (h : ∀ f ∈ (P.fieldsOf t).toList, ∃ v u, PartIs P f.type xs f.offset v ∧ PartIs P f.type ys f.offset u ∧ EqD P d f.type v u (Q f)) : EqD P (d + 1) t (.agg xs) (.agg ys) (∀ f ∈ (P.fieldsOf t).toList, Q f) := by
  obtain ⟨r, h1, h2⟩ := eqFieldsD (P := P) d xs ys Q _ hn h
  exact ⟨r, fun w => (run_equalIn_struct w d t xs ys ht hp).trans (h1 w), h2⟩
theorem eqD_int {d : Nat} {t : TypeId} {k k' : IntKind} {a b : Int} (h : P.underlying t = some (.int k')) : EqD P (d + 1) t (.int k a) (.int k b) ((Value.int k a) = .int k b) :=
  ⟨a == b, fun w => run_equalIn_int w d t k k' a b h, by simp⟩
theorem eqD_bool {d : Nat} {t : TypeId} {a b : Bool} (h : P.underlying t = some .bool) : EqD P (d + 1) t (.bool a) (.bool b) ((Value.bool a) = .bool b) :=
  ⟨a == b, fun w => run_equalIn_bool w d t a b h, by simp⟩
theorem eqD_zero {d : Nat} {t : TypeId} (h : P.underlying t = some (.float .f64)) : EqD P (d + 1) t (.float .f64 0) (.float .f64 0) True := ⟨true, eqR_zero h, by simp⟩
end

/-- Two rows agree from a place on, so many cells. -/
def AgreeOn (x y : Array Value) (o n : Nat) : Prop := ∀ i, o ≤ i → i < o + n → x[i]? = y[i]?
theorem agree_one {x y : Array Value} {o : Nat} {v u : Value} (hx : x[o]? = some v) (hy : y[o]? = some u) : (v = u) ↔ AgreeOn x y o 1 := by
  constructor
  · intro h i h1 h2
    obtain rfl : i = o := by omega
    rw [hx, hy, h]
  · intro h
    have := h o (by omega) (by omega)
    rw [hx, hy] at this
    exact Option.some.inj this
theorem agree_parts {x y : Array Value} {o n z : Nat} (hz : 0 < z) : (∀ j, j < n → AgreeOn x y (o + j * z) z) ↔ AgreeOn x y o (n * z) := by
  constructor
  · intro h i h1 h2
    have hd := Nat.div_add_mod (i - o) z
    have hm := Nat.mod_lt (i - o) hz
    have hlt : (i - o) / z < n := Nat.div_lt_of_lt_mul (by rw [Nat.mul_comm]; omega)
    have hc : (i - o) / z * z = z * ((i - o) / z) := Nat.mul_comm _ _
    exact h _ hlt i (by omega) (by omega)
  · intro h j hj i h1 h2
    have : j * z + z ≤ n * z := by
      have := Nat.mul_le_mul_right z (show j + 1 ≤ n by omega)
      rw [Nat.add_mul, Nat.one_mul] at this
      exact this
    exact h i (by omega) (by omega)
theorem ex_agree {x y : Array Value} {o n p m : Nat} (h : p + m ≤ n) : AgreeOn (x.extract o (o + n)) (y.extract o (o + n)) p m ↔ AgreeOn x y (o + p) m := by
  constructor
  · intro hh i h1 h2
    have := hh (i - o) (by omega) (by omega)
    rw [ex_get _ _ _ _ (by omega), ex_get _ _ _ _ (by omega), show o + (i - o) = i by omega] at this
    exact this
  · intro hh i h1 h2
    rw [ex_get _ _ _ _ (by omega), ex_get _ _ _ _ (by omega)]
    exact hh (o + i) (by omega) (by omega)

theorem timer_names : (Tryz.prog.fieldsOf 29).toList.all (fun f => f.name != "_") = true := by kernel_rfl
theorem counter_names : (Tryz.prog.fieldsOf 32).toList.all (fun f => f.name != "_") = true := by kernel_rfl
theorem mem_names : (Tryz.prog.fieldsOf 39).toList.all (fun f => f.name != "_") = true := by kernel_rfl
theorem names_ne {fs : List Field} (h : fs.all (fun f => f.name != "_") = true) : ∀ f ∈ fs, f.name ≠ "_" := fun f hf => by
  have := List.all_eq_true.1 h f hf
  simpa using this

theorem eqD_timer (d : Nat) {x y : Array Value} {b b' : Bool} {n n' : Int} (h0 : x[0]? = some (.bool b)) (h1 : x[1]? = some (.int .u16 n)) (k0 : y[0]? = some (.bool b')) (k1 : y[1]? = some (.int .u16 n')) : EqD Tryz.prog (d + 1 + 1) 29 (.agg x) (.agg y) (AgreeOn x y 0 2) := by
  refine (eqD_struct (d := d + 1) (Q := fun f => AgreeOn x y f.offset 1) (by kernel_rfl) (by kernel_rfl) (names_ne timer_names) fun f hf => ?_).iff ?_
  · have hm : (f.type, f.offset) ∈ (Tryz.prog.fieldsOf 29).toList.map (fun f => (f.type, f.offset)) := List.mem_map.2 ⟨f, hf, rfl⟩
    rw [timer_fields] at hm
    simp only [List.mem_cons, Prod.mk.injEq, List.not_mem_nil, or_false] at hm
    rcases hm with ⟨e1, e2⟩ | ⟨e1, e2⟩
    · rw [e1, e2]; exact ⟨_, _, part_cell Tryz.underlying4 rfl h0, part_cell Tryz.underlying4 rfl k0, (eqD_bool Tryz.underlying4).iff (agree_one h0 k0)⟩
    · rw [e1, e2]; exact ⟨_, _, part_cell Tryz.underlying27 rfl h1, part_cell Tryz.underlying27 rfl k1, (eqD_int Tryz.underlying27).iff (agree_one h1 k1)⟩
  · have hm : ∀ o, o < 2 → ∃ f ∈ (Tryz.prog.fieldsOf 29).toList, f.offset = o := fun o ho => by
      have : o ∈ ((Tryz.prog.fieldsOf 29).toList.map (fun f => (f.type, f.offset))).map Prod.snd := by
        rw [timer_fields]; simp; omega
      simp only [List.map_map, List.mem_map, Function.comp] at this
      obtain ⟨f, hf, e⟩ := this
      exact ⟨f, hf, e⟩
    constructor
    · intro h i h1 h2
      obtain ⟨f, hf, e⟩ := hm i (by omega)
      exact h f hf i (by omega) (by omega)
    · intro h f hf i h1 h2
      have hm2 : (f.type, f.offset) ∈ (Tryz.prog.fieldsOf 29).toList.map (fun f => (f.type, f.offset)) := List.mem_map.2 ⟨f, hf, rfl⟩
      rw [timer_fields] at hm2
      simp only [List.mem_cons, Prod.mk.injEq, List.not_mem_nil, or_false] at hm2
      exact h i (by omega) (by rcases hm2 with ⟨_, e⟩ | ⟨_, e⟩ <;> omega)
theorem eqD_counter (d : Nat) {x y : Array Value} {b b' l l' : Bool} {n n' : Int} (h0 : x[0]? = some (.bool b)) (h1 : x[1]? = some (.bool l)) (h2 : x[2]? = some (.int .u16 n)) (k0 : y[0]? = some (.bool b')) (k1 : y[1]? = some (.bool l')) (k2 : y[2]? = some (.int .u16 n')) : EqD Tryz.prog (d + 1 + 1) 32 (.agg x) (.agg y) (AgreeOn x y 0 3) := by
  refine (eqD_struct (d := d + 1) (Q := fun f => AgreeOn x y f.offset 1) (by kernel_rfl) (by kernel_rfl) (names_ne counter_names) fun f hf => ?_).iff ?_
  · have hm : (f.type, f.offset) ∈ (Tryz.prog.fieldsOf 32).toList.map (fun f => (f.type, f.offset)) := List.mem_map.2 ⟨f, hf, rfl⟩
    rw [counter_fields] at hm
    simp only [List.mem_cons, Prod.mk.injEq, List.not_mem_nil, or_false] at hm
    rcases hm with ⟨e1, e2⟩ | ⟨e1, e2⟩ | ⟨e1, e2⟩
    · rw [e1, e2]; exact ⟨_, _, part_cell Tryz.underlying4 rfl h0, part_cell Tryz.underlying4 rfl k0, (eqD_bool Tryz.underlying4).iff (agree_one h0 k0)⟩
    · rw [e1, e2]; exact ⟨_, _, part_cell Tryz.underlying4 rfl h1, part_cell Tryz.underlying4 rfl k1, (eqD_bool Tryz.underlying4).iff (agree_one h1 k1)⟩
    · rw [e1, e2]; exact ⟨_, _, part_cell Tryz.underlying27 rfl h2, part_cell Tryz.underlying27 rfl k2, (eqD_int Tryz.underlying27).iff (agree_one h2 k2)⟩
  · have hm : ∀ o, o < 3 → ∃ f ∈ (Tryz.prog.fieldsOf 32).toList, f.offset = o := fun o ho => by
      have : o ∈ ((Tryz.prog.fieldsOf 32).toList.map (fun f => (f.type, f.offset))).map Prod.snd := by
        rw [counter_fields]; simp; omega
      simp only [List.map_map, List.mem_map, Function.comp] at this
      obtain ⟨f, hf, e⟩ := this
      exact ⟨f, hf, e⟩
    constructor
    · intro h i h1 h2
      obtain ⟨f, hf, e⟩ := hm i (by omega)
      exact h f hf i (by omega) (by omega)
    · intro h f hf i h1 h2
      have hm2 : (f.type, f.offset) ∈ (Tryz.prog.fieldsOf 32).toList.map (fun f => (f.type, f.offset)) := List.mem_map.2 ⟨f, hf, rfl⟩
      rw [counter_fields] at hm2
      simp only [List.mem_cons, Prod.mk.injEq, List.not_mem_nil, or_false] at hm2
      exact h i (by omega) (by rcases hm2 with ⟨_, e⟩ | ⟨_, e⟩ | ⟨_, e⟩ <;> omega)

/-- How many cells a field of the memory takes, by its place. -/
def fsz (o : Nat) : Nat := if o = 5 then 32 else if o = 37 then 48 else if o = 85 then 32 else if o = 117 then 16 else 1

set_option maxRecDepth 100000 in
theorem eqD_mem {c d : Array Value} (hc : MemOk c) (hd : MemOk d) : EqD Tryz.prog 10000 39 (.agg (noReal c)) (.agg (noReal d)) (AgreeOn (noReal c) (noReal d) 0 136) := by
  have lo : ∀ i, i < 117 ∨ 133 ≤ i → (noReal c)[i]? = c[i]? := fun i hi => by rw [noReal_get hc, if_neg (by omega)]
  have lod : ∀ i, i < 117 ∨ 133 ≤ i → (noReal d)[i]? = d[i]? := fun i hi => by rw [noReal_get hd, if_neg (by omega)]
  refine (eqD_struct (d := 9999) (Q := fun f => AgreeOn (noReal c) (noReal d) f.offset (fsz f.offset)) (by kernel_rfl) (by kernel_rfl) (names_ne mem_names) fun f hf => ?_).iff ?_
  · have hm : (f.type, f.offset) ∈ (Tryz.prog.fieldsOf 39).toList.map (fun f => (f.type, f.offset)) := List.mem_map.2 ⟨f, hf, rfl⟩
    rw [mem_fields] at hm
    have u32 : ∀ i, i < 136 → kd i = 32 → (i < 117 ∨ 133 ≤ i) → fsz i = 1 → ∃ v u, PartIs Tryz.prog 25 (noReal c) i v ∧ PartIs Tryz.prog 25 (noReal d) i u ∧ EqD Tryz.prog 9999 25 v u (AgreeOn (noReal c) (noReal d) i (fsz i)) := fun i hi hk hl hf => by
      obtain ⟨n, hn, _⟩ := hc.u32 hi hk
      obtain ⟨n', hn', _⟩ := hd.u32 hi hk
      rw [hf]
      exact ⟨_, _, part_cell Tryz.underlying25 rfl ((lo i hl).trans hn), part_cell Tryz.underlying25 rfl ((lod i hl).trans hn'), (eqD_int (d := 9998) Tryz.underlying25).iff (agree_one ((lo i hl).trans hn) ((lod i hl).trans hn'))⟩
    have bl : ∀ i, i < 136 → kd i = 1 → (i < 117 ∨ 133 ≤ i) → fsz i = 1 → ∃ v u, PartIs Tryz.prog 4 (noReal c) i v ∧ PartIs Tryz.prog 4 (noReal d) i u ∧ EqD Tryz.prog 9999 4 v u (AgreeOn (noReal c) (noReal d) i (fsz i)) := fun i hi hk hl hf => by
      obtain ⟨n, hn⟩ := hc.bool hi hk
      obtain ⟨n', hn'⟩ := hd.bool hi hk
      rw [hf]
      exact ⟨_, _, part_cell Tryz.underlying4 rfl ((lo i hl).trans hn), part_cell Tryz.underlying4 rfl ((lod i hl).trans hn'), (eqD_bool (d := 9998) Tryz.underlying4).iff (agree_one ((lo i hl).trans hn) ((lod i hl).trans hn'))⟩
    simp only [List.mem_cons, Prod.mk.injEq, List.not_mem_nil, or_false] at hm
    rcases hm with ⟨e1, e2⟩ | ⟨e1, e2⟩ | ⟨e1, e2⟩ | ⟨e1, e2⟩ | ⟨e1, e2⟩ | ⟨e1, e2⟩ | ⟨e1, e2⟩ | ⟨e1, e2⟩ | ⟨e1, e2⟩ | ⟨e1, e2⟩ | ⟨e1, e2⟩ | ⟨e1, e2⟩ <;> rw [e1, e2]
    · exact u32 0 (by omega) rfl (by omega) rfl
    · exact u32 1 (by omega) rfl (by omega) rfl
    · obtain ⟨n, hn, _⟩ := hc.u64 (i := 2) (by omega) rfl
      obtain ⟨n', hn', _⟩ := hd.u64 (i := 2) (by omega) rfl
      exact ⟨_, _, part_cell Tryz.underlying26 rfl ((lo 2 (by omega)).trans hn), part_cell Tryz.underlying26 rfl ((lod 2 (by omega)).trans hn'), (eqD_int (d := 9998) Tryz.underlying26).iff (agree_one ((lo 2 (by omega)).trans hn) ((lod 2 (by omega)).trans hn'))⟩
    · obtain ⟨n, hn, _⟩ := hc.u16 (i := 3) (by omega) rfl
      obtain ⟨n', hn', _⟩ := hd.u16 (i := 3) (by omega) rfl
      exact ⟨_, _, part_cell Tryz.underlying27 rfl ((lo 3 (by omega)).trans hn), part_cell Tryz.underlying27 rfl ((lod 3 (by omega)).trans hn'), (eqD_int (d := 9998) Tryz.underlying27).iff (agree_one ((lo 3 (by omega)).trans hn) ((lod 3 (by omega)).trans hn'))⟩
    · exact u32 4 (by omega) rfl (by omega) rfl
    · obtain ⟨i, hi, hs⟩ := some_info (t := 30) (n := 32) (by kernel_rfl)
      obtain ⟨i2, hi2, hs2⟩ := some_info (t := 29) (n := 2) (by kernel_rfl)
      refine ⟨_, _, part_row Tryz.underlying30 rfl hi hs, part_row Tryz.underlying30 rfl hi hs, (eqD_array (d := 9998) (Q := fun j => AgreeOn (noReal c) (noReal d) (5 + j * 2) 2) Tryz.underlying30 hi2 fun j hj => ?_).iff (agree_parts (o := 5) (n := 16) (z := 2) (by omega))⟩
      obtain ⟨b, hb⟩ := hc.bool (i := 5 + 2 * j) (by omega) (kd_t hj).1
      obtain ⟨n, hn, _⟩ := hc.u16 (i := 5 + 2 * j + 1) (by omega) (kd_t hj).2
      obtain ⟨b', hb'⟩ := hd.bool (i := 5 + 2 * j) (by omega) (kd_t hj).1
      obtain ⟨n', hn', _⟩ := hd.u16 (i := 5 + 2 * j + 1) (by omega) (kd_t hj).2
      rw [cells_timer]
      refine ⟨_, _, part_row Tryz.underlying29 rfl hi2 hs2, part_row Tryz.underlying29 rfl hi2 hs2, (eqD_timer 9996 (b := b) (n := n) (b' := b') (n' := n') ?_ ?_ ?_ ?_).iff ?_⟩
      · rw [ex_get _ _ _ _ (by omega), ex_get _ _ _ _ (by omega), lo _ (by omega), show 5 + (j * 2 + 0) = 5 + 2 * j by omega]; exact hb
      · rw [ex_get _ _ _ _ (by omega), ex_get _ _ _ _ (by omega), lo _ (by omega), show 5 + (j * 2 + 1) = 5 + 2 * j + 1 by omega]; exact hn
      · rw [ex_get _ _ _ _ (by omega), ex_get _ _ _ _ (by omega), lod _ (by omega), show 5 + (j * 2 + 0) = 5 + 2 * j by omega]; exact hb'
      · rw [ex_get _ _ _ _ (by omega), ex_get _ _ _ _ (by omega), lod _ (by omega), show 5 + (j * 2 + 1) = 5 + 2 * j + 1 by omega]; exact hn'
      · rw [ex_agree (by omega), Nat.add_zero, ex_agree (by omega)]; exact Iff.rfl
    · obtain ⟨i, hi, hs⟩ := some_info (t := 33) (n := 48) (by kernel_rfl)
      obtain ⟨i2, hi2, hs2⟩ := some_info (t := 32) (n := 3) (by kernel_rfl)
      refine ⟨_, _, part_row Tryz.underlying33 rfl hi hs, part_row Tryz.underlying33 rfl hi hs, (eqD_array (d := 9998) (Q := fun j => AgreeOn (noReal c) (noReal d) (37 + j * 3) 3) Tryz.underlying33 hi2 fun j hj => ?_).iff (agree_parts (o := 37) (n := 16) (z := 3) (by omega))⟩
      obtain ⟨b, hb⟩ := hc.bool (i := 37 + 3 * j) (by omega) (kd_c hj).1
      obtain ⟨l, hl⟩ := hc.bool (i := 37 + 3 * j + 1) (by omega) (kd_c hj).2.1
      obtain ⟨n, hn, _⟩ := hc.u16 (i := 37 + 3 * j + 2) (by omega) (kd_c hj).2.2
      obtain ⟨b', hb'⟩ := hd.bool (i := 37 + 3 * j) (by omega) (kd_c hj).1
      obtain ⟨l', hl'⟩ := hd.bool (i := 37 + 3 * j + 1) (by omega) (kd_c hj).2.1
      obtain ⟨n', hn', _⟩ := hd.u16 (i := 37 + 3 * j + 2) (by omega) (kd_c hj).2.2
      rw [cells_counter]
      refine ⟨_, _, part_row Tryz.underlying32 rfl hi2 hs2, part_row Tryz.underlying32 rfl hi2 hs2, (eqD_counter 9996 (b := b) (l := l) (n := n) (b' := b') (l' := l') (n' := n') ?_ ?_ ?_ ?_ ?_ ?_).iff ?_⟩
      · rw [ex_get _ _ _ _ (by omega), ex_get _ _ _ _ (by omega), lo _ (by omega), show 37 + (j * 3 + 0) = 37 + 3 * j by omega]; exact hb
      · rw [ex_get _ _ _ _ (by omega), ex_get _ _ _ _ (by omega), lo _ (by omega), show 37 + (j * 3 + 1) = 37 + 3 * j + 1 by omega]; exact hl
      · rw [ex_get _ _ _ _ (by omega), ex_get _ _ _ _ (by omega), lo _ (by omega), show 37 + (j * 3 + 2) = 37 + 3 * j + 2 by omega]; exact hn
      · rw [ex_get _ _ _ _ (by omega), ex_get _ _ _ _ (by omega), lod _ (by omega), show 37 + (j * 3 + 0) = 37 + 3 * j by omega]; exact hb'
      · rw [ex_get _ _ _ _ (by omega), ex_get _ _ _ _ (by omega), lod _ (by omega), show 37 + (j * 3 + 1) = 37 + 3 * j + 1 by omega]; exact hl'
      · rw [ex_get _ _ _ _ (by omega), ex_get _ _ _ _ (by omega), lod _ (by omega), show 37 + (j * 3 + 2) = 37 + 3 * j + 2 by omega]; exact hn'
      · rw [ex_agree (by omega), Nat.add_zero, ex_agree (by omega)]; exact Iff.rfl
    · obtain ⟨i, hi, hs⟩ := some_info (t := 35) (n := 32) (by kernel_rfl)
      obtain ⟨i2, hi2, hs2⟩ := some_info (t := 34) (n := 1) (by kernel_rfl)
      refine ⟨_, _, part_row Tryz.underlying35 rfl hi hs, part_row Tryz.underlying35 rfl hi hs, (eqD_array (d := 9998) (Q := fun j => AgreeOn (noReal c) (noReal d) (85 + j * 1) 1) Tryz.underlying35 hi2 fun j hj => ?_).iff (agree_parts (o := 85) (n := 32) (z := 1) (by omega))⟩
      obtain ⟨n, hn, _⟩ := hc.i16 (i := 85 + j) (by omega) (kd_d hj)
      obtain ⟨n', hn', _⟩ := hd.i16 (i := 85 + j) (by omega) (kd_d hj)
      have x1 : ((noReal c).extract 85 (85 + 32))[j * 1]? = some (.int .i16 n) := by rw [ex_get _ _ _ _ (by omega), lo _ (by omega), Nat.mul_one]; exact hn
      have x2 : ((noReal d).extract 85 (85 + 32))[j * 1]? = some (.int .i16 n') := by rw [ex_get _ _ _ _ (by omega), lod _ (by omega), Nat.mul_one]; exact hn'
      rw [cells_i16]
      refine ⟨_, _, part_cell Tryz.underlying34 rfl x1, part_cell Tryz.underlying34 rfl x2, (eqD_int (d := 9997) Tryz.underlying34).iff ((agree_one x1 x2).trans ?_)⟩
      rw [ex_agree (by omega)]
    · obtain ⟨i, hi, hs⟩ := some_info (t := 37) (n := 16) (by kernel_rfl)
      obtain ⟨i2, hi2, hs2⟩ := some_info (t := 36) (n := 1) (by kernel_rfl)
      refine ⟨_, _, part_row Tryz.underlying37 rfl hi hs, part_row Tryz.underlying37 rfl hi hs, (eqD_array (d := 9998) (Q := fun j => True) Tryz.underlying37 hi2 fun j hj => ?_).iff ?_⟩
      · have x1 : ∀ e : Array Value, MemOk e → ((noReal e).extract 117 (117 + 16))[j * Tryz.prog.cellsOf 36]? = some (.float .f64 0) := fun e he => by rw [cells_f64, ex_get _ _ _ _ (by omega), noReal_get he, if_pos (by omega)]
        exact ⟨_, _, part_cell Tryz.underlying36 rfl (x1 c hc), part_cell Tryz.underlying36 rfl (x1 d hd), eqD_zero (d := 9997) Tryz.underlying36⟩
      · constructor
        · intro _ i h1 h2
          rw [show fsz 117 = 16 from rfl] at h2
          rw [noReal_get hc, noReal_get hd, if_pos (by omega), if_pos (by omega)]
        · intro _ _ _; trivial
    · exact u32 133 (by omega) rfl (by omega) rfl
    · exact bl 134 (by omega) rfl (by omega) rfl
    · exact bl 135 (by omega) rfl (by omega) rfl
  · have hm : ∀ o ∈ [0, 1, 2, 3, 4, 5, 37, 85, 117, 133, 134, 135], ∃ f ∈ (Tryz.prog.fieldsOf 39).toList, f.offset = o := fun o ho => by
      have : o ∈ ((Tryz.prog.fieldsOf 39).toList.map (fun f => (f.type, f.offset))).map Prod.snd := by
        rw [mem_fields]; simpa using ho
      simp only [List.map_map, List.mem_map, Function.comp] at this
      obtain ⟨f, hf, e⟩ := this
      exact ⟨f, hf, e⟩
    have cov : ∀ i, i < 136 → ∃ o ∈ [0, 1, 2, 3, 4, 5, 37, 85, 117, 133, 134, 135], o ≤ i ∧ i < o + fsz o := fun i hi => by
      have : (List.range 136).all (fun i => [0, 1, 2, 3, 4, 5, 37, 85, 117, 133, 134, 135].any fun o => decide (o ≤ i) && decide (i < o + fsz o)) = true := by decide
      have := List.all_eq_true.1 this i (by simpa using hi)
      obtain ⟨o, ho, h⟩ := List.any_eq_true.1 this
      simp only [Bool.and_eq_true, decide_eq_true_eq] at h
      exact ⟨o, ho, h⟩
    constructor
    · intro h i h1 h2
      obtain ⟨o, ho, o1, o2⟩ := cov i (by omega)
      obtain ⟨f, hf, e⟩ := hm o ho
      exact h f hf i (by omega) (by rw [e]; exact o2)
    · intro h f hf i h1 h2
      have hm2 : (f.type, f.offset) ∈ (Tryz.prog.fieldsOf 39).toList.map (fun f => (f.type, f.offset)) := List.mem_map.2 ⟨f, hf, rfl⟩
      rw [mem_fields] at hm2
      have h136 : f.offset + fsz f.offset ≤ 136 := by
        have hmm : f.offset ∈ [0, 1, 2, 3, 4, 5, 37, 85, 117, 133, 134, 135] := by
          have := List.mem_map_of_mem (f := Prod.snd) hm2
          simpa using this
        have : ([0, 1, 2, 3, 4, 5, 37, 85, 117, 133, 134, 135] : List Nat).all (fun o => decide (o + fsz o ≤ 136)) = true := by decide
        simpa using List.all_eq_true.1 this _ hmm
      exact h i (by omega) (by omega)
end Go.Proofs.YtlgacbjopobeoaaGreatDoor
