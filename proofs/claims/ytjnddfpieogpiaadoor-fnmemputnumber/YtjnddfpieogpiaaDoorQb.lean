/- A value held against itself: equality of rows. -/
import Derived.Test.YtjnddfpieogpiaaDoorMd
import Derived.ChangeKeysEq
import Derived.Laws.StructEq
namespace Go.Proofs.YtjnddfpieogpiaaDoor
open Go.RowKit
set_option linter.unusedVariables false

section
variable {P : Program}
/-- The value is the same as itself. -/
def EqR (P : Program) (d : Nat) (t : TypeId) (v : Value) : Prop := ∀ w, (Op.equalIn d t v v).run P w = .ok true w
/-- A part of a row. -/
def PartIs (P : Program) (t : TypeId) (cs : Array Value) (off : Nat) (v : Value) : Prop := ∀ w, (part t cs off).run P w = .ok v w

theorem eqItems_refl (d : Nat) (e : TypeId) (c : Nat) (xs : Array Value) : ∀ is : List Nat, (∀ i ∈ is, ∃ v, PartIs P e xs (i * c) v ∧ EqR P d e v) → ∀ w, (Op.eqItems d e c xs xs is).run P w = .ok true w
  | [], _, w => by simp [Op.eqItems]
  | i :: is, h, w => by
    obtain ⟨v, hp, he⟩ := h i (by simp)
    have ih := eqItems_refl d e c xs is (fun j hj => h j (by simp [hj])) w
    simp only [Op.eqItems, Sem.run_bind, hp w, he w, Result.andThen_ok]
    simpa using ih
theorem eqFields_refl (d : Nat) (xs : Array Value) : ∀ fs : List Field, (∀ f ∈ fs, ∃ v, PartIs P f.type xs f.offset v ∧ EqR P d f.type v) → ∀ w, (Op.eqFields d xs xs fs).run P w = .ok true w
  | [], _, w => by simp [Op.eqFields]
  | f :: fs, h, w => by
    obtain ⟨v, hp, he⟩ := h f (by simp)
    have ih := eqFields_refl d xs fs (fun j hj => h j (by simp [hj])) w
    simp only [Op.eqFields, Sem.run_bind, Sem.run_ite, hp w, he w, Result.andThen_ok]
    split
    · simpa using ih
    · exact ih
theorem eqR_array {d : Nat} {t e : TypeId} {n : Nat} {i : TypeInfo} {xs : Array Value} (hu : P.underlying t = some (.array n e)) (hi : P.info? e = some i) (h : ∀ j, j < n → ∃ v, PartIs P e xs (j * P.cellsOf e) v ∧ EqR P d e v) : EqR P (d + 1) t (.agg xs) := fun w =>
  (run_equalIn_array w d xs xs hu hi).trans (eqItems_refl d e _ xs _ (fun j hj => h j (by simpa using hj)) w)
theorem eqR_struct {d : Nat} {t : TypeId} {xs : Array Value} (ht : P.underlying t = some (.struct (P.fieldsOf t))) (hp : P.stoodInHeld t = false) (h : ∀ f ∈ (P.fieldsOf t).toList, ∃ v, PartIs P f.type xs f.offset v ∧ EqR P d f.type v) : EqR P (d + 1) t (.agg xs) := fun w =>
  (run_equalIn_struct w d t xs xs ht hp).trans (eqFields_refl d xs _ h w)
theorem eqR_int {d : Nat} {t : TypeId} {k k' : IntKind} {a : Int} (h : P.underlying t = some (.int k')) : EqR P (d + 1) t (.int k a) := fun w => by
  rw [run_equalIn_int w d t k k' a a h]; simp
theorem eqR_bool {d : Nat} {t : TypeId} {a : Bool} (h : P.underlying t = some .bool) : EqR P (d + 1) t (.bool a) := fun w => by
  rw [run_equalIn_bool w d t a a h]; simp
theorem eqR_zero {d : Nat} {t : TypeId} (h : P.underlying t = some (.float .f64)) : EqR P (d + 1) t (.float .f64 0) := fun w => by
  have h0 : Op.floatEq .f64 0 0 = true := by decide +kernel
  simp [Op.equalIn, run_underlying h, h0]
theorem part_cell {t : TypeId} {d : TypeDesc} {cs : Array Value} {off : Nat} {v : Value} (hu : P.underlying t = some d) (hd : d.isRow = false) (hx : cs[off]? = some v) : PartIs P t cs off v := fun w => by
  unfold part isAgg
  simp only [Sem.run_bind, run_underlying hu, Result.andThen_ok]
  cases d <;> simp [TypeDesc.isRow] at hd <;> simp [hx]
theorem part_row {t : TypeId} {d : TypeDesc} {cs : Array Value} {off n : Nat} {i : TypeInfo} (hu : P.underlying t = some d) (hd : d.isRow = true) (hi : P.info? t = some i) (hn : i.size = n) : PartIs P t cs off (.agg (cs.extract off (off + n))) := fun w => by
  unfold part isAgg
  simp only [Sem.run_bind, run_underlying hu, Result.andThen_ok]
  cases d <;> simp [TypeDesc.isRow] at hd <;> simp [sizeOf, typeInfo, hi, hn]
end
end Go.Proofs.YtjnddfpieogpiaaDoor
