/- Ladders that are owned: each row lies in a block of its own; the footprint is the list of these blocks. -/
import Derived.Test.YtcmmiamnbefefaaDoorGz
import Derived.Laws.AppendOwn
import Derived.Laws.OwnMore
namespace Go.Proofs.YtcmmiamnbefefaaDoor
open Go.RowKit
set_option linter.unusedVariables false

/-- Elements one behind the other, of so many cells each, with the blocks that each of them owns. -/
inductive Each {α : Type} (R : List Nat → α → List Value → Prop) (z : Nat) : List Nat → List α → List Value → Prop
  | nil : Each R z [] [] []
  | add {F : List Nat} {xs : List α} {cs : List Value} {f : List Nat} {x : α} {c : List Value} (h : Each R z F xs cs) (hc : c.length = z) (hr : R f x c) : Each R z (F ++ f) (xs ++ [x]) (cs ++ c)
theorem Each.len {α : Type} {R : List Nat → α → List Value → Prop} {z : Nat} {F : List Nat} {xs : List α} {cs : List Value} (h : Each R z F xs cs) : cs.length = xs.length * z := by
  induction h with
  | nil => simp
  | add h hc hr ih => simp [ih, hc, Nat.add_mul]
theorem Each.move {α : Type} {R R' : List Nat → α → List Value → Prop} {z : Nat} {F : List Nat} {xs : List α} {cs : List Value} (h : Each R z F xs cs) (hR : ∀ f x c, f ⊆ F → R f x c → R' f x c) : Each R' z F xs cs := by
  induction h with
  | nil => exact .nil
  | add h hc hr ih => exact .add (ih fun f x c hf => hR f x c (fun b hb => List.mem_append_left _ (hf hb))) hc (hR _ _ _ (fun b hb => List.mem_append_right _ hb) hr)
theorem Each.at {α : Type} {R : List Nat → α → List Value → Prop} {z : Nat} {F : List Nat} {xs : List α} {cs : List Value} (h : Each R z F xs cs) : ∀ j x, xs[j]? = some x → ∃ f c F1 F2 cs1 cs2, F = F1 ++ f ++ F2 ∧ cs = cs1 ++ c ++ cs2 ∧ cs1.length = j * z ∧ c.length = z ∧ R f x c := by
  induction h with
  | nil => intro j x hx; simp at hx
  | @add F xs cs f y c h hc hr ih =>
    intro j x hx
    rcases Nat.lt_or_ge j xs.length with hj | hj
    · rw [List.getElem?_append_left hj] at hx
      obtain ⟨f', c', F1, F2, cs1, cs2, h1, h2, h3, h4, h5⟩ := ih j x hx
      exact ⟨f', c', F1, F2 ++ f, cs1, cs2 ++ c, by rw [h1]; simp, by rw [h2]; simp, h3, h4, h5⟩
    · rw [List.getElem?_append_right hj] at hx
      have hj0 : j = xs.length := by
        have := (List.getElem?_eq_some_iff.1 hx).1
        simp at this
        omega
      subst hj0
      simp at hx
      subst hx
      exact ⟨f, c, F, [], cs, [], by simp, by simp, h.len, hc, hr⟩
/-- A row of one's own whose elements own what they lead to. -/
def RowOwn {α : Type} (W : World) (base e z : Nat) (R : List Nat → α → List Value → Prop) (F : List Nat) (v : Value) (xs : List α) : Prop :=
  ∃ cs F', Each R z F' xs cs ∧ W.ownsRow base e z v xs.length cs ∧ F = v.ownBlock.toList ++ F'
theorem RowOwn.nil {α : Type} (W : World) (base e z : Nat) (R : List Nat → α → List Value → Prop) : RowOwn W base e z R [] (.slice none 0 0) ([] : List α) :=
  ⟨[], [], .nil, ⟨by simp, .inl ⟨rfl, rfl⟩⟩, rfl⟩
theorem RowOwn.move {α : Type} {W W' : World} {base e z : Nat} {R R' : List Nat → α → List Value → Prop} {F : List Nat} {v : Value} {xs : List α} {row : Option Nat} (h : RowOwn W base e z R F v xs) (hg : W.grownBy W' row) (hr : ∀ b ∈ F, some b ≠ row)
    (hR : ∀ f x c, (∀ b ∈ f, some b ≠ row) → R f x c → R' f x c) : RowOwn W' base e z R' F v xs := by
  obtain ⟨cs, F', h1, h2, rfl⟩ := h
  refine ⟨cs, F', h1.move fun f x c hf => hR f x c fun b hb => hr b (List.mem_append_right _ (hf hb)), h2.kept hg ?_, rfl⟩
  cases hv : v.ownBlock with
  | none => exact .inl rfl
  | some b => exact .inr (hr b (by rw [hv]; simp))
theorem RowOwn.lt {α : Type} {W : World} {base e z : Nat} {R : List Nat → α → List Value → Prop} {F : List Nat} {v : Value} {xs : List α} (h : RowOwn W base e z R F v xs)
    (hR : ∀ f x c, R f x c → ∀ b ∈ f, base ≤ b ∧ b < W.heap.size) : ∀ b ∈ F, base ≤ b ∧ b < W.heap.size := by
  obtain ⟨cs, F', h1, h2, rfl⟩ := h
  intro b hb
  rcases List.mem_append.1 hb with hb | hb
  · exact h2.lt b (by simpa using hb)
  · clear h2
    induction h1 with
    | nil => simp at hb
    | add h hc hr ih =>
      rcases List.mem_append.1 hb with hb | hb
      · exact ih (List.mem_append_right _ hb) hb
      · exact hR _ _ _ hr b hb
def ArgO (f : List Nat) (x : ArgT) (c : List Value) : Prop := f = [] ∧ ArgIs x c
abbrev ArgsOwn (W : World) (base : Nat) (F : List Nat) (v : Value) (xs : List ArgT) : Prop := RowOwn W base 88 3 ArgO F v xs
def ElemOwn (W : World) (base : Nat) (F : List Nat) (e : ElemT) (c : List Value) : Prop := ∃ v, c = [.int .i64 e.op, v] ∧ ArgsOwn W base F v e.args
end Go.Proofs.YtcmmiamnbefefaaDoor
