/- Owned ladders: what stays, what they are, and how a row grows. -/
import Derived.Test.YtcmmiamnbefefaaDoorWg
namespace Go.Proofs.YtcmmiamnbefefaaDoor
open Go.RowKit
set_option linter.unusedVariables false

theorem ArgsOwn.move {W W' : World} {base : Nat} {F : List Nat} {v : Value} {xs : List ArgT} {row : Option Nat} (h : ArgsOwn W base F v xs) (hg : W.grownBy W' row) (hr : ∀ b ∈ F, some b ≠ row) : ArgsOwn W' base F v xs := RowOwn.move h hg hr fun _ _ _ _ h => h
theorem ElemOwn.move {W W' : World} {base : Nat} {F : List Nat} {e : ElemT} {c : List Value} {row : Option Nat} (h : ElemOwn W base F e c) (hg : W.grownBy W' row) (hr : ∀ b ∈ F, some b ≠ row) : ElemOwn W' base F e c := by
  obtain ⟨v, hc, h1⟩ := h
  exact ⟨v, hc, ArgsOwn.move h1 hg hr⟩
theorem ArgsOwn.lt {W : World} {base : Nat} {F : List Nat} {v : Value} {xs : List ArgT} (h : ArgsOwn W base F v xs) : ∀ b ∈ F, base ≤ b ∧ b < W.heap.size := RowOwn.lt h fun f x c hf b hb => by rw [hf.1] at hb; simp at hb
theorem ElemOwn.lt {W : World} {base : Nat} {F : List Nat} {e : ElemT} {c : List Value} (h : ElemOwn W base F e c) : ∀ b ∈ F, base ≤ b ∧ b < W.heap.size := by
  obtain ⟨v, _, h1⟩ := h
  exact ArgsOwn.lt h1
/-- An owned row is a row. -/
theorem RowOwn.is {α : Type} {W : World} {base e z lo : Nat} {R : List Nat → α → List Value → Prop} {R' : α → List Value → Prop} {F : List Nat} {v : Value} {xs : List α} (h : RowOwn W base e z R F v xs) (hl : lo ≤ base) (hR : ∀ f x c, R f x c → R' x c) : RowIs W lo z R' v xs := by
  obtain ⟨cs, F', h1, h2, rfl⟩ := h
  rcases h2.2 with ⟨rfl, hn⟩ | ⟨g, cap, cur, rfl, hb, hg, hnc, hcm, hsz, hcur⟩
  · have : xs = [] := List.length_eq_zero_iff.1 hn
    subst this
    exact ⟨none, 0, rfl, by simp, fun j x hj => by simp at hj⟩
  · refine ⟨some ⟨g, 0, none⟩, cap, rfl, by unfold maxLen at hcm; omega, fun j x hj => ?_⟩
    obtain ⟨f, c, F1, F2, cs1, cs2, _, e2, e3, e4, hr⟩ := h1.at j x hj
    refine ⟨g, 0, c, rfl, by omega, e4, fun i u hi => ?_, hR f x c hr⟩
    have hc := h2.cells (g := g) rfl (j * z + i) u (by
      rw [e2, List.append_assoc, List.getElem?_append_right (by omega), e3, List.getElem?_append_left (by have := (List.getElem?_eq_some_iff.1 hi).1; omega)]
      rw [show j * z + i - j * z = i by omega]
      exact hi)
    have : (⟨g, 0, none⟩ : Addr).add (j * z + i) = ⟨g, 0 + j * z + i, none⟩ := by simp [Addr.add]; omega
    rw [this] at hc
    exact hc
theorem ArgsOwn.is {W : World} {base lo : Nat} {F : List Nat} {v : Value} {xs : List ArgT} (h : ArgsOwn W base F v xs) (hl : lo ≤ base) : ArgsIs W lo v xs := RowOwn.is h hl fun _ _ _ h => h.2
theorem ElemOwn.is {W : World} {base lo : Nat} {F : List Nat} {e : ElemT} {c : List Value} (h : ElemOwn W base F e c) (hl : lo ≤ base) : ElemIs W lo e c := by
  obtain ⟨v, hc, h1⟩ := h
  exact ⟨v, hc, ArgsOwn.is h1 hl⟩
/-- A row that has grown by one. -/
theorem RowOwn.push {α : Type} {W : World} {base e z g cap : Nat} {R : List Nat → α → List Value → Prop} {F f : List Nat} {xs : List α} {cs c : List Value} {x : α} (h1 : Each R z F xs cs) (hc : c.length = z) (hr : R f x c)
    (ho : W.ownsRow base e z (.slice (some ⟨g, 0, none⟩) (xs.length + 1) cap) (xs.length + 1) (cs ++ c)) : RowOwn W base e z R (g :: (F ++ f)) (.slice (some ⟨g, 0, none⟩) (xs.length + 1) cap) (xs ++ [x]) :=
  ⟨cs ++ c, F ++ f, .add h1 hc hr, by simpa using ho, rfl⟩
end Go.Proofs.YtcmmiamnbefefaaDoor
