/- Two memories compared field by field: eqMem of the laws. -/
import Derived.Test.YtlgacbjopobeoaaGreatDoorMbM
import Derived.Test.YtlgacbjopobeoaaGreatDoorMe
namespace Go.Proofs.YtlgacbjopobeoaaGreatDoor
open Go.RowKit
set_option linter.unusedVariables false

/-- Two memories that are one, field by field: a nan is any nan. -/
structure MSame (c d : Array Value) : Prop where
  ok : MemOk c
  size : d.size = 136
  same : ∀ i, kd i ≠ 99 → d[i]? = c[i]?
  real : ∀ k, k < 16 → ∃ x y, c[117 + k]? = some (.float .f64 x) ∧ d[117 + k]? = some (.float .f64 y) ∧ (Lit.float .f64 x).wf = true ∧ Same x y

theorem wf_of_has {x : Nat} (h : FloatKind.has .f64 x) : (Lit.float .f64 x).wf = true := by
  simpa [Lit.wf, FloatKind.has] using h

theorem MSame.refl {c : Array Value} (h : MemOk c) : MSame c c :=
  ⟨h, h.size, fun _ _ => rfl, fun k hk => by
    obtain ⟨x, hx, hh⟩ := h.f64 (i := 117 + k) (by omega) (kd_r hk)
    exact ⟨x, x, hx, hx, wf_of_has hh, Or.inl rfl⟩⟩

theorem kd_lo {i : Nat} (h : i < 117 ∨ 133 ≤ i) : kd i ≠ 99 := by
  unfold kd
  repeat' split
  all_goals omega

theorem MSame.part {c d : Array Value} (h : MSame c d) (n m : Nat) (hm : m ≤ 117) : d.extract n m = c.extract n m := by
  apply Array.ext_getElem?
  intro i
  by_cases hi : i < m - n
  · rw [ext_get _ _ _ _ hi, ext_get _ _ _ _ hi]
    exact h.same _ (kd_lo (by omega))
  · rw [Array.getElem?_eq_none (by have := h.size; simp; omega), Array.getElem?_eq_none (by have := h.ok.size; simp; omega)]


end Go.Proofs.YtlgacbjopobeoaaGreatDoor
