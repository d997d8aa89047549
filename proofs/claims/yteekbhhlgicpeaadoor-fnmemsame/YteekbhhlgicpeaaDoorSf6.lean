/- MemSame of the specification, both ways. -/
import Derived.Test.YteekbhhlgicpeaaDoorSe6
namespace Go.Proofs.YteekbhhlgicpeaaDoor
open Go.RowKit
set_option linter.unusedVariables false

theorem info_T : (Tryd.prog.info? 27).map (·.size) = some 2 := by kernel_rfl
theorem info_C : (Tryd.prog.info? 30).map (·.size) = some 3 := by kernel_rfl

/-- What a round of the first loop asks. -/
def Pass (c d : Array Value) (j : Nat) : Prop := c[117 + j]?.map exactOf = d[117 + j]?.map exactOf ∧ AgreeOn c d (5 + j * 2) 2 ∧ AgreeOn c d (37 + j * 3) 3

theorem ms_iff {c d : Array Value} (hc : MemOk c) (hd : MemOk d) : MS c d ↔ (∀ j, j < 16 → Pass c d j) ∧ (∀ j, j < 32 → c[85 + j]? = d[85 + j]?) ∧ c[0]? = d[0]? ∧ c[1]? = d[1]? ∧ c[2]? = d[2]? ∧ c[3]? = d[3]? ∧ c[4]? = d[4]? ∧ c[133]? = d[133]? ∧ c[134]? = d[134]? ∧ c[135]? = d[135]? := by
  have ag : AgreeOn (noReal c) (noReal d) 0 136 ↔ ∀ i, i < 136 → (i < 117 ∨ 133 ≤ i) → c[i]? = d[i]? := by
    constructor
    · intro h i hi h2
      have := h i (by omega) (by omega)
      rwa [noReal_get hc, noReal_get hd, if_neg (by omega), if_neg (by omega)] at this
    · intro h i h1 h2
      rw [noReal_get hc, noReal_get hd]
      by_cases hi : 117 ≤ i ∧ i < 133
      · rw [if_pos hi, if_pos hi]
      · rw [if_neg hi, if_neg hi]; exact h i (by omega) (by omega)
  have ex : ∀ (e : Array Value) j, j < 16 → ((e.extract 117 133).map exactOf)[j]? = e[117 + j]?.map exactOf := fun e j hj => by rw [Array.getElem?_map, ex_get _ _ _ _ (by omega)]
  unfold MS Pass
  rw [ag]
  constructor
  · rintro ⟨h1, h2⟩
    refine ⟨fun j hj => ⟨?_, fun i i1 i2 => h2 i (by omega) (by omega), fun i i1 i2 => h2 i (by omega) (by omega)⟩, fun j hj => h2 _ (by omega) (by omega), h2 0 (by omega) (by omega), h2 1 (by omega) (by omega), h2 2 (by omega) (by omega), h2 3 (by omega) (by omega), h2 4 (by omega) (by omega), h2 133 (by omega) (by omega), h2 134 (by omega) (by omega), h2 135 (by omega) (by omega)⟩
    have := h1 j hj
    rwa [ex c j hj, ex d j hj] at this
  · rintro ⟨h1, h2, h3, h4, h5, h6, h7, h8, h9, h10⟩
    refine ⟨fun j hj => by rw [ex c j hj, ex d j hj]; exact (h1 j hj).1, fun i i1 i2 => ?_⟩
    by_cases a1 : i < 5
    · rcases (by omega : i = 0 ∨ i = 1 ∨ i = 2 ∨ i = 3 ∨ i = 4) with rfl | rfl | rfl | rfl | rfl <;> assumption
    · by_cases a2 : i < 37
      · exact (h1 ((i - 5) / 2) (by omega)).2.1 i (by omega) (by omega)
      · by_cases a3 : i < 85
        · exact (h1 ((i - 37) / 3) (by omega)).2.2 i (by omega) (by omega)
        · by_cases a4 : i < 117
          · have := h2 (i - 85) (by omega)
            rwa [show 85 + (i - 85) = i by omega] at this
          · rcases (by omega : i = 133 ∨ i = 134 ∨ i = 135) with rfl | rfl | rfl <;> assumption
theorem same_exact {x y : Nat} : Same x y ↔ exactOf (.float .f64 x) = exactOf (.float .f64 y) := by
  by_cases hx : Fm.isN x
  · by_cases hy : Fm.isN y
    · rw [exact_nan hx, exact_nan hy]; exact ⟨fun _ => rfl, fun _ => .inr ⟨hx, hy⟩⟩
    · rw [exact_nan hx, exact_num hy]
      constructor
      · rintro (rfl | ⟨_, h⟩)
        · exact absurd hx hy
        · exact absurd h hy
      · intro h
        exfalso
        injection h with _ h
        have : y = 9221120237041090561 := by omega
        subst this
        exact hy (by decide +kernel)
  · by_cases hy : Fm.isN y
    · rw [exact_num hx, exact_nan hy]
      constructor
      · rintro (rfl | ⟨h, _⟩)
        · exact absurd hy hx
        · exact absurd h hx
      · intro h
        exfalso
        injection h with _ h
        have : x = 9221120237041090561 := by omega
        subst this
        exact hx (by decide +kernel)
    · rw [exact_num hx, exact_num hy]
      constructor
      · rintro (rfl | ⟨h, _⟩)
        · rfl
        · exact absurd h hx
      · intro h
        injection h with _ h
        exact .inl (by omega)
end Go.Proofs.YteekbhhlgicpeaaDoor
