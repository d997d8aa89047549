/- The definition that the verifier is held against, as mathematics. -/
import Derived.Test.YtbncgacnikmomaaDoorYp
namespace Go.Proofs.YtbncgacnikmomaaDoor
open Go.RowKit
set_option linter.unusedVariables false

def C11 (ok : Bool) (bb ff : Int) : Bool := !ok || decide (bb < 0) || decide (16 < bb) || decide (ff < 0) || decide (8 < ff)
def C13 (c b : Int) : Bool := ((c != 1) && (b == 0)) || (((c == 4) || (c == 5)) && decide (b < 2))
def C15 (c b : Int) : Bool := decide (7 ≤ c) && (b != 1)
def C17 (s : Bool) (c b : Int) : Bool := (s && ((c == 3) || (c == 6)) && (b == 1)) || (s && (c == 5) && (b == 2))
def C19 (c f : Int) : Bool := (c == 8) && (f == 0)
def C21 (c : Int) : Bool := (c == 8) || (c == 9) || (c == 11)
def C24 (c bb ff : Int) : Bool := (c == 11) && ((bb != 0) || (ff != 0))
def S26 (s : Bool) (c : Int) : Bool := (c != 11) && (s || (c == 10) || (c == 7))
theorem s26_eq (s : Bool) (c : Int) : (!decide (c = 11) && (s || decide (c = 10) || decide (c = 7))) = S26 s c := by
  by_cases e : c = 11
  · simp [S26, e]
  · by_cases e2 : c = 10
    · simp [S26, e2]
    · by_cases e3 : c = 7
      · simp [S26, e3]
      · have f1 : (c != 11) = true := by simp [e]
        have f2 : (c == 10) = false := by simp [e2]
        have f3 : (c == 7) = false := by simp [e3]
        simp [S26, f1, f2, f3, e, e2, e3]
theorem wrong_iff (r : Rn) (ok : Bool) (c : Int) : wrongC r ok c = 0 ↔ (brk r ok c 0 = false ∧ brk r ok c 1 = false ∧ brk r ok c 2 = false ∧ brk r ok c 3 = false ∧ brk r ok c 4 = false ∧ brk r ok c 5 = false ∧ brk r ok c 6 = false) := by
  constructor
  · intro h
    have := wrong_zero h
    exact ⟨this 0 (by omega), this 1 (by omega), this 2 (by omega), this 3 (by omega), this 4 (by omega), this 5 (by omega), this 6 (by omega)⟩
  · rintro ⟨h0, h1, h2, h3, h4, h5, h6⟩
    refine wrong_none fun i hi => ?_
    match i, hi with
    | 0, _ => exact h0
    | 1, _ => exact h1
    | 2, _ => exact h2
    | 3, _ => exact h3
    | 4, _ => exact h4
    | 5, _ => exact h5
    | 6, _ => exact h6
theorem ws_iff {b f : Int} {s k ok : Bool} {c : Int} (h : RnOk ⟨b, f, s, k⟩) (hc : ok = true → 1 ≤ c ∧ c ≤ 11) :
    wrongC ⟨b, f, s, k⟩ ok c = 0 ↔ (C11 ok (bhB b c) (bhF f c) = false ∧ C13 c b = false ∧ C15 c b = false ∧ C17 s c b = false ∧ C19 c f = false ∧ (C21 c && !k) = false ∧ C24 c (bhB b c) (bhF f c) = false) := by
  obtain ⟨h1, h2, h3, h4, h5⟩ := h
  simp only at h1 h2 h3 h4 h5
  cases ok with
  | false => simp [wrongC, brk, C11]
  | true =>
    obtain ⟨hc1, hc2⟩ := hc rfl
    rw [wrong_iff]
    obtain rfl | rfl | rfl | rfl | rfl | rfl | rfl | rfl | rfl | rfl | rfl : c = 1 ∨ c = 2 ∨ c = 3 ∨ c = 4 ∨ c = 5 ∨ c = 6 ∨ c = 7 ∨ c = 8 ∨ c = 9 ∨ c = 10 ∨ c = 11 := by omega
    all_goals
      cases s <;> cases k <;> simp [brk, needs, C11, C13, C15, C17, C19, C21, C24, bhB, bhF] <;> omega
end Go.Proofs.YtbncgacnikmomaaDoor
