/- A bit put: the mathematics; the program's turned, the specification's l5Turned. -/
import Derived.Test.YteekbhhlgicpeaaDoorMg
namespace Go.Proofs.YteekbhhlgicpeaaDoor
open Go.RowKit Go.Shelf
set_option linter.unusedVariables false

/-- A number with bit p put to b. -/
def bput (x p : Int) (b : Bool) : Int := if btest x p = b then x else if b then x + 2 ^ p.toNat else x - 2 ^ p.toNat

theorem tb_div (x p i : Nat) : x.testBit (p + i) = (x / 2 ^ p).testBit i := by
  rw [Nat.testBit_div_two_pow]; congr 1; omega
theorem tb_low (m r p i : Nat) (hr : r < 2 ^ p) (hi : i < p) : (2 ^ p * m + r).testBit i = r.testBit i := by
  rw [Nat.testBit_two_pow_mul_add _ hr]; simp [hi]
theorem tb_high (m r p i : Nat) (hr : r < 2 ^ p) (hi : p ≤ i) : (2 ^ p * m + r).testBit i = m.testBit (i - p) := by
  rw [Nat.testBit_two_pow_mul_add _ hr]; simp [show ¬ i < p by omega]

theorem or_pow (m r p : Nat) (hr : r < 2 ^ p) : (2 ^ p * m + r) ||| 2 ^ p = 2 ^ p * (m ||| 1) + r := by
  apply Nat.eq_of_testBit_eq
  intro i
  rw [Nat.testBit_or, Nat.testBit_two_pow]
  by_cases hi : i < p
  · rw [tb_low _ _ _ _ hr hi, tb_low _ _ _ _ hr hi]
    simp [show ¬ p = i by omega]
  · rw [tb_high _ _ _ _ hr (by omega), tb_high _ _ _ _ hr (by omega), Nat.testBit_or]
    congr 1
    by_cases h : p = i
    · subst h; simp
    · have : i - p ≠ 0 := by omega
      obtain ⟨j, hj⟩ : ∃ j, i - p = j + 1 := ⟨i - p - 1, by omega⟩
      rw [hj]
      simp [h, Nat.testBit_succ]

theorem or_one (m : Nat) : m ||| 1 = if m % 2 = 1 then m else m + 1 := by
  apply Nat.eq_of_testBit_eq
  intro i
  rw [Nat.testBit_or]
  cases i with
  | zero =>
    split <;> simp [Nat.testBit_zero] <;> omega
  | succ j =>
    have h1 : Nat.testBit 1 (j + 1) = false := by simp [Nat.testBit_succ]
    rw [h1, Bool.or_false]
    split
    · rfl
    · rw [Nat.testBit_succ, Nat.testBit_succ]; congr 1; omega

theorem pow64 {p : Nat} (h : p < 64) : 2 ^ p < 18446744073709551616 := by
  calc 2 ^ p ≤ 2 ^ 63 := Nat.pow_le_pow_right (by decide) (by omega)
    _ < 18446744073709551616 := by decide

theorem andnot_pow (x p : Nat) (hx : x < 18446744073709551616) (hp : p < 64) : x &&& (18446744073709551615 - 2 ^ p) = if x / 2 ^ p % 2 = 1 then x - 2 ^ p else x := by
  have hpp : 0 < 2 ^ p := Nat.pow_pos (by decide)
  have hdm := Nat.div_add_mod x (2 ^ p)
  have hr := Nat.mod_lt x hpp
  obtain ⟨m, hm⟩ : ∃ m, m = x / 2 ^ p := ⟨_, rfl⟩
  obtain ⟨r, hrr⟩ : ∃ r, r = x % 2 ^ p := ⟨_, rfl⟩
  rw [← hm, ← hrr] at hdm
  rw [← hrr] at hr
  rw [← hm]
  have hmask : ∀ i, (18446744073709551615 - 2 ^ p).testBit i = (decide (i < 64) && !decide (p = i)) := fun i => by
    have := Nat.testBit_two_pow_sub_succ (x := 2 ^ p) (n := 64) (pow64 hp) i
    rw [show 18446744073709551615 - 2 ^ p = 2 ^ 64 - (2 ^ p + 1) by have := pow64 hp; omega, this, Nat.testBit_two_pow]
  have hbig : ∀ i, 64 ≤ i → x.testBit i = false := fun i hi => Nat.testBit_lt_two_pow (Nat.lt_of_lt_of_le hx (by
    calc 18446744073709551616 = 2 ^ 64 := by decide
      _ ≤ 2 ^ i := Nat.pow_le_pow_right (by decide) hi))
  apply Nat.eq_of_testBit_eq
  intro i
  rw [Nat.testBit_and, hmask]
  have key : x.testBit p = decide (m % 2 = 1) := by
    have := tb_high m r p p hr (Nat.le_refl _)
    rw [hdm] at this
    rw [this]; simp [Nat.testBit_zero]
  by_cases hip : p = i
  · subst hip
    simp
    split
    · rename_i h1
      have e : x - 2 ^ p = 2 ^ p * (m - 1) + r := by
        have : 2 ^ p * m = 2 ^ p * (m - 1) + 2 ^ p := by
          obtain ⟨j, rfl⟩ : ∃ j, m = j + 1 := ⟨m - 1, by omega⟩
          simp [Nat.mul_add]
        omega
      rw [e, tb_high _ _ _ _ hr (Nat.le_refl _)]
      simp [Nat.testBit_zero]; omega
    · rename_i h1
      rw [key]; simpa using h1
  · have hn : (!decide (p = i)) = true := by simp [hip]
    rw [hn, Bool.and_true]
    have hx' : (x.testBit i && decide (i < 64)) = x.testBit i := by
      by_cases hi : i < 64
      · simp [hi]
      · rw [hbig i (by omega)]; rfl
    rw [hx']
    split
    · rename_i h1
      have e : x - 2 ^ p = 2 ^ p * (m - 1) + r := by
        have : 2 ^ p * m = 2 ^ p * (m - 1) + 2 ^ p := by
          obtain ⟨j, rfl⟩ : ∃ j, m = j + 1 := ⟨m - 1, by omega⟩
          simp [Nat.mul_add]
        omega
      rw [e]
      conv => lhs; rw [← hdm]
      by_cases hi : i < p
      · rw [tb_low _ _ _ _ hr hi, tb_low _ _ _ _ hr hi]
      · rw [tb_high _ _ _ _ hr (by omega), tb_high _ _ _ _ hr (by omega)]
        obtain ⟨j, hj⟩ : ∃ j, i - p = j + 1 := ⟨i - p - 1, by omega⟩
        rw [hj, Nat.testBit_succ, Nat.testBit_succ]
        congr 1; omega
    · rfl
end Go.Proofs.YteekbhhlgicpeaaDoor
