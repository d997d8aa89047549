/- A bit put: the walks of turned, memTurned and l5Turned. -/
import Derived.Test.YteekbhhlgicpeaaDoorMp
namespace Go.Proofs.YteekbhhlgicpeaaDoor
open Go.RowKit Go.Shelf
set_option linter.unusedVariables false

theorem btest_nat (x p : Nat) : btest x p = decide (x / 2 ^ p % 2 = 1) := by
  simp only [btest, Int.toNat_natCast]
  congr 1
  have : ((x : Int) / 2 ^ p % 2 = 1) ↔ (x / 2 ^ p % 2 = 1) := by
    rw [show ((x : Int) / 2 ^ p % 2) = ((x / 2 ^ p % 2 : Nat) : Int) by push_cast; rfl]
    omega
  exact propext this

theorem bput_or (x p : Nat) (hx : x < 18446744073709551616) (hp : p < 64) : bits .or .u64 (x : Int) ((2 ^ p : Nat) : Int) = bput x p true := by
  rw [u64_or_nat x (2 ^ p) hx (pow64 hp)]
  have hpp : 0 < 2 ^ p := Nat.pow_pos (by decide)
  have hdm := Nat.div_add_mod x (2 ^ p)
  have h1 := or_pow (x / 2 ^ p) (x % 2 ^ p) p (Nat.mod_lt x hpp)
  rw [hdm] at h1
  rw [h1, or_one]
  unfold bput
  rw [btest_nat, Int.toNat_natCast]
  by_cases h : x / 2 ^ p % 2 = 1
  · rw [if_pos h, hdm]; simp [h]
  · rw [if_neg h]
    simp only [h, decide_false, Bool.false_eq_true, if_false, if_true]
    rw [Nat.mul_add, Nat.mul_one]
    push_cast
    have : ((2 ^ p : Nat) : Int) = (2 : Int) ^ p := by push_cast; rfl
    have e : ((2 ^ p * (x / 2 ^ p) + x % 2 ^ p : Nat) : Int) = (x : Int) := by rw [hdm]
    push_cast at e
    omega
theorem bput_and (x p : Nat) (hx : x < 18446744073709551616) (hp : p < 64) : bits .andNot .u64 (x : Int) ((2 ^ p : Nat) : Int) = bput x p false := by
  rw [u64_andNot_nat x (2 ^ p) hx (pow64 hp), andnot_pow x p hx hp]
  unfold bput
  rw [btest_nat, Int.toNat_natCast]
  by_cases h : x / 2 ^ p % 2 = 1
  · rw [if_pos h]
    have hle : 2 ^ p ≤ x := by
      have hpp : 0 < 2 ^ p := Nat.pow_pos (by decide)
      have : 1 ≤ x / 2 ^ p := Nat.pos_of_ne_zero fun e => by rw [e] at h; simp at h
      exact (Nat.one_le_div_iff hpp).1 this
    simp only [h, decide_true, Bool.true_eq_false, if_false, Bool.false_eq_true]
    rw [Int.ofNat_sub hle]
    push_cast
    rfl
  · rw [if_neg h]; simp [h]


end Go.Proofs.YteekbhhlgicpeaaDoor
