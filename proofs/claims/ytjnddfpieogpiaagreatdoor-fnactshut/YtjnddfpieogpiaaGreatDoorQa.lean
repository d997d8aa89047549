/- Bits that are put, as mathematics: what is put is got, and nothing else turns. -/
import Derived.Test.YtjnddfpieogpiaaGreatDoorMu
import Derived.Test.YtjnddfpieogpiaaGreatDoorMhM
namespace Go.Proofs.YtjnddfpieogpiaaGreatDoor
open Go.RowKit
set_option linter.unusedVariables false

theorem bt_bit (x p : Nat) : btest x p = x.testBit p := by
  rw [btest_nat, Nat.testBit_eq_decide_div_mod_eq]
theorem mask_bit (p i : Nat) (hp : p < 64) (hi : i < 64) : (18446744073709551615 - 2 ^ p).testBit i = decide (p ≠ i) := by
  have e : 18446744073709551615 - 2 ^ p = 2 ^ 64 - (2 ^ p + 1) := by omega
  rw [e, Nat.testBit_two_pow_sub_succ (Nat.pow_lt_pow_right (by decide) hp), Nat.testBit_two_pow]
  simp [hi]
theorem bput_bit (x p i : Nat) (b : Bool) (hx : x < 18446744073709551616) (hp : p < 64) (hi : i < 64) : btest (bput x p b) i = if p = i then b else btest x i := by
  rw [bput_nat x p b hx hp]
  cases b with
  | true =>
    rw [if_pos rfl, bt_bit, bt_bit, Nat.testBit_or, Nat.testBit_two_pow]
    by_cases h : p = i
    · simp [h]
    · simp [h]
  | false =>
    rw [if_neg (by decide), bt_bit, bt_bit, Nat.testBit_and, mask_bit p i hp hi]
    by_cases h : p = i
    · simp [h]
    · simp [h]
theorem bput_bitI (x p i : Int) (b : Bool) (h0 : 0 ≤ x) (hx : x < 18446744073709551616) (p0 : 0 ≤ p) (hp : p < 64) (i0 : 0 ≤ i) (hi : i < 64) : btest (bput x p b) i = if p = i then b else btest x i := by
  obtain ⟨x, rfl⟩ := Int.eq_ofNat_of_zero_le h0
  obtain ⟨p, rfl⟩ := Int.eq_ofNat_of_zero_le p0
  obtain ⟨i, rfl⟩ := Int.eq_ofNat_of_zero_le i0
  rw [bput_bit x p i b (by omega) (by omega) (by omega)]
  by_cases h : p = i
  · rw [if_pos h, if_pos (by omega)]
  · rw [if_neg h, if_neg (by omega)]

theorem word_set_self {c : Array Value} {i : Nat} (h : i < c.size) (k : IntKind) (n : Int) : word (c.setIfInBounds i (.int k n)) i = n :=
  word_of (Array.getElem?_setIfInBounds_self_of_lt h)

theorem mbit_two (c : Array Value) (n : Int) : mbit c 2 n = btest (word c 1) (pl 2 n) := rfl
theorem mbit_three (c : Array Value) (n : Int) : mbit c 3 n = btest (word c 2) (pl 3 n) := rfl
theorem mbit_four (c : Array Value) (n : Int) : mbit c 4 n = btest (word c 3) (pl 4 n) := rfl
theorem mbit_five (c : Array Value) (n : Int) : mbit c 5 n = btest (word c 4) (pl 5 n) := rfl
theorem putb_two (c : Array Value) (n : Int) (b : Bool) : putb c 2 n b = c.setIfInBounds 1 (.int .u32 (bput (word c 1) (pl 2 n) b)) := rfl
theorem putb_three (c : Array Value) (n : Int) (b : Bool) : putb c 3 n b = c.setIfInBounds 2 (.int .u64 (bput (word c 2) (pl 3 n) b)) := rfl
theorem putb_four (c : Array Value) (n : Int) (b : Bool) : putb c 4 n b = c.setIfInBounds 3 (.int .u16 (bput (word c 3) (pl 4 n) b)) := rfl
theorem putb_five (c : Array Value) (n : Int) (b : Bool) : putb c 5 n b = c.setIfInBounds 4 (.int .u32 (bput (word c 4) (pl 5 n) b)) := rfl

/-- What is put is got, and by no other operand of the kind. -/
theorem mbit_putb_same {c : Array Value} (hc : MemOk c) (k n n' : Int) (b : Bool) (h2 : 2 ≤ k) (h5 : k ≤ 5) : mbit (putb c k n b) k n' = if pl k n = pl k n' then b else mbit c k n' := by
  have hsz := hc.size
  obtain ⟨p0, p1⟩ := pl_all k n
  obtain ⟨q0, q1⟩ := pl_all k n'
  rcases (by omega : k = 2 ∨ k = 3 ∨ k = 4 ∨ k = 5) with rfl | rfl | rfl | rfl
  · obtain ⟨x, hx, x0, x1⟩ := hc.u32 (i := 1) (by omega) rfl
    rw [putb_two, mbit_two, mbit_two, word_set_self (by omega), word_of hx, bput_bitI x _ _ b x0 (by omega) p0 p1 q0 q1]
  · obtain ⟨x, hx, x0, x1⟩ := hc.u64 (i := 2) (by omega) rfl
    rw [putb_three, mbit_three, mbit_three, word_set_self (by omega), word_of hx, bput_bitI x _ _ b x0 (by omega) p0 p1 q0 q1]
  · obtain ⟨x, hx, x0, x1⟩ := hc.u16 (i := 3) (by omega) rfl
    rw [putb_four, mbit_four, mbit_four, word_set_self (by omega), word_of hx, bput_bitI x _ _ b x0 (by omega) p0 p1 q0 q1]
  · obtain ⟨x, hx, x0, x1⟩ := hc.u32 (i := 4) (by omega) rfl
    rw [putb_five, mbit_five, mbit_five, word_set_self (by omega), word_of hx, bput_bitI x _ _ b x0 (by omega) p0 p1 q0 q1]
end Go.Proofs.YtjnddfpieogpiaaGreatDoor
