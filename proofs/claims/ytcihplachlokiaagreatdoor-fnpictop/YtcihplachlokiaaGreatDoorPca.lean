/- Sums of bytes: mathematics. -/
import Derived.WalkKit
namespace Go.Proofs.YtcihplachlokiaaGreatDoor
set_option linter.unusedVariables false

/-- One bit's round. -/
def rnd (s : Nat) : Nat := if 65536 ≤ s * 2 then (s * 2 - 65536) ^^^ 4129 else s * 2
def rnds : Nat → Nat → Nat
  | 0, s => s
  | k + 1, s => rnd (rnds k s)
/-- The sum of the first so many bytes. -/
def sumF (f : Nat → Nat) : Nat → Nat
  | 0 => 65535
  | n + 1 => rnds 8 (sumF f n ^^^ f n * 256)

theorem xor_lt {a b : Nat} (ha : a < 65536) (hb : b < 65536) : a ^^^ b < 65536 := Nat.xor_lt_two_pow (n := 16) ha hb
theorem rnd_lt {s : Nat} (h : s < 65536) : rnd s < 65536 := by
  unfold rnd
  split
  · exact xor_lt (by omega) (by decide)
  · omega
theorem rnds_lt {s : Nat} (h : s < 65536) : ∀ k, rnds k s < 65536
  | 0 => h
  | k + 1 => rnd_lt (rnds_lt h k)
theorem sumF_lt (f : Nat → Nat) (hf : ∀ j, f j < 256) : ∀ n, sumF f n < 65536
  | 0 => by show 65535 < 65536; omega
  | n + 1 => rnds_lt (xor_lt (sumF_lt f hf n) (by have := hf n; omega)) 8
theorem sumF_same {f g : Nat → Nat} : ∀ n, (∀ j, j < n → f j = g j) → sumF f n = sumF g n
  | 0, _ => rfl
  | n + 1, h => by
    unfold sumF
    rw [sumF_same n fun j hj => h j (by omega), h n (by omega)]

theorem xor_step (A B k : Nat) : (A ^^^ B) % 2 ^ (k + 1) = (A ^^^ B) % 2 ^ k + (if A / 2 ^ k % 2 ≠ B / 2 ^ k % 2 then 2 ^ k else 0) := by
  rw [Nat.mod_pow_succ]
  have e : (A ^^^ B) / 2 ^ k % 2 = if A / 2 ^ k % 2 ≠ B / 2 ^ k % 2 then 1 else 0 := by
    rw [Nat.xor_div_two_pow]
    have := @Nat.xor_mod_two_eq_one (A / 2 ^ k) (B / 2 ^ k)
    split <;> omega
  rw [e]
  split <;> simp
theorem xor_end {A B : Nat} (ha : A < 65536) (hb : B < 65536) : (A ^^^ B) % 2 ^ 16 = A ^^^ B := Nat.mod_eq_of_lt (xor_lt ha hb)
/-- The program's round. -/
theorem rnd_impl {s : Nat} (h : s < 65536) : rnd s = (s * 2 % 65536) ^^^ (s / 32768 * 4129 % 65536) := by
  unfold rnd
  split
  · next h1 =>
    have e1 : s * 2 % 65536 = s * 2 - 65536 := by omega
    have e2 : s / 32768 = 1 := by omega
    rw [e1, e2]
  · next h1 =>
    have e1 : s * 2 % 65536 = s * 2 := by omega
    have e2 : s / 32768 = 0 := by omega
    rw [e1, e2]
    simp
end Go.Proofs.YtcihplachlokiaaGreatDoor
