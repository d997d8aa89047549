/- Bits of words: the program's memIsOn, the specification's l5Bit. -/
import Derived.Test.YteekbhhlgicpeaaDoorMf
import Derived.Laws.BitsAllLaws
import Derived.Deep.LoopGhost
namespace Go.Proofs.YteekbhhlgicpeaaDoor
open Go.RowKit Go.Shelf
set_option linter.unusedVariables false

/-- Bit p of a number. -/
def btest (x p : Int) : Bool := decide (x / 2 ^ p.toNat % 2 = 1)

theorem div_bd (x : Int) (n : Nat) (h0 : 0 ≤ x) : 0 ≤ x / 2 ^ n ∧ x / 2 ^ n ≤ x := by
  have hp : (0 : Int) < 2 ^ n := Int.pow_pos (by omega)
  refine ⟨Int.ediv_nonneg h0 (by omega), ?_⟩
  exact Int.ediv_le_self _ h0
theorem and1_any (y : Int) (h0 : 0 ≤ y) : (((y.toNat &&& 1 : Nat) : Int) == 1) = decide (y % 2 = 1) := by
  rw [Nat.and_one_is_mod]
  by_cases h : y % 2 = 1
  · rw [decide_eq_true h]; simp; omega
  · rw [decide_eq_false h]; simp; omega

set_option maxHeartbeats 1000000 in
theorem on16 (x p : Int) (w : World) (h0 : 0 ≤ x) (h1 : x < 65536) (p0 : 0 ≤ p) (p1 : p < 16) : Calls Tryd.prog 68 #[.int .u16 x, .int .i64 p] w fun e w' => e = .returned (.bool (btest x p)) ∧ w' = w := by
  have hv : (bits BinOp.and IntKind.u16 (x / 2 ^ p.toNat) 1 == 1) = btest x p := by
    have := div_bd x p.toNat h0
    rw [u16_and _ 1 this.1 (by omega) (by decide) (by decide)]
    exact and1_any _ this.1
  go_enter Tryd.func68, Tryd.ntmps68
  go_wp2
  go_ret
  exact ⟨rfl, rfl⟩

set_option maxHeartbeats 1000000 in
theorem on32 (x p : Int) (w : World) (h0 : 0 ≤ x) (h1 : x < 4294967296) (p0 : 0 ≤ p) (p1 : p < 32) : Calls Tryd.prog 66 #[.int .u32 x, .int .i64 p] w fun e w' => e = .returned (.bool (btest x p)) ∧ w' = w := by
  have hv : (bits BinOp.and IntKind.u32 (x / 2 ^ p.toNat) 1 == 1) = btest x p := by
    have := div_bd x p.toNat h0
    rw [u32_and _ 1 this.1 (by omega) (by decide) (by decide)]
    exact and1_any _ this.1
  go_enter Tryd.func66, Tryd.ntmps66
  go_wp2
  go_ret
  exact ⟨rfl, rfl⟩

set_option maxHeartbeats 1000000 in
theorem on64 (x p : Int) (w : World) (h0 : 0 ≤ x) (h1 : x < 18446744073709551616) (p0 : 0 ≤ p) (p1 : p < 64) : Calls Tryd.prog 67 #[.int .u64 x, .int .i64 p] w fun e w' => e = .returned (.bool (btest x p)) ∧ w' = w := by
  have hv : (bits BinOp.and IntKind.u64 (x / 2 ^ p.toNat) 1 == 1) = btest x p := by
    have := div_bd x p.toNat h0
    rw [u64_and _ 1 this.1 (by omega) (by decide) (by decide)]
    exact and1_any _ this.1
  go_enter Tryd.func67, Tryd.ntmps67
  go_wp2
  go_ret
  exact ⟨rfl, rfl⟩

theorem div_next (x : Int) (n : Nat) : x / 2 ^ n / 2 = x / 2 ^ (n + 1) := by
  rw [Int.ediv_ediv_of_nonneg (Int.le_of_lt (Int.pow_pos (by omega))), Int.pow_succ]

set_option maxHeartbeats 1000000 in
theorem lbit (x p : Int) (w : World) (h0 : 0 ≤ x) (h1 : x < 18446744073709551616) (p0 : 0 ≤ p) (p1 : p < 64) : Calls Tryd.prog 61 #[.int .u64 x, .int .i64 p] w fun e w' => e = .returned (.bool (btest x p)) ∧ w' = w := by
  obtain ⟨q, rfl⟩ : ∃ q : Nat, p = q := ⟨p.toNat, by omega⟩
  have HX : Hid (0 ≤ x ∧ x < 18446744073709551616) := ⟨h0, h1⟩
  have hv : (x / 2 ^ q % 2 == 1) = btest x q := by simp only [btest, Int.toNat_natCast]; by_cases h : x / 2 ^ q % 2 = 1 <;> simp [h]
  clear p0 h0 h1
  go_enter Tryd.func61, Tryd.ntmps61
  go_wp2
  go_loopg [0, 5] q (fun g a i wr => ∃ n : Nat, n + g = q ∧ i = .int .i64 n ∧ a = .int .u64 (x / 2 ^ n) ∧ wr = w)
  case atStart => exact ⟨0, by omega, rfl, by simp, rfl⟩
  case round =>
    obtain ⟨n, hn, rfl, rfl, rfl⟩ := hrel
    have hd := div_bd x n HX.out.1
    have hu := HX.out.2
    by_cases hlt : n < q
    · have i1 : (n : Int) < (q : Int) := by omega
      have hx : x / 2 ^ n / 2 = x / 2 ^ (n + 1) := div_next x n
      obtain ⟨y, HY⟩ : ∃ y, Hid (y = x / 2 ^ n) := ⟨_, rfl⟩
      rw [← HY.out] at hd hx
      rw [← HY.out]
      have ht : y.tdiv 2 = y / 2 := Int.tdiv_eq_ediv_of_nonneg hd.1
      have h2 : 0 ≤ y / 2 ∧ y / 2 < 18446744073709551616 := by omega
      clear hv
      go_wp2
      go_roundg (gk - 1)
      case measure => omega
      case rel => exact ⟨n + 1, by omega, by simp, by first | rw [ht, hx] | rw [hx] | simp_all, rfl⟩
    · have i1 : ¬ ((n : Int) < (q : Int)) := by omega
      obtain rfl : n = q := by omega
      obtain ⟨y, HY⟩ : ∃ y, Hid (y = x / 2 ^ n) := ⟨_, rfl⟩
      rw [← HY.out] at hd hv
      rw [← HY.out]
      have ht : y.tmod 2 = y % 2 := Int.tmod_eq_emod_of_nonneg hd.1
      clear hn i1 hlt
      go_wp2
      go_ret
      exact ⟨rfl, rfl⟩
end Go.Proofs.YteekbhhlgicpeaaDoor
