/- The place of a device, counted round: the program's and the specification's. -/
import Derived.Test.YtlgacbjopobeoaaGreatDoorDaM
import Derived.Test.YtlgacbjopobeoaaGreatDoorMbM
import Derived.Laws.BitsAllLaws
import Derived.Deep.LoopGhost
namespace Go.Proofs.YtlgacbjopobeoaaGreatDoor
open Go.RowKit Go.Shelf
set_option linter.unusedVariables false

/-- How many places a kind has, as they are counted round. -/
def kZ (k : Int) : Int := if k = 6 then 8 else kS k
/-- The place of a device, counted round. -/
def pl (k n : Int) : Int := if kZ k = 0 then 0 else n % kZ k

theorem kS_le (k : Int) : 0 ≤ kS k ∧ kS k ≤ 64 := by
  unfold kS
  repeat' split
  all_goals omega
theorem kZ_le (k : Int) : 0 ≤ kZ k ∧ kZ k ≤ 64 := by
  unfold kZ
  split
  · omega
  · exact kS_le k
theorem pl_lt (k n : Int) (h : kZ k ≠ 0) : 0 ≤ pl k n ∧ pl k n < kZ k := by
  unfold pl
  rw [if_neg h]
  have := kZ_le k
  exact ⟨Int.emod_nonneg _ h, Int.emod_lt_of_pos _ (by omega)⟩
theorem rem_rem (n s : Int) (h : 0 < s) : (n.tmod s + s).tmod s = n % s := by
  have h1 := Int.emod_nonneg n (by omega : s ≠ 0)
  have h2 := Int.emod_lt_of_pos n h
  by_cases hn : 0 ≤ n
  · rw [Int.tmod_eq_emod_of_nonneg hn, Int.tmod_eq_emod_of_nonneg (by omega)]
    simp
  · by_cases hd : n % s = 0
    · have : n.tmod s = 0 := by rw [Int.tmod_eq_emod]; simp [hd, Int.dvd_of_emod_eq_zero hd]
      rw [this, hd]
      simp [Int.tmod_self]
    · have : n.tmod s = n % s - s := by
        rw [Int.tmod_eq_emod]
        have : ¬ (0 ≤ n ∨ s ∣ n) := by
          rintro (h | h)
          · exact hn h
          · exact hd (Int.emod_eq_zero_of_dvd h)
        rw [if_neg this]
        omega
      rw [this, show n % s - s + s = n % s by omega, Int.tmod_eq_emod_of_nonneg h1]
      exact Int.emod_emod_of_dvd n (Int.dvd_refl s)
theorem rem_up (n s : Int) (h : 0 < s) : (if n.tmod s < 0 then n.tmod s + s else n.tmod s) = n % s := by
  have h1 := Int.emod_nonneg n (by omega : s ≠ 0)
  have h2 := Int.emod_lt_of_pos n h
  rw [Int.tmod_eq_emod]
  by_cases hd : 0 ≤ n ∨ s ∣ n
  · rw [if_pos hd, if_neg (by omega)]; omega
  · rw [if_neg hd, if_pos (by omega)]; omega
theorem rem_bd (n s : Int) (h : 0 < s) : -s < n.tmod s ∧ n.tmod s < s := by
  have h1 := Int.emod_nonneg n (by omega : s ≠ 0)
  have h2 := Int.emod_lt_of_pos n h
  rw [Int.tmod_eq_emod]
  split
  · omega
  · rename_i hh
    have : n % s ≠ 0 := fun e => hh (Or.inr (Int.dvd_of_emod_eq_zero e))
    omega

theorem kZ_six : kZ 6 = 8 := rfl
theorem kZ_ne {k : Int} (h : k ≠ 6) : kZ k = kS k := if_neg h

set_option maxHeartbeats 2000000 in
theorem place_r (k n p : Int) (w : World) (hT : KT w) :
    Calls Tryz.prog 319 #[.agg #[.int .i64 k, .int .i64 n, .int .i64 p]] w fun e w' => e = .returned (.int .i64 (pl k n)) ∧ Below w.heap.size w w' := by
  have HT : Hid (KT w) := hT
  clear hT
  obtain ⟨s, HS⟩ : ∃ s, Hid (s = kS k) := ⟨_, rfl⟩
  have HD : Hid (∀ W, KT W → Calls Tryz.prog 283 #[.int .i64 k] W fun e w' => e = .returned (.int .i64 s) ∧ Below W.heap.size W w') := fun W h => by
    rw [HS.out]; exact impl_size k W h
  have hs := kS_le k
  rw [← HS.out] at hs
  obtain ⟨q, HQ⟩ : ∃ q, Hid (q = pl k n) := ⟨_, rfl⟩
  rw [← HQ.out]
  by_cases h6 : k = 6
  · have e6 : (k == 6) = true := by simp [h6]
    have hq : (n.tmod 8 + 8).tmod 8 = q := by rw [HQ.out, h6, pl, kZ_six, if_neg (by omega)]; exact rem_rem n 8 (by omega)
    have hb := rem_bd n 8 (by omega)
    clear h6 HS
    go_enter Tryz.func319, Tryz.ntmps319
    go_wp2_with fail
    refine (HD.out _ (HT.out.alloc _)).mono ?_
    rintro e w1 ⟨rfl, g1⟩
    have b1 : Below w.heap.size w w1 := ((Below.refl _ _).alloc (Nat.le_refl _) _).trans (g1.mono (by simp))
    have r0 : w1.cell? ⟨w.heap.size, 0, none⟩ = some (.int .i64 k) := by rw [g1.cell (by simp)]; exact (cell_of_row _ _ _ _ _ _ (heap_alloc_last w _)).trans rfl
    have r1 : w1.cell? ⟨w.heap.size, 1, none⟩ = some (.int .i64 n) := by rw [g1.cell (by simp)]; exact (cell_of_row _ _ _ _ _ _ (heap_alloc_last w _)).trans rfl
    clear g1
    go_wp2
    go_ret
    exact ⟨rfl, b1⟩
  by_cases h0 : s = 0
  · have e6 : (k == 6) = false := by simp [h6]
    have e0 : (s == 0) = true := by simp [h0]
    have hq : q = 0 := by rw [HQ.out, pl, kZ_ne h6, ← HS.out, h0]; rfl
    subst hq
    clear h6 HS hs h0
    go_enter Tryz.func319, Tryz.ntmps319
    go_wp2_with fail
    refine (HD.out _ (HT.out.alloc _)).mono ?_
    rintro e w1 ⟨rfl, g1⟩
    have b1 : Below w.heap.size w w1 := ((Below.refl _ _).alloc (Nat.le_refl _) _).trans (g1.mono (by simp))
    have r0 : w1.cell? ⟨w.heap.size, 0, none⟩ = some (.int .i64 k) := by rw [g1.cell (by simp)]; exact (cell_of_row _ _ _ _ _ _ (heap_alloc_last w _)).trans rfl
    have r1 : w1.cell? ⟨w.heap.size, 1, none⟩ = some (.int .i64 n) := by rw [g1.cell (by simp)]; exact (cell_of_row _ _ _ _ _ _ (heap_alloc_last w _)).trans rfl
    clear g1
    go_wp2
    go_ret
    exact ⟨rfl, b1⟩
  · have e6 : (k == 6) = false := by simp [h6]
    have e0 : (s == 0) = false := by simp [h0]
    have hq : (n.tmod s + s).tmod s = q := by rw [HQ.out, pl, kZ_ne h6, ← HS.out, if_neg h0]; exact rem_rem n s (by omega)
    have hb := rem_bd n s (by omega)
    clear h6 HS
    go_enter Tryz.func319, Tryz.ntmps319
    go_wp2_with fail
    refine (HD.out _ (HT.out.alloc _)).mono ?_
    rintro e w1 ⟨rfl, g1⟩
    have b1 : Below w.heap.size w w1 := ((Below.refl _ _).alloc (Nat.le_refl _) _).trans (g1.mono (by simp))
    have r0 : w1.cell? ⟨w.heap.size, 0, none⟩ = some (.int .i64 k) := by rw [g1.cell (by simp)]; exact (cell_of_row _ _ _ _ _ _ (heap_alloc_last w _)).trans rfl
    have r1 : w1.cell? ⟨w.heap.size, 1, none⟩ = some (.int .i64 n) := by rw [g1.cell (by simp)]; exact (cell_of_row _ _ _ _ _ _ (heap_alloc_last w _)).trans rfl
    clear g1
    go_wp2
    go_ret
    exact ⟨rfl, b1⟩

set_option maxHeartbeats 2000000 in
theorem at_r (k n p : Int) (w : World) :
    Calls Tryz.prog 256 #[.agg #[.int .i64 k, .int .i64 n, .int .i64 p]] w fun e w' => e = .returned (.int .i64 (pl k n)) ∧ Below w.heap.size w w' := by
  obtain ⟨s, HS⟩ : ∃ s, Hid (s = kS k) := ⟨_, rfl⟩
  have HD : Hid (∀ W, Calls Tryz.prog 141 #[.int .i64 k] W fun e w' => e = .returned (.int .i64 s) ∧ Below W.heap.size W w') := fun W => by
    rw [HS.out]; exact (spec_size k W).mono fun e w1 h => ⟨h.1, by rw [h.2]; exact Below.refl _ _⟩
  have hs := kS_le k
  rw [← HS.out] at hs
  obtain ⟨q, HQ⟩ : ∃ q, Hid (q = pl k n) := ⟨_, rfl⟩
  rw [← HQ.out]
  by_cases h6 : k = 6
  · have e6 : (k == 6) = true := by simp [h6]
    have hq : (if n.tmod 8 < 0 then n.tmod 8 + 8 else n.tmod 8) = q := by rw [rem_up n 8 (by omega), HQ.out, h6, pl, kZ_six, if_neg (by omega)]
    have hb := rem_bd n 8 (by omega)
    clear h6 HS
    by_cases ht : n.tmod 8 < 0
    · rw [if_pos ht] at hq
      go_enter Tryz.func256, Tryz.ntmps256
      go_wp2_with fail
      refine (HD.out _).mono ?_
      rintro e w1 ⟨rfl, g1⟩
      have b1 : Below w.heap.size w w1 := ((Below.refl _ _).alloc (Nat.le_refl _) _).trans (g1.mono (by simp))
      have r0 : w1.cell? ⟨w.heap.size, 0, none⟩ = some (.int .i64 k) := by rw [g1.cell (by simp)]; exact (cell_of_row _ _ _ _ _ _ (heap_alloc_last w _)).trans rfl
      have r1 : w1.cell? ⟨w.heap.size, 1, none⟩ = some (.int .i64 n) := by rw [g1.cell (by simp)]; exact (cell_of_row _ _ _ _ _ _ (heap_alloc_last w _)).trans rfl
      clear g1
      go_wp2
      go_ret
      exact ⟨rfl, b1⟩
    · rw [if_neg ht] at hq
      go_enter Tryz.func256, Tryz.ntmps256
      go_wp2_with fail
      refine (HD.out _).mono ?_
      rintro e w1 ⟨rfl, g1⟩
      have b1 : Below w.heap.size w w1 := ((Below.refl _ _).alloc (Nat.le_refl _) _).trans (g1.mono (by simp))
      have r0 : w1.cell? ⟨w.heap.size, 0, none⟩ = some (.int .i64 k) := by rw [g1.cell (by simp)]; exact (cell_of_row _ _ _ _ _ _ (heap_alloc_last w _)).trans rfl
      have r1 : w1.cell? ⟨w.heap.size, 1, none⟩ = some (.int .i64 n) := by rw [g1.cell (by simp)]; exact (cell_of_row _ _ _ _ _ _ (heap_alloc_last w _)).trans rfl
      clear g1
      go_wp2
      go_ret
      exact ⟨rfl, b1⟩
  by_cases h0 : s = 0
  · have e6 : (k == 6) = false := by simp [h6]
    have e0 : (s == 0) = true := by simp [h0]
    have hq : q = 0 := by rw [HQ.out, pl, kZ_ne h6, ← HS.out, h0]; rfl
    subst hq
    clear h6 HS hs h0
    go_enter Tryz.func256, Tryz.ntmps256
    go_wp2_with fail
    refine (HD.out _).mono ?_
    rintro e w1 ⟨rfl, g1⟩
    have b1 : Below w.heap.size w w1 := ((Below.refl _ _).alloc (Nat.le_refl _) _).trans (g1.mono (by simp))
    have r0 : w1.cell? ⟨w.heap.size, 0, none⟩ = some (.int .i64 k) := by rw [g1.cell (by simp)]; exact (cell_of_row _ _ _ _ _ _ (heap_alloc_last w _)).trans rfl
    have r1 : w1.cell? ⟨w.heap.size, 1, none⟩ = some (.int .i64 n) := by rw [g1.cell (by simp)]; exact (cell_of_row _ _ _ _ _ _ (heap_alloc_last w _)).trans rfl
    clear g1
    go_wp2
    go_ret
    exact ⟨rfl, b1⟩
  · have e6 : (k == 6) = false := by simp [h6]
    have e0 : (s == 0) = false := by simp [h0]
    have hq : (if n.tmod s < 0 then n.tmod s + s else n.tmod s) = q := by rw [HQ.out, pl, kZ_ne h6, ← HS.out, if_neg h0]; exact rem_up n s (by omega)
    have hb := rem_bd n s (by omega)
    clear h6 HS
    by_cases ht : n.tmod s < 0
    · rw [if_pos ht] at hq
      go_enter Tryz.func256, Tryz.ntmps256
      go_wp2_with fail
      refine (HD.out _).mono ?_
      rintro e w1 ⟨rfl, g1⟩
      have b1 : Below w.heap.size w w1 := ((Below.refl _ _).alloc (Nat.le_refl _) _).trans (g1.mono (by simp))
      have r0 : w1.cell? ⟨w.heap.size, 0, none⟩ = some (.int .i64 k) := by rw [g1.cell (by simp)]; exact (cell_of_row _ _ _ _ _ _ (heap_alloc_last w _)).trans rfl
      have r1 : w1.cell? ⟨w.heap.size, 1, none⟩ = some (.int .i64 n) := by rw [g1.cell (by simp)]; exact (cell_of_row _ _ _ _ _ _ (heap_alloc_last w _)).trans rfl
      clear g1
      go_wp2
      go_ret
      exact ⟨rfl, b1⟩
    · rw [if_neg ht] at hq
      go_enter Tryz.func256, Tryz.ntmps256
      go_wp2_with fail
      refine (HD.out _).mono ?_
      rintro e w1 ⟨rfl, g1⟩
      have b1 : Below w.heap.size w w1 := ((Below.refl _ _).alloc (Nat.le_refl _) _).trans (g1.mono (by simp))
      have r0 : w1.cell? ⟨w.heap.size, 0, none⟩ = some (.int .i64 k) := by rw [g1.cell (by simp)]; exact (cell_of_row _ _ _ _ _ _ (heap_alloc_last w _)).trans rfl
      have r1 : w1.cell? ⟨w.heap.size, 1, none⟩ = some (.int .i64 n) := by rw [g1.cell (by simp)]; exact (cell_of_row _ _ _ _ _ _ (heap_alloc_last w _)).trans rfl
      clear g1
      go_wp2
      go_ret
      exact ⟨rfl, b1⟩
end Go.Proofs.YtlgacbjopobeoaaGreatDoor
/- Bits of words: the program's memIsOn, the specification's l5Bit. -/
namespace Go.Proofs.YtlgacbjopobeoaaGreatDoor
open Go.RowKit Go.Shelf
set_option linter.unusedVariables false

/-- Bit p of a number. -/
def btest (x p : Int) : Bool := decide (x / 2 ^ p.toNat % 2 = 1)

theorem div_bd (x : Int) (n : Nat) (h0 : 0 ≤ x) : 0 ≤ x / 2 ^ n ∧ x / 2 ^ n ≤ x := by
  have hp : (0 : Int) < 2 ^ n := Int.pow_pos (by omega)
  refine ⟨Int.ediv_nonneg h0 (by omega), ?_⟩
  exact Int.ediv_le_self _ h0
theorem and1_any (y : Int) (h0 : 0 ≤ y) : (((y.toNat &&& 1 : Nat) : Int) == 1) = decide (y % 2 = 1) := by
  rw [Nat.and_one_is_mod]
  by_cases h : y % 2 = 1
  · rw [decide_eq_true h]; simp; omega
  · rw [decide_eq_false h]; simp; omega

set_option maxHeartbeats 1000000 in
theorem on16 (x p : Int) (w : World) (h0 : 0 ≤ x) (h1 : x < 65536) (p0 : 0 ≤ p) (p1 : p < 16) : Calls Tryz.prog 322 #[.int .u16 x, .int .i64 p] w fun e w' => e = .returned (.bool (btest x p)) ∧ w' = w := by
  have hv : (bits BinOp.and IntKind.u16 (x / 2 ^ p.toNat) 1 == 1) = btest x p := by
    have := div_bd x p.toNat h0
    rw [u16_and _ 1 this.1 (by omega) (by decide) (by decide)]
    exact and1_any _ this.1
  go_enter Tryz.func322, Tryz.ntmps322
  go_wp2
  go_ret
  exact ⟨rfl, rfl⟩

set_option maxHeartbeats 1000000 in
theorem on32 (x p : Int) (w : World) (h0 : 0 ≤ x) (h1 : x < 4294967296) (p0 : 0 ≤ p) (p1 : p < 32) : Calls Tryz.prog 320 #[.int .u32 x, .int .i64 p] w fun e w' => e = .returned (.bool (btest x p)) ∧ w' = w := by
  have hv : (bits BinOp.and IntKind.u32 (x / 2 ^ p.toNat) 1 == 1) = btest x p := by
    have := div_bd x p.toNat h0
    rw [u32_and _ 1 this.1 (by omega) (by decide) (by decide)]
    exact and1_any _ this.1
  go_enter Tryz.func320, Tryz.ntmps320
  go_wp2
  go_ret
  exact ⟨rfl, rfl⟩

set_option maxHeartbeats 1000000 in
theorem on64 (x p : Int) (w : World) (h0 : 0 ≤ x) (h1 : x < 18446744073709551616) (p0 : 0 ≤ p) (p1 : p < 64) : Calls Tryz.prog 321 #[.int .u64 x, .int .i64 p] w fun e w' => e = .returned (.bool (btest x p)) ∧ w' = w := by
  have hv : (bits BinOp.and IntKind.u64 (x / 2 ^ p.toNat) 1 == 1) = btest x p := by
    have := div_bd x p.toNat h0
    rw [u64_and _ 1 this.1 (by omega) (by decide) (by decide)]
    exact and1_any _ this.1
  go_enter Tryz.func321, Tryz.ntmps321
  go_wp2
  go_ret
  exact ⟨rfl, rfl⟩

theorem div_next (x : Int) (n : Nat) : x / 2 ^ n / 2 = x / 2 ^ (n + 1) := by
  rw [Int.ediv_ediv_of_nonneg (Int.le_of_lt (Int.pow_pos (by omega))), Int.pow_succ]

set_option maxHeartbeats 1000000 in
theorem lbit (x p : Int) (w : World) (h0 : 0 ≤ x) (h1 : x < 18446744073709551616) (p0 : 0 ≤ p) (p1 : p < 64) : Calls Tryz.prog 257 #[.int .u64 x, .int .i64 p] w fun e w' => e = .returned (.bool (btest x p)) ∧ w' = w := by
  obtain ⟨q, rfl⟩ : ∃ q : Nat, p = q := ⟨p.toNat, by omega⟩
  have HX : Hid (0 ≤ x ∧ x < 18446744073709551616) := ⟨h0, h1⟩
  have hv : (x / 2 ^ q % 2 == 1) = btest x q := by simp only [btest, Int.toNat_natCast]; by_cases h : x / 2 ^ q % 2 = 1 <;> simp [h]
  clear p0 h0 h1
  go_enter Tryz.func257, Tryz.ntmps257
  go_wp2
  go_loopg [0, 5] q (fun g a i wr => ∃ n : Nat, n + g = q ∧ i = .int .i64 n ∧ a = .int .u64 (x / 2 ^ n) ∧ wr = w)
  case atStart => exact ⟨0, by omega, rfl, by simp, rfl⟩
  case round =>
    obtain ⟨n, hn, rfl, rfl, rfl⟩ := hrel
    have hd := div_bd x n HX.out.1
    have hu := HX.out.2
    by_cases hlt : n < q
    · have i1 : (n : Int) < (q : Int) := by omega
      have hx : x / 2 ^ n / 2 = x / 2 ^ (n + 1) := div_next x n
      obtain ⟨y, HY⟩ : ∃ y, Hid (y = x / 2 ^ n) := ⟨_, rfl⟩
      rw [← HY.out] at hd hx
      rw [← HY.out]
      have ht : y.tdiv 2 = y / 2 := Int.tdiv_eq_ediv_of_nonneg hd.1
      have h2 : 0 ≤ y / 2 ∧ y / 2 < 18446744073709551616 := by omega
      clear hv
      go_wp2
      go_roundg (gk - 1)
      case measure => omega
      case rel => exact ⟨n + 1, by omega, by simp, by first | rw [ht, hx] | rw [hx] | simp_all, rfl⟩
    · have i1 : ¬ ((n : Int) < (q : Int)) := by omega
      obtain rfl : n = q := by omega
      obtain ⟨y, HY⟩ : ∃ y, Hid (y = x / 2 ^ n) := ⟨_, rfl⟩
      rw [← HY.out] at hd hv
      rw [← HY.out]
      have ht : y.tmod 2 = y % 2 := Int.tmod_eq_emod_of_nonneg hd.1
      clear hn i1 hlt
      go_wp2
      go_ret
      exact ⟨rfl, rfl⟩
end Go.Proofs.YtlgacbjopobeoaaGreatDoor
/- A bit put: the mathematics; the program's turned, the specification's l5Turned. -/
namespace Go.Proofs.YtlgacbjopobeoaaGreatDoor
open Go.RowKit Go.Shelf
set_option linter.unusedVariables false

/-- A number with bit p put to b. -/
def bput (x p : Int) (b : Bool) : Int := if btest x p = b then x else if b then x + 2 ^ p.toNat else x - 2 ^ p.toNat

theorem tb_div (x p i : Nat) : x.testBit (p + i) = (x / 2 ^ p).testBit i := by
  rw [Nat.testBit_div_two_pow]; congr 1; omega
theorem tb_low (m r p i : Nat) (hr : r < 2 ^ p) (hi : i < p) : (2 ^ p * m + r).testBit i = r.testBit i := by
  rw [Nat.testBit_two_pow_mul_add _ hr]; simp [hi]
theorem tb_high (m r p i : Nat) (hr : r < 2 ^ p) (hi : p ≤ i) : (2 ^ p * m + r).testBit i = m.testBit (i - p) := by
  rw [Nat.testBit_two_pow_mul_add _ hr]; simp [show ¬ i < p by omega]

theorem or_pow (m r p : Nat) (hr : r < 2 ^ p) : (2 ^ p * m + r) ||| 2 ^ p = 2 ^ p * (m ||| 1) + r := by
  apply Nat.eq_of_testBit_eq
  intro i
  rw [Nat.testBit_or, Nat.testBit_two_pow]
  by_cases hi : i < p
  · rw [tb_low _ _ _ _ hr hi, tb_low _ _ _ _ hr hi]
    simp [show ¬ p = i by omega]
  · rw [tb_high _ _ _ _ hr (by omega), tb_high _ _ _ _ hr (by omega), Nat.testBit_or]
    congr 1
    by_cases h : p = i
    · subst h; simp
    · have : i - p ≠ 0 := by omega
      obtain ⟨j, hj⟩ : ∃ j, i - p = j + 1 := ⟨i - p - 1, by omega⟩
      rw [hj]
      simp [h, Nat.testBit_succ]

theorem or_one (m : Nat) : m ||| 1 = if m % 2 = 1 then m else m + 1 := by
  apply Nat.eq_of_testBit_eq
  intro i
  rw [Nat.testBit_or]
  cases i with
  | zero =>
    split <;> simp [Nat.testBit_zero] <;> omega
  | succ j =>
    have h1 : Nat.testBit 1 (j + 1) = false := by simp [Nat.testBit_succ]
    rw [h1, Bool.or_false]
    split
    · rfl
    · rw [Nat.testBit_succ, Nat.testBit_succ]; congr 1; omega

theorem pow64 {p : Nat} (h : p < 64) : 2 ^ p < 18446744073709551616 := by
  calc 2 ^ p ≤ 2 ^ 63 := Nat.pow_le_pow_right (by decide) (by omega)
    _ < 18446744073709551616 := by decide

theorem andnot_pow (x p : Nat) (hx : x < 18446744073709551616) (hp : p < 64) : x &&& (18446744073709551615 - 2 ^ p) = if x / 2 ^ p % 2 = 1 then x - 2 ^ p else x := by
  have hpp : 0 < 2 ^ p := Nat.pow_pos (by decide)
  have hdm := Nat.div_add_mod x (2 ^ p)
  have hr := Nat.mod_lt x hpp
  obtain ⟨m, hm⟩ : ∃ m, m = x / 2 ^ p := ⟨_, rfl⟩
  obtain ⟨r, hrr⟩ : ∃ r, r = x % 2 ^ p := ⟨_, rfl⟩
  rw [← hm, ← hrr] at hdm
  rw [← hrr] at hr
  rw [← hm]
  have hmask : ∀ i, (18446744073709551615 - 2 ^ p).testBit i = (decide (i < 64) && !decide (p = i)) := fun i => by
    have := Nat.testBit_two_pow_sub_succ (x := 2 ^ p) (n := 64) (pow64 hp) i
    rw [show 18446744073709551615 - 2 ^ p = 2 ^ 64 - (2 ^ p + 1) by have := pow64 hp; omega, this, Nat.testBit_two_pow]
  have hbig : ∀ i, 64 ≤ i → x.testBit i = false := fun i hi => Nat.testBit_lt_two_pow (Nat.lt_of_lt_of_le hx (by
    calc 18446744073709551616 = 2 ^ 64 := by decide
      _ ≤ 2 ^ i := Nat.pow_le_pow_right (by decide) hi))
  apply Nat.eq_of_testBit_eq
  intro i
  rw [Nat.testBit_and, hmask]
  have key : x.testBit p = decide (m % 2 = 1) := by
    have := tb_high m r p p hr (Nat.le_refl _)
    rw [hdm] at this
    rw [this]; simp [Nat.testBit_zero]
  by_cases hip : p = i
  · subst hip
    simp
    split
    · rename_i h1
      have e : x - 2 ^ p = 2 ^ p * (m - 1) + r := by
        have : 2 ^ p * m = 2 ^ p * (m - 1) + 2 ^ p := by
          obtain ⟨j, rfl⟩ : ∃ j, m = j + 1 := ⟨m - 1, by omega⟩
          simp [Nat.mul_add]
        omega
      rw [e, tb_high _ _ _ _ hr (Nat.le_refl _)]
      simp [Nat.testBit_zero]; omega
    · rename_i h1
      rw [key]; simpa using h1
  · have hn : (!decide (p = i)) = true := by simp [hip]
    rw [hn, Bool.and_true]
    have hx' : (x.testBit i && decide (i < 64)) = x.testBit i := by
      by_cases hi : i < 64
      · simp [hi]
      · rw [hbig i (by omega)]; rfl
    rw [hx']
    split
    · rename_i h1
      have e : x - 2 ^ p = 2 ^ p * (m - 1) + r := by
        have : 2 ^ p * m = 2 ^ p * (m - 1) + 2 ^ p := by
          obtain ⟨j, rfl⟩ : ∃ j, m = j + 1 := ⟨m - 1, by omega⟩
          simp [Nat.mul_add]
        omega
      rw [e]
      conv => lhs; rw [← hdm]
      by_cases hi : i < p
      · rw [tb_low _ _ _ _ hr hi, tb_low _ _ _ _ hr hi]
      · rw [tb_high _ _ _ _ hr (by omega), tb_high _ _ _ _ hr (by omega)]
        obtain ⟨j, hj⟩ : ∃ j, i - p = j + 1 := ⟨i - p - 1, by omega⟩
        rw [hj, Nat.testBit_succ, Nat.testBit_succ]
        congr 1; omega
    · rfl
end Go.Proofs.YtlgacbjopobeoaaGreatDoor
/- A bit put: the walks of turned, memTurned and l5Turned. -/
namespace Go.Proofs.YtlgacbjopobeoaaGreatDoor
open Go.RowKit Go.Shelf
set_option linter.unusedVariables false

theorem btest_nat (x p : Nat) : btest x p = decide (x / 2 ^ p % 2 = 1) := by
  simp only [btest, Int.toNat_natCast]
  congr 1
  have : ((x : Int) / 2 ^ p % 2 = 1) ↔ (x / 2 ^ p % 2 = 1) := by
    rw [show ((x : Int) / 2 ^ p % 2) = ((x / 2 ^ p % 2 : Nat) : Int) by push_cast; rfl]
    omega
  exact propext this

theorem bput_or (x p : Nat) (hx : x < 18446744073709551616) (hp : p < 64) : bits .or .u64 (x : Int) ((2 ^ p : Nat) : Int) = bput x p true := by
  rw [u64_or_nat x (2 ^ p) hx (pow64 hp)]
  have hpp : 0 < 2 ^ p := Nat.pow_pos (by decide)
  have hdm := Nat.div_add_mod x (2 ^ p)
  have h1 := or_pow (x / 2 ^ p) (x % 2 ^ p) p (Nat.mod_lt x hpp)
  rw [hdm] at h1
  rw [h1, or_one]
  unfold bput
  rw [btest_nat, Int.toNat_natCast]
  by_cases h : x / 2 ^ p % 2 = 1
  · rw [if_pos h, hdm]; simp [h]
  · rw [if_neg h]
    simp only [h, decide_false, Bool.false_eq_true, if_false, if_true]
    rw [Nat.mul_add, Nat.mul_one]
    push_cast
    have : ((2 ^ p : Nat) : Int) = (2 : Int) ^ p := by push_cast; rfl
    have e : ((2 ^ p * (x / 2 ^ p) + x % 2 ^ p : Nat) : Int) = (x : Int) := by rw [hdm]
    push_cast at e
    omega
theorem bput_and (x p : Nat) (hx : x < 18446744073709551616) (hp : p < 64) : bits .andNot .u64 (x : Int) ((2 ^ p : Nat) : Int) = bput x p false := by
  rw [u64_andNot_nat x (2 ^ p) hx (pow64 hp), andnot_pow x p hx hp]
  unfold bput
  rw [btest_nat, Int.toNat_natCast]
  by_cases h : x / 2 ^ p % 2 = 1
  · rw [if_pos h]
    have hle : 2 ^ p ≤ x := by
      have hpp : 0 < 2 ^ p := Nat.pow_pos (by decide)
      have : 1 ≤ x / 2 ^ p := Nat.pos_of_ne_zero fun e => by rw [e] at h; simp at h
      exact (Nat.one_le_div_iff hpp).1 this
    simp only [h, decide_true, Bool.true_eq_false, if_false, Bool.false_eq_true]
    rw [Int.ofNat_sub hle]
    push_cast
    rfl
  · rw [if_neg h]; simp [h]


set_option maxHeartbeats 1000000 in
theorem turned_true (x p : Nat) (hx : x < 18446744073709551616) (hp : p < 64) (w : World) : Calls Tryz.prog 329 #[.agg #[.int .u64 ((2 ^ p : Nat) : Int), .bool true], .int .u64 (x : Int)] w fun e w' => e = .returned (.int .u64 (bput x p true)) ∧ Below w.heap.size w w' := by
  have hv := bput_or x p hx hp
  obtain ⟨y, hy⟩ : ∃ y, bput x p true = y := ⟨_, rfl⟩
  obtain ⟨M, hM⟩ : ∃ M, ((2 ^ p : Nat) : Int) = M := ⟨_, rfl⟩
  obtain ⟨X, hX⟩ : ∃ X, (x : Int) = X := ⟨_, rfl⟩
  rw [hy, hM, hX] at hv
  rw [hy, hM, hX]
  clear hx hp hy hM hX
  go_enter Tryz.func329, Tryz.ntmps329
  go_wp2
  go_ret
  exact ⟨rfl, by go_grown⟩

set_option maxHeartbeats 1000000 in
theorem turned_false (x p : Nat) (hx : x < 18446744073709551616) (hp : p < 64) (w : World) : Calls Tryz.prog 329 #[.agg #[.int .u64 ((2 ^ p : Nat) : Int), .bool false], .int .u64 (x : Int)] w fun e w' => e = .returned (.int .u64 (bput x p false)) ∧ Below w.heap.size w w' := by
  have hv := bput_and x p hx hp
  obtain ⟨y, hy⟩ : ∃ y, bput x p false = y := ⟨_, rfl⟩
  obtain ⟨M, hM⟩ : ∃ M, ((2 ^ p : Nat) : Int) = M := ⟨_, rfl⟩
  obtain ⟨X, hX⟩ : ∃ X, (x : Int) = X := ⟨_, rfl⟩
  rw [hy, hM, hX] at hv
  rw [hy, hM, hX]
  clear hx hp hy hM hX
  go_enter Tryz.func329, Tryz.ntmps329
  go_wp2
  go_ret
  exact ⟨rfl, by go_grown⟩
end Go.Proofs.YtlgacbjopobeoaaGreatDoor
/- A bit put: memTurned of the program, l5Turned of the specification. -/
namespace Go.Proofs.YtlgacbjopobeoaaGreatDoor
open Go.RowKit Go.Shelf
set_option linter.unusedVariables false

theorem bput_nat (x p : Nat) (b : Bool) (hx : x < 18446744073709551616) (hp : p < 64) : bput x p b = if b then ((x ||| 2 ^ p : Nat) : Int) else ((x &&& (18446744073709551615 - 2 ^ p) : Nat) : Int) := by
  cases b with
  | true => exact (bput_or x p hx hp).symm.trans (u64_or_nat x (2 ^ p) hx (pow64 hp))
  | false => exact (bput_and x p hx hp).symm.trans (u64_andNot_nat x (2 ^ p) hx (pow64 hp))
theorem bput_bd (x p W : Nat) (b : Bool) (hW : W ≤ 64) (hx : x < 2 ^ W) (hp : p < W) : 0 ≤ bput x p b ∧ bput x p b < ((2 ^ W : Nat) : Int) := by
  have h64 : (2 : Nat) ^ W ≤ 18446744073709551616 := by
    calc 2 ^ W ≤ 2 ^ 64 := Nat.pow_le_pow_right (by decide) hW
      _ = 18446744073709551616 := by decide
  rw [bput_nat x p b (by omega) (by omega)]
  cases b with
  | true =>
    have h1 : x ||| 2 ^ p < 2 ^ W := Nat.or_lt_two_pow hx (Nat.pow_lt_pow_right (by decide) hp)
    simp only [if_true]
    omega
  | false =>
    have h1 : x &&& (18446744073709551615 - 2 ^ p) ≤ x := Nat.and_le_left
    simp only [Bool.false_eq_true, if_false]
    omega
theorem turned_r (x p : Nat) (b : Bool) (hx : x < 18446744073709551616) (hp : p < 64) (w : World) : Calls Tryz.prog 329 #[.agg #[.int .u64 ((2 ^ p : Nat) : Int), .bool b], .int .u64 (x : Int)] w fun e w' => e = .returned (.int .u64 (bput x p b)) ∧ Below w.heap.size w w' := by
  cases b with
  | true => exact turned_true x p hx hp w
  | false => exact turned_false x p hx hp w


set_option maxHeartbeats 1000000 in
theorem turned16 (x p : Nat) (b : Bool) (hx : x < 65536) (hp : p < 16) (w : World) : Calls Tryz.prog 332 #[.int .u16 (x : Int), .func (.func 329) #[.agg #[.int .u64 ((2 ^ p : Nat) : Int), .bool b]] #[]] w fun e w' => e = .returned (.int .u16 (bput x p b)) ∧ Below w.heap.size w w' := by
  have HT : Hid (∀ W, Calls Tryz.prog 329 #[.agg #[.int .u64 ((2 ^ p : Nat) : Int), .bool b], .int .u64 (x : Int)] W fun e w' => e = .returned (.int .u64 (bput x p b)) ∧ Below W.heap.size W w') := fun W => turned_r x p b (by omega) (by omega) W
  have hb := bput_bd x p 16 b (by omega) (by simpa using hx) hp
  obtain ⟨y, hy⟩ : ∃ y, bput x p b = y := ⟨_, rfl⟩
  obtain ⟨M, hM⟩ : ∃ M, ((2 ^ p : Nat) : Int) = M := ⟨_, rfl⟩
  rw [hy] at HT hb
  rw [hM] at HT
  rw [hy, hM]
  obtain ⟨b0, b1⟩ := hb
  have b2 : y < 65536 := by simpa using b1
  have x0 : (0 : Int) ≤ (x : Int) := by omega
  have x1 : (x : Int) < 65536 := by omega
  clear hy hM b1 hp hx
  go_enter Tryz.func332, Tryz.ntmps332
  go_wp2_with fail
  refine (HT.out _).mono ?_
  rintro e w1 ⟨rfl, g1⟩
  go_wp2
  go_ret
  exact ⟨rfl, g1⟩

set_option maxHeartbeats 1000000 in
theorem turned32 (x p : Nat) (b : Bool) (hx : x < 4294967296) (hp : p < 32) (w : World) : Calls Tryz.prog 330 #[.int .u32 (x : Int), .func (.func 329) #[.agg #[.int .u64 ((2 ^ p : Nat) : Int), .bool b]] #[]] w fun e w' => e = .returned (.int .u32 (bput x p b)) ∧ Below w.heap.size w w' := by
  have HT : Hid (∀ W, Calls Tryz.prog 329 #[.agg #[.int .u64 ((2 ^ p : Nat) : Int), .bool b], .int .u64 (x : Int)] W fun e w' => e = .returned (.int .u64 (bput x p b)) ∧ Below W.heap.size W w') := fun W => turned_r x p b (by omega) (by omega) W
  have hb := bput_bd x p 32 b (by omega) (by simpa using hx) hp
  obtain ⟨y, hy⟩ : ∃ y, bput x p b = y := ⟨_, rfl⟩
  obtain ⟨M, hM⟩ : ∃ M, ((2 ^ p : Nat) : Int) = M := ⟨_, rfl⟩
  rw [hy] at HT hb
  rw [hM] at HT
  rw [hy, hM]
  obtain ⟨b0, b1⟩ := hb
  have b2 : y < 4294967296 := by simpa using b1
  have x0 : (0 : Int) ≤ (x : Int) := by omega
  have x1 : (x : Int) < 4294967296 := by omega
  clear hy hM b1 hp hx
  go_enter Tryz.func330, Tryz.ntmps330
  go_wp2_with fail
  refine (HT.out _).mono ?_
  rintro e w1 ⟨rfl, g1⟩
  go_wp2
  go_ret
  exact ⟨rfl, g1⟩

set_option maxHeartbeats 1000000 in
theorem turned64 (x p : Nat) (b : Bool) (hx : x < 18446744073709551616) (hp : p < 64) (w : World) : Calls Tryz.prog 331 #[.int .u64 (x : Int), .func (.func 329) #[.agg #[.int .u64 ((2 ^ p : Nat) : Int), .bool b]] #[]] w fun e w' => e = .returned (.int .u64 (bput x p b)) ∧ Below w.heap.size w w' := by
  have HT : Hid (∀ W, Calls Tryz.prog 329 #[.agg #[.int .u64 ((2 ^ p : Nat) : Int), .bool b], .int .u64 (x : Int)] W fun e w' => e = .returned (.int .u64 (bput x p b)) ∧ Below W.heap.size W w') := fun W => turned_r x p b (by omega) (by omega) W
  have hb := bput_bd x p 64 b (by omega) (by simpa using hx) hp
  obtain ⟨y, hy⟩ : ∃ y, bput x p b = y := ⟨_, rfl⟩
  obtain ⟨M, hM⟩ : ∃ M, ((2 ^ p : Nat) : Int) = M := ⟨_, rfl⟩
  rw [hy] at HT hb
  rw [hM] at HT
  rw [hy, hM]
  obtain ⟨b0, b1⟩ := hb
  have b2 : y < 18446744073709551616 := by simpa using b1
  have x0 : (0 : Int) ≤ (x : Int) := by omega
  have x1 : (x : Int) < 18446744073709551616 := by omega
  clear hy hM b1 hp hx
  go_enter Tryz.func331, Tryz.ntmps331
  go_wp2_with fail
  refine (HT.out _).mono ?_
  rintro e w1 ⟨rfl, g1⟩
  go_wp2
  go_ret
  exact ⟨rfl, g1⟩

theorem mask_eq (q : Nat) (h : q < 64) : IntKind.u64.wrap (2 ^ q) = ((2 ^ q : Nat) : Int) := by
  have := pow64 h
  have e : ((2 : Int) ^ q) = ((2 ^ q : Nat) : Int) := by push_cast; rfl
  rw [e]
  generalize 2 ^ q = M at this ⊢
  simp [IntKind.wrap, IntKind.bits, IntKind.signed]
  omega

set_option maxHeartbeats 1000000 in
theorem lturned (x p : Nat) (b : Bool) (hx : x < 18446744073709551616) (hp : p < 64) (w : World) : Calls Tryz.prog 259 #[.int .u64 (x : Int), .int .i64 (p : Int), .bool b] w fun e w' => e = .returned (.int .u64 (bput x p b)) ∧ w' = w := by
  have hb := bput_bd x p 64 b (by omega) (by simpa using hx) hp
  have HX : Hid (x < 18446744073709551616 ∧ p < 64) := ⟨hx, hp⟩
  obtain ⟨y, Hy⟩ : ∃ y, Hid (y = bput x p b) := ⟨_, rfl⟩
  rw [← Hy.out] at hb
  rw [← Hy.out]
  obtain ⟨t, Ht⟩ : ∃ t, Hid (t = btest x p) := ⟨_, rfl⟩
  have HL : Hid (∀ W, Calls Tryz.prog 257 #[.int .u64 (x : Int), .int .i64 (p : Int)] W fun e w' => e = .returned (.bool t) ∧ w' = W) := fun W => by
    rw [Ht.out]; exact lbit x p W (by omega) (by have := HX.out; omega) (by omega) (by have := HX.out; omega)
  by_cases htb : t = b
  · have ht : (t == b) = true := by simp [htb]
    have hy : y = (x : Int) := by rw [Hy.out, bput, ← Ht.out, if_pos htb]
    subst hy
    clear htb Hy hb hx hp
    go_enter Tryz.func259, Tryz.ntmps259
    go_wp2_with fail
    refine (HL.out _).mono ?_
    rintro e w1 ⟨rfl, rfl⟩
    go_wp2
    go_ret
    exact ⟨rfl, rfl⟩
  · have ht : (t == b) = false := by simp [htb]
    have hy : (if b then (x : Int) + 2 ^ p else (x : Int) - 2 ^ p) = y := by rw [Hy.out, bput, ← Ht.out, if_neg htb, Int.toNat_natCast]
    have e2 : ((2 : Int) ^ p) = ((2 ^ p : Nat) : Int) := by push_cast; rfl
    rw [e2] at hy
    obtain ⟨hb0, hb1⟩ := hb
    have hb2 : y < 18446744073709551616 := by simpa using hb1
    clear htb Hy hx hp hb1 e2
    go_enter Tryz.func259, Tryz.ntmps259
    go_wp2_with fail
    refine (HL.out _).mono ?_
    rintro e w1 ⟨rfl, rfl⟩
    go_wp2
    go_loopg [7, 8] p (fun g a i wr => ∃ n : Nat, n + g = p ∧ i = .int .i64 n ∧ a = .int .u64 ((2 ^ n : Nat) : Int) ∧ wr = w1)
    case atStart => exact ⟨0, by omega, rfl, rfl, rfl⟩
    case round =>
      obtain ⟨n, hn, rfl, rfl, rfl⟩ := hrel
      have hp64 := HX.out.2
      by_cases hlt : n < p
      · have i1 : (n : Int) < (p : Int) := by omega
        have q1 := pow64 (p := n + 1) (by omega)
        have q2 : 2 ^ (n + 1) = 2 ^ n * 2 := Nat.pow_succ ..
        obtain ⟨M, HM⟩ : ∃ M : Nat, Hid (M = 2 ^ n) := ⟨_, rfl⟩
        have q3 : M * 2 < 18446744073709551616 := by rw [HM.out]; omega
        rw [← HM.out]
        clear hy q1 q2
        go_wp2
        go_roundg (gk - 1)
        case measure => omega
        case rel => exact ⟨n + 1, by omega, by simp, by rw [Nat.pow_succ, ← HM.out]; first | rfl | (push_cast; rfl), rfl⟩
      · have i1 : ¬ ((n : Int) < (p : Int)) := by omega
        obtain rfl : n = p := by omega
        obtain ⟨M, HM⟩ : ∃ M : Int, Hid (M = ((2 ^ n : Nat) : Int)) := ⟨_, rfl⟩
        rw [← HM.out] at hy
        rw [← HM.out]
        cases b with
        | true =>
          simp only [if_true] at hy
          clear i1 hlt
          go_wp2
          go_ret
          exact ⟨rfl, rfl⟩
        | false =>
          simp only [Bool.false_eq_true, if_false] at hy
          clear i1 hlt
          go_wp2
          go_ret
          exact ⟨rfl, rfl⟩
end Go.Proofs.YtlgacbjopobeoaaGreatDoor
