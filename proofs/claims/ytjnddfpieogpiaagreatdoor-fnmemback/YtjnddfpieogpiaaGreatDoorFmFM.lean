/- Real numbers of 64 bits: operations that have a number; differences that are exact. -/
import Derived.Test.YtjnddfpieogpiaaGreatDoorFmAM
namespace Go.Proofs.YtjnddfpieogpiaaGreatDoor.Fm
open Ieee

theorem read_num {x : Nat} (h : rg x < infR) (h0 : 0 < R (rg x)) : ∃ m i, double.read x = .number (sg x) m i ∧ m ≠ 0 := by
  obtain ⟨m, k, e, r, -, -, -⟩ := read_fin h
  refine ⟨m, _, e, fun e0 => ?_⟩
  rw [e0, Nat.zero_mul] at r
  omega

theorem write_notN {d : Datum} (h : d.isNaN = false) : ∃ r s, r ≤ infR ∧ double.write d = double.word s r := by
  cases d with
  | number s m i => obtain ⟨r, h1, h2⟩ := nearest_word s m i; exact ⟨r, s, h1, h2⟩
  | infinity s => exact ⟨infR, s, Nat.le_refl _, rfl⟩
  | nan s t => cases h

theorem mul_some {x y : Nat} (hx : rg x < infR) (x0 : 0 < R (rg x)) (hy : ¬ isN y) : ∃ r, floatBits .mul .f64 x y = some r ∧ ¬ isN r ∧ r < 18446744073709551616 := by
  obtain ⟨m, i, e, hm⟩ := read_num hx x0
  have : ∃ d, ((double.read x).product (double.read y)) = some d ∧ d.isNaN = false := by
    rw [e]
    unfold isN at hy
    by_cases h : rg y < infR
    · obtain ⟨n, k, e2, -, -, -, -⟩ := read_fin h
      rw [e2]; exact ⟨_, rfl, rfl⟩
    · rw [read_inf (by omega)]
      exact ⟨.infinity (sg y ^^ sg x), by simp [Datum.product, hm], rfl⟩
  obtain ⟨d, h1, h2⟩ := this
  obtain ⟨r, s, h3, h4⟩ := write_notN h2
  refine ⟨double.word s r, ?_, notN_word s h3, word_lt s h3⟩
  show double.mul x y = _
  unfold Format.mul
  rw [h1, ← h4]; rfl

theorem mul_some' {x y : Nat} (hx : ¬ isN x) (hy : rg y < infR) (y0 : 0 < R (rg y)) : ∃ r, floatBits .mul .f64 x y = some r ∧ ¬ isN r ∧ r < 18446744073709551616 := by
  obtain ⟨m, i, e, hm⟩ := read_num hy y0
  have : ∃ d, ((double.read x).product (double.read y)) = some d ∧ d.isNaN = false := by
    rw [e]
    unfold isN at hx
    by_cases h : rg x < infR
    · obtain ⟨n, k, e2, -, -, -, -⟩ := read_fin h
      rw [e2]; exact ⟨_, rfl, rfl⟩
    · rw [read_inf (by omega)]
      exact ⟨.infinity (sg x ^^ sg y), by simp [Datum.product, hm], rfl⟩
  obtain ⟨d, h1, h2⟩ := this
  obtain ⟨r, s, h3, h4⟩ := write_notN h2
  refine ⟨double.word s r, ?_, notN_word s h3, word_lt s h3⟩
  show double.mul x y = _
  unfold Format.mul
  rw [h1, ← h4]; rfl

theorem div_some {x y : Nat} (hx : ¬ isN x) (hy : rg y < infR) (y0 : 0 < R (rg y)) : ∃ r, floatBits .quo .f64 x y = some r ∧ ¬ isN r ∧ r < 18446744073709551616 := by
  obtain ⟨m, i, e, hm⟩ := read_num hy y0
  have : ∃ d, ((double.read x).quotient (double.fractionBits + 2) (double.read y)) = some d ∧ d.isNaN = false := by
    rw [e]
    unfold isN at hx
    by_cases h : rg x < infR
    · obtain ⟨n, k, e2, -, -, -, -⟩ := read_fin h
      rw [e2]
      unfold Datum.quotient
      simp only [if_neg hm]
      exact ⟨_, rfl, rfl⟩
    · rw [read_inf (by omega)]
      exact ⟨.infinity (sg x ^^ sg y), rfl, rfl⟩
  obtain ⟨d, h1, h2⟩ := this
  obtain ⟨r, s, h3, h4⟩ := write_notN h2
  refine ⟨double.word s r, ?_, notN_word s h3, word_lt s h3⟩
  show double.div x y = _
  unfold Format.div
  rw [h1, ← h4]; rfl

theorem add_some {x y : Nat} (hx : rg x < infR) (hy : ¬ isN y) : ∃ r, floatBits .add .f64 x y = some r ∧ ¬ isN r ∧ r < 18446744073709551616 := by
  obtain ⟨m, k, e, -, -, -, -⟩ := read_fin hx
  have : ∃ d, ((double.read x).sum (double.read y)) = some d ∧ d.isNaN = false := by
    rw [e]
    unfold isN at hy
    by_cases h : rg y < infR
    · obtain ⟨n, k, e2, -, -, -, -⟩ := read_fin h
      rw [e2]; exact ⟨_, rfl, rfl⟩
    · rw [read_inf (by omega)]
      exact ⟨.infinity (sg y), rfl, rfl⟩
  obtain ⟨d, h1, h2⟩ := this
  obtain ⟨r, s, h3, h4⟩ := write_notN h2
  refine ⟨double.word s r, ?_, notN_word s h3, word_lt s h3⟩
  show double.add x y = _
  unfold Format.add
  rw [h1, ← h4]; rfl

/-- The bits of an operation that has a number. -/
def opB (op : BinOp) (x y : Nat) : Nat := (floatBits op .f64 x y).getD 0
def Good (op : BinOp) (x y : Nat) : Prop := ∃ r, floatBits op .f64 x y = some r ∧ ¬ isN r ∧ r < 18446744073709551616
theorem Good.run {P : Program} {op : BinOp} {x y : Nat} (h : Good op x y) (t : TypeId) (w : World) : (binOp op t (.float .f64 x) (.float .f64 y)).run P w = .ok (.float .f64 (opB op x y)) w := by
  obtain ⟨r, h1, -, -⟩ := h
  unfold opB
  rw [h1]
  exact run_float_arith w op t .f64 x y r h1
theorem Good.notN {op : BinOp} {x y : Nat} (h : Good op x y) : ¬ isN (opB op x y) := by
  obtain ⟨r, h1, h2, -⟩ := h
  unfold opB
  rw [h1]
  exact h2
theorem Good.lt {op : BinOp} {x y : Nat} (h : Good op x y) : opB op x y < 18446744073709551616 := by
  obtain ⟨r, h1, -, h2⟩ := h
  unfold opB
  rw [h1]
  exact h2

theorem whole_notN (n : Int) : ¬ isN (floatOfInt .f64 n) := by
  obtain ⟨r, h1, h2⟩ := whole_word n
  rw [h2]; exact notN_word _ h1
theorem whole_lt (n : Int) : floatOfInt .f64 n < 18446744073709551616 := by
  obtain ⟨r, h1, h2⟩ := whole_word n
  rw [h2]; exact word_lt _ h1
theorem whole_fin (n : Int) (h : n.natAbs < 9007199254740992) (h0 : n ≠ 0) : rg (floatOfInt .f64 n) < infR ∧ 0 < R (rg (floatOfInt .f64 n)) := by
  obtain ⟨r, h1, h2, h3⟩ := whole_exact n h
  rw [h3, rg_word _ (Nat.le_of_lt h1), h2]
  exact ⟨h1, Nat.mul_pos (by omega) U_pos⟩
theorem whole_sv (n : Int) (h : n.natAbs < 9007199254740992) : rg (floatOfInt .f64 n) < infR ∧ sv (floatOfInt .f64 n) = n * U := by
  obtain ⟨r, h1, h2, h3⟩ := whole_exact n h
  rw [h3]
  refine ⟨by rw [rg_word _ (Nat.le_of_lt h1)]; exact h1, ?_⟩
  unfold sv
  rw [rg_word _ (Nat.le_of_lt h1), sg_word _ (Nat.le_of_lt h1), h2]
  by_cases hn : n < 0
  · simp only [hn, decide_true, if_true]
    rw [Int.natCast_mul, ← Int.neg_mul]
    congr 1
    omega
  · simp only [hn, decide_false, Bool.false_eq_true, if_false]
    rw [Int.natCast_mul]
    congr 1
    omega

end Go.Proofs.YtjnddfpieogpiaaGreatDoor.Fm
/- Real numbers of 64 bits: taken apart into an odd number and a power of two. -/
namespace Go.Proofs.YtjnddfpieogpiaaGreatDoor.Fm
open Ieee
set_option linter.unusedVariables false

theorem pred_succ {k : Nat} (h : 0 < k) : k = (k - 1) + 1 := by omega
theorem toNat_succ (e c : Int) (h : 0 ≤ e + c) : (e + 1 + c).toNat = (e + c).toNat + 1 := by omega
theorem toNat_pred (e c : Int) (h : 0 < e + c) : (e + c).toNat = (e - 1 + c).toNat + 1 := by omega
theorem toNat_zero (e c : Int) (h : e = -c) : (e + c).toNat = 0 := by omega

/-- V, in units, is N times 2 to the E, N odd. -/
def Parts (V : Nat) (n : Nat) (e : Int) : Prop := n % 2 = 1 ∧ -1126 ≤ e ∧ V * 4503599627370496 = n * 2 ^ (e + 1126).toNat

theorem odd_unique {n m a b : Nat} (hn : n % 2 = 1) (hm : m % 2 = 1) (h : n * 2 ^ a = m * 2 ^ b) : n = m ∧ a = b := by
  have key : ∀ {n m a b : Nat}, n % 2 = 1 → m % 2 = 1 → n * 2 ^ a = m * 2 ^ b → a ≤ b → n = m ∧ a = b := by
    intro n m a b hn hm h hab
    have e : b = a + (b - a) := by omega
    rw [e, Nat.pow_add, Nat.mul_comm (2 ^ a), ← Nat.mul_assoc] at h
    have h2 := Nat.eq_of_mul_eq_mul_right (Nat.two_pow_pos a) h
    by_cases hz : b - a = 0
    · rw [hz, Nat.pow_zero, Nat.mul_one] at h2
      exact ⟨h2, by omega⟩
    · exfalso
      have e2 : b - a = (b - a - 1) + 1 := by omega
      rw [e2, Nat.pow_succ, ← Nat.mul_assoc] at h2
      omega
  rcases Nat.le_total a b with hab | hab
  · exact key hn hm h hab
  · obtain ⟨h1, h2⟩ := key hm hn h.symm hab
    exact ⟨h1.symm, h2.symm⟩

theorem Parts.unique {V n m : Nat} {e f : Int} (h : Parts V n e) (k : Parts V m f) : n = m ∧ e = f := by
  obtain ⟨h1, h2, h3⟩ := h
  obtain ⟨k1, k2, k3⟩ := k
  obtain ⟨a, b⟩ := odd_unique h1 k1 (h3.symm.trans k3)
  exact ⟨a, by omega⟩

theorem Parts.least {V n : Nat} {e : Int} (h : Parts V n e) (hV : 0 < V) : -1074 ≤ e := by
  obtain ⟨h1, h2, h3⟩ := h
  by_cases hb : -1074 ≤ e
  · exact hb
  · exfalso
    have e52 : (4503599627370496 : Nat) = 2 ^ 52 := by decide
    have es : 52 = (e + 1126).toNat + (52 - (e + 1126).toNat) := by omega
    rw [e52, es, Nat.pow_add, Nat.mul_comm (2 ^ (e + 1126).toNat), ← Nat.mul_assoc] at h3
    have h4 := Nat.eq_of_mul_eq_mul_right (Nat.two_pow_pos _) h3
    have e2 : 52 - (e + 1126).toNat = (52 - (e + 1126).toNat - 1) + 1 := by omega
    rw [e2, Nat.pow_succ, ← Nat.mul_assoc] at h4
    omega

theorem Parts.val {V n : Nat} {e : Int} (h : Parts V n e) (hV : 0 < V) : V = n * 2 ^ (e + 1074).toNat := by
  have hb := h.least hV
  obtain ⟨h1, h2, h3⟩ := h
  have e52 : (4503599627370496 : Nat) = 2 ^ 52 := by decide
  have es : (e + 1126).toNat = (e + 1074).toNat + 52 := by omega
  rw [es, Nat.pow_add, ← Nat.mul_assoc, e52] at h3
  exact Nat.eq_of_mul_eq_mul_right (Nat.two_pow_pos _) h3

theorem Parts.of {V n : Nat} {e : Int} (hn : n % 2 = 1) (he : -1074 ≤ e) (h : V = n * 2 ^ (e + 1074).toNat) : Parts V n e := by
  refine ⟨hn, by omega, ?_⟩
  have e52 : (4503599627370496 : Nat) = 2 ^ 52 := by decide
  have es : (e + 1126).toNat = (e + 1074).toNat + 52 := by omega
  rw [es, Nat.pow_add, ← Nat.mul_assoc, e52, h]

/-- The bounds of a number's parts. -/
theorem Parts.bd {r n : Nat} {e : Int} (h : Parts (R r) n e) (hr : r < infR) (h0 : 0 < R r) : n < 9007199254740992 ∧ e ≤ 1023 ∧ -1074 ≤ e ∧ 1 ≤ n := by
  have hl := h.least h0
  have hv := h.val h0
  have hn1 : 1 ≤ n := by have := h.1; omega
  have hlt := R_fin_lt hr
  refine ⟨?_, ?_, hl, hn1⟩
  · obtain ⟨m, k, hm, -, hm2, -, -⟩ := R_form hr
    rw [hm] at hv
    -- n divides m
    by_cases hk : k ≤ (e + 1074).toNat
    · have es : (e + 1074).toNat = ((e + 1074).toNat - k) + k := by omega
      rw [es, Nat.pow_add, ← Nat.mul_assoc] at hv
      have h4 := Nat.eq_of_mul_eq_mul_right (Nat.two_pow_pos _) hv
      have : n ≤ n * 2 ^ ((e + 1074).toNat - k) := Nat.le_mul_of_pos_right _ (Nat.two_pow_pos _)
      omega
    · exfalso
      have es : k = (k - (e + 1074).toNat - 1) + 1 + (e + 1074).toNat := by omega
      rw [es, Nat.pow_add, ← Nat.mul_assoc] at hv
      have h4 := Nat.eq_of_mul_eq_mul_right (Nat.two_pow_pos _) hv
      rw [Nat.pow_succ, ← Nat.mul_assoc] at h4
      have := h.1
      omega
  · rw [hv] at hlt
    have h1 : 2 ^ (e + 1074).toNat < 2 ^ (53 + 2045) := by
      rw [Nat.pow_add 2 53 2045, ← Kinf_eq]
      exact Nat.lt_of_le_of_lt (Nat.le_mul_of_pos_left _ hn1) hlt
    have := pow_lt_inv h1
    omega

/-- In the midst: b, with e to be added to the power. -/
def Mid (V : Nat) (b : Nat) (e : Int) : Prop := rg b < infR ∧ sg b = false ∧ 0 < R (rg b) ∧ -1126 ≤ e ∧ V * (U * 4503599627370496) = R (rg b) * 2 ^ (e + 1126).toNat

theorem mid_start {b : Nat} (h1 : rg b < infR) (h2 : sg b = false) (h3 : 0 < R (rg b)) : Mid (R (rg b)) b 0 := by
  refine ⟨h1, h2, h3, by decide, ?_⟩
  have e : ((0:Int) + 1126).toNat = 52 + 1074 := by decide
  rw [e, U_add 52 (52 + 1074) rfl]
  have : (2:Nat) ^ 52 = 4503599627370496 := by decide
  rw [this, Nat.mul_comm U]

theorem word_false {r : Nat} (h : r < infR) : rg (double.word false r) = r ∧ sg (double.word false r) = false := ⟨rg_word _ (Nat.le_of_lt h), sg_word _ (Nat.le_of_lt h)⟩

/-- Halving what is 2 to the 53 or more. -/
theorem mid_half {V b : Nat} {e : Int} (h : Mid V b e) (hb : 9007199254740992 * U ≤ R (rg b)) : ∃ b', floatBits .quo .f64 b two = some b' ∧ Mid V b' (e + 1) ∧ 2 * R (rg b') = R (rg b) := by
  obtain ⟨h1, h2, h3, h4, h5⟩ := h
  obtain ⟨m, k, hm, -, hm2, hk, hn⟩ := R_form h1
  have e53 : (2:Nat) ^ 53 = 9007199254740992 := by decide
  have hk2 : 0 < k := by
    have h6 : 2 ^ (53 + 1074) < 2 ^ (53 + k) := by
      rw [U_add 53 (53 + 1074) rfl, e53, Nat.pow_add, e53]
      rw [hm] at hb
      exact Nat.lt_of_le_of_lt hb (Nat.mul_lt_mul_of_pos_right hm2 (Nat.two_pow_pos _))
    have h7 := Nat.lt_of_add_lt_add_left (pow_lt_inv h6)
    exact Nat.lt_of_le_of_lt (Nat.zero_le _) h7
  have hV : R (rg b) = 2 * (m * 2 ^ (k - 1)) := by
    have e1 : 2 ^ k = 2 ^ (k - 1) * 2 := by
      rw [← Nat.pow_succ]
      exact congrArg (2 ^ ·) (pred_succ hk2)
    rw [hm, e1, ← Nat.mul_assoc, Nat.mul_comm]
  have hrep : Rep (m * 2 ^ (k - 1)) := ⟨m, k - 1, rfl, hm2, Nat.lt_of_le_of_lt (Nat.sub_le _ _) hk, hn.imp_right (fun h => by rw [h])⟩
  obtain ⟨r, q1, q2, q3⟩ := half_fin h1 hV hrep
  rw [h2] at q3
  obtain ⟨w1, w2⟩ := word_false q1
  refine ⟨_, q3, ⟨by rw [w1]; exact q1, w2, by rw [w1, q2]; omega, by omega, ?_⟩, by rw [w1, q2, hV]⟩
  rw [w1, q2, h5, hV]
  rw [toNat_succ e 1126 (by omega), Nat.pow_succ, Nat.mul_comm 2, Nat.mul_assoc, Nat.mul_comm 2]

/-- Doubling what is below 2 to the 52. -/
theorem mid_dbl {V b : Nat} {e : Int} (h : Mid V b e) (he : -1126 < e) (hb : R (rg b) < 4503599627370496 * U) : ∃ b', floatBits .mul .f64 b two = some b' ∧ Mid V b' (e - 1) ∧ R (rg b') = 2 * R (rg b) := by
  obtain ⟨h1, h2, h3, h4, h5⟩ := h
  have hK : 2 * R (rg b) < Kinf := by
    have : 9007199254740992 * U ≤ Kinf := Nat.le_of_ble_eq_true (by decide +kernel)
    omega
  obtain ⟨r, q1, q2, q3⟩ := dbl_fin h1 hK
  rw [h2] at q3
  obtain ⟨w1, w2⟩ := word_false q1
  refine ⟨_, q3, ⟨by rw [w1]; exact q1, w2, by rw [w1, q2]; omega, by omega, ?_⟩, by rw [w1, q2]⟩
  rw [w1, q2, h5]
  rw [toNat_pred e 1126 (by omega), Nat.pow_succ, Nat.mul_comm 2 (R (rg b)), Nat.mul_assoc, Nat.mul_comm 2]

/-- How often it may be halved. -/
theorem mid_most {V b : Nat} {e : Int} (h : Mid V b e) (hV : V < Kinf) (hb : 9007199254740992 * U ≤ R (rg b)) : e < 971 := by
  obtain ⟨h1, h2, h3, h4, h5⟩ := h
  have e53 : (2:Nat) ^ 53 = 9007199254740992 := by decide
  have e52 : (2:Nat) ^ 52 = 4503599627370496 := by decide
  have h6 : 9007199254740992 * U * 2 ^ (e + 1126).toNat < Kinf * (U * 4503599627370496) := by
    refine Nat.lt_of_le_of_lt (Nat.mul_le_mul_right _ hb) ?_
    rw [← h5]
    exact Nat.mul_lt_mul_of_pos_right hV (Nat.mul_pos U_pos (by decide))
  have h7 : 2 ^ (53 + (e + 1126).toNat) * U < 2 ^ (53 + 2045 + 52) * U := by
    rw [Nat.pow_add 2 53, Nat.pow_add 2 (53 + 2045) 52, Nat.pow_add 2 53 2045, ← Kinf_eq, e53, e52]
    calc 9007199254740992 * 2 ^ (e + 1126).toNat * U = 9007199254740992 * U * 2 ^ (e + 1126).toNat := by rw [Nat.mul_right_comm]
      _ < Kinf * (U * 4503599627370496) := h6
      _ = Kinf * 4503599627370496 * U := by rw [Nat.mul_comm U, Nat.mul_assoc]
  have := pow_lt_inv (Nat.lt_of_mul_lt_mul_right h7)
  omega

/-- It is whole, or it may be doubled. -/
theorem mid_least {V b : Nat} {e : Int} (h : Mid V b e) (hV : 0 < V) (hb : R (rg b) < 4503599627370496 * U) : -1126 < e := by
  obtain ⟨h1, h2, h3, h4, h5⟩ := h
  by_cases he : e = -1126
  · exfalso
    rw [toNat_zero e 1126 he, Nat.pow_zero, Nat.mul_one] at h5
    have : U * 4503599627370496 ≤ V * (U * 4503599627370496) := Nat.le_mul_of_pos_left _ hV
    rw [Nat.mul_comm U] at this
    rw [Nat.mul_comm U] at h5
    omega
  · omega

/-- What is no whole number is below 2 to the 52. -/
theorem frac_small {b : Nat} (h1 : rg b < infR) (hf : R (rg b) % U ≠ 0) : R (rg b) < 4503599627370496 * U := by
  obtain ⟨m, k, hm, -, hm2, hk, hn⟩ := R_form h1
  by_cases hk2 : 1074 ≤ k
  · exfalso
    apply hf
    rw [hm, U_add (k - 1074) k (by omega), ← Nat.mul_assoc, Nat.mul_mod_left]
  · rw [hm, U_sub (1073 - k + 1) k (by omega), Nat.pow_succ]
    have h2 : m < 4503599627370496 * (2 ^ (1073 - k) * 2) := by
      have := Nat.two_pow_pos (1073 - k)
      omega
    rw [← Nat.mul_assoc]
    exact Nat.mul_lt_mul_of_pos_right h2 (Nat.two_pow_pos _)

/-- From 2 to the 52 on it is whole. -/
theorem whole_big {b : Nat} (h1 : rg b < infR) (hb : 4503599627370496 * U ≤ R (rg b)) : R (rg b) % U = 0 := by
  by_cases h : R (rg b) % U = 0
  · exact h
  · have := frac_small h1 h; omega

/-- A whole number in the midst. -/
theorem mid_whole {V b : Nat} {e : Int} (h : Mid V b e) (hw : R (rg b) % U = 0) : 1 ≤ R (rg b) / U ∧ V * 4503599627370496 = R (rg b) / U * 2 ^ (e + 1126).toNat := by
  obtain ⟨h1, h2, h3, h4, h5⟩ := h
  have hd := Nat.div_add_mod (R (rg b)) U
  rw [hw, Nat.add_zero] at hd
  refine ⟨?_, ?_⟩
  · refine Nat.one_le_iff_ne_zero.2 (fun h0 => ?_)
    rw [h0, Nat.mul_zero] at hd
    omega
  · have h6 : V * 4503599627370496 * U = R (rg b) / U * 2 ^ (e + 1126).toNat * U := by
      rw [Nat.mul_assoc, Nat.mul_comm 4503599627370496 U, h5, Nat.mul_right_comm, Nat.mul_comm (R (rg b) / U) U, hd]
    exact Nat.eq_of_mul_eq_mul_right U_pos h6
end Go.Proofs.YtjnddfpieogpiaaGreatDoor.Fm
