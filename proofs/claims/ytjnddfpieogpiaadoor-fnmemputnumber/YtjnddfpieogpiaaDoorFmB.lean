/- Real numbers of 64 bits: where nothing is rounded. -/
import Derived.Test.YtjnddfpieogpiaaDoorFmA
namespace Go.Proofs.YtjnddfpieogpiaaDoor.Fm
open Ieee

theorem cut_exact (neg : Bool) (q drop : Nat) (hq : 0 < q) : Toward.even.cut neg (q * 2 ^ drop) drop = q := by
  have h2 : 0 < 2 ^ drop := Nat.two_pow_pos _
  have hne : q * 2 ^ drop ≠ 0 := Nat.ne_of_gt (Nat.mul_pos hq h2)
  have hl : drop ≤ (q * 2 ^ drop).log2 := (Nat.le_log2 hne).2 (Nat.le_mul_of_pos_left _ hq)
  have hm : min drop ((q * 2 ^ drop).log2 + 2) = drop := by omega
  unfold Toward.cut
  simp only [hm, Nat.one_shiftLeft, Nat.mul_div_cancel _ h2, Nat.mul_mod_left]
  have h3 : ¬ (2 ^ drop < 2 * 0) := by omega
  have h4 : (2 ^ drop == 2 * 0) = false := by
    rw [beq_eq_false_iff_ne]; omega
  simp only [h3, h4, decide_false, Bool.false_and, Bool.or_false, Bool.toNat_false, Nat.add_zero]

theorem R_form {r : Nat} (h : r < infR) : ∃ m k : Nat, R r = m * 2 ^ k ∧ r = k * 4503599627370496 + m ∧ m < 9007199254740992 ∧ k < 2046 ∧ (4503599627370496 ≤ m ∨ k = 0) := by
  unfold infR at h
  unfold R
  by_cases h0 : r < 4503599627370496
  · exact ⟨r, 0, by rw [if_pos h0]; simp, by omega, by omega, by omega, Or.inr rfl⟩
  · exact ⟨4503599627370496 + r % 4503599627370496, r / 4503599627370496 - 1, by rw [if_neg h0], by omega, by omega, by omega, Or.inl (by omega)⟩

theorem R_of (m k : Nat) (hm : m < 9007199254740992) (hk : 4503599627370496 ≤ m ∨ k = 0) : R (k * 4503599627370496 + m) = m * 2 ^ k := by
  unfold R
  by_cases h0 : k * 4503599627370496 + m < 4503599627370496
  · have : k = 0 := by omega
    subst this
    rw [if_pos h0]; simp
  · rw [if_neg h0]
    rcases hk with hk | hk
    · have e1 : (k * 4503599627370496 + m) % 4503599627370496 = m - 4503599627370496 := by omega
      have e2 : (k * 4503599627370496 + m) / 4503599627370496 = k + 1 := by omega
      have e3 : 4503599627370496 + (m - 4503599627370496) = m := by omega
      rw [e1, e2, e3, Nat.add_sub_cancel]
    · subst hk
      have e1 : (0 * 4503599627370496 + m) % 4503599627370496 = m - 4503599627370496 := by omega
      have e2 : (0 * 4503599627370496 + m) / 4503599627370496 = 1 := by omega
      have e3 : 4503599627370496 + (m - 4503599627370496) = m := by omega
      rw [e1, e2, e3, Nat.sub_self]

theorem log2_mul_pow {n : Nat} (h : n ≠ 0) (a : Nat) : (n * 2 ^ a).log2 = n.log2 + a := by
  have h2 : n * 2 ^ a ≠ 0 := Nat.mul_ne_zero h (Nat.ne_of_gt (Nat.two_pow_pos _))
  refine Nat.le_antisymm ?_ ?_
  · refine Nat.le_of_lt_succ ((Nat.log2_lt h2).2 ?_)
    have := Nat.lt_log2_self (n := n)
    calc n * 2 ^ a < 2 ^ (n.log2 + 1) * 2 ^ a := Nat.mul_lt_mul_of_pos_right this (Nat.two_pow_pos _)
      _ = 2 ^ (n.log2 + a + 1) := by rw [← Nat.pow_add]; congr 1; omega
  · refine (Nat.le_log2 h2).2 ?_
    rw [Nat.pow_add]
    exact Nat.mul_le_mul_right _ (Nat.log2_self_le h)

theorem nearest_exact (neg : Bool) (mag : Nat) (place : Int) (m k : Nat) (hE : mag * 2 ^ (place + 1074).toNat = m * 2 ^ k * 2 ^ (-(place + 1074)).toNat)
    (hm : m < 9007199254740992) (hk : k < 2046) (hn : 4503599627370496 ≤ m ∨ k = 0) : double.nearest neg mag place = double.word neg (k * 4503599627370496 + m) := by
  have p2 : ∀ a : Nat, 0 < 2 ^ a := fun a => Nat.two_pow_pos a
  unfold Format.nearest
  by_cases h0 : mag = 0
  · rw [if_pos h0]
    rw [h0, Nat.zero_mul, Nat.mul_assoc] at hE
    have hm0 : m = 0 := by
      rcases Nat.mul_eq_zero.1 hE.symm with h | h
      · exact h
      · have := Nat.mul_pos (p2 k) (p2 (-(place + 1074)).toNat); omega
    have hk0 : k = 0 := by omega
    rw [hm0, hk0]
  · rw [if_neg h0]
    have hm0 : m ≠ 0 := by
      intro e
      rw [e, Nat.zero_mul, Nat.zero_mul] at hE
      rcases Nat.mul_eq_zero.1 hE with h | h
      · exact h0 h
      · have := p2 (place + 1074).toNat; omega
    have hlog : (mag.log2 : Int) + (place + 1074) = m.log2 + k := by
      have := congrArg Nat.log2 hE
      rw [log2_mul_pow h0, Nat.mul_assoc, ← Nat.pow_add, log2_mul_pow hm0] at this
      omega
    have hl : m.log2 = 52 ∨ (m.log2 ≤ 52 ∧ k = 0) := by
      have h52 : m.log2 < 53 := (Nat.log2_lt hm0).2 (by have : (2:Nat) ^ 53 = 9007199254740992 := by decide
                                                        omega)
      rcases hn with hn | hn
      · left
        have : 52 ≤ m.log2 := (Nat.le_log2 hm0).2 (by have : (2:Nat) ^ 52 = 4503599627370496 := by decide
                                                      omega)
        omega
      · right; omega
    have hlast : max (place + mag.log2 - (double.fractionBits : Nat)) double.leastPlace = (k : Int) - 1074 := by
      rw [least]
      have : ((double.fractionBits : Nat) : Int) = 52 := rfl
      rw [this]
      omega
    simp only [hlast]
    rw [least, bin, infr]
    have e1 : ((k : Int) - 1074 - -1074).toNat = k := by omega
    rw [e1]
    have hkept : Toward.even.cut neg (mag <<< (place - ((k : Int) - 1074)).toNat) ((k : Int) - 1074 - place).toNat = m := by
      rw [Nat.shiftLeft_eq]
      by_cases hp : (k : Int) - 1074 ≤ place
      · have d0 : ((k : Int) - 1074 - place).toNat = 0 := by omega
        rw [d0]
        have e2 : (place + 1074).toNat = (place - ((k : Int) - 1074)).toNat + k := by omega
        have e3 : (-(place + 1074)).toNat = 0 := by omega
        rw [e2, e3, Nat.pow_zero, Nat.mul_one, Nat.pow_add, ← Nat.mul_assoc] at hE
        have e4 := Nat.eq_of_mul_eq_mul_right (p2 k) hE
        rw [e4]
        have := cut_exact neg m 0 (Nat.pos_of_ne_zero hm0)
        rwa [Nat.pow_zero, Nat.mul_one] at this
      · have d0 : (place - ((k : Int) - 1074)).toNat = 0 := by omega
        rw [d0, Nat.pow_zero, Nat.mul_one]
        have e4 : mag = m * 2 ^ ((k : Int) - 1074 - place).toNat := by
          by_cases hq : 0 ≤ place + 1074
          · have e2 : k = ((k : Int) - 1074 - place).toNat + (place + 1074).toNat := by omega
            have e3 : (-(place + 1074)).toNat = 0 := by omega
            rw [e3, Nat.pow_zero, Nat.mul_one] at hE
            have e5 : m * 2 ^ k = m * 2 ^ ((k : Int) - 1074 - place).toNat * 2 ^ (place + 1074).toNat := by
              rw [Nat.mul_assoc, ← Nat.pow_add, ← e2]
            rw [e5] at hE
            exact Nat.eq_of_mul_eq_mul_right (p2 _) hE
          · have e2 : ((k : Int) - 1074 - place).toNat = k + (-(place + 1074)).toNat := by omega
            have e3 : (place + 1074).toNat = 0 := by omega
            rw [e3, Nat.pow_zero, Nat.mul_one, Nat.mul_assoc, ← Nat.pow_add, ← e2] at hE
            exact hE
        rw [e4]
        exact cut_exact neg m _ (Nat.pos_of_ne_zero hm0)
    rw [hkept, Nat.min_eq_left (by omega)]

theorem word_eq (s : Bool) (r : Nat) : double.word s r = if s then 9223372036854775808 + r else r := by
  unfold Format.word; rw [sw]
theorem rg_word (s : Bool) {r : Nat} (h : r ≤ infR) : rg (double.word s r) = r := by
  unfold infR at h
  unfold rg; rw [word_eq]; cases s
  · rw [if_neg (by decide)]; omega
  · rw [if_pos rfl]; omega
theorem sg_word (s : Bool) {r : Nat} (h : r ≤ infR) : sg (double.word s r) = s := by
  unfold infR at h
  unfold sg; rw [word_eq]; cases s
  · rw [if_neg (by decide), beq_eq_false_iff_ne]; omega
  · rw [if_pos rfl, beq_iff_eq]; omega
theorem word_lt (s : Bool) {r : Nat} (h : r ≤ infR) : double.word s r < 18446744073709551616 := by
  unfold infR at h
  rw [word_eq]; cases s
  · rw [if_neg (by decide)]; omega
  · rw [if_pos rfl]; omega

/-- A magnitude that a number has. -/
def Rep (V : Nat) : Prop := ∃ m k : Nat, V = m * 2 ^ k ∧ m < 9007199254740992 ∧ k < 2046 ∧ (4503599627370496 ≤ m ∨ k = 0)

theorem Rep.rung {V : Nat} (h : Rep V) : ∃ r, r < infR ∧ R r = V := by
  obtain ⟨m, k, e, h1, h2, h3⟩ := h
  refine ⟨k * 4503599627370496 + m, ?_, ?_⟩
  · unfold infR; omega
  · rw [R_of m k h1 h3, e]

theorem rep_R {r : Nat} (h : r < infR) : Rep (R r) := by
  obtain ⟨m, k, h1, -, h2, h3, h4⟩ := R_form h
  exact ⟨m, k, h1, h2, h3, h4⟩

theorem pow_lt_inv {a b : Nat} (h : 2 ^ a < 2 ^ b) : a < b := (Nat.pow_lt_pow_iff_right (by decide)).1 h

/-- A number of 53 bits times a power of two, below the infinite. -/
theorem rep_of (n j : Nat) (hn : n < 9007199254740992) (hV : n * 2 ^ j < Kinf) : Rep (n * 2 ^ j) := by
  have e53 : (2:Nat) ^ 53 = 9007199254740992 := by decide
  have e52 : (2:Nat) ^ 52 = 4503599627370496 := by decide
  by_cases h0 : n = 0
  · exact ⟨0, 0, by rw [h0]; simp, by omega, by omega, Or.inr rfl⟩
  have hl : n.log2 < 53 := (Nat.log2_lt h0).2 (by omega)
  have hself := Nat.log2_self_le h0
  have hlt := Nat.lt_log2_self (n := n)
  -- move up by s
  by_cases hj : 52 - n.log2 ≤ j
  · have hu : n * 2 ^ (52 - n.log2) < 9007199254740992 := by
      rw [← e53]
      calc n * 2 ^ (52 - n.log2) < 2 ^ (n.log2 + 1) * 2 ^ (52 - n.log2) := Nat.mul_lt_mul_of_pos_right hlt (Nat.two_pow_pos _)
        _ = 2 ^ 53 := by rw [← Nat.pow_add]; congr 1; omega
    have hd : 4503599627370496 ≤ n * 2 ^ (52 - n.log2) := by
      rw [← e52]
      calc 2 ^ 52 = 2 ^ n.log2 * 2 ^ (52 - n.log2) := by rw [← Nat.pow_add]; congr 1; omega
        _ ≤ n * 2 ^ (52 - n.log2) := Nat.mul_le_mul_right _ hself
    refine ⟨n * 2 ^ (52 - n.log2), j - (52 - n.log2), ?_, hu, ?_, Or.inl hd⟩
    · rw [Nat.mul_assoc, ← Nat.pow_add]; congr 2; omega
    · have h1 : 2 ^ (n.log2 + j) < 2 ^ (53 + 2045) := by
        rw [Nat.pow_add 2 53 2045, ← Kinf_eq, Nat.pow_add]
        exact Nat.lt_of_le_of_lt (Nat.mul_le_mul_right _ hself) hV
      have := pow_lt_inv h1
      omega
  · have hu : n * 2 ^ j < 9007199254740992 := by
      rw [← e53]
      calc n * 2 ^ j < 2 ^ (n.log2 + 1) * 2 ^ j := Nat.mul_lt_mul_of_pos_right hlt (Nat.two_pow_pos _)
        _ = 2 ^ (n.log2 + 1 + j) := (Nat.pow_add _ _ _).symm
        _ ≤ 2 ^ 53 := Nat.pow_le_pow_right (by decide) (by omega)
    exact ⟨n * 2 ^ j, 0, by simp, hu, by omega, Or.inr rfl⟩

/-- What is written of an exact number. -/
theorem nearest_rep (neg : Bool) (mag : Nat) (place : Int) {V : Nat} (h : Rep V) (hE : mag * 2 ^ (place + 1074).toNat = V * 2 ^ (-(place + 1074)).toNat) :
    ∃ r, r < infR ∧ R r = V ∧ double.nearest neg mag place = double.word neg r := by
  obtain ⟨m, k, e, h1, h2, h3⟩ := h
  refine ⟨k * 4503599627370496 + m, ?_, ?_, ?_⟩
  · unfold infR; omega
  · rw [R_of m k h1 h3, e]
  · rw [e] at hE
    exact nearest_exact neg mag place m k hE h1 h2 h3

/-- Whatever is written, it is a number or infinite. -/
theorem nearest_word (neg : Bool) (mag : Nat) (place : Int) : ∃ r, r ≤ infR ∧ double.nearest neg mag place = double.word neg r := by
  unfold Format.nearest
  split
  · exact ⟨0, by decide, rfl⟩
  · exact ⟨_, by rw [infr]; exact Nat.min_le_right _ _, rfl⟩

theorem notN_word (s : Bool) {r : Nat} (h : r ≤ infR) : ¬ isN (double.word s r) := by
  unfold isN; rw [rg_word s h]; omega
end Go.Proofs.YtjnddfpieogpiaaDoor.Fm
