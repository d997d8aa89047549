/- Real numbers of 64 bits: doubling, halving, cutting. -/
import Derived.Test.YtjnddfpieogpiaaDoorFmB
namespace Go.Proofs.YtjnddfpieogpiaaDoor.Fm
open Ieee

theorem nearest_over (neg : Bool) (mag : Nat) (place : Int) (m k : Nat) (hE : mag * 2 ^ (place + 1074).toNat = m * 2 ^ k * 2 ^ (-(place + 1074)).toNat)
    (hm : m < 9007199254740992) (hk : 2046 ≤ k) (hn : 4503599627370496 ≤ m) : double.nearest neg mag place = double.word neg infR := by
  have p2 : ∀ a : Nat, 0 < 2 ^ a := fun a => Nat.two_pow_pos a
  have hm0 : m ≠ 0 := by omega
  have h0 : mag ≠ 0 := by
    intro e
    rw [e, Nat.zero_mul, Nat.mul_assoc] at hE
    rcases Nat.mul_eq_zero.1 hE.symm with h | h
    · exact hm0 h
    · have := Nat.mul_pos (p2 k) (p2 (-(place + 1074)).toNat); omega
  have hlog : (mag.log2 : Int) + (place + 1074) = m.log2 + k := by
    have := congrArg Nat.log2 hE
    rw [log2_mul_pow h0, Nat.mul_assoc, ← Nat.pow_add, log2_mul_pow hm0] at this
    omega
  have hl : m.log2 = 52 := by
    have h52 : m.log2 < 53 := (Nat.log2_lt hm0).2 (by have : (2:Nat) ^ 53 = 9007199254740992 := by decide
                                                      omega)
    have : 52 ≤ m.log2 := (Nat.le_log2 hm0).2 (by have : (2:Nat) ^ 52 = 4503599627370496 := by decide
                                                  omega)
    omega
  unfold Format.nearest
  rw [if_neg h0]
  have hlast : max (place + mag.log2 - (double.fractionBits : Nat)) double.leastPlace = (k : Int) - 1074 := by
    rw [least]
    have : ((double.fractionBits : Nat) : Int) = 52 := rfl
    rw [this]
    omega
  simp only [hlast]
  rw [least, bin, infr]
  have e1 : ((k : Int) - 1074 - -1074).toNat = k := by omega
  rw [e1]
  have hkept : Toward.even.cut neg (mag <<< (place - ((k : Int) - 1074)).toNat) ((k : Int) - 1074 - place).toNat = m := by
    rw [Nat.shiftLeft_eq]
    by_cases hp : (k : Int) - 1074 ≤ place
    · have d0 : ((k : Int) - 1074 - place).toNat = 0 := by omega
      rw [d0]
      have e2 : (place + 1074).toNat = (place - ((k : Int) - 1074)).toNat + k := by omega
      have e3 : (-(place + 1074)).toNat = 0 := by omega
      rw [e2, e3, Nat.pow_zero, Nat.mul_one, Nat.pow_add, ← Nat.mul_assoc] at hE
      have e4 := Nat.eq_of_mul_eq_mul_right (p2 k) hE
      rw [e4]
      have := cut_exact neg m 0 (Nat.pos_of_ne_zero hm0)
      rwa [Nat.pow_zero, Nat.mul_one] at this
    · have d0 : (place - ((k : Int) - 1074)).toNat = 0 := by omega
      rw [d0, Nat.pow_zero, Nat.mul_one]
      have e4 : mag = m * 2 ^ ((k : Int) - 1074 - place).toNat := by
        by_cases hq : 0 ≤ place + 1074
        · have e2 : k = ((k : Int) - 1074 - place).toNat + (place + 1074).toNat := by omega
          have e3 : (-(place + 1074)).toNat = 0 := by omega
          rw [e3, Nat.pow_zero, Nat.mul_one] at hE
          have e5 : m * 2 ^ k = m * 2 ^ ((k : Int) - 1074 - place).toNat * 2 ^ (place + 1074).toNat := by
            rw [Nat.mul_assoc, ← Nat.pow_add, ← e2]
          rw [e5] at hE
          exact Nat.eq_of_mul_eq_mul_right (p2 _) hE
        · have e2 : ((k : Int) - 1074 - place).toNat = k + (-(place + 1074)).toNat := by omega
          have e3 : (place + 1074).toNat = 0 := by omega
          rw [e3, Nat.pow_zero, Nat.mul_one, Nat.mul_assoc, ← Nat.pow_add, ← e2] at hE
          exact hE
      rw [e4]
      exact cut_exact neg m _ (Nat.pos_of_ne_zero hm0)
  rw [hkept, Nat.min_eq_right (by omega)]
  rfl

theorem R_pos {r : Nat} (h : R r = 0) : r = 0 := by
  unfold R at h
  split at h
  · exact h
  · have := Nat.mul_pos (show 0 < 4503599627370496 + r % 4503599627370496 by omega) (Nat.two_pow_pos (r / 4503599627370496 - 1))
    omega
theorem R_zero : R 0 = 0 := by decide

abbrev two : Nat := 4611686018427387904
abbrev one : Nat := 4607182418800017408
theorem read_two : double.read two = .number false 4503599627370496 (-51) := by decide +kernel
theorem read_one : double.read one = .number false 4503599627370496 (-52) := by decide +kernel

theorem dbl_fin {x : Nat} (hx : rg x < infR) (hV : 2 * R (rg x) < Kinf) : ∃ r, r < infR ∧ R r = 2 * R (rg x) ∧ double.mul x two = some (double.word (sg x) r) := by
  obtain ⟨m, k, e1, r1, h1, h2, h3⟩ := read_fin hx
  have hr : Rep (2 * R (rg x)) := by
    have e : 2 * R (rg x) = m * 2 ^ (k + 1) := by rw [r1, Nat.pow_succ, Nat.mul_comm 2, Nat.mul_assoc]
    rw [e] at hV ⊢
    exact rep_of m (k + 1) h1 hV
  obtain ⟨r, q1, q2, q3⟩ := nearest_rep (sg x) (m * 4503599627370496) (-1074 + (k:Int) + -51) hr (by
    rw [r1]
    have e52 : 4503599627370496 = (2:Nat) ^ 52 := by decide
    rw [e52]
    by_cases hk : 51 ≤ k
    · have a1 : (-1074 + (k:Int) + -51 + 1074).toNat = k - 51 := by omega
      have a2 : (-(-1074 + (k:Int) + -51 + 1074)).toNat = 0 := by omega
      rw [a1, a2, Nat.pow_zero, Nat.mul_one, Nat.mul_assoc, ← Nat.pow_add, Nat.mul_comm 2, Nat.mul_assoc, ← Nat.pow_succ]
      have : 52 + (k - 51) = k + 1 := by omega
      rw [this]
    · have a1 : (-1074 + (k:Int) + -51 + 1074).toNat = 0 := by omega
      have a2 : (-(-1074 + (k:Int) + -51 + 1074)).toNat = 51 - k := by omega
      have a3 : 2 * (m * 2 ^ k) = m * 2 ^ (k + 1) := by rw [Nat.mul_comm 2, Nat.mul_assoc, ← Nat.pow_succ]
      rw [a1, a2, a3, Nat.pow_zero, Nat.mul_one, Nat.mul_assoc, ← Nat.pow_add]
      have : k + 1 + (51 - k) = 52 := by omega
      rw [this])
  refine ⟨r, q1, q2, ?_⟩
  unfold Format.mul
  rw [e1, read_two]
  show some (double.nearest (sg x ^^ false) (m * 4503599627370496) (-1074 + (k:Int) + -51)) = _
  rw [Bool.xor_false, q3]

theorem dbl_any {x : Nat} (hx : ¬ isN x) : ∃ r, r ≤ infR ∧ double.mul x two = some (double.word (sg x) r) ∧ (r < infR → rg x < infR ∧ R r = 2 * R (rg x)) := by
  unfold isN at hx
  by_cases h : rg x < infR
  · by_cases hV : 2 * R (rg x) < Kinf
    · obtain ⟨r, q1, q2, q3⟩ := dbl_fin h hV
      exact ⟨r, by omega, q3, fun _ => ⟨h, q2⟩⟩
    · obtain ⟨m, k, e1, r1, h1, h2, h3⟩ := read_fin h
      have hk : k = 2045 := by
        by_cases hk : k = 2045
        · exact hk
        · exfalso
          apply hV
          have e53 : (9007199254740992 : Nat) = 2 ^ 53 := by decide
          rw [e53] at h1
          rw [r1, Kinf_eq, Nat.mul_comm 2, Nat.mul_assoc, ← Nat.pow_succ]
          calc m * 2 ^ (k + 1) < 2 ^ 53 * 2 ^ (k + 1) := Nat.mul_lt_mul_of_pos_right h1 (Nat.two_pow_pos _)
            _ ≤ 2 ^ 53 * 2 ^ 2045 := Nat.mul_le_mul_left _ (Nat.pow_le_pow_right (by decide) (by omega))
      have hm : 4503599627370496 ≤ m := by omega
      refine ⟨infR, Nat.le_refl _, ?_, fun h => absurd h (Nat.lt_irrefl _)⟩
      unfold Format.mul
      rw [e1, read_two]
      show some (double.nearest (sg x ^^ false) (m * 4503599627370496) (-1074 + (k:Int) + -51)) = _
      rw [Bool.xor_false, nearest_over (sg x) _ _ m (k + 1) ?_ h1 (by omega) hm]
      have e52 : 4503599627370496 = (2:Nat) ^ 52 := by decide
      rw [e52]
      have a1 : (-1074 + (k:Int) + -51 + 1074).toNat = k - 51 := by omega
      have a2 : (-(-1074 + (k:Int) + -51 + 1074)).toNat = 0 := by omega
      rw [a1, a2, Nat.pow_zero, Nat.mul_one, Nat.mul_assoc, ← Nat.pow_add]
      have : 52 + (k - 51) = k + 1 := by omega
      rw [this]
  · have h : rg x = infR := by omega
    refine ⟨infR, Nat.le_refl _, ?_, fun h => absurd h (Nat.lt_irrefl _)⟩
    unfold Format.mul
    rw [read_inf h, read_two]
    show some (double.word (sg x ^^ false) double.infRung) = _
    rw [Bool.xor_false]; rfl

theorem half_fin {x V : Nat} (hx : rg x < infR) (hV : R (rg x) = 2 * V) (hr : Rep V) : ∃ r, r < infR ∧ R r = V ∧ double.div x two = some (double.word (sg x) r) := by
  obtain ⟨m, k, e1, r1, h1, h2, h3⟩ := read_fin hx
  have e52 : (4503599627370496 : Nat) = 2 ^ 52 := by decide
  have hlog : m.log2 ≤ 52 := by
    by_cases h0 : m = 0
    · rw [h0]; decide
    · have : m.log2 < 53 := (Nat.log2_lt h0).2 (by have : (2:Nat) ^ 53 = 9007199254740992 := by decide
                                                   omega)
      omega
  have l52 : (4503599627370496 : Nat).log2 = 52 := by decide +kernel
  let more := 54 + (4503599627370496 : Nat).log2 - m.log2
  have hmore : more = 106 - m.log2 := by show 54 + (4503599627370496 : Nat).log2 - m.log2 = _; rw [l52]
  have hdiv : (m <<< more) / 4503599627370496 = m * 2 ^ (more - 52) := by
    rw [Nat.shiftLeft_eq, e52]
    have : m * 2 ^ more = m * 2 ^ (more - 52) * 2 ^ 52 := by rw [Nat.mul_assoc, ← Nat.pow_add]; have : more - 52 + 52 = more := by omega
                                                             rw [this]
    rw [this, Nat.mul_div_cancel _ (Nat.two_pow_pos _)]
  have hmod : (m <<< more) % 4503599627370496 = 0 := by
    rw [Nat.shiftLeft_eq, e52]
    have : m * 2 ^ more = m * 2 ^ (more - 52) * 2 ^ 52 := by rw [Nat.mul_assoc, ← Nat.pow_add]; have : more - 52 + 52 = more := by omega
                                                             rw [this]
    rw [this, Nat.mul_mod_left]
  have hV2 : m * 2 ^ k = 2 * V := by rw [← r1, hV]
  obtain ⟨r, q1, q2, q3⟩ := nearest_rep (sg x) (2 * (m * 2 ^ (more - 52))) (-1074 + (k:Int) - -51 - more - 1) hr (by
    have b : ∀ c : Nat, 2 * (m * 2 ^ c) = m * 2 ^ (c + 1) := fun c => by rw [Nat.mul_comm 2, Nat.mul_assoc, ← Nat.pow_succ]
    rw [b]
    have key : ∀ a c : Nat, k + a = c + 1 → m * 2 ^ c = V * 2 ^ a := fun a c h => by
      have : 2 * (m * 2 ^ c) = 2 * (V * 2 ^ a) := by
        rw [b, ← h, Nat.pow_add, ← Nat.mul_assoc, hV2, Nat.mul_assoc]
      omega
    by_cases hk : (more : Int) ≤ k + 50
    · have a1 : (-1074 + (k:Int) - -51 - more - 1 + 1074).toNat = k + 50 - more := by omega
      have a2 : (-(-1074 + (k:Int) - -51 - more - 1 + 1074)).toNat = 0 := by omega
      rw [a1, a2, Nat.mul_assoc, ← Nat.pow_add]
      exact key 0 _ (by omega)
    · have a1 : (-1074 + (k:Int) - -51 - more - 1 + 1074).toNat = 0 := by omega
      have a2 : (-(-1074 + (k:Int) - -51 - more - 1 + 1074)).toNat = more - 50 - k := by omega
      rw [a1, a2, Nat.pow_zero, Nat.mul_one]
      exact key _ _ (by omega))
  refine ⟨r, q1, q2, ?_⟩
  unfold Format.div
  rw [e1, read_two]
  show some (double.nearest (sg x ^^ false) (2 * ((m <<< more) / 4503599627370496) + ((m <<< more) % 4503599627370496 != 0).toNat) (-1074 + (k:Int) - -51 - more - 1)) = _
  rw [Bool.xor_false, hdiv, hmod]
  exact congrArg some q3

theorem half_any {x : Nat} (hx : ¬ isN x) : ∃ r, r ≤ infR ∧ double.div x two = some (double.word (sg x) r) := by
  unfold isN at hx
  by_cases h : rg x < infR
  · obtain ⟨m, k, e1, r1, h1, h2, h3⟩ := read_fin h
    unfold Format.div
    rw [e1, read_two]
    obtain ⟨r, q1, q2⟩ := nearest_word (sg x) (2 * ((m <<< (54 + (4503599627370496 : Nat).log2 - m.log2)) / 4503599627370496) + ((m <<< (54 + (4503599627370496 : Nat).log2 - m.log2)) % 4503599627370496 != 0).toNat) (-1074 + (k:Int) - -51 - (54 + (4503599627370496 : Nat).log2 - m.log2 : Nat) - 1)
    refine ⟨r, q1, ?_⟩
    rw [← q2]
    show some (double.nearest (sg x ^^ false) _ _) = _
    rw [Bool.xor_false]
    rfl
  · have h : rg x = infR := by omega
    refine ⟨infR, Nat.le_refl _, ?_⟩
    unfold Format.div
    rw [read_inf h, read_two]
    show some (double.word (sg x ^^ false) double.infRung) = _
    rw [Bool.xor_false]; rfl

/-- One by a zero. -/
theorem inv_zero {x : Nat} (h : R (rg x) = 0) : double.div one x = some (double.word (sg x) infR) := by
  have h0 := R_pos h
  unfold Format.div
  have : double.read x = .number (sg x) 0 (-1074) := by rw [read_eq, h0, if_pos (by decide)]
  rw [this, read_one]
  show some (double.word (false ^^ sg x) double.infRung) = _
  rw [Bool.false_xor]; rfl

theorem cut_zero (neg : Bool) (n drop : Nat) : Toward.zero.cut neg n drop = n / 2 ^ drop := by
  unfold Toward.cut
  simp only [Nat.one_shiftLeft, Bool.toNat_false, Nat.add_zero]
  by_cases h : drop ≤ n.log2 + 2
  · rw [Nat.min_eq_left h]
  · rw [Nat.min_eq_right (by omega)]
    have h1 : n < 2 ^ (n.log2 + 2) := Nat.lt_of_lt_of_le Nat.lt_log2_self (Nat.pow_le_pow_right (by decide) (by omega))
    have h2 : n < 2 ^ drop := Nat.lt_of_lt_of_le h1 (Nat.pow_le_pow_right (by decide) (by omega))
    rw [Nat.div_eq_of_lt h1, Nat.div_eq_of_lt h2]

/-- The number 1, in units. -/
def uE : Nat := 1074
def U : Nat := 2 ^ uE
theorem U_pos : 0 < U := Nat.two_pow_pos uE
theorem U_add (a b : Nat) (h : b = a + 1074) : 2 ^ b = 2 ^ a * U := by
  have h' : b = a + uE := h
  rw [h']; exact Nat.pow_add 2 a uE
theorem U_sub (a b : Nat) (h : a + b = 1074) : U = 2 ^ a * 2 ^ b := by
  have h' : uE = a + b := h.symm
  unfold U
  rw [h', Nat.pow_add]

/-- A number cut towards 0. -/
theorem toInt_fin {x : Nat} (h : rg x < infR) : (double.read x).toInt .zero = some ((if sg x then -1 else 1) * ((R (rg x) / U : Nat) : Int)) := by
  obtain ⟨m, k, e1, r1, -, -, -⟩ := read_fin h
  rw [e1]
  show some (signed (sg x) (Toward.zero.cut (sg x) (m <<< (-1074 + (k:Int)).toNat) (-(-1074 + (k:Int))).toNat) 0) = _
  rw [signed_eq, cut_zero, r1, Nat.pow_zero, Nat.mul_one, Nat.shiftLeft_eq]
  have key : m * 2 ^ (-1074 + (k:Int)).toNat / 2 ^ (-(-1074 + (k:Int))).toNat = m * 2 ^ k / U := by
    by_cases hk : 1074 ≤ k
    · have a1 : (-1074 + (k:Int)).toNat = k - 1074 := by omega
      have a2 : (-(-1074 + (k:Int))).toNat = 0 := by omega
      rw [a1, a2, Nat.pow_zero, Nat.div_one]
      rw [U_add (k - 1074) k (by omega), ← Nat.mul_assoc, Nat.mul_div_cancel _ U_pos]
    · have a1 : (-1074 + (k:Int)).toNat = 0 := by omega
      have a2 : (-(-1074 + (k:Int))).toNat = 1074 - k := by omega
      rw [a1, a2, Nat.pow_zero, Nat.mul_one, U_sub (1074 - k) k (by omega), Nat.mul_div_mul_right _ _ (Nat.two_pow_pos _)]
  rw [key]
end Go.Proofs.YtjnddfpieogpiaaDoor.Fm
