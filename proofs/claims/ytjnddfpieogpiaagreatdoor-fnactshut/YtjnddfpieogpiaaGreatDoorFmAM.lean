/- Real numbers of 64 bits: what a word stands for, and where nothing is rounded. -/
import Derived.Laws.FloatArith
namespace Go.Proofs.YtjnddfpieogpiaaGreatDoor.Fm
open Ieee

def sg (b : Nat) : Bool := b / 9223372036854775808 % 2 == 1
def rg (b : Nat) : Nat := b % 9223372036854775808
/-- The magnitude of a rung, in units of the smallest number. -/
def R (r : Nat) : Nat := if r < 4503599627370496 then r else (4503599627370496 + r % 4503599627370496) * 2 ^ (r / 4503599627370496 - 1)
def infR : Nat := 9218868437227405312
def isN (b : Nat) : Prop := infR < rg b
instance (b : Nat) : Decidable (isN b) := inferInstanceAs (Decidable (_ < _))
def sv (b : Nat) : Int := if sg b then -(R (rg b) : Int) else (R (rg b) : Int)

theorem sw : double.signWeight = 9223372036854775808 := by decide
theorem bin : double.binade = 4503599627370496 := by decide
theorem infr : double.infRung = 9218868437227405312 := by decide
theorem least : double.leastPlace = -1074 := by decide

theorem read_eq (b : Nat) : double.read b =
    if rg b < 4503599627370496 then .number (sg b) (rg b) (-1074)
    else if rg b < infR then .number (sg b) (4503599627370496 + rg b % 4503599627370496) (-1074 + (rg b / 4503599627370496 - 1 : Nat))
    else if rg b = infR then .infinity (sg b)
    else .nan (sg b) (rg b - infR) := by
  unfold Format.read
  rw [sw, bin, infr, least]
  rfl

/-- A finite number, opened. -/
theorem read_fin {b : Nat} (h : rg b < infR) : ∃ m k : Nat, double.read b = .number (sg b) m (-1074 + (k : Int)) ∧ R (rg b) = m * 2 ^ k ∧ m < 9007199254740992 ∧ k < 2046 ∧ (4503599627370496 ≤ m ∨ k = 0) := by
  rw [read_eq]
  by_cases h0 : rg b < 4503599627370496
  · refine ⟨rg b, 0, ?_, ?_, ?_, ?_, ?_⟩
    · rw [if_pos h0]; rfl
    · unfold R; rw [if_pos h0]; simp
    · omega
    · omega
    · right; rfl
  · refine ⟨4503599627370496 + rg b % 4503599627370496, rg b / 4503599627370496 - 1, ?_, ?_, ?_, ?_, ?_⟩
    · rw [if_neg h0, if_pos h]
    · unfold R; rw [if_neg h0]
    · omega
    · unfold infR at h; omega
    · left; omega

theorem read_inf {b : Nat} (h : rg b = infR) : double.read b = .infinity (sg b) := by
  rw [read_eq, if_neg (by rw [h]; decide), if_neg (by rw [h]; decide), if_pos h]

theorem read_nan {b : Nat} (h : isN b) : ∃ t, double.read b = .nan (sg b) t := by
  unfold isN at h
  have : infR = 9218868437227405312 := rfl
  exact ⟨rg b - infR, by rw [read_eq, if_neg (by omega), if_neg (by omega), if_neg (by omega)]⟩

def Kinf : Nat := 2 ^ 2098
theorem Kinf_eq : Kinf = 2 ^ 53 * 2 ^ 2045 := by decide +kernel
theorem Kinf_pos : 0 < Kinf := by decide +kernel
theorem R_inf : R infR = Kinf := by decide +kernel

theorem R_fin_lt {r : Nat} (h : r < infR) : R r < Kinf := by
  unfold R
  split
  · refine Nat.lt_of_lt_of_le (by assumption) ?_
    exact (by decide +kernel : 4503599627370496 ≤ Kinf)
  · have h1 : r / 4503599627370496 - 1 ≤ 2045 := by unfold infR at h; omega
    have h2 : (4503599627370496 + r % 4503599627370496) < 2 ^ 53 := by
      have : (2:Nat) ^ 53 = 9007199254740992 := by decide
      omega
    calc (4503599627370496 + r % 4503599627370496) * 2 ^ (r / 4503599627370496 - 1)
        < 2 ^ 53 * 2 ^ (r / 4503599627370496 - 1) := Nat.mul_lt_mul_of_pos_right h2 (Nat.two_pow_pos _)
      _ ≤ 2 ^ 53 * 2 ^ 2045 := Nat.mul_le_mul_left _ (Nat.pow_le_pow_right (by decide) h1)
      _ = Kinf := Kinf_eq.symm

theorem order_nan {x y : Nat} (h : isN x ∨ isN y) : double.order x y = none := by
  unfold Format.order
  rcases h with h | h
  · obtain ⟨t, e⟩ := read_nan h
    rw [e]; rfl
  · obtain ⟨t, e⟩ := read_nan h
    rw [e]; cases double.read x <;> rfl

theorem cmp_mul {a b : Int} {c : Int} (hc : 0 < c) : compare (a * c) (b * c) = compare a b := by
  rcases Int.lt_trichotomy a b with h | h | h
  · rw [Int.compare_eq_lt.2 h, Int.compare_eq_lt.2 (Int.mul_lt_mul_of_pos_right h hc)]
  · subst h; rw [Int.compare_eq_eq.2 rfl, Int.compare_eq_eq.2 rfl]
  · rw [Int.compare_eq_gt.2 h, Int.compare_eq_gt.2 (Int.mul_lt_mul_of_pos_right h hc)]

theorem signed_eq (s : Bool) (m u : Nat) : signed s m u = (if s then -1 else 1) * ((m * 2 ^ u : Nat) : Int) := by
  unfold signed
  cases s
  · rw [if_neg (by decide), if_neg (by decide), Nat.shiftLeft_eq, Int.one_mul]
  · rw [if_pos rfl, if_pos rfl, Nat.shiftLeft_eq, Int.neg_mul, Int.one_mul]

theorem sv_eq (b : Nat) : sv b = (if sg b then -1 else 1) * (R (rg b) : Int) := by
  unfold sv
  cases sg b <;> simp

theorem order_fin {x y : Nat} (hx : rg x < infR) (hy : rg y < infR) : double.order x y = some (compare (sv x) (sv y)) := by
  obtain ⟨m, k, e1, r1, -, -, -⟩ := read_fin hx
  obtain ⟨n, l, e2, r2, -, -, -⟩ := read_fin hy
  unfold Format.order
  rw [e1, e2]
  show some (compare (signed (sg x) m ((-1074 + (k:Int)) - min (-1074 + (k:Int)) (-1074 + (l:Int))).toNat) (signed (sg y) n ((-1074 + (l:Int)) - min (-1074 + (k:Int)) (-1074 + (l:Int))).toNat)) = _
  rw [signed_eq, signed_eq, sv_eq, sv_eq, r1, r2]
  congr 1
  have ha : ((-1074 + (k:Int)) - min (-1074 + (k:Int)) (-1074 + (l:Int))).toNat = k - min k l := by omega
  have hb : ((-1074 + (l:Int)) - min (-1074 + (k:Int)) (-1074 + (l:Int))).toNat = l - min k l := by omega
  rw [ha, hb]
  have hc : (0:Int) < ((2 ^ (min k l) : Nat) : Int) := Int.ofNat_lt.2 (Nat.two_pow_pos _)
  rw [← cmp_mul hc]
  have e3 : m * 2 ^ k = m * 2 ^ (k - min k l) * 2 ^ (min k l) := by
    rw [Nat.mul_assoc, ← Nat.pow_add]; congr 2; omega
  have e4 : n * 2 ^ l = n * 2 ^ (l - min k l) * 2 ^ (min k l) := by
    rw [Nat.mul_assoc, ← Nat.pow_add]; congr 2; omega
  rw [e3, e4]
  simp only [Int.mul_assoc, Int.natCast_mul]

theorem order_eq {x y : Nat} (hx : ¬ isN x) (hy : ¬ isN y) : double.order x y = some (compare (sv x) (sv y)) := by
  unfold isN at hx hy
  by_cases h1 : rg x < infR
  · by_cases h2 : rg y < infR
    · exact order_fin h1 h2
    · have h2 : rg y = infR := by omega
      obtain ⟨m, k, e1, r1, -, -, -⟩ := read_fin h1
      have b1 := R_fin_lt h1
      unfold Format.order
      rw [e1, read_inf h2]
      show some (if sg y then Ordering.gt else Ordering.lt) = _
      congr 1
      unfold sv
      rw [h2, R_inf]
      generalize Kinf = K at b1 ⊢
      symm
      cases sg y <;> cases sg x <;> simp only [Bool.false_eq_true, if_false, if_true]
      all_goals first | (refine Int.compare_eq_lt.2 ?_; omega) | (refine Int.compare_eq_gt.2 ?_; omega)
  · have h1 : rg x = infR := by omega
    by_cases h2 : rg y < infR
    · obtain ⟨m, k, e1, r1, -, -, -⟩ := read_fin h2
      have b1 := R_fin_lt h2
      unfold Format.order
      rw [e1, read_inf h1]
      show some (if sg x then Ordering.lt else Ordering.gt) = _
      congr 1
      unfold sv
      rw [h1, R_inf]
      generalize Kinf = K at b1 ⊢
      symm
      cases sg y <;> cases sg x <;> simp only [Bool.false_eq_true, if_false, if_true]
      all_goals first | (refine Int.compare_eq_lt.2 ?_; omega) | (refine Int.compare_eq_gt.2 ?_; omega)
    · have h2 : rg y = infR := by omega
      unfold Format.order
      rw [read_inf h1, read_inf h2]
      show some (compare (sg y).toNat (sg x).toNat) = _
      congr 1
      unfold sv
      rw [h1, h2, R_inf]
      have hp := Kinf_pos
      generalize Kinf = K at hp ⊢
      cases sg y <;> cases sg x <;> simp only [Bool.false_eq_true, if_false, if_true]
      · rw [Int.compare_eq_eq.2 rfl]; rfl
      · rw [Int.compare_eq_lt.2 (by omega)]; rfl
      · rw [Int.compare_eq_gt.2 (by omega)]; rfl
      · rw [Int.compare_eq_eq.2 rfl]; rfl
end Go.Proofs.YtjnddfpieogpiaaGreatDoor.Fm
/- Real numbers of 64 bits: where nothing is rounded. -/
namespace Go.Proofs.YtjnddfpieogpiaaGreatDoor.Fm
open Ieee

theorem cut_exact (neg : Bool) (q drop : Nat) (hq : 0 < q) : Toward.even.cut neg (q * 2 ^ drop) drop = q := by
  have h2 : 0 < 2 ^ drop := Nat.two_pow_pos _
  have hne : q * 2 ^ drop ≠ 0 := Nat.ne_of_gt (Nat.mul_pos hq h2)
  have hl : drop ≤ (q * 2 ^ drop).log2 := (Nat.le_log2 hne).2 (Nat.le_mul_of_pos_left _ hq)
  have hm : min drop ((q * 2 ^ drop).log2 + 2) = drop := by omega
  unfold Toward.cut
  simp only [hm, Nat.one_shiftLeft, Nat.mul_div_cancel _ h2, Nat.mul_mod_left]
  have h3 : ¬ (2 ^ drop < 2 * 0) := by omega
  have h4 : (2 ^ drop == 2 * 0) = false := by
    rw [beq_eq_false_iff_ne]; omega
  simp only [h3, h4, decide_false, Bool.false_and, Bool.or_false, Bool.toNat_false, Nat.add_zero]

theorem R_form {r : Nat} (h : r < infR) : ∃ m k : Nat, R r = m * 2 ^ k ∧ r = k * 4503599627370496 + m ∧ m < 9007199254740992 ∧ k < 2046 ∧ (4503599627370496 ≤ m ∨ k = 0) := by
  unfold infR at h
  unfold R
  by_cases h0 : r < 4503599627370496
  · exact ⟨r, 0, by rw [if_pos h0]; simp, by omega, by omega, by omega, Or.inr rfl⟩
  · exact ⟨4503599627370496 + r % 4503599627370496, r / 4503599627370496 - 1, by rw [if_neg h0], by omega, by omega, by omega, Or.inl (by omega)⟩

theorem R_of (m k : Nat) (hm : m < 9007199254740992) (hk : 4503599627370496 ≤ m ∨ k = 0) : R (k * 4503599627370496 + m) = m * 2 ^ k := by
  unfold R
  by_cases h0 : k * 4503599627370496 + m < 4503599627370496
  · have : k = 0 := by omega
    subst this
    rw [if_pos h0]; simp
  · rw [if_neg h0]
    rcases hk with hk | hk
    · have e1 : (k * 4503599627370496 + m) % 4503599627370496 = m - 4503599627370496 := by omega
      have e2 : (k * 4503599627370496 + m) / 4503599627370496 = k + 1 := by omega
      have e3 : 4503599627370496 + (m - 4503599627370496) = m := by omega
      rw [e1, e2, e3, Nat.add_sub_cancel]
    · subst hk
      have e1 : (0 * 4503599627370496 + m) % 4503599627370496 = m - 4503599627370496 := by omega
      have e2 : (0 * 4503599627370496 + m) / 4503599627370496 = 1 := by omega
      have e3 : 4503599627370496 + (m - 4503599627370496) = m := by omega
      rw [e1, e2, e3, Nat.sub_self]

theorem log2_mul_pow {n : Nat} (h : n ≠ 0) (a : Nat) : (n * 2 ^ a).log2 = n.log2 + a := by
  have h2 : n * 2 ^ a ≠ 0 := Nat.mul_ne_zero h (Nat.ne_of_gt (Nat.two_pow_pos _))
  refine Nat.le_antisymm ?_ ?_
  · refine Nat.le_of_lt_succ ((Nat.log2_lt h2).2 ?_)
    have := Nat.lt_log2_self (n := n)
    calc n * 2 ^ a < 2 ^ (n.log2 + 1) * 2 ^ a := Nat.mul_lt_mul_of_pos_right this (Nat.two_pow_pos _)
      _ = 2 ^ (n.log2 + a + 1) := by rw [← Nat.pow_add]; congr 1; omega
  · refine (Nat.le_log2 h2).2 ?_
    rw [Nat.pow_add]
    exact Nat.mul_le_mul_right _ (Nat.log2_self_le h)

theorem nearest_exact (neg : Bool) (mag : Nat) (place : Int) (m k : Nat) (hE : mag * 2 ^ (place + 1074).toNat = m * 2 ^ k * 2 ^ (-(place + 1074)).toNat)
    (hm : m < 9007199254740992) (hk : k < 2046) (hn : 4503599627370496 ≤ m ∨ k = 0) : double.nearest neg mag place = double.word neg (k * 4503599627370496 + m) := by
  have p2 : ∀ a : Nat, 0 < 2 ^ a := fun a => Nat.two_pow_pos a
  unfold Format.nearest
  by_cases h0 : mag = 0
  · rw [if_pos h0]
    rw [h0, Nat.zero_mul, Nat.mul_assoc] at hE
    have hm0 : m = 0 := by
      rcases Nat.mul_eq_zero.1 hE.symm with h | h
      · exact h
      · have := Nat.mul_pos (p2 k) (p2 (-(place + 1074)).toNat); omega
    have hk0 : k = 0 := by omega
    rw [hm0, hk0]
  · rw [if_neg h0]
    have hm0 : m ≠ 0 := by
      intro e
      rw [e, Nat.zero_mul, Nat.zero_mul] at hE
      rcases Nat.mul_eq_zero.1 hE with h | h
      · exact h0 h
      · have := p2 (place + 1074).toNat; omega
    have hlog : (mag.log2 : Int) + (place + 1074) = m.log2 + k := by
      have := congrArg Nat.log2 hE
      rw [log2_mul_pow h0, Nat.mul_assoc, ← Nat.pow_add, log2_mul_pow hm0] at this
      omega
    have hl : m.log2 = 52 ∨ (m.log2 ≤ 52 ∧ k = 0) := by
      have h52 : m.log2 < 53 := (Nat.log2_lt hm0).2 (by have : (2:Nat) ^ 53 = 9007199254740992 := by decide
                                                        omega)
      rcases hn with hn | hn
      · left
        have : 52 ≤ m.log2 := (Nat.le_log2 hm0).2 (by have : (2:Nat) ^ 52 = 4503599627370496 := by decide
                                                      omega)
        omega
      · right; omega
    have hlast : max (place + mag.log2 - (double.fractionBits : Nat)) double.leastPlace = (k : Int) - 1074 := by
      rw [least]
      have : ((double.fractionBits : Nat) : Int) = 52 := rfl
      rw [this]
      omega
    simp only [hlast]
    rw [least, bin, infr]
    have e1 : ((k : Int) - 1074 - -1074).toNat = k := by omega
    rw [e1]
    have hkept : Toward.even.cut neg (mag <<< (place - ((k : Int) - 1074)).toNat) ((k : Int) - 1074 - place).toNat = m := by
      rw [Nat.shiftLeft_eq]
      by_cases hp : (k : Int) - 1074 ≤ place
      · have d0 : ((k : Int) - 1074 - place).toNat = 0 := by omega
        rw [d0]
        have e2 : (place + 1074).toNat = (place - ((k : Int) - 1074)).toNat + k := by omega
        have e3 : (-(place + 1074)).toNat = 0 := by omega
        rw [e2, e3, Nat.pow_zero, Nat.mul_one, Nat.pow_add, ← Nat.mul_assoc] at hE
        have e4 := Nat.eq_of_mul_eq_mul_right (p2 k) hE
        rw [e4]
        have := cut_exact neg m 0 (Nat.pos_of_ne_zero hm0)
        rwa [Nat.pow_zero, Nat.mul_one] at this
      · have d0 : (place - ((k : Int) - 1074)).toNat = 0 := by omega
        rw [d0, Nat.pow_zero, Nat.mul_one]
        have e4 : mag = m * 2 ^ ((k : Int) - 1074 - place).toNat := by
          by_cases hq : 0 ≤ place + 1074
          · have e2 : k = ((k : Int) - 1074 - place).toNat + (place + 1074).toNat := by omega
            have e3 : (-(place + 1074)).toNat = 0 := by omega
            rw [e3, Nat.pow_zero, Nat.mul_one] at hE
            have e5 : m * 2 ^ k = m * 2 ^ ((k : Int) - 1074 - place).toNat * 2 ^ (place + 1074).toNat := by
              rw [Nat.mul_assoc, ← Nat.pow_add, ← e2]
            rw [e5] at hE
            exact Nat.eq_of_mul_eq_mul_right (p2 _) hE
          · have e2 : ((k : Int) - 1074 - place).toNat = k + (-(place + 1074)).toNat := by omega
            have e3 : (place + 1074).toNat = 0 := by omega
            rw [e3, Nat.pow_zero, Nat.mul_one, Nat.mul_assoc, ← Nat.pow_add, ← e2] at hE
            exact hE
        rw [e4]
        exact cut_exact neg m _ (Nat.pos_of_ne_zero hm0)
    rw [hkept, Nat.min_eq_left (by omega)]

theorem word_eq (s : Bool) (r : Nat) : double.word s r = if s then 9223372036854775808 + r else r := by
  unfold Format.word; rw [sw]
theorem rg_word (s : Bool) {r : Nat} (h : r ≤ infR) : rg (double.word s r) = r := by
  unfold infR at h
  unfold rg; rw [word_eq]; cases s
  · rw [if_neg (by decide)]; omega
  · rw [if_pos rfl]; omega
theorem sg_word (s : Bool) {r : Nat} (h : r ≤ infR) : sg (double.word s r) = s := by
  unfold infR at h
  unfold sg; rw [word_eq]; cases s
  · rw [if_neg (by decide), beq_eq_false_iff_ne]; omega
  · rw [if_pos rfl, beq_iff_eq]; omega
theorem word_lt (s : Bool) {r : Nat} (h : r ≤ infR) : double.word s r < 18446744073709551616 := by
  unfold infR at h
  rw [word_eq]; cases s
  · rw [if_neg (by decide)]; omega
  · rw [if_pos rfl]; omega

/-- A magnitude that a number has. -/
def Rep (V : Nat) : Prop := ∃ m k : Nat, V = m * 2 ^ k ∧ m < 9007199254740992 ∧ k < 2046 ∧ (4503599627370496 ≤ m ∨ k = 0)

theorem Rep.rung {V : Nat} (h : Rep V) : ∃ r, r < infR ∧ R r = V := by
  obtain ⟨m, k, e, h1, h2, h3⟩ := h
  refine ⟨k * 4503599627370496 + m, ?_, ?_⟩
  · unfold infR; omega
  · rw [R_of m k h1 h3, e]

theorem pow_lt_inv {a b : Nat} (h : 2 ^ a < 2 ^ b) : a < b := (Nat.pow_lt_pow_iff_right (by decide)).1 h

/-- A number of 53 bits times a power of two, below the infinite. -/
theorem rep_of (n j : Nat) (hn : n < 9007199254740992) (hV : n * 2 ^ j < Kinf) : Rep (n * 2 ^ j) := by
  have e53 : (2:Nat) ^ 53 = 9007199254740992 := by decide
  have e52 : (2:Nat) ^ 52 = 4503599627370496 := by decide
  by_cases h0 : n = 0
  · exact ⟨0, 0, by rw [h0]; simp, by omega, by omega, Or.inr rfl⟩
  have hl : n.log2 < 53 := (Nat.log2_lt h0).2 (by omega)
  have hself := Nat.log2_self_le h0
  have hlt := Nat.lt_log2_self (n := n)
  -- move up by s
  by_cases hj : 52 - n.log2 ≤ j
  · have hu : n * 2 ^ (52 - n.log2) < 9007199254740992 := by
      rw [← e53]
      calc n * 2 ^ (52 - n.log2) < 2 ^ (n.log2 + 1) * 2 ^ (52 - n.log2) := Nat.mul_lt_mul_of_pos_right hlt (Nat.two_pow_pos _)
        _ = 2 ^ 53 := by rw [← Nat.pow_add]; congr 1; omega
    have hd : 4503599627370496 ≤ n * 2 ^ (52 - n.log2) := by
      rw [← e52]
      calc 2 ^ 52 = 2 ^ n.log2 * 2 ^ (52 - n.log2) := by rw [← Nat.pow_add]; congr 1; omega
        _ ≤ n * 2 ^ (52 - n.log2) := Nat.mul_le_mul_right _ hself
    refine ⟨n * 2 ^ (52 - n.log2), j - (52 - n.log2), ?_, hu, ?_, Or.inl hd⟩
    · rw [Nat.mul_assoc, ← Nat.pow_add]; congr 2; omega
    · have h1 : 2 ^ (n.log2 + j) < 2 ^ (53 + 2045) := by
        rw [Nat.pow_add 2 53 2045, ← Kinf_eq, Nat.pow_add]
        exact Nat.lt_of_le_of_lt (Nat.mul_le_mul_right _ hself) hV
      have := pow_lt_inv h1
      omega
  · have hu : n * 2 ^ j < 9007199254740992 := by
      rw [← e53]
      calc n * 2 ^ j < 2 ^ (n.log2 + 1) * 2 ^ j := Nat.mul_lt_mul_of_pos_right hlt (Nat.two_pow_pos _)
        _ = 2 ^ (n.log2 + 1 + j) := (Nat.pow_add _ _ _).symm
        _ ≤ 2 ^ 53 := Nat.pow_le_pow_right (by decide) (by omega)
    exact ⟨n * 2 ^ j, 0, by simp, hu, by omega, Or.inr rfl⟩

/-- What is written of an exact number. -/
theorem nearest_rep (neg : Bool) (mag : Nat) (place : Int) {V : Nat} (h : Rep V) (hE : mag * 2 ^ (place + 1074).toNat = V * 2 ^ (-(place + 1074)).toNat) :
    ∃ r, r < infR ∧ R r = V ∧ double.nearest neg mag place = double.word neg r := by
  obtain ⟨m, k, e, h1, h2, h3⟩ := h
  refine ⟨k * 4503599627370496 + m, ?_, ?_, ?_⟩
  · unfold infR; omega
  · rw [R_of m k h1 h3, e]
  · rw [e] at hE
    exact nearest_exact neg mag place m k hE h1 h2 h3

/-- Whatever is written, it is a number or infinite. -/
theorem nearest_word (neg : Bool) (mag : Nat) (place : Int) : ∃ r, r ≤ infR ∧ double.nearest neg mag place = double.word neg r := by
  unfold Format.nearest
  split
  · exact ⟨0, by decide, rfl⟩
  · exact ⟨_, by rw [infr]; exact Nat.min_le_right _ _, rfl⟩

theorem notN_word (s : Bool) {r : Nat} (h : r ≤ infR) : ¬ isN (double.word s r) := by
  unfold isN; rw [rg_word s h]; omega
end Go.Proofs.YtjnddfpieogpiaaGreatDoor.Fm
/- Real numbers of 64 bits: doubling, halving, cutting. -/
namespace Go.Proofs.YtjnddfpieogpiaaGreatDoor.Fm
open Ieee

abbrev two : Nat := 4611686018427387904
abbrev one : Nat := 4607182418800017408
/-- The number 1, in units. -/
def uE : Nat := 1074
def U : Nat := 2 ^ uE
theorem U_pos : 0 < U := Nat.two_pow_pos uE
end Go.Proofs.YtjnddfpieogpiaaGreatDoor.Fm
/- Real numbers of 64 bits: tests, signs, whole numbers; what is drawn where there is no number. -/
namespace Go.Proofs.YtjnddfpieogpiaaGreatDoor.Fm
open Ieee

abbrev F : Ieee.Format := FloatKind.f64.format
theorem F_eq : F = double := rfl

theorem eq_b {x y : Nat} (hx : ¬ isN x) (hy : ¬ isN y) : (F.order x y == some .eq) = decide (sv x = sv y) := by
  rw [F_eq, order_eq hx hy]
  rcases Int.lt_trichotomy (sv x) (sv y) with h | h | h
  · rw [Int.compare_eq_lt.2 h, decide_eq_false (by omega)]; rfl
  · rw [Int.compare_eq_eq.2 h, decide_eq_true h]; rfl
  · rw [Int.compare_eq_gt.2 h, decide_eq_false (by omega)]; rfl
theorem ne_b {x y : Nat} (hx : ¬ isN x) (hy : ¬ isN y) : (F.order x y != some .eq) = decide (sv x ≠ sv y) := by
  have := eq_b hx hy
  unfold bne
  rw [this]
  by_cases h : sv x = sv y <;> simp [h]
theorem ord_n {x y : Nat} (h : isN x ∨ isN y) : F.order x y = none := order_nan h
theorem self_ne (x : Nat) : (F.order x x != some .eq) = decide (isN x) := by
  by_cases h : isN x
  · rw [ord_n (Or.inl h), decide_eq_true h]; rfl
  · rw [ne_b h h, decide_eq_false h, decide_eq_false (by simp)]
theorem neg_eq (b : Nat) : Op.negFloat .f64 b = b ^^^ 2 ^ 63 := rfl
theorem neg_lt {b : Nat} (h : b < 18446744073709551616) : Op.negFloat .f64 b < 18446744073709551616 := by
  rw [neg_eq]
  have e : (18446744073709551616 : Nat) = 2 ^ 64 := by decide
  rw [e] at h ⊢
  exact Nat.xor_lt_two_pow h (by decide)
theorem word_of {b : Nat} (h : b < 18446744073709551616) : b = double.word (sg b) (rg b) := by
  rw [word_eq]
  unfold sg rg
  have : b / 9223372036854775808 = 0 ∨ b / 9223372036854775808 = 1 := by omega
  rcases this with e | e <;> rw [e]
  · rw [if_neg (by decide)]; omega
  · rw [if_pos (by decide)]; omega

theorem whole_word (n : Int) : ∃ r, r ≤ infR ∧ floatOfInt .f64 n = double.word (decide (n < 0)) r := nearest_word _ _ _
theorem whole_exact (n : Int) (h : n.natAbs < 9007199254740992) : ∃ r, r < infR ∧ R r = n.natAbs * U ∧ floatOfInt .f64 n = double.word (decide (n < 0)) r := by
  have hK : n.natAbs * 2 ^ uE < Kinf := by
    refine Nat.lt_of_lt_of_le (Nat.mul_lt_mul_of_pos_right h (Nat.two_pow_pos _)) ?_
    decide +kernel
  have := nearest_rep (decide (n < 0)) n.natAbs 0 (rep_of n.natAbs uE h hK) (by
    have a1 : ((0:Int) + 1074).toNat = uE := rfl
    have a2 : (-((0:Int) + 1074)).toNat = 0 := rfl
    rw [a1, a2, Nat.pow_zero, Nat.mul_one])
  exact this

/-- What is drawn where there is no number. -/
def nanOf (t : Nat) : Nat := (t % 2) * 2 ^ 63 + 0x7ff0000000000000 + 1 + (t / 2) % (2 ^ 52 - 1)
theorem nanOf_form (t : Nat) : ∃ a c : Nat, a < 2 ∧ c < 4503599627370495 ∧ nanOf t = a * 9223372036854775808 + 9218868437227405312 + 1 + c :=
  ⟨t % 2, t / 2 % 4503599627370495, by omega, by omega, rfl⟩
theorem nanOf_isN (t : Nat) : isN (nanOf t) := by
  obtain ⟨a, c, ha, hc, e⟩ := nanOf_form t
  rw [e]
  unfold isN rg infR
  omega
theorem nanOf_lt (t : Nat) : nanOf t < 18446744073709551616 := by
  obtain ⟨a, c, ha, hc, e⟩ := nanOf_form t
  rw [e]
  omega

section
variable {P : Program}
/-- An operation that has no number: its bits are drawn. -/
theorem run_none (w : World) (op : BinOp) (t : TypeId) (x y : Nat) (ho : op = .add ∨ op = .sub ∨ op = .mul ∨ op = .quo) (h : floatBits op .f64 x y = none) :
    (binOp op t (.float .f64 x) (.float .f64 y)).run P w = .ok (.float .f64 (nanOf (w.tape w.drawn (.nanBits .f64 x y)))) w.drew := by
  unfold floatBits at h
  rcases ho with rfl | rfl | rfl | rfl <;> simp only at h
  all_goals simp [binOp, Op.floatArith, h, Question.forced, Question.cut, nanOf]
end
end Go.Proofs.YtjnddfpieogpiaaGreatDoor.Fm
/- Real numbers of 64 bits: a quotient, rounded once. -/
namespace Go.Proofs.YtjnddfpieogpiaaGreatDoor.Fm
open Ieee

end Go.Proofs.YtjnddfpieogpiaaGreatDoor.Fm
/- Real numbers of 64 bits: operations that have a number; differences that are exact. -/
namespace Go.Proofs.YtjnddfpieogpiaaGreatDoor.Fm
open Ieee

theorem read_num {x : Nat} (h : rg x < infR) (h0 : 0 < R (rg x)) : ∃ m i, double.read x = .number (sg x) m i ∧ m ≠ 0 := by
  obtain ⟨m, k, e, r, -, -, -⟩ := read_fin h
  refine ⟨m, _, e, fun e0 => ?_⟩
  rw [e0, Nat.zero_mul] at r
  omega

theorem write_notN {d : Datum} (h : d.isNaN = false) : ∃ r s, r ≤ infR ∧ double.write d = double.word s r := by
  cases d with
  | number s m i => obtain ⟨r, h1, h2⟩ := nearest_word s m i; exact ⟨r, s, h1, h2⟩
  | infinity s => exact ⟨infR, s, Nat.le_refl _, rfl⟩
  | nan s t => cases h

theorem mul_some {x y : Nat} (hx : rg x < infR) (x0 : 0 < R (rg x)) (hy : ¬ isN y) : ∃ r, floatBits .mul .f64 x y = some r ∧ ¬ isN r ∧ r < 18446744073709551616 := by
  obtain ⟨m, i, e, hm⟩ := read_num hx x0
  have : ∃ d, ((double.read x).product (double.read y)) = some d ∧ d.isNaN = false := by
    rw [e]
    unfold isN at hy
    by_cases h : rg y < infR
    · obtain ⟨n, k, e2, -, -, -, -⟩ := read_fin h
      rw [e2]; exact ⟨_, rfl, rfl⟩
    · rw [read_inf (by omega)]
      exact ⟨.infinity (sg y ^^ sg x), by simp [Datum.product, hm], rfl⟩
  obtain ⟨d, h1, h2⟩ := this
  obtain ⟨r, s, h3, h4⟩ := write_notN h2
  refine ⟨double.word s r, ?_, notN_word s h3, word_lt s h3⟩
  show double.mul x y = _
  unfold Format.mul
  rw [h1, ← h4]; rfl

theorem mul_some' {x y : Nat} (hx : ¬ isN x) (hy : rg y < infR) (y0 : 0 < R (rg y)) : ∃ r, floatBits .mul .f64 x y = some r ∧ ¬ isN r ∧ r < 18446744073709551616 := by
  obtain ⟨m, i, e, hm⟩ := read_num hy y0
  have : ∃ d, ((double.read x).product (double.read y)) = some d ∧ d.isNaN = false := by
    rw [e]
    unfold isN at hx
    by_cases h : rg x < infR
    · obtain ⟨n, k, e2, -, -, -, -⟩ := read_fin h
      rw [e2]; exact ⟨_, rfl, rfl⟩
    · rw [read_inf (by omega)]
      exact ⟨.infinity (sg x ^^ sg y), by simp [Datum.product, hm], rfl⟩
  obtain ⟨d, h1, h2⟩ := this
  obtain ⟨r, s, h3, h4⟩ := write_notN h2
  refine ⟨double.word s r, ?_, notN_word s h3, word_lt s h3⟩
  show double.mul x y = _
  unfold Format.mul
  rw [h1, ← h4]; rfl

theorem div_some {x y : Nat} (hx : ¬ isN x) (hy : rg y < infR) (y0 : 0 < R (rg y)) : ∃ r, floatBits .quo .f64 x y = some r ∧ ¬ isN r ∧ r < 18446744073709551616 := by
  obtain ⟨m, i, e, hm⟩ := read_num hy y0
  have : ∃ d, ((double.read x).quotient (double.fractionBits + 2) (double.read y)) = some d ∧ d.isNaN = false := by
    rw [e]
    unfold isN at hx
    by_cases h : rg x < infR
    · obtain ⟨n, k, e2, -, -, -, -⟩ := read_fin h
      rw [e2]
      unfold Datum.quotient
      simp only [if_neg hm]
      exact ⟨_, rfl, rfl⟩
    · rw [read_inf (by omega)]
      exact ⟨.infinity (sg x ^^ sg y), rfl, rfl⟩
  obtain ⟨d, h1, h2⟩ := this
  obtain ⟨r, s, h3, h4⟩ := write_notN h2
  refine ⟨double.word s r, ?_, notN_word s h3, word_lt s h3⟩
  show double.div x y = _
  unfold Format.div
  rw [h1, ← h4]; rfl

theorem add_some {x y : Nat} (hx : rg x < infR) (hy : ¬ isN y) : ∃ r, floatBits .add .f64 x y = some r ∧ ¬ isN r ∧ r < 18446744073709551616 := by
  obtain ⟨m, k, e, -, -, -, -⟩ := read_fin hx
  have : ∃ d, ((double.read x).sum (double.read y)) = some d ∧ d.isNaN = false := by
    rw [e]
    unfold isN at hy
    by_cases h : rg y < infR
    · obtain ⟨n, k, e2, -, -, -, -⟩ := read_fin h
      rw [e2]; exact ⟨_, rfl, rfl⟩
    · rw [read_inf (by omega)]
      exact ⟨.infinity (sg y), rfl, rfl⟩
  obtain ⟨d, h1, h2⟩ := this
  obtain ⟨r, s, h3, h4⟩ := write_notN h2
  refine ⟨double.word s r, ?_, notN_word s h3, word_lt s h3⟩
  show double.add x y = _
  unfold Format.add
  rw [h1, ← h4]; rfl

/-- The bits of an operation that has a number. -/
def opB (op : BinOp) (x y : Nat) : Nat := (floatBits op .f64 x y).getD 0
def Good (op : BinOp) (x y : Nat) : Prop := ∃ r, floatBits op .f64 x y = some r ∧ ¬ isN r ∧ r < 18446744073709551616
theorem Good.run {P : Program} {op : BinOp} {x y : Nat} (h : Good op x y) (t : TypeId) (w : World) : (binOp op t (.float .f64 x) (.float .f64 y)).run P w = .ok (.float .f64 (opB op x y)) w := by
  obtain ⟨r, h1, -, -⟩ := h
  unfold opB
  rw [h1]
  exact run_float_arith w op t .f64 x y r h1
theorem Good.notN {op : BinOp} {x y : Nat} (h : Good op x y) : ¬ isN (opB op x y) := by
  obtain ⟨r, h1, h2, -⟩ := h
  unfold opB
  rw [h1]
  exact h2
theorem Good.lt {op : BinOp} {x y : Nat} (h : Good op x y) : opB op x y < 18446744073709551616 := by
  obtain ⟨r, h1, -, h2⟩ := h
  unfold opB
  rw [h1]
  exact h2

theorem whole_notN (n : Int) : ¬ isN (floatOfInt .f64 n) := by
  obtain ⟨r, h1, h2⟩ := whole_word n
  rw [h2]; exact notN_word _ h1
theorem whole_lt (n : Int) : floatOfInt .f64 n < 18446744073709551616 := by
  obtain ⟨r, h1, h2⟩ := whole_word n
  rw [h2]; exact word_lt _ h1
theorem whole_fin (n : Int) (h : n.natAbs < 9007199254740992) (h0 : n ≠ 0) : rg (floatOfInt .f64 n) < infR ∧ 0 < R (rg (floatOfInt .f64 n)) := by
  obtain ⟨r, h1, h2, h3⟩ := whole_exact n h
  rw [h3, rg_word _ (Nat.le_of_lt h1), h2]
  exact ⟨h1, Nat.mul_pos (by omega) U_pos⟩
theorem whole_sv (n : Int) (h : n.natAbs < 9007199254740992) : rg (floatOfInt .f64 n) < infR ∧ sv (floatOfInt .f64 n) = n * U := by
  obtain ⟨r, h1, h2, h3⟩ := whole_exact n h
  rw [h3]
  refine ⟨by rw [rg_word _ (Nat.le_of_lt h1)]; exact h1, ?_⟩
  unfold sv
  rw [rg_word _ (Nat.le_of_lt h1), sg_word _ (Nat.le_of_lt h1), h2]
  by_cases hn : n < 0
  · simp only [hn, decide_true, if_true]
    rw [Int.natCast_mul, ← Int.neg_mul]
    congr 1
    omega
  · simp only [hn, decide_false, Bool.false_eq_true, if_false]
    rw [Int.natCast_mul]
    congr 1
    omega

end Go.Proofs.YtjnddfpieogpiaaGreatDoor.Fm
/- Real numbers of 64 bits: taken apart into an odd number and a power of two. -/
namespace Go.Proofs.YtjnddfpieogpiaaGreatDoor.Fm
open Ieee
set_option linter.unusedVariables false

/-- V, in units, is N times 2 to the E, N odd. -/
def Parts (V : Nat) (n : Nat) (e : Int) : Prop := n % 2 = 1 ∧ -1126 ≤ e ∧ V * 4503599627370496 = n * 2 ^ (e + 1126).toNat

theorem odd_unique {n m a b : Nat} (hn : n % 2 = 1) (hm : m % 2 = 1) (h : n * 2 ^ a = m * 2 ^ b) : n = m ∧ a = b := by
  have key : ∀ {n m a b : Nat}, n % 2 = 1 → m % 2 = 1 → n * 2 ^ a = m * 2 ^ b → a ≤ b → n = m ∧ a = b := by
    intro n m a b hn hm h hab
    have e : b = a + (b - a) := by omega
    rw [e, Nat.pow_add, Nat.mul_comm (2 ^ a), ← Nat.mul_assoc] at h
    have h2 := Nat.eq_of_mul_eq_mul_right (Nat.two_pow_pos a) h
    by_cases hz : b - a = 0
    · rw [hz, Nat.pow_zero, Nat.mul_one] at h2
      exact ⟨h2, by omega⟩
    · exfalso
      have e2 : b - a = (b - a - 1) + 1 := by omega
      rw [e2, Nat.pow_succ, ← Nat.mul_assoc] at h2
      omega
  rcases Nat.le_total a b with hab | hab
  · exact key hn hm h hab
  · obtain ⟨h1, h2⟩ := key hm hn h.symm hab
    exact ⟨h1.symm, h2.symm⟩

theorem Parts.unique {V n m : Nat} {e f : Int} (h : Parts V n e) (k : Parts V m f) : n = m ∧ e = f := by
  obtain ⟨h1, h2, h3⟩ := h
  obtain ⟨k1, k2, k3⟩ := k
  obtain ⟨a, b⟩ := odd_unique h1 k1 (h3.symm.trans k3)
  exact ⟨a, by omega⟩

theorem Parts.least {V n : Nat} {e : Int} (h : Parts V n e) (hV : 0 < V) : -1074 ≤ e := by
  obtain ⟨h1, h2, h3⟩ := h
  by_cases hb : -1074 ≤ e
  · exact hb
  · exfalso
    have e52 : (4503599627370496 : Nat) = 2 ^ 52 := by decide
    have es : 52 = (e + 1126).toNat + (52 - (e + 1126).toNat) := by omega
    rw [e52, es, Nat.pow_add, Nat.mul_comm (2 ^ (e + 1126).toNat), ← Nat.mul_assoc] at h3
    have h4 := Nat.eq_of_mul_eq_mul_right (Nat.two_pow_pos _) h3
    have e2 : 52 - (e + 1126).toNat = (52 - (e + 1126).toNat - 1) + 1 := by omega
    rw [e2, Nat.pow_succ, ← Nat.mul_assoc] at h4
    omega

theorem Parts.val {V n : Nat} {e : Int} (h : Parts V n e) (hV : 0 < V) : V = n * 2 ^ (e + 1074).toNat := by
  have hb := h.least hV
  obtain ⟨h1, h2, h3⟩ := h
  have e52 : (4503599627370496 : Nat) = 2 ^ 52 := by decide
  have es : (e + 1126).toNat = (e + 1074).toNat + 52 := by omega
  rw [es, Nat.pow_add, ← Nat.mul_assoc, e52] at h3
  exact Nat.eq_of_mul_eq_mul_right (Nat.two_pow_pos _) h3

theorem Parts.of {V n : Nat} {e : Int} (hn : n % 2 = 1) (he : -1074 ≤ e) (h : V = n * 2 ^ (e + 1074).toNat) : Parts V n e := by
  refine ⟨hn, by omega, ?_⟩
  have e52 : (4503599627370496 : Nat) = 2 ^ 52 := by decide
  have es : (e + 1126).toNat = (e + 1074).toNat + 52 := by omega
  rw [es, Nat.pow_add, ← Nat.mul_assoc, e52, h]

/-- The bounds of a number's parts. -/
theorem Parts.bd {r n : Nat} {e : Int} (h : Parts (R r) n e) (hr : r < infR) (h0 : 0 < R r) : n < 9007199254740992 ∧ e ≤ 1023 ∧ -1074 ≤ e ∧ 1 ≤ n := by
  have hl := h.least h0
  have hv := h.val h0
  have hn1 : 1 ≤ n := by have := h.1; omega
  have hlt := R_fin_lt hr
  refine ⟨?_, ?_, hl, hn1⟩
  · obtain ⟨m, k, hm, -, hm2, -, -⟩ := R_form hr
    rw [hm] at hv
    -- n divides m
    by_cases hk : k ≤ (e + 1074).toNat
    · have es : (e + 1074).toNat = ((e + 1074).toNat - k) + k := by omega
      rw [es, Nat.pow_add, ← Nat.mul_assoc] at hv
      have h4 := Nat.eq_of_mul_eq_mul_right (Nat.two_pow_pos _) hv
      have : n ≤ n * 2 ^ ((e + 1074).toNat - k) := Nat.le_mul_of_pos_right _ (Nat.two_pow_pos _)
      omega
    · exfalso
      have es : k = (k - (e + 1074).toNat - 1) + 1 + (e + 1074).toNat := by omega
      rw [es, Nat.pow_add, ← Nat.mul_assoc] at hv
      have h4 := Nat.eq_of_mul_eq_mul_right (Nat.two_pow_pos _) hv
      rw [Nat.pow_succ, ← Nat.mul_assoc] at h4
      have := h.1
      omega
  · rw [hv] at hlt
    have h1 : 2 ^ (e + 1074).toNat < 2 ^ (53 + 2045) := by
      rw [Nat.pow_add 2 53 2045, ← Kinf_eq]
      exact Nat.lt_of_le_of_lt (Nat.le_mul_of_pos_left _ hn1) hlt
    have := pow_lt_inv h1
    omega

end Go.Proofs.YtjnddfpieogpiaaGreatDoor.Fm
