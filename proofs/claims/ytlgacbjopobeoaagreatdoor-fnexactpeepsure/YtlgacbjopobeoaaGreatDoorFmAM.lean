/- Real numbers of 64 bits: what a word stands for, and where nothing is rounded. -/
import Derived.Laws.FloatArith
namespace Go.Proofs.YtlgacbjopobeoaaGreatDoor.Fm
open Ieee

def sg (b : Nat) : Bool := b / 9223372036854775808 % 2 == 1
def rg (b : Nat) : Nat := b % 9223372036854775808
/-- The magnitude of a rung, in units of the smallest number. -/
def R (r : Nat) : Nat := if r < 4503599627370496 then r else (4503599627370496 + r % 4503599627370496) * 2 ^ (r / 4503599627370496 - 1)
def infR : Nat := 9218868437227405312
def isN (b : Nat) : Prop := infR < rg b
instance (b : Nat) : Decidable (isN b) := inferInstanceAs (Decidable (_ < _))
def sv (b : Nat) : Int := if sg b then -(R (rg b) : Int) else (R (rg b) : Int)

theorem sw : double.signWeight = 9223372036854775808 := by decide
theorem bin : double.binade = 4503599627370496 := by decide
theorem infr : double.infRung = 9218868437227405312 := by decide
theorem least : double.leastPlace = -1074 := by decide

theorem read_eq (b : Nat) : double.read b =
    if rg b < 4503599627370496 then .number (sg b) (rg b) (-1074)
    else if rg b < infR then .number (sg b) (4503599627370496 + rg b % 4503599627370496) (-1074 + (rg b / 4503599627370496 - 1 : Nat))
    else if rg b = infR then .infinity (sg b)
    else .nan (sg b) (rg b - infR) := by
  unfold Format.read
  rw [sw, bin, infr, least]
  rfl

/-- A finite number, opened. -/
theorem read_fin {b : Nat} (h : rg b < infR) : ∃ m k : Nat, double.read b = .number (sg b) m (-1074 + (k : Int)) ∧ R (rg b) = m * 2 ^ k ∧ m < 9007199254740992 ∧ k < 2046 ∧ (4503599627370496 ≤ m ∨ k = 0) := by
  rw [read_eq]
  by_cases h0 : rg b < 4503599627370496
  · refine ⟨rg b, 0, ?_, ?_, ?_, ?_, ?_⟩
    · rw [if_pos h0]; rfl
    · unfold R; rw [if_pos h0]; simp
    · omega
    · omega
    · right; rfl
  · refine ⟨4503599627370496 + rg b % 4503599627370496, rg b / 4503599627370496 - 1, ?_, ?_, ?_, ?_, ?_⟩
    · rw [if_neg h0, if_pos h]
    · unfold R; rw [if_neg h0]
    · omega
    · unfold infR at h; omega
    · left; omega

theorem read_inf {b : Nat} (h : rg b = infR) : double.read b = .infinity (sg b) := by
  rw [read_eq, if_neg (by rw [h]; decide), if_neg (by rw [h]; decide), if_pos h]

theorem read_nan {b : Nat} (h : isN b) : ∃ t, double.read b = .nan (sg b) t := by
  unfold isN at h
  have : infR = 9218868437227405312 := rfl
  exact ⟨rg b - infR, by rw [read_eq, if_neg (by omega), if_neg (by omega), if_neg (by omega)]⟩

def Kinf : Nat := 2 ^ 2098
theorem Kinf_eq : Kinf = 2 ^ 53 * 2 ^ 2045 := by decide +kernel
theorem Kinf_pos : 0 < Kinf := by decide +kernel
theorem R_inf : R infR = Kinf := by decide +kernel

theorem R_fin_lt {r : Nat} (h : r < infR) : R r < Kinf := by
  unfold R
  split
  · refine Nat.lt_of_lt_of_le (by assumption) ?_
    exact (by decide +kernel : 4503599627370496 ≤ Kinf)
  · have h1 : r / 4503599627370496 - 1 ≤ 2045 := by unfold infR at h; omega
    have h2 : (4503599627370496 + r % 4503599627370496) < 2 ^ 53 := by
      have : (2:Nat) ^ 53 = 9007199254740992 := by decide
      omega
    calc (4503599627370496 + r % 4503599627370496) * 2 ^ (r / 4503599627370496 - 1)
        < 2 ^ 53 * 2 ^ (r / 4503599627370496 - 1) := Nat.mul_lt_mul_of_pos_right h2 (Nat.two_pow_pos _)
      _ ≤ 2 ^ 53 * 2 ^ 2045 := Nat.mul_le_mul_left _ (Nat.pow_le_pow_right (by decide) h1)
      _ = Kinf := Kinf_eq.symm

theorem order_nan {x y : Nat} (h : isN x ∨ isN y) : double.order x y = none := by
  unfold Format.order
  rcases h with h | h
  · obtain ⟨t, e⟩ := read_nan h
    rw [e]; rfl
  · obtain ⟨t, e⟩ := read_nan h
    rw [e]; cases double.read x <;> rfl

theorem cmp_mul {a b : Int} {c : Int} (hc : 0 < c) : compare (a * c) (b * c) = compare a b := by
  rcases Int.lt_trichotomy a b with h | h | h
  · rw [Int.compare_eq_lt.2 h, Int.compare_eq_lt.2 (Int.mul_lt_mul_of_pos_right h hc)]
  · subst h; rw [Int.compare_eq_eq.2 rfl, Int.compare_eq_eq.2 rfl]
  · rw [Int.compare_eq_gt.2 h, Int.compare_eq_gt.2 (Int.mul_lt_mul_of_pos_right h hc)]

theorem signed_eq (s : Bool) (m u : Nat) : signed s m u = (if s then -1 else 1) * ((m * 2 ^ u : Nat) : Int) := by
  unfold signed
  cases s
  · rw [if_neg (by decide), if_neg (by decide), Nat.shiftLeft_eq, Int.one_mul]
  · rw [if_pos rfl, if_pos rfl, Nat.shiftLeft_eq, Int.neg_mul, Int.one_mul]

theorem sv_eq (b : Nat) : sv b = (if sg b then -1 else 1) * (R (rg b) : Int) := by
  unfold sv
  cases sg b <;> simp

theorem order_fin {x y : Nat} (hx : rg x < infR) (hy : rg y < infR) : double.order x y = some (compare (sv x) (sv y)) := by
  obtain ⟨m, k, e1, r1, -, -, -⟩ := read_fin hx
  obtain ⟨n, l, e2, r2, -, -, -⟩ := read_fin hy
  unfold Format.order
  rw [e1, e2]
  show some (compare (signed (sg x) m ((-1074 + (k:Int)) - min (-1074 + (k:Int)) (-1074 + (l:Int))).toNat) (signed (sg y) n ((-1074 + (l:Int)) - min (-1074 + (k:Int)) (-1074 + (l:Int))).toNat)) = _
  rw [signed_eq, signed_eq, sv_eq, sv_eq, r1, r2]
  congr 1
  have ha : ((-1074 + (k:Int)) - min (-1074 + (k:Int)) (-1074 + (l:Int))).toNat = k - min k l := by omega
  have hb : ((-1074 + (l:Int)) - min (-1074 + (k:Int)) (-1074 + (l:Int))).toNat = l - min k l := by omega
  rw [ha, hb]
  have hc : (0:Int) < ((2 ^ (min k l) : Nat) : Int) := Int.ofNat_lt.2 (Nat.two_pow_pos _)
  rw [← cmp_mul hc]
  have e3 : m * 2 ^ k = m * 2 ^ (k - min k l) * 2 ^ (min k l) := by
    rw [Nat.mul_assoc, ← Nat.pow_add]; congr 2; omega
  have e4 : n * 2 ^ l = n * 2 ^ (l - min k l) * 2 ^ (min k l) := by
    rw [Nat.mul_assoc, ← Nat.pow_add]; congr 2; omega
  rw [e3, e4]
  simp only [Int.mul_assoc, Int.natCast_mul]

theorem order_eq {x y : Nat} (hx : ¬ isN x) (hy : ¬ isN y) : double.order x y = some (compare (sv x) (sv y)) := by
  unfold isN at hx hy
  by_cases h1 : rg x < infR
  · by_cases h2 : rg y < infR
    · exact order_fin h1 h2
    · have h2 : rg y = infR := by omega
      obtain ⟨m, k, e1, r1, -, -, -⟩ := read_fin h1
      have b1 := R_fin_lt h1
      unfold Format.order
      rw [e1, read_inf h2]
      show some (if sg y then Ordering.gt else Ordering.lt) = _
      congr 1
      unfold sv
      rw [h2, R_inf]
      generalize Kinf = K at b1 ⊢
      symm
      cases sg y <;> cases sg x <;> simp only [Bool.false_eq_true, if_false, if_true]
      all_goals first | (refine Int.compare_eq_lt.2 ?_; omega) | (refine Int.compare_eq_gt.2 ?_; omega)
  · have h1 : rg x = infR := by omega
    by_cases h2 : rg y < infR
    · obtain ⟨m, k, e1, r1, -, -, -⟩ := read_fin h2
      have b1 := R_fin_lt h2
      unfold Format.order
      rw [e1, read_inf h1]
      show some (if sg x then Ordering.lt else Ordering.gt) = _
      congr 1
      unfold sv
      rw [h1, R_inf]
      generalize Kinf = K at b1 ⊢
      symm
      cases sg y <;> cases sg x <;> simp only [Bool.false_eq_true, if_false, if_true]
      all_goals first | (refine Int.compare_eq_lt.2 ?_; omega) | (refine Int.compare_eq_gt.2 ?_; omega)
    · have h2 : rg y = infR := by omega
      unfold Format.order
      rw [read_inf h1, read_inf h2]
      show some (compare (sg y).toNat (sg x).toNat) = _
      congr 1
      unfold sv
      rw [h1, h2, R_inf]
      have hp := Kinf_pos
      generalize Kinf = K at hp ⊢
      cases sg y <;> cases sg x <;> simp only [Bool.false_eq_true, if_false, if_true]
      · rw [Int.compare_eq_eq.2 rfl]; rfl
      · rw [Int.compare_eq_lt.2 (by omega)]; rfl
      · rw [Int.compare_eq_gt.2 (by omega)]; rfl
      · rw [Int.compare_eq_eq.2 rfl]; rfl
end Go.Proofs.YtlgacbjopobeoaaGreatDoor.Fm
/- Real numbers of 64 bits: where nothing is rounded. -/
namespace Go.Proofs.YtlgacbjopobeoaaGreatDoor.Fm
open Ieee

theorem cut_exact (neg : Bool) (q drop : Nat) (hq : 0 < q) : Toward.even.cut neg (q * 2 ^ drop) drop = q := by
  have h2 : 0 < 2 ^ drop := Nat.two_pow_pos _
  have hne : q * 2 ^ drop ≠ 0 := Nat.ne_of_gt (Nat.mul_pos hq h2)
  have hl : drop ≤ (q * 2 ^ drop).log2 := (Nat.le_log2 hne).2 (Nat.le_mul_of_pos_left _ hq)
  have hm : min drop ((q * 2 ^ drop).log2 + 2) = drop := by omega
  unfold Toward.cut
  simp only [hm, Nat.one_shiftLeft, Nat.mul_div_cancel _ h2, Nat.mul_mod_left]
  have h3 : ¬ (2 ^ drop < 2 * 0) := by omega
  have h4 : (2 ^ drop == 2 * 0) = false := by
    rw [beq_eq_false_iff_ne]; omega
  simp only [h3, h4, decide_false, Bool.false_and, Bool.or_false, Bool.toNat_false, Nat.add_zero]

theorem R_form {r : Nat} (h : r < infR) : ∃ m k : Nat, R r = m * 2 ^ k ∧ r = k * 4503599627370496 + m ∧ m < 9007199254740992 ∧ k < 2046 ∧ (4503599627370496 ≤ m ∨ k = 0) := by
  unfold infR at h
  unfold R
  by_cases h0 : r < 4503599627370496
  · exact ⟨r, 0, by rw [if_pos h0]; simp, by omega, by omega, by omega, Or.inr rfl⟩
  · exact ⟨4503599627370496 + r % 4503599627370496, r / 4503599627370496 - 1, by rw [if_neg h0], by omega, by omega, by omega, Or.inl (by omega)⟩

theorem R_of (m k : Nat) (hm : m < 9007199254740992) (hk : 4503599627370496 ≤ m ∨ k = 0) : R (k * 4503599627370496 + m) = m * 2 ^ k := by
  unfold R
  by_cases h0 : k * 4503599627370496 + m < 4503599627370496
  · have : k = 0 := by omega
    subst this
    rw [if_pos h0]; simp
  · rw [if_neg h0]
    rcases hk with hk | hk
    · have e1 : (k * 4503599627370496 + m) % 4503599627370496 = m - 4503599627370496 := by omega
      have e2 : (k * 4503599627370496 + m) / 4503599627370496 = k + 1 := by omega
      have e3 : 4503599627370496 + (m - 4503599627370496) = m := by omega
      rw [e1, e2, e3, Nat.add_sub_cancel]
    · subst hk
      have e1 : (0 * 4503599627370496 + m) % 4503599627370496 = m - 4503599627370496 := by omega
      have e2 : (0 * 4503599627370496 + m) / 4503599627370496 = 1 := by omega
      have e3 : 4503599627370496 + (m - 4503599627370496) = m := by omega
      rw [e1, e2, e3, Nat.sub_self]

theorem log2_mul_pow {n : Nat} (h : n ≠ 0) (a : Nat) : (n * 2 ^ a).log2 = n.log2 + a := by
  have h2 : n * 2 ^ a ≠ 0 := Nat.mul_ne_zero h (Nat.ne_of_gt (Nat.two_pow_pos _))
  refine Nat.le_antisymm ?_ ?_
  · refine Nat.le_of_lt_succ ((Nat.log2_lt h2).2 ?_)
    have := Nat.lt_log2_self (n := n)
    calc n * 2 ^ a < 2 ^ (n.log2 + 1) * 2 ^ a := Nat.mul_lt_mul_of_pos_right this (Nat.two_pow_pos _)
      _ = 2 ^ (n.log2 + a + 1) := by rw [← Nat.pow_add]; congr 1; omega
  · refine (Nat.le_log2 h2).2 ?_
    rw [Nat.pow_add]
    exact Nat.mul_le_mul_right _ (Nat.log2_self_le h)

theorem nearest_exact (neg : Bool) (mag : Nat) (place : Int) (m k : Nat) (hE : mag * 2 ^ (place + 1074).toNat = m * 2 ^ k * 2 ^ (-(place + 1074)).toNat)
    (hm : m < 9007199254740992) (hk : k < 2046) (hn : 4503599627370496 ≤ m ∨ k = 0) : double.nearest neg mag place = double.word neg (k * 4503599627370496 + m) := by
  have p2 : ∀ a : Nat, 0 < 2 ^ a := fun a => Nat.two_pow_pos a
  unfold Format.nearest
  by_cases h0 : mag = 0
  · rw [if_pos h0]
    rw [h0, Nat.zero_mul, Nat.mul_assoc] at hE
    have hm0 : m = 0 := by
      rcases Nat.mul_eq_zero.1 hE.symm with h | h
      · exact h
      · have := Nat.mul_pos (p2 k) (p2 (-(place + 1074)).toNat); omega
    have hk0 : k = 0 := by omega
    rw [hm0, hk0]
  · rw [if_neg h0]
    have hm0 : m ≠ 0 := by
      intro e
      rw [e, Nat.zero_mul, Nat.zero_mul] at hE
      rcases Nat.mul_eq_zero.1 hE with h | h
      · exact h0 h
      · have := p2 (place + 1074).toNat; omega
    have hlog : (mag.log2 : Int) + (place + 1074) = m.log2 + k := by
      have := congrArg Nat.log2 hE
      rw [log2_mul_pow h0, Nat.mul_assoc, ← Nat.pow_add, log2_mul_pow hm0] at this
      omega
    have hl : m.log2 = 52 ∨ (m.log2 ≤ 52 ∧ k = 0) := by
      have h52 : m.log2 < 53 := (Nat.log2_lt hm0).2 (by have : (2:Nat) ^ 53 = 9007199254740992 := by decide
                                                        omega)
      rcases hn with hn | hn
      · left
        have : 52 ≤ m.log2 := (Nat.le_log2 hm0).2 (by have : (2:Nat) ^ 52 = 4503599627370496 := by decide
                                                      omega)
        omega
      · right; omega
    have hlast : max (place + mag.log2 - (double.fractionBits : Nat)) double.leastPlace = (k : Int) - 1074 := by
      rw [least]
      have : ((double.fractionBits : Nat) : Int) = 52 := rfl
      rw [this]
      omega
    simp only [hlast]
    rw [least, bin, infr]
    have e1 : ((k : Int) - 1074 - -1074).toNat = k := by omega
    rw [e1]
    have hkept : Toward.even.cut neg (mag <<< (place - ((k : Int) - 1074)).toNat) ((k : Int) - 1074 - place).toNat = m := by
      rw [Nat.shiftLeft_eq]
      by_cases hp : (k : Int) - 1074 ≤ place
      · have d0 : ((k : Int) - 1074 - place).toNat = 0 := by omega
        rw [d0]
        have e2 : (place + 1074).toNat = (place - ((k : Int) - 1074)).toNat + k := by omega
        have e3 : (-(place + 1074)).toNat = 0 := by omega
        rw [e2, e3, Nat.pow_zero, Nat.mul_one, Nat.pow_add, ← Nat.mul_assoc] at hE
        have e4 := Nat.eq_of_mul_eq_mul_right (p2 k) hE
        rw [e4]
        have := cut_exact neg m 0 (Nat.pos_of_ne_zero hm0)
        rwa [Nat.pow_zero, Nat.mul_one] at this
      · have d0 : (place - ((k : Int) - 1074)).toNat = 0 := by omega
        rw [d0, Nat.pow_zero, Nat.mul_one]
        have e4 : mag = m * 2 ^ ((k : Int) - 1074 - place).toNat := by
          by_cases hq : 0 ≤ place + 1074
          · have e2 : k = ((k : Int) - 1074 - place).toNat + (place + 1074).toNat := by omega
            have e3 : (-(place + 1074)).toNat = 0 := by omega
            rw [e3, Nat.pow_zero, Nat.mul_one] at hE
            have e5 : m * 2 ^ k = m * 2 ^ ((k : Int) - 1074 - place).toNat * 2 ^ (place + 1074).toNat := by
              rw [Nat.mul_assoc, ← Nat.pow_add, ← e2]
            rw [e5] at hE
            exact Nat.eq_of_mul_eq_mul_right (p2 _) hE
          · have e2 : ((k : Int) - 1074 - place).toNat = k + (-(place + 1074)).toNat := by omega
            have e3 : (place + 1074).toNat = 0 := by omega
            rw [e3, Nat.pow_zero, Nat.mul_one, Nat.mul_assoc, ← Nat.pow_add, ← e2] at hE
            exact hE
        rw [e4]
        exact cut_exact neg m _ (Nat.pos_of_ne_zero hm0)
    rw [hkept, Nat.min_eq_left (by omega)]

theorem word_eq (s : Bool) (r : Nat) : double.word s r = if s then 9223372036854775808 + r else r := by
  unfold Format.word; rw [sw]
theorem rg_word (s : Bool) {r : Nat} (h : r ≤ infR) : rg (double.word s r) = r := by
  unfold infR at h
  unfold rg; rw [word_eq]; cases s
  · rw [if_neg (by decide)]; omega
  · rw [if_pos rfl]; omega
theorem sg_word (s : Bool) {r : Nat} (h : r ≤ infR) : sg (double.word s r) = s := by
  unfold infR at h
  unfold sg; rw [word_eq]; cases s
  · rw [if_neg (by decide), beq_eq_false_iff_ne]; omega
  · rw [if_pos rfl, beq_iff_eq]; omega
theorem word_lt (s : Bool) {r : Nat} (h : r ≤ infR) : double.word s r < 18446744073709551616 := by
  unfold infR at h
  rw [word_eq]; cases s
  · rw [if_neg (by decide)]; omega
  · rw [if_pos rfl]; omega

/-- A magnitude that a number has. -/
def Rep (V : Nat) : Prop := ∃ m k : Nat, V = m * 2 ^ k ∧ m < 9007199254740992 ∧ k < 2046 ∧ (4503599627370496 ≤ m ∨ k = 0)

theorem Rep.rung {V : Nat} (h : Rep V) : ∃ r, r < infR ∧ R r = V := by
  obtain ⟨m, k, e, h1, h2, h3⟩ := h
  refine ⟨k * 4503599627370496 + m, ?_, ?_⟩
  · unfold infR; omega
  · rw [R_of m k h1 h3, e]

theorem rep_R {r : Nat} (h : r < infR) : Rep (R r) := by
  obtain ⟨m, k, h1, -, h2, h3, h4⟩ := R_form h
  exact ⟨m, k, h1, h2, h3, h4⟩

theorem pow_lt_inv {a b : Nat} (h : 2 ^ a < 2 ^ b) : a < b := (Nat.pow_lt_pow_iff_right (by decide)).1 h

/-- A number of 53 bits times a power of two, below the infinite. -/
theorem rep_of (n j : Nat) (hn : n < 9007199254740992) (hV : n * 2 ^ j < Kinf) : Rep (n * 2 ^ j) := by
  have e53 : (2:Nat) ^ 53 = 9007199254740992 := by decide
  have e52 : (2:Nat) ^ 52 = 4503599627370496 := by decide
  by_cases h0 : n = 0
  · exact ⟨0, 0, by rw [h0]; simp, by omega, by omega, Or.inr rfl⟩
  have hl : n.log2 < 53 := (Nat.log2_lt h0).2 (by omega)
  have hself := Nat.log2_self_le h0
  have hlt := Nat.lt_log2_self (n := n)
  -- move up by s
  by_cases hj : 52 - n.log2 ≤ j
  · have hu : n * 2 ^ (52 - n.log2) < 9007199254740992 := by
      rw [← e53]
      calc n * 2 ^ (52 - n.log2) < 2 ^ (n.log2 + 1) * 2 ^ (52 - n.log2) := Nat.mul_lt_mul_of_pos_right hlt (Nat.two_pow_pos _)
        _ = 2 ^ 53 := by rw [← Nat.pow_add]; congr 1; omega
    have hd : 4503599627370496 ≤ n * 2 ^ (52 - n.log2) := by
      rw [← e52]
      calc 2 ^ 52 = 2 ^ n.log2 * 2 ^ (52 - n.log2) := by rw [← Nat.pow_add]; congr 1; omega
        _ ≤ n * 2 ^ (52 - n.log2) := Nat.mul_le_mul_right _ hself
    refine ⟨n * 2 ^ (52 - n.log2), j - (52 - n.log2), ?_, hu, ?_, Or.inl hd⟩
    · rw [Nat.mul_assoc, ← Nat.pow_add]; congr 2; omega
    · have h1 : 2 ^ (n.log2 + j) < 2 ^ (53 + 2045) := by
        rw [Nat.pow_add 2 53 2045, ← Kinf_eq, Nat.pow_add]
        exact Nat.lt_of_le_of_lt (Nat.mul_le_mul_right _ hself) hV
      have := pow_lt_inv h1
      omega
  · have hu : n * 2 ^ j < 9007199254740992 := by
      rw [← e53]
      calc n * 2 ^ j < 2 ^ (n.log2 + 1) * 2 ^ j := Nat.mul_lt_mul_of_pos_right hlt (Nat.two_pow_pos _)
        _ = 2 ^ (n.log2 + 1 + j) := (Nat.pow_add _ _ _).symm
        _ ≤ 2 ^ 53 := Nat.pow_le_pow_right (by decide) (by omega)
    exact ⟨n * 2 ^ j, 0, by simp, hu, by omega, Or.inr rfl⟩

/-- What is written of an exact number. -/
theorem nearest_rep (neg : Bool) (mag : Nat) (place : Int) {V : Nat} (h : Rep V) (hE : mag * 2 ^ (place + 1074).toNat = V * 2 ^ (-(place + 1074)).toNat) :
    ∃ r, r < infR ∧ R r = V ∧ double.nearest neg mag place = double.word neg r := by
  obtain ⟨m, k, e, h1, h2, h3⟩ := h
  refine ⟨k * 4503599627370496 + m, ?_, ?_, ?_⟩
  · unfold infR; omega
  · rw [R_of m k h1 h3, e]
  · rw [e] at hE
    exact nearest_exact neg mag place m k hE h1 h2 h3

/-- Whatever is written, it is a number or infinite. -/
theorem nearest_word (neg : Bool) (mag : Nat) (place : Int) : ∃ r, r ≤ infR ∧ double.nearest neg mag place = double.word neg r := by
  unfold Format.nearest
  split
  · exact ⟨0, by decide, rfl⟩
  · exact ⟨_, by rw [infr]; exact Nat.min_le_right _ _, rfl⟩

theorem notN_word (s : Bool) {r : Nat} (h : r ≤ infR) : ¬ isN (double.word s r) := by
  unfold isN; rw [rg_word s h]; omega
end Go.Proofs.YtlgacbjopobeoaaGreatDoor.Fm
/- Real numbers of 64 bits: doubling, halving, cutting. -/
namespace Go.Proofs.YtlgacbjopobeoaaGreatDoor.Fm
open Ieee

theorem nearest_over (neg : Bool) (mag : Nat) (place : Int) (m k : Nat) (hE : mag * 2 ^ (place + 1074).toNat = m * 2 ^ k * 2 ^ (-(place + 1074)).toNat)
    (hm : m < 9007199254740992) (hk : 2046 ≤ k) (hn : 4503599627370496 ≤ m) : double.nearest neg mag place = double.word neg infR := by
  have p2 : ∀ a : Nat, 0 < 2 ^ a := fun a => Nat.two_pow_pos a
  have hm0 : m ≠ 0 := by omega
  have h0 : mag ≠ 0 := by
    intro e
    rw [e, Nat.zero_mul, Nat.mul_assoc] at hE
    rcases Nat.mul_eq_zero.1 hE.symm with h | h
    · exact hm0 h
    · have := Nat.mul_pos (p2 k) (p2 (-(place + 1074)).toNat); omega
  have hlog : (mag.log2 : Int) + (place + 1074) = m.log2 + k := by
    have := congrArg Nat.log2 hE
    rw [log2_mul_pow h0, Nat.mul_assoc, ← Nat.pow_add, log2_mul_pow hm0] at this
    omega
  have hl : m.log2 = 52 := by
    have h52 : m.log2 < 53 := (Nat.log2_lt hm0).2 (by have : (2:Nat) ^ 53 = 9007199254740992 := by decide
                                                      omega)
    have : 52 ≤ m.log2 := (Nat.le_log2 hm0).2 (by have : (2:Nat) ^ 52 = 4503599627370496 := by decide
                                                  omega)
    omega
  unfold Format.nearest
  rw [if_neg h0]
  have hlast : max (place + mag.log2 - (double.fractionBits : Nat)) double.leastPlace = (k : Int) - 1074 := by
    rw [least]
    have : ((double.fractionBits : Nat) : Int) = 52 := rfl
    rw [this]
    omega
  simp only [hlast]
  rw [least, bin, infr]
  have e1 : ((k : Int) - 1074 - -1074).toNat = k := by omega
  rw [e1]
  have hkept : Toward.even.cut neg (mag <<< (place - ((k : Int) - 1074)).toNat) ((k : Int) - 1074 - place).toNat = m := by
    rw [Nat.shiftLeft_eq]
    by_cases hp : (k : Int) - 1074 ≤ place
    · have d0 : ((k : Int) - 1074 - place).toNat = 0 := by omega
      rw [d0]
      have e2 : (place + 1074).toNat = (place - ((k : Int) - 1074)).toNat + k := by omega
      have e3 : (-(place + 1074)).toNat = 0 := by omega
      rw [e2, e3, Nat.pow_zero, Nat.mul_one, Nat.pow_add, ← Nat.mul_assoc] at hE
      have e4 := Nat.eq_of_mul_eq_mul_right (p2 k) hE
      rw [e4]
      have := cut_exact neg m 0 (Nat.pos_of_ne_zero hm0)
      rwa [Nat.pow_zero, Nat.mul_one] at this
    · have d0 : (place - ((k : Int) - 1074)).toNat = 0 := by omega
      rw [d0, Nat.pow_zero, Nat.mul_one]
      have e4 : mag = m * 2 ^ ((k : Int) - 1074 - place).toNat := by
        by_cases hq : 0 ≤ place + 1074
        · have e2 : k = ((k : Int) - 1074 - place).toNat + (place + 1074).toNat := by omega
          have e3 : (-(place + 1074)).toNat = 0 := by omega
          rw [e3, Nat.pow_zero, Nat.mul_one] at hE
          have e5 : m * 2 ^ k = m * 2 ^ ((k : Int) - 1074 - place).toNat * 2 ^ (place + 1074).toNat := by
            rw [Nat.mul_assoc, ← Nat.pow_add, ← e2]
          rw [e5] at hE
          exact Nat.eq_of_mul_eq_mul_right (p2 _) hE
        · have e2 : ((k : Int) - 1074 - place).toNat = k + (-(place + 1074)).toNat := by omega
          have e3 : (place + 1074).toNat = 0 := by omega
          rw [e3, Nat.pow_zero, Nat.mul_one, Nat.mul_assoc, ← Nat.pow_add, ← e2] at hE
          exact hE
      rw [e4]
      exact cut_exact neg m _ (Nat.pos_of_ne_zero hm0)
  rw [hkept, Nat.min_eq_right (by omega)]
  rfl

theorem R_pos {r : Nat} (h : R r = 0) : r = 0 := by
  unfold R at h
  split at h
  · exact h
  · have := Nat.mul_pos (show 0 < 4503599627370496 + r % 4503599627370496 by omega) (Nat.two_pow_pos (r / 4503599627370496 - 1))
    omega
theorem R_zero : R 0 = 0 := by decide

abbrev two : Nat := 4611686018427387904
abbrev one : Nat := 4607182418800017408
theorem read_two : double.read two = .number false 4503599627370496 (-51) := by decide +kernel
theorem read_one : double.read one = .number false 4503599627370496 (-52) := by decide +kernel

theorem dbl_fin {x : Nat} (hx : rg x < infR) (hV : 2 * R (rg x) < Kinf) : ∃ r, r < infR ∧ R r = 2 * R (rg x) ∧ double.mul x two = some (double.word (sg x) r) := by
  obtain ⟨m, k, e1, r1, h1, h2, h3⟩ := read_fin hx
  have hr : Rep (2 * R (rg x)) := by
    have e : 2 * R (rg x) = m * 2 ^ (k + 1) := by rw [r1, Nat.pow_succ, Nat.mul_comm 2, Nat.mul_assoc]
    rw [e] at hV ⊢
    exact rep_of m (k + 1) h1 hV
  obtain ⟨r, q1, q2, q3⟩ := nearest_rep (sg x) (m * 4503599627370496) (-1074 + (k:Int) + -51) hr (by
    rw [r1]
    have e52 : 4503599627370496 = (2:Nat) ^ 52 := by decide
    rw [e52]
    by_cases hk : 51 ≤ k
    · have a1 : (-1074 + (k:Int) + -51 + 1074).toNat = k - 51 := by omega
      have a2 : (-(-1074 + (k:Int) + -51 + 1074)).toNat = 0 := by omega
      rw [a1, a2, Nat.pow_zero, Nat.mul_one, Nat.mul_assoc, ← Nat.pow_add, Nat.mul_comm 2, Nat.mul_assoc, ← Nat.pow_succ]
      have : 52 + (k - 51) = k + 1 := by omega
      rw [this]
    · have a1 : (-1074 + (k:Int) + -51 + 1074).toNat = 0 := by omega
      have a2 : (-(-1074 + (k:Int) + -51 + 1074)).toNat = 51 - k := by omega
      have a3 : 2 * (m * 2 ^ k) = m * 2 ^ (k + 1) := by rw [Nat.mul_comm 2, Nat.mul_assoc, ← Nat.pow_succ]
      rw [a1, a2, a3, Nat.pow_zero, Nat.mul_one, Nat.mul_assoc, ← Nat.pow_add]
      have : k + 1 + (51 - k) = 52 := by omega
      rw [this])
  refine ⟨r, q1, q2, ?_⟩
  unfold Format.mul
  rw [e1, read_two]
  show some (double.nearest (sg x ^^ false) (m * 4503599627370496) (-1074 + (k:Int) + -51)) = _
  rw [Bool.xor_false, q3]

theorem dbl_any {x : Nat} (hx : ¬ isN x) : ∃ r, r ≤ infR ∧ double.mul x two = some (double.word (sg x) r) ∧ (r < infR → rg x < infR ∧ R r = 2 * R (rg x)) := by
  unfold isN at hx
  by_cases h : rg x < infR
  · by_cases hV : 2 * R (rg x) < Kinf
    · obtain ⟨r, q1, q2, q3⟩ := dbl_fin h hV
      exact ⟨r, by omega, q3, fun _ => ⟨h, q2⟩⟩
    · obtain ⟨m, k, e1, r1, h1, h2, h3⟩ := read_fin h
      have hk : k = 2045 := by
        by_cases hk : k = 2045
        · exact hk
        · exfalso
          apply hV
          have e53 : (9007199254740992 : Nat) = 2 ^ 53 := by decide
          rw [e53] at h1
          rw [r1, Kinf_eq, Nat.mul_comm 2, Nat.mul_assoc, ← Nat.pow_succ]
          calc m * 2 ^ (k + 1) < 2 ^ 53 * 2 ^ (k + 1) := Nat.mul_lt_mul_of_pos_right h1 (Nat.two_pow_pos _)
            _ ≤ 2 ^ 53 * 2 ^ 2045 := Nat.mul_le_mul_left _ (Nat.pow_le_pow_right (by decide) (by omega))
      have hm : 4503599627370496 ≤ m := by omega
      refine ⟨infR, Nat.le_refl _, ?_, fun h => absurd h (Nat.lt_irrefl _)⟩
      unfold Format.mul
      rw [e1, read_two]
      show some (double.nearest (sg x ^^ false) (m * 4503599627370496) (-1074 + (k:Int) + -51)) = _
      rw [Bool.xor_false, nearest_over (sg x) _ _ m (k + 1) ?_ h1 (by omega) hm]
      have e52 : 4503599627370496 = (2:Nat) ^ 52 := by decide
      rw [e52]
      have a1 : (-1074 + (k:Int) + -51 + 1074).toNat = k - 51 := by omega
      have a2 : (-(-1074 + (k:Int) + -51 + 1074)).toNat = 0 := by omega
      rw [a1, a2, Nat.pow_zero, Nat.mul_one, Nat.mul_assoc, ← Nat.pow_add]
      have : 52 + (k - 51) = k + 1 := by omega
      rw [this]
  · have h : rg x = infR := by omega
    refine ⟨infR, Nat.le_refl _, ?_, fun h => absurd h (Nat.lt_irrefl _)⟩
    unfold Format.mul
    rw [read_inf h, read_two]
    show some (double.word (sg x ^^ false) double.infRung) = _
    rw [Bool.xor_false]; rfl

theorem half_fin {x V : Nat} (hx : rg x < infR) (hV : R (rg x) = 2 * V) (hr : Rep V) : ∃ r, r < infR ∧ R r = V ∧ double.div x two = some (double.word (sg x) r) := by
  obtain ⟨m, k, e1, r1, h1, h2, h3⟩ := read_fin hx
  have e52 : (4503599627370496 : Nat) = 2 ^ 52 := by decide
  have hlog : m.log2 ≤ 52 := by
    by_cases h0 : m = 0
    · rw [h0]; decide
    · have : m.log2 < 53 := (Nat.log2_lt h0).2 (by have : (2:Nat) ^ 53 = 9007199254740992 := by decide
                                                   omega)
      omega
  have l52 : (4503599627370496 : Nat).log2 = 52 := by decide +kernel
  let more := 54 + (4503599627370496 : Nat).log2 - m.log2
  have hmore : more = 106 - m.log2 := by show 54 + (4503599627370496 : Nat).log2 - m.log2 = _; rw [l52]
  have hdiv : (m <<< more) / 4503599627370496 = m * 2 ^ (more - 52) := by
    rw [Nat.shiftLeft_eq, e52]
    have : m * 2 ^ more = m * 2 ^ (more - 52) * 2 ^ 52 := by rw [Nat.mul_assoc, ← Nat.pow_add]; have : more - 52 + 52 = more := by omega
                                                             rw [this]
    rw [this, Nat.mul_div_cancel _ (Nat.two_pow_pos _)]
  have hmod : (m <<< more) % 4503599627370496 = 0 := by
    rw [Nat.shiftLeft_eq, e52]
    have : m * 2 ^ more = m * 2 ^ (more - 52) * 2 ^ 52 := by rw [Nat.mul_assoc, ← Nat.pow_add]; have : more - 52 + 52 = more := by omega
                                                             rw [this]
    rw [this, Nat.mul_mod_left]
  have hV2 : m * 2 ^ k = 2 * V := by rw [← r1, hV]
  obtain ⟨r, q1, q2, q3⟩ := nearest_rep (sg x) (2 * (m * 2 ^ (more - 52))) (-1074 + (k:Int) - -51 - more - 1) hr (by
    have b : ∀ c : Nat, 2 * (m * 2 ^ c) = m * 2 ^ (c + 1) := fun c => by rw [Nat.mul_comm 2, Nat.mul_assoc, ← Nat.pow_succ]
    rw [b]
    have key : ∀ a c : Nat, k + a = c + 1 → m * 2 ^ c = V * 2 ^ a := fun a c h => by
      have : 2 * (m * 2 ^ c) = 2 * (V * 2 ^ a) := by
        rw [b, ← h, Nat.pow_add, ← Nat.mul_assoc, hV2, Nat.mul_assoc]
      omega
    by_cases hk : (more : Int) ≤ k + 50
    · have a1 : (-1074 + (k:Int) - -51 - more - 1 + 1074).toNat = k + 50 - more := by omega
      have a2 : (-(-1074 + (k:Int) - -51 - more - 1 + 1074)).toNat = 0 := by omega
      rw [a1, a2, Nat.mul_assoc, ← Nat.pow_add]
      exact key 0 _ (by omega)
    · have a1 : (-1074 + (k:Int) - -51 - more - 1 + 1074).toNat = 0 := by omega
      have a2 : (-(-1074 + (k:Int) - -51 - more - 1 + 1074)).toNat = more - 50 - k := by omega
      rw [a1, a2, Nat.pow_zero, Nat.mul_one]
      exact key _ _ (by omega))
  refine ⟨r, q1, q2, ?_⟩
  unfold Format.div
  rw [e1, read_two]
  show some (double.nearest (sg x ^^ false) (2 * ((m <<< more) / 4503599627370496) + ((m <<< more) % 4503599627370496 != 0).toNat) (-1074 + (k:Int) - -51 - more - 1)) = _
  rw [Bool.xor_false, hdiv, hmod]
  exact congrArg some q3

theorem half_any {x : Nat} (hx : ¬ isN x) : ∃ r, r ≤ infR ∧ double.div x two = some (double.word (sg x) r) := by
  unfold isN at hx
  by_cases h : rg x < infR
  · obtain ⟨m, k, e1, r1, h1, h2, h3⟩ := read_fin h
    unfold Format.div
    rw [e1, read_two]
    obtain ⟨r, q1, q2⟩ := nearest_word (sg x) (2 * ((m <<< (54 + (4503599627370496 : Nat).log2 - m.log2)) / 4503599627370496) + ((m <<< (54 + (4503599627370496 : Nat).log2 - m.log2)) % 4503599627370496 != 0).toNat) (-1074 + (k:Int) - -51 - (54 + (4503599627370496 : Nat).log2 - m.log2 : Nat) - 1)
    refine ⟨r, q1, ?_⟩
    rw [← q2]
    show some (double.nearest (sg x ^^ false) _ _) = _
    rw [Bool.xor_false]
    rfl
  · have h : rg x = infR := by omega
    refine ⟨infR, Nat.le_refl _, ?_⟩
    unfold Format.div
    rw [read_inf h, read_two]
    show some (double.word (sg x ^^ false) double.infRung) = _
    rw [Bool.xor_false]; rfl

/-- One by a zero. -/
theorem inv_zero {x : Nat} (h : R (rg x) = 0) : double.div one x = some (double.word (sg x) infR) := by
  have h0 := R_pos h
  unfold Format.div
  have : double.read x = .number (sg x) 0 (-1074) := by rw [read_eq, h0, if_pos (by decide)]
  rw [this, read_one]
  show some (double.word (false ^^ sg x) double.infRung) = _
  rw [Bool.false_xor]; rfl

theorem cut_zero (neg : Bool) (n drop : Nat) : Toward.zero.cut neg n drop = n / 2 ^ drop := by
  unfold Toward.cut
  simp only [Nat.one_shiftLeft, Bool.toNat_false, Nat.add_zero]
  by_cases h : drop ≤ n.log2 + 2
  · rw [Nat.min_eq_left h]
  · rw [Nat.min_eq_right (by omega)]
    have h1 : n < 2 ^ (n.log2 + 2) := Nat.lt_of_lt_of_le Nat.lt_log2_self (Nat.pow_le_pow_right (by decide) (by omega))
    have h2 : n < 2 ^ drop := Nat.lt_of_lt_of_le h1 (Nat.pow_le_pow_right (by decide) (by omega))
    rw [Nat.div_eq_of_lt h1, Nat.div_eq_of_lt h2]

/-- The number 1, in units. -/
def uE : Nat := 1074
def U : Nat := 2 ^ uE
theorem U_pos : 0 < U := Nat.two_pow_pos uE
theorem U_add (a b : Nat) (h : b = a + 1074) : 2 ^ b = 2 ^ a * U := by
  have h' : b = a + uE := h
  rw [h']; exact Nat.pow_add 2 a uE
theorem U_sub (a b : Nat) (h : a + b = 1074) : U = 2 ^ a * 2 ^ b := by
  have h' : uE = a + b := h.symm
  unfold U
  rw [h', Nat.pow_add]

/-- A number cut towards 0. -/
theorem toInt_fin {x : Nat} (h : rg x < infR) : (double.read x).toInt .zero = some ((if sg x then -1 else 1) * ((R (rg x) / U : Nat) : Int)) := by
  obtain ⟨m, k, e1, r1, -, -, -⟩ := read_fin h
  rw [e1]
  show some (signed (sg x) (Toward.zero.cut (sg x) (m <<< (-1074 + (k:Int)).toNat) (-(-1074 + (k:Int))).toNat) 0) = _
  rw [signed_eq, cut_zero, r1, Nat.pow_zero, Nat.mul_one, Nat.shiftLeft_eq]
  have key : m * 2 ^ (-1074 + (k:Int)).toNat / 2 ^ (-(-1074 + (k:Int))).toNat = m * 2 ^ k / U := by
    by_cases hk : 1074 ≤ k
    · have a1 : (-1074 + (k:Int)).toNat = k - 1074 := by omega
      have a2 : (-(-1074 + (k:Int))).toNat = 0 := by omega
      rw [a1, a2, Nat.pow_zero, Nat.div_one]
      rw [U_add (k - 1074) k (by omega), ← Nat.mul_assoc, Nat.mul_div_cancel _ U_pos]
    · have a1 : (-1074 + (k:Int)).toNat = 0 := by omega
      have a2 : (-(-1074 + (k:Int))).toNat = 1074 - k := by omega
      rw [a1, a2, Nat.pow_zero, Nat.mul_one, U_sub (1074 - k) k (by omega), Nat.mul_div_mul_right _ _ (Nat.two_pow_pos _)]
  rw [key]
end Go.Proofs.YtlgacbjopobeoaaGreatDoor.Fm
/- Real numbers of 64 bits: tests, signs, whole numbers; what is drawn where there is no number. -/
namespace Go.Proofs.YtlgacbjopobeoaaGreatDoor.Fm
open Ieee

abbrev F : Ieee.Format := FloatKind.f64.format
theorem F_eq : F = double := rfl

theorem lt_b {x y : Nat} (hx : ¬ isN x) (hy : ¬ isN y) : (F.order x y == some .lt) = decide (sv x < sv y) := by
  rw [F_eq, order_eq hx hy]
  rcases Int.lt_trichotomy (sv x) (sv y) with h | h | h
  · rw [Int.compare_eq_lt.2 h, decide_eq_true h]; rfl
  · rw [Int.compare_eq_eq.2 h, decide_eq_false (by omega)]; rfl
  · rw [Int.compare_eq_gt.2 h, decide_eq_false (by omega)]; rfl
theorem gt_b {x y : Nat} (hx : ¬ isN x) (hy : ¬ isN y) : (F.order x y == some .gt) = decide (sv y < sv x) := by
  rw [F_eq, order_eq hx hy]
  rcases Int.lt_trichotomy (sv x) (sv y) with h | h | h
  · rw [Int.compare_eq_lt.2 h, decide_eq_false (by omega)]; rfl
  · rw [Int.compare_eq_eq.2 h, decide_eq_false (by omega)]; rfl
  · rw [Int.compare_eq_gt.2 h, decide_eq_true h]; rfl
theorem eq_b {x y : Nat} (hx : ¬ isN x) (hy : ¬ isN y) : (F.order x y == some .eq) = decide (sv x = sv y) := by
  rw [F_eq, order_eq hx hy]
  rcases Int.lt_trichotomy (sv x) (sv y) with h | h | h
  · rw [Int.compare_eq_lt.2 h, decide_eq_false (by omega)]; rfl
  · rw [Int.compare_eq_eq.2 h, decide_eq_true h]; rfl
  · rw [Int.compare_eq_gt.2 h, decide_eq_false (by omega)]; rfl
theorem ne_b {x y : Nat} (hx : ¬ isN x) (hy : ¬ isN y) : (F.order x y != some .eq) = decide (sv x ≠ sv y) := by
  have := eq_b hx hy
  unfold bne
  rw [this]
  by_cases h : sv x = sv y <;> simp [h]
theorem le_b {x y : Nat} (hx : ¬ isN x) (hy : ¬ isN y) : (F.order x y == some .lt || F.order x y == some .eq) = decide (sv x ≤ sv y) := by
  rw [lt_b hx hy, eq_b hx hy, ← Bool.decide_or]
  congr 1
  exact propext ⟨fun h => by omega, fun h => by omega⟩
theorem ge_b {x y : Nat} (hx : ¬ isN x) (hy : ¬ isN y) : (F.order x y == some .gt || F.order x y == some .eq) = decide (sv y ≤ sv x) := by
  rw [gt_b hx hy, eq_b hx hy, ← Bool.decide_or]
  congr 1
  exact propext ⟨fun h => by omega, fun h => by omega⟩
theorem ord_n {x y : Nat} (h : isN x ∨ isN y) : F.order x y = none := order_nan h
theorem self_ne (x : Nat) : (F.order x x != some .eq) = decide (isN x) := by
  by_cases h : isN x
  · rw [ord_n (Or.inl h), decide_eq_true h]; rfl
  · rw [ne_b h h, decide_eq_false h, decide_eq_false (by simp)]
theorem self_eq (x : Nat) : (F.order x x == some .eq) = decide (¬ isN x) := by
  by_cases h : isN x
  · rw [ord_n (Or.inl h), decide_eq_false (by simp [h])]; rfl
  · rw [eq_b h h, decide_eq_true rfl, decide_eq_true h]

theorem neg_eq (b : Nat) : Op.negFloat .f64 b = b ^^^ 2 ^ 63 := rfl
theorem rg_neg (b : Nat) : rg (Op.negFloat .f64 b) = rg b := by
  have e : (9223372036854775808 : Nat) = 2 ^ 63 := by decide
  unfold rg
  rw [neg_eq, e, Nat.xor_mod_two_pow, Nat.mod_self, Nat.xor_zero]
theorem sg_neg {b : Nat} (h : b < 18446744073709551616) : sg (Op.negFloat .f64 b) = !sg b := by
  have e : (9223372036854775808 : Nat) = 2 ^ 63 := by decide
  unfold sg
  rw [neg_eq, e, Nat.xor_div_two_pow, Nat.div_self (Nat.two_pow_pos _), ← e]
  have : b / 9223372036854775808 = 0 ∨ b / 9223372036854775808 = 1 := by omega
  rcases this with h | h <;> rw [h] <;> rfl
theorem isN_neg (b : Nat) : isN (Op.negFloat .f64 b) ↔ isN b := by
  unfold isN; rw [rg_neg]
theorem neg_lt {b : Nat} (h : b < 18446744073709551616) : Op.negFloat .f64 b < 18446744073709551616 := by
  rw [neg_eq]
  have e : (18446744073709551616 : Nat) = 2 ^ 64 := by decide
  rw [e] at h ⊢
  exact Nat.xor_lt_two_pow h (by decide)
theorem sv_neg {b : Nat} (h : b < 18446744073709551616) : sv (Op.negFloat .f64 b) = - sv b := by
  unfold sv
  rw [rg_neg, sg_neg h]
  cases sg b <;> simp

theorem word_of {b : Nat} (h : b < 18446744073709551616) : b = double.word (sg b) (rg b) := by
  rw [word_eq]
  unfold sg rg
  have : b / 9223372036854775808 = 0 ∨ b / 9223372036854775808 = 1 := by omega
  rcases this with e | e <;> rw [e]
  · rw [if_neg (by decide)]; omega
  · rw [if_pos (by decide)]; omega

theorem whole_word (n : Int) : ∃ r, r ≤ infR ∧ floatOfInt .f64 n = double.word (decide (n < 0)) r := nearest_word _ _ _
theorem whole_exact (n : Int) (h : n.natAbs < 9007199254740992) : ∃ r, r < infR ∧ R r = n.natAbs * U ∧ floatOfInt .f64 n = double.word (decide (n < 0)) r := by
  have hK : n.natAbs * 2 ^ uE < Kinf := by
    refine Nat.lt_of_lt_of_le (Nat.mul_lt_mul_of_pos_right h (Nat.two_pow_pos _)) ?_
    decide +kernel
  have := nearest_rep (decide (n < 0)) n.natAbs 0 (rep_of n.natAbs uE h hK) (by
    have a1 : ((0:Int) + 1074).toNat = uE := rfl
    have a2 : (-((0:Int) + 1074)).toNat = 0 := rfl
    rw [a1, a2, Nat.pow_zero, Nat.mul_one])
  exact this

/-- 'int64(x)', 'int(x)'. -/
theorem toInt64 {x : Nat} (h : rg x < infR) (hb : R (rg x) / U < 9223372036854775808) : floatToIntVal .f64 x .i64 = some ((if sg x then -1 else 1) * ((R (rg x) / U : Nat) : Int)) := by
  unfold floatToIntVal
  have : FloatKind.f64.decode x = double.read x := rfl
  rw [this, toInt_fin h]
  have e1 : IntKind.i64.min = -9223372036854775808 := rfl
  have e2 : IntKind.i64.max = 9223372036854775807 := rfl
  generalize R (rg x) / U = q at hb
  simp only [e1, e2]
  rw [if_pos]
  cases sg x <;> simp <;> omega

/-- What is drawn where there is no number. -/
def nanOf (t : Nat) : Nat := (t % 2) * 2 ^ 63 + 0x7ff0000000000000 + 1 + (t / 2) % (2 ^ 52 - 1)
theorem nanOf_form (t : Nat) : ∃ a c : Nat, a < 2 ∧ c < 4503599627370495 ∧ nanOf t = a * 9223372036854775808 + 9218868437227405312 + 1 + c :=
  ⟨t % 2, t / 2 % 4503599627370495, by omega, by omega, rfl⟩
theorem nanOf_isN (t : Nat) : isN (nanOf t) := by
  obtain ⟨a, c, ha, hc, e⟩ := nanOf_form t
  rw [e]
  unfold isN rg infR
  omega
theorem nanOf_lt (t : Nat) : nanOf t < 18446744073709551616 := by
  obtain ⟨a, c, ha, hc, e⟩ := nanOf_form t
  rw [e]
  omega

section
variable {P : Program}
/-- An operation that has no number: its bits are drawn. -/
theorem run_none (w : World) (op : BinOp) (t : TypeId) (x y : Nat) (ho : op = .add ∨ op = .sub ∨ op = .mul ∨ op = .quo) (h : floatBits op .f64 x y = none) :
    (binOp op t (.float .f64 x) (.float .f64 y)).run P w = .ok (.float .f64 (nanOf (w.tape w.drawn (.nanBits .f64 x y)))) w.drew := by
  unfold floatBits at h
  rcases ho with rfl | rfl | rfl | rfl <;> simp only at h
  all_goals simp [binOp, Op.floatArith, h, Question.forced, Question.cut, nanOf]
end
end Go.Proofs.YtlgacbjopobeoaaGreatDoor.Fm
/- Real numbers of 64 bits: a quotient, rounded once. -/
namespace Go.Proofs.YtlgacbjopobeoaaGreatDoor.Fm
open Ieee

/-- The nearest whole number to p / q, to even. -/
def rhe (p q : Nat) : Nat := p / q + (decide (q < 2 * (p % q)) || (q == 2 * (p % q) && p / q % 2 == 1)).toNat

theorem rhe_scale (p q s : Nat) (hs : 0 < s) : rhe (p * s) (q * s) = rhe p q := by
  unfold rhe
  rw [Nat.mul_div_mul_right _ _ hs, Nat.mul_mod_mul_right]
  have e1 : (q * s < 2 * (p % q * s)) = (q < 2 * (p % q)) := by
    rw [← Nat.mul_assoc]
    exact propext ⟨fun h => Nat.lt_of_mul_lt_mul_right h, fun h => Nat.mul_lt_mul_of_pos_right h hs⟩
  have e2 : (q * s == 2 * (p % q * s)) = (q == 2 * (p % q)) := by
    rw [← Nat.mul_assoc]
    by_cases h : q = 2 * (p % q)
    · rw [← h]; simp
    · rw [beq_eq_false_iff_ne.2 h, beq_eq_false_iff_ne]
      exact fun h' => h (Nat.eq_of_mul_eq_mul_right hs h')
  rw [e2]
  simp only [e1]

theorem cut_even (neg : Bool) (n drop : Nat) : Toward.even.cut neg n drop = rhe n (2 ^ drop) := by
  unfold Toward.cut rhe
  simp only [Nat.one_shiftLeft]
  by_cases h : drop ≤ n.log2 + 2
  · rw [Nat.min_eq_left h]
  · rw [Nat.min_eq_right (by omega)]
    have h1 : 2 * n < 2 ^ (n.log2 + 2) := by
      have := Nat.lt_log2_self (n := n)
      rw [Nat.pow_succ]; omega
    have h2 : 2 ^ (n.log2 + 2) ≤ 2 ^ drop := Nat.pow_le_pow_right (by decide) (by omega)
    generalize 2 ^ (n.log2 + 2) = a at h1 h2
    generalize 2 ^ drop = b at h2
    rw [Nat.div_eq_of_lt (show n < a by omega), Nat.mod_eq_of_lt (show n < a by omega), Nat.div_eq_of_lt (show n < b by omega), Nat.mod_eq_of_lt (show n < b by omega)]
    have d1 : ¬ a < 2 * n := by omega
    have d2 : ¬ b < 2 * n := by omega
    simp [d1, d2]

theorem rhe_err (p q : Nat) (hq : 0 < q) : 2 * (q * rhe p q) ≤ 2 * p + q ∧ 2 * p ≤ 2 * (q * rhe p q) + q := by
  unfold rhe
  have h1 := Nat.div_add_mod p q
  have h2 := Nat.mod_lt p hq
  generalize p / q = f at h1
  generalize p % q = t at h1 h2
  have h3 : p = q * f + t := h1.symm
  subst h3
  by_cases c : q < 2 * t
  · simp only [c, decide_true, Bool.true_or, Bool.toNat_true, Nat.mul_add, Nat.mul_one]
    omega
  · by_cases d : q = 2 * t
    · by_cases e : f % 2 == 1
      · have : (decide (q < 2 * t) || (q == 2 * t && f % 2 == 1)) = true := by rw [e]; simp [d]
        rw [this]
        simp only [Bool.toNat_true, Nat.mul_add, Nat.mul_one]
        omega
      · have e : (f % 2 == 1) = false := by simpa using e
        have : (decide (q < 2 * t) || (q == 2 * t && f % 2 == 1)) = false := by rw [e]; simp [c]
        rw [this]
        simp only [Bool.toNat_false, Nat.mul_add, Nat.add_zero]
        omega
    · have : (decide (q < 2 * t) || (q == 2 * t && f % 2 == 1)) = false := by simp [c, d]
      rw [this]
      simp only [Bool.toNat_false, Nat.mul_add, Nat.add_zero]
      omega

theorem rhe_le (p q c : Nat) (hq : 0 < q) (h : p ≤ q * c) : rhe p q ≤ c := by
  have h1 := (rhe_err p q hq).1
  have : q * (2 * rhe p q) ≤ q * (2 * c + 1) := by
    have a1 : q * (2 * rhe p q) = 2 * (q * rhe p q) := by rw [Nat.mul_left_comm]
    have a2 : q * (2 * c + 1) = 2 * (q * c) + q := by rw [Nat.mul_add, Nat.mul_one, Nat.mul_left_comm]
    omega
  have := Nat.le_of_mul_le_mul_left this hq
  omega
theorem rhe_ge (p q c : Nat) (hq : 0 < q) (h : q * c ≤ p) : c ≤ rhe p q := by
  have h1 := (rhe_err p q hq).2
  have : q * (2 * c) ≤ q * (2 * rhe p q + 1) := by
    have a1 : q * (2 * c) = 2 * (q * c) := by rw [Nat.mul_left_comm]
    have a2 : q * (2 * rhe p q + 1) = 2 * (q * rhe p q) + q := by rw [Nat.mul_add, Nat.mul_one, Nat.mul_left_comm]
    omega
  have := Nat.le_of_mul_le_mul_left this hq
  omega

/-- One digit more, which is 1 where anything is left over, rounds as the whole does. -/
theorem rhe_sticky (D n e : Nat) (hn : 0 < n) : rhe (2 * (D / n) + (D % n != 0).toNat) (2 ^ (e + 2)) = rhe D (n * 2 ^ (e + 1)) := by
  have h2 : (0:Nat) < 2 ^ (e + 1) := Nat.two_pow_pos _
  have hH : (2:Nat) ^ (e + 2) = 2 * 2 ^ (e + 1) := by rw [Nat.pow_succ, Nat.mul_comm]
  have hH1 : (2:Nat) ^ (e + 1) = 2 * 2 ^ e := by rw [Nat.pow_succ, Nat.mul_comm]
  have hG : (0:Nat) < 2 ^ e := Nat.two_pow_pos _
  rw [hH]
  have d0 := Nat.div_add_mod D n
  have d1 := Nat.mod_lt D hn
  generalize hg : D / n = g at d0
  generalize hr : D % n = r at d0 d1
  -- the quotient by n * H
  have q1 : D / (n * 2 ^ (e + 1)) = g / 2 ^ (e + 1) := by rw [← Nat.div_div_eq_div_mul, hg]
  have q2 : D % (n * 2 ^ (e + 1)) = n * (g % 2 ^ (e + 1)) + r := by
    rw [Nat.mod_mul, hg, hr]; omega
  unfold rhe
  rw [q1, q2]
  have st : (r != 0).toNat ≤ 1 := by cases (r != 0) <;> decide
  have f1 : (2 * g + (r != 0).toNat) / (2 * 2 ^ (e + 1)) = g / 2 ^ (e + 1) := by
    rw [← Nat.div_div_eq_div_mul]
    have : (2 * g + (r != 0).toNat) / 2 = g := by omega
    rw [this]
  have f2 : (2 * g + (r != 0).toNat) % (2 * 2 ^ (e + 1)) = 2 * (g % 2 ^ (e + 1)) + (r != 0).toNat := by
    rw [Nat.mod_mul]
    have a : (2 * g + (r != 0).toNat) / 2 = g := by omega
    have b : (2 * g + (r != 0).toNat) % 2 = (r != 0).toNat := by omega
    rw [a, b]; omega
  rw [f1, f2, hH1]
  have hlt := Nat.mod_lt g h2
  rw [hH1] at hlt
  generalize g % (2 * 2 ^ e) = y at hlt
  generalize g / (2 * 2 ^ e) = z
  generalize 2 ^ e = G at hG hlt
  -- compare 2G·2 with 2(2y+st), and n·2G with 2(ny+r)
  have nG : n * (2 * G) = 2 * (n * G) := by rw [Nat.mul_left_comm]
  by_cases hr0 : r = 0
  · subst hr0
    have e0 : ((0:Nat) != 0).toNat = 0 := rfl
    rw [e0, Nat.add_zero, Nat.add_zero]
    have c1 : (2 * (2 * G) < 2 * (2 * y)) = (n * (2 * G) < 2 * (n * y)) := by
      rw [nG]
      refine propext ⟨fun h => ?_, fun h => ?_⟩
      · have : n * G < n * y := Nat.mul_lt_mul_of_pos_left (by omega) hn
        omega
      · have : n * G < n * y := by omega
        have := Nat.lt_of_mul_lt_mul_left this
        omega
    have c2 : (2 * (2 * G) == 2 * (2 * y)) = (n * (2 * G) == 2 * (n * y)) := by
      rw [nG]
      by_cases h : G = y
      · subst h; simp
      · rw [beq_eq_false_iff_ne.2 (by omega), Eq.comm, beq_eq_false_iff_ne]
        intro h'
        have : n * G = n * y := by omega
        exact h (Nat.eq_of_mul_eq_mul_left hn this)
    rw [c2]
    simp only [c1]
  · have e0 : (r != 0).toNat = 1 := by
      have : (r != 0) = true := by simp [hr0]
      rw [this]; rfl
    rw [e0]
    have c1 : (2 * (2 * G) < 2 * (2 * y + 1)) = (n * (2 * G) < 2 * (n * y + r)) := by
      rw [nG]
      refine propext ⟨fun h => ?_, fun h => ?_⟩
      · have : n * G ≤ n * y := Nat.mul_le_mul_left _ (by omega)
        omega
      · by_cases hy : G ≤ y
        · omega
        · exfalso
          have h5 : n * (y + 1) ≤ n * G := Nat.mul_le_mul_left _ (by omega)
          rw [Nat.mul_add, Nat.mul_one] at h5
          omega
    have c2 : (2 * (2 * G) == 2 * (2 * y + 1)) = false := by rw [beq_eq_false_iff_ne]; omega
    have c3 : (n * (2 * G) == 2 * (n * y + r)) = false := by
      rw [nG, beq_eq_false_iff_ne]
      intro h
      by_cases hy : G ≤ y
      · have : n * G ≤ n * y := Nat.mul_le_mul_left _ hy
        omega
      · have h5 : n * (y + 1) ≤ n * G := Nat.mul_le_mul_left _ (by omega)
        rw [Nat.mul_add, Nat.mul_one] at h5
        omega
    rw [c2, c3]
    simp only [c1]

theorem sticky_lt (D n c : Nat) (hn : 0 < n) : 2 * (D / n) + (D % n != 0).toNat < 2 ^ (c + 1) ↔ D < n * 2 ^ c := by
  have st : (D % n != 0).toNat ≤ 1 := by cases (D % n != 0) <;> decide
  have h2 : (2:Nat) ^ (c + 1) = 2 * 2 ^ c := by rw [Nat.pow_succ, Nat.mul_comm]
  rw [h2]
  have : D < n * 2 ^ c ↔ D / n < 2 ^ c := by rw [Nat.div_lt_iff_lt_mul hn, Nat.mul_comm]
  rw [this]
  omega

theorem num1 (c a b k m u : Nat) (h : 54 ≤ c) (e : c + a + u = b + 53 + k + m) : c - 54 + 1 + (a + u) = b + k + m := by omega

/-- A quotient of two numbers above 0, if it is not among the smallest: rounded once. -/
theorem div_round {x y : Nat} (hx : rg x < infR) (hy : rg y < infR) (x0 : 0 < R (rg x)) (y0 : 0 < R (rg y)) (k : Nat)
    (h1 : R (rg y) * 2 ^ (52 + k) ≤ R (rg x) * U) (h2 : R (rg x) * U < R (rg y) * 2 ^ (53 + k)) :
    double.div x y = some (double.word (sg x ^^ sg y) (min (k * 4503599627370496 + rhe (R (rg x) * U) (R (rg y) * 2 ^ k)) infR)) := by
  obtain ⟨m, a, e1, r1, m1, -, -⟩ := read_fin hx
  obtain ⟨n, b, e2, r2, n1, -, -⟩ := read_fin hy
  have p2 : ∀ a : Nat, 0 < 2 ^ a := fun a => Nat.two_pow_pos a
  have hm : m ≠ 0 := by
    intro e; rw [r1, e, Nat.zero_mul] at x0; omega
  have hn : n ≠ 0 := by
    intro e; rw [r2, e, Nat.zero_mul] at y0; omega
  have hn' : 0 < n := Nat.pos_of_ne_zero hn
  have e53 : (2:Nat) ^ 53 = 9007199254740992 := by decide
  have lm : m.log2 < 53 := (Nat.log2_lt hm).2 (by omega)
  have ln : n.log2 < 53 := (Nat.log2_lt hn).2 (by omega)
  let more := 54 + n.log2 - m.log2
  have hmore : more + m.log2 = 54 + n.log2 := by show 54 + n.log2 - m.log2 + m.log2 = _; omega
  unfold Format.div
  rw [e1, e2]
  have hq : (Datum.number (sg x) m (-1074 + (a:Int))).quotient (double.fractionBits + 2) (Datum.number (sg y) n (-1074 + (b:Int))) =
      some (.number (sg x ^^ sg y) (2 * ((m <<< more) / n) + ((m <<< more) % n != 0).toNat) ((-1074 + (a:Int)) - (-1074 + (b:Int)) - more - 1)) := by
    unfold Datum.quotient
    simp only [if_neg hn]
    rfl
  rw [hq]
  show some (double.nearest _ _ _) = _
  rw [Nat.shiftLeft_eq]
  have hD : n * 2 ^ 53 ≤ m * 2 ^ more := by
    calc n * 2 ^ 53 ≤ 2 ^ (n.log2 + 1) * 2 ^ 53 := Nat.mul_le_mul_right _ (Nat.le_of_lt Nat.lt_log2_self)
      _ = 2 ^ m.log2 * 2 ^ more := by rw [← Nat.pow_add, ← Nat.pow_add]; have : n.log2 + 1 + 53 = m.log2 + more := by omega
                                      rw [this]
      _ ≤ m * 2 ^ more := Nat.mul_le_mul_right _ (Nat.log2_self_le hm)
  generalize hM : 2 * (m * 2 ^ more / n) + (m * 2 ^ more % n != 0).toNat = M
  have hge : 2 ^ 54 ≤ M := by
    rw [← hM]
    exact Nat.le_of_not_lt fun h => by
      have := (sticky_lt (m * 2 ^ more) n 53 hn').1 h
      omega
  have hM0 : M ≠ 0 := by have := p2 54; omega
  have hc : 54 ≤ M.log2 := (Nat.le_log2 hM0).2 hge
  -- c = M.log2
  have c1 : n * 2 ^ (M.log2 - 1) ≤ m * 2 ^ more := Nat.le_of_not_lt fun h => by
    have := (sticky_lt (m * 2 ^ more) n (M.log2 - 1) hn').2 h
    rw [hM, Nat.sub_add_cancel (by omega)] at this
    have := Nat.log2_self_le hM0
    omega
  have c2 : m * 2 ^ more < n * 2 ^ M.log2 := (sticky_lt (m * 2 ^ more) n M.log2 hn').1 (by rw [hM]; exact Nat.lt_log2_self)
  have Ue : ∀ t : Nat, 2 ^ t * U = 2 ^ (t + 1074) := fun t => (U_add t _ rfl).symm
  rw [r1, r2, Nat.mul_assoc, Nat.mul_assoc, Ue, ← Nat.pow_add] at h1
  rw [r1, r2, Nat.mul_assoc, Nat.mul_assoc, Ue, ← Nat.pow_add] at h2
  have key : M.log2 + a + 1074 = b + 53 + k + more := by
    have a1 : n * 2 ^ (M.log2 - 1 + (a + 1074)) < n * 2 ^ (b + (53 + k) + more) := by
      calc n * 2 ^ (M.log2 - 1 + (a + 1074)) = n * 2 ^ (M.log2 - 1) * 2 ^ (a + 1074) := by rw [Nat.pow_add, Nat.mul_assoc]
        _ ≤ m * 2 ^ more * 2 ^ (a + 1074) := Nat.mul_le_mul_right _ c1
        _ = m * 2 ^ (a + 1074) * 2 ^ more := by rw [Nat.mul_right_comm]
        _ < n * 2 ^ (b + (53 + k)) * 2 ^ more := Nat.mul_lt_mul_of_pos_right h2 (p2 _)
        _ = n * 2 ^ (b + (53 + k) + more) := by rw [Nat.mul_assoc, ← Nat.pow_add]
    have a2 : n * 2 ^ (b + (52 + k) + more) < n * 2 ^ (M.log2 + (a + 1074)) := by
      calc n * 2 ^ (b + (52 + k) + more) = n * 2 ^ (b + (52 + k)) * 2 ^ more := by rw [Nat.mul_assoc, ← Nat.pow_add]
        _ ≤ m * 2 ^ (a + 1074) * 2 ^ more := Nat.mul_le_mul_right _ h1
        _ = m * 2 ^ more * 2 ^ (a + 1074) := by rw [Nat.mul_right_comm]
        _ < n * 2 ^ M.log2 * 2 ^ (a + 1074) := Nat.mul_lt_mul_of_pos_right c2 (p2 _)
        _ = n * 2 ^ (M.log2 + (a + 1074)) := by rw [Nat.mul_assoc, ← Nat.pow_add]
    have b1 := pow_lt_inv (Nat.lt_of_mul_lt_mul_left a1)
    have b2 := pow_lt_inv (Nat.lt_of_mul_lt_mul_left a2)
    omega
  have y1 : M.log2 - 54 + 1 + (a + 1074) = b + k + more := num1 _ _ _ _ _ 1074 hc key
  unfold Format.nearest
  rw [if_neg hM0]
  have hlast : max ((-1074 + (a:Int)) - (-1074 + (b:Int)) - more - 1 + M.log2 - (double.fractionBits : Nat)) double.leastPlace = (k : Int) - 1074 := by
    rw [least]
    have : ((double.fractionBits : Nat) : Int) = 52 := rfl
    rw [this]
    omega
  simp only [hlast]
  rw [least, bin, infr]
  have g1 : ((k : Int) - 1074 - -1074).toNat = k := by omega
  have g2 : ((-1074 + (a:Int)) - (-1074 + (b:Int)) - more - 1 - ((k : Int) - 1074)).toNat = 0 := by omega
  have g3 : ((k : Int) - 1074 - ((-1074 + (a:Int)) - (-1074 + (b:Int)) - more - 1)).toNat = M.log2 - 54 + 2 := by omega
  rw [g1, g2, g3, Nat.shiftLeft_zero, cut_even, ← hM, rhe_sticky _ _ _ hn', hM]
  have hfin : rhe (m * 2 ^ more) (n * 2 ^ (M.log2 - 54 + 1)) = rhe (R (rg x) * U) (R (rg y) * 2 ^ k) := by
    rw [← rhe_scale _ _ _ (p2 (a + 1074)), ← rhe_scale (R (rg x) * U) _ _ (p2 more), r1, r2]
    have z1 : m * 2 ^ more * 2 ^ (a + 1074) = m * 2 ^ a * U * 2 ^ more := by
      rw [Nat.mul_assoc m (2 ^ a) U, Ue, Nat.mul_right_comm]
    have z2 : n * 2 ^ (M.log2 - 54 + 1) * 2 ^ (a + 1074) = n * 2 ^ b * 2 ^ k * 2 ^ more := by
      have y2 : 2 ^ (M.log2 - 54 + 1) * 2 ^ (a + 1074) = 2 ^ (b + k + more) := by rw [← y1]; exact (Nat.pow_add _ _ _).symm
      have y3 : 2 ^ b * 2 ^ k * 2 ^ more = 2 ^ (b + k + more) := by rw [Nat.pow_add, Nat.pow_add]
      rw [Nat.mul_assoc n (2 ^ (M.log2 - 54 + 1)), y2, Nat.mul_assoc n (2 ^ b) (2 ^ k), Nat.mul_assoc n (2 ^ b * 2 ^ k), y3]
    rw [z1, z2]
  rw [hfin]
  rfl
end Go.Proofs.YtlgacbjopobeoaaGreatDoor.Fm
/- Real numbers of 64 bits: operations that have a number; differences that are exact. -/
namespace Go.Proofs.YtlgacbjopobeoaaGreatDoor.Fm
open Ieee

theorem read_num {x : Nat} (h : rg x < infR) (h0 : 0 < R (rg x)) : ∃ m i, double.read x = .number (sg x) m i ∧ m ≠ 0 := by
  obtain ⟨m, k, e, r, -, -, -⟩ := read_fin h
  refine ⟨m, _, e, fun e0 => ?_⟩
  rw [e0, Nat.zero_mul] at r
  omega

theorem write_notN {d : Datum} (h : d.isNaN = false) : ∃ r s, r ≤ infR ∧ double.write d = double.word s r := by
  cases d with
  | number s m i => obtain ⟨r, h1, h2⟩ := nearest_word s m i; exact ⟨r, s, h1, h2⟩
  | infinity s => exact ⟨infR, s, Nat.le_refl _, rfl⟩
  | nan s t => cases h

theorem mul_some {x y : Nat} (hx : rg x < infR) (x0 : 0 < R (rg x)) (hy : ¬ isN y) : ∃ r, floatBits .mul .f64 x y = some r ∧ ¬ isN r ∧ r < 18446744073709551616 := by
  obtain ⟨m, i, e, hm⟩ := read_num hx x0
  have : ∃ d, ((double.read x).product (double.read y)) = some d ∧ d.isNaN = false := by
    rw [e]
    unfold isN at hy
    by_cases h : rg y < infR
    · obtain ⟨n, k, e2, -, -, -, -⟩ := read_fin h
      rw [e2]; exact ⟨_, rfl, rfl⟩
    · rw [read_inf (by omega)]
      exact ⟨.infinity (sg y ^^ sg x), by simp [Datum.product, hm], rfl⟩
  obtain ⟨d, h1, h2⟩ := this
  obtain ⟨r, s, h3, h4⟩ := write_notN h2
  refine ⟨double.word s r, ?_, notN_word s h3, word_lt s h3⟩
  show double.mul x y = _
  unfold Format.mul
  rw [h1, ← h4]; rfl

theorem mul_some' {x y : Nat} (hx : ¬ isN x) (hy : rg y < infR) (y0 : 0 < R (rg y)) : ∃ r, floatBits .mul .f64 x y = some r ∧ ¬ isN r ∧ r < 18446744073709551616 := by
  obtain ⟨m, i, e, hm⟩ := read_num hy y0
  have : ∃ d, ((double.read x).product (double.read y)) = some d ∧ d.isNaN = false := by
    rw [e]
    unfold isN at hx
    by_cases h : rg x < infR
    · obtain ⟨n, k, e2, -, -, -, -⟩ := read_fin h
      rw [e2]; exact ⟨_, rfl, rfl⟩
    · rw [read_inf (by omega)]
      exact ⟨.infinity (sg x ^^ sg y), by simp [Datum.product, hm], rfl⟩
  obtain ⟨d, h1, h2⟩ := this
  obtain ⟨r, s, h3, h4⟩ := write_notN h2
  refine ⟨double.word s r, ?_, notN_word s h3, word_lt s h3⟩
  show double.mul x y = _
  unfold Format.mul
  rw [h1, ← h4]; rfl

theorem div_some {x y : Nat} (hx : ¬ isN x) (hy : rg y < infR) (y0 : 0 < R (rg y)) : ∃ r, floatBits .quo .f64 x y = some r ∧ ¬ isN r ∧ r < 18446744073709551616 := by
  obtain ⟨m, i, e, hm⟩ := read_num hy y0
  have : ∃ d, ((double.read x).quotient (double.fractionBits + 2) (double.read y)) = some d ∧ d.isNaN = false := by
    rw [e]
    unfold isN at hx
    by_cases h : rg x < infR
    · obtain ⟨n, k, e2, -, -, -, -⟩ := read_fin h
      rw [e2]
      unfold Datum.quotient
      simp only [if_neg hm]
      exact ⟨_, rfl, rfl⟩
    · rw [read_inf (by omega)]
      exact ⟨.infinity (sg x ^^ sg y), rfl, rfl⟩
  obtain ⟨d, h1, h2⟩ := this
  obtain ⟨r, s, h3, h4⟩ := write_notN h2
  refine ⟨double.word s r, ?_, notN_word s h3, word_lt s h3⟩
  show double.div x y = _
  unfold Format.div
  rw [h1, ← h4]; rfl

theorem add_some {x y : Nat} (hx : rg x < infR) (hy : ¬ isN y) : ∃ r, floatBits .add .f64 x y = some r ∧ ¬ isN r ∧ r < 18446744073709551616 := by
  obtain ⟨m, k, e, -, -, -, -⟩ := read_fin hx
  have : ∃ d, ((double.read x).sum (double.read y)) = some d ∧ d.isNaN = false := by
    rw [e]
    unfold isN at hy
    by_cases h : rg y < infR
    · obtain ⟨n, k, e2, -, -, -, -⟩ := read_fin h
      rw [e2]; exact ⟨_, rfl, rfl⟩
    · rw [read_inf (by omega)]
      exact ⟨.infinity (sg y), rfl, rfl⟩
  obtain ⟨d, h1, h2⟩ := this
  obtain ⟨r, s, h3, h4⟩ := write_notN h2
  refine ⟨double.word s r, ?_, notN_word s h3, word_lt s h3⟩
  show double.add x y = _
  unfold Format.add
  rw [h1, ← h4]; rfl

/-- The bits of an operation that has a number. -/
def opB (op : BinOp) (x y : Nat) : Nat := (floatBits op .f64 x y).getD 0
def Good (op : BinOp) (x y : Nat) : Prop := ∃ r, floatBits op .f64 x y = some r ∧ ¬ isN r ∧ r < 18446744073709551616
theorem Good.run {P : Program} {op : BinOp} {x y : Nat} (h : Good op x y) (t : TypeId) (w : World) : (binOp op t (.float .f64 x) (.float .f64 y)).run P w = .ok (.float .f64 (opB op x y)) w := by
  obtain ⟨r, h1, -, -⟩ := h
  unfold opB
  rw [h1]
  exact run_float_arith w op t .f64 x y r h1
theorem Good.notN {op : BinOp} {x y : Nat} (h : Good op x y) : ¬ isN (opB op x y) := by
  obtain ⟨r, h1, h2, -⟩ := h
  unfold opB
  rw [h1]
  exact h2
theorem Good.lt {op : BinOp} {x y : Nat} (h : Good op x y) : opB op x y < 18446744073709551616 := by
  obtain ⟨r, h1, -, h2⟩ := h
  unfold opB
  rw [h1]
  exact h2

theorem whole_notN (n : Int) : ¬ isN (floatOfInt .f64 n) := by
  obtain ⟨r, h1, h2⟩ := whole_word n
  rw [h2]; exact notN_word _ h1
theorem whole_lt (n : Int) : floatOfInt .f64 n < 18446744073709551616 := by
  obtain ⟨r, h1, h2⟩ := whole_word n
  rw [h2]; exact word_lt _ h1
theorem whole_fin (n : Int) (h : n.natAbs < 9007199254740992) (h0 : n ≠ 0) : rg (floatOfInt .f64 n) < infR ∧ 0 < R (rg (floatOfInt .f64 n)) := by
  obtain ⟨r, h1, h2, h3⟩ := whole_exact n h
  rw [h3, rg_word _ (Nat.le_of_lt h1), h2]
  exact ⟨h1, Nat.mul_pos (by omega) U_pos⟩
theorem whole_sv (n : Int) (h : n.natAbs < 9007199254740992) : rg (floatOfInt .f64 n) < infR ∧ sv (floatOfInt .f64 n) = n * U := by
  obtain ⟨r, h1, h2, h3⟩ := whole_exact n h
  rw [h3]
  refine ⟨by rw [rg_word _ (Nat.le_of_lt h1)]; exact h1, ?_⟩
  unfold sv
  rw [rg_word _ (Nat.le_of_lt h1), sg_word _ (Nat.le_of_lt h1), h2]
  by_cases hn : n < 0
  · simp only [hn, decide_true, if_true]
    rw [Int.natCast_mul, ← Int.neg_mul]
    congr 1
    omega
  · simp only [hn, decide_false, Bool.false_eq_true, if_false]
    rw [Int.natCast_mul]
    congr 1
    omega

/-- What is left behind the point. -/
theorem rep_frac {r : Nat} (h : r < infR) : Rep (R r % U) := by
  obtain ⟨m, k, e, -, hm, hk, -⟩ := R_form h
  rw [e]
  by_cases hk2 : 1074 ≤ k
  · rw [U_add (k - 1074) k (by omega), ← Nat.mul_assoc, Nat.mul_mod_left]
    exact ⟨0, 0, by simp, by omega, by omega, Or.inr rfl⟩
  · have e1 : m * 2 ^ k % U = (m % 2 ^ (1074 - k)) * 2 ^ k := by
      rw [U_sub (1074 - k) k (by omega), Nat.mul_mod_mul_right]
    rw [e1]
    have hm2 : m % 2 ^ (1074 - k) ≤ m := Nat.mod_le _ _
    refine rep_of _ k (by omega) ?_
    have hR := R_fin_lt h
    rw [e] at hR
    exact Nat.lt_of_le_of_lt (Nat.mul_le_mul_right _ hm2) hR

theorem sub_exact {x y : Nat} (hx : rg x < infR) (hy : rg y < infR) (h : Rep (sv x - sv y).natAbs) : ∃ d, floatBits .sub .f64 x y = some d ∧ d < 18446744073709551616 ∧ rg d < infR ∧ sv d = sv x - sv y := by
  obtain ⟨m, k, e1, r1, -, -, -⟩ := read_fin hx
  obtain ⟨n, l, e2, r2, -, -, -⟩ := read_fin hy
  have hbase : min (-1074 + (k:Int)) (-1074 + (l:Int)) = -1074 + ((min k l : Nat) : Int) := by omega
  have ha : ((-1074 + (k:Int)) - (-1074 + ((min k l : Nat) : Int))).toNat = k - min k l := by omega
  have hb : ((-1074 + (l:Int)) - (-1074 + ((min k l : Nat) : Int))).toNat = l - min k l := by omega
  let total : Int := signed (sg x) m (k - min k l) + signed (!sg y) n (l - min k l)
  have htot : total * ((2 ^ (min k l) : Nat) : Int) = sv x - sv y := by
    have e3 : m * 2 ^ k = m * 2 ^ (k - min k l) * 2 ^ (min k l) := by
      rw [Nat.mul_assoc, ← Nat.pow_add]
      have : k - min k l + min k l = k := by omega
      rw [this]
    have e4 : n * 2 ^ l = n * 2 ^ (l - min k l) * 2 ^ (min k l) := by
      rw [Nat.mul_assoc, ← Nat.pow_add]
      have : l - min k l + min k l = l := by omega
      rw [this]
    show (signed (sg x) m (k - min k l) + signed (!sg y) n (l - min k l)) * _ = _
    rw [signed_eq, signed_eq, sv_eq, sv_eq, r1, r2, e3, e4]
    rw [Int.natCast_mul (m * 2 ^ (k - min k l)), Int.natCast_mul (n * 2 ^ (l - min k l))]
    generalize ((m * 2 ^ (k - min k l) : Nat) : Int) = A
    generalize ((n * 2 ^ (l - min k l) : Nat) : Int) = B
    generalize ((2 ^ (min k l) : Nat) : Int) = E
    rw [Int.add_mul, Int.mul_assoc, Int.mul_assoc]
    cases sg x <;> cases sg y <;> simp <;> omega
  have hsum : (Datum.number (sg x) m (-1074 + (k:Int))).sum (Datum.number (sg y) n (-1074 + (l:Int))).opposite = some (.number (if total = 0 then sg x && !sg y else total < 0) total.natAbs (-1074 + ((min k l : Nat) : Int))) := by
    unfold Datum.sum Datum.opposite
    simp only [ha, hb, hbase]
    rfl
  have hE : total.natAbs * 2 ^ (-1074 + ((min k l : Nat) : Int) + 1074).toNat = (sv x - sv y).natAbs * 2 ^ (-(-1074 + ((min k l : Nat) : Int) + 1074)).toNat := by
    have a1 : (-1074 + ((min k l : Nat) : Int) + 1074).toNat = min k l := by omega
    have a2 : (-(-1074 + ((min k l : Nat) : Int) + 1074)).toNat = 0 := by omega
    rw [a1, a2, Nat.pow_zero, Nat.mul_one, ← htot, Int.natAbs_mul, Int.natAbs_natCast]
  obtain ⟨r, q1, q2, q3⟩ := nearest_rep (if total = 0 then sg x && !sg y else total < 0) total.natAbs _ h hE
  refine ⟨double.word (if total = 0 then sg x && !sg y else total < 0) r, ?_, word_lt _ (Nat.le_of_lt q1), by rw [rg_word _ (Nat.le_of_lt q1)]; exact q1, ?_⟩
  · show double.sub x y = _
    unfold Format.sub
    rw [e1, e2, hsum, ← q3]; rfl
  · have hpos : (0:Int) < ((2 ^ (min k l) : Nat) : Int) := Int.ofNat_lt.2 (Nat.two_pow_pos _)
    unfold sv
    rw [rg_word _ (Nat.le_of_lt q1), sg_word _ (Nat.le_of_lt q1), q2]
    change _ = sv x - sv y
    by_cases h0 : total = 0
    · rw [h0, Int.zero_mul] at htot
      rw [← htot]
      simp
    · by_cases h1 : total < 0
      · have : sv x - sv y < 0 := by rw [← htot]; exact Int.mul_neg_of_neg_of_pos h1 hpos
        simp only [h0, h1, if_false, decide_true, if_true]
        omega
      · have : 0 < sv x - sv y := by rw [← htot]; exact Int.mul_pos (by omega) hpos
        simp only [h0, h1, if_false, decide_false, Bool.false_eq_true]
        omega
end Go.Proofs.YtlgacbjopobeoaaGreatDoor.Fm
/- Real numbers of 64 bits: taken apart into an odd number and a power of two. -/
namespace Go.Proofs.YtlgacbjopobeoaaGreatDoor.Fm
open Ieee
set_option linter.unusedVariables false

theorem pred_succ {k : Nat} (h : 0 < k) : k = (k - 1) + 1 := by omega
theorem toNat_succ (e c : Int) (h : 0 ≤ e + c) : (e + 1 + c).toNat = (e + c).toNat + 1 := by omega
theorem toNat_pred (e c : Int) (h : 0 < e + c) : (e + c).toNat = (e - 1 + c).toNat + 1 := by omega
theorem toNat_zero (e c : Int) (h : e = -c) : (e + c).toNat = 0 := by omega

/-- V, in units, is N times 2 to the E, N odd. -/
def Parts (V : Nat) (n : Nat) (e : Int) : Prop := n % 2 = 1 ∧ -1126 ≤ e ∧ V * 4503599627370496 = n * 2 ^ (e + 1126).toNat

theorem odd_unique {n m a b : Nat} (hn : n % 2 = 1) (hm : m % 2 = 1) (h : n * 2 ^ a = m * 2 ^ b) : n = m ∧ a = b := by
  have key : ∀ {n m a b : Nat}, n % 2 = 1 → m % 2 = 1 → n * 2 ^ a = m * 2 ^ b → a ≤ b → n = m ∧ a = b := by
    intro n m a b hn hm h hab
    have e : b = a + (b - a) := by omega
    rw [e, Nat.pow_add, Nat.mul_comm (2 ^ a), ← Nat.mul_assoc] at h
    have h2 := Nat.eq_of_mul_eq_mul_right (Nat.two_pow_pos a) h
    by_cases hz : b - a = 0
    · rw [hz, Nat.pow_zero, Nat.mul_one] at h2
      exact ⟨h2, by omega⟩
    · exfalso
      have e2 : b - a = (b - a - 1) + 1 := by omega
      rw [e2, Nat.pow_succ, ← Nat.mul_assoc] at h2
      omega
  rcases Nat.le_total a b with hab | hab
  · exact key hn hm h hab
  · obtain ⟨h1, h2⟩ := key hm hn h.symm hab
    exact ⟨h1.symm, h2.symm⟩

theorem Parts.unique {V n m : Nat} {e f : Int} (h : Parts V n e) (k : Parts V m f) : n = m ∧ e = f := by
  obtain ⟨h1, h2, h3⟩ := h
  obtain ⟨k1, k2, k3⟩ := k
  obtain ⟨a, b⟩ := odd_unique h1 k1 (h3.symm.trans k3)
  exact ⟨a, by omega⟩

theorem Parts.least {V n : Nat} {e : Int} (h : Parts V n e) (hV : 0 < V) : -1074 ≤ e := by
  obtain ⟨h1, h2, h3⟩ := h
  by_cases hb : -1074 ≤ e
  · exact hb
  · exfalso
    have e52 : (4503599627370496 : Nat) = 2 ^ 52 := by decide
    have es : 52 = (e + 1126).toNat + (52 - (e + 1126).toNat) := by omega
    rw [e52, es, Nat.pow_add, Nat.mul_comm (2 ^ (e + 1126).toNat), ← Nat.mul_assoc] at h3
    have h4 := Nat.eq_of_mul_eq_mul_right (Nat.two_pow_pos _) h3
    have e2 : 52 - (e + 1126).toNat = (52 - (e + 1126).toNat - 1) + 1 := by omega
    rw [e2, Nat.pow_succ, ← Nat.mul_assoc] at h4
    omega

theorem Parts.val {V n : Nat} {e : Int} (h : Parts V n e) (hV : 0 < V) : V = n * 2 ^ (e + 1074).toNat := by
  have hb := h.least hV
  obtain ⟨h1, h2, h3⟩ := h
  have e52 : (4503599627370496 : Nat) = 2 ^ 52 := by decide
  have es : (e + 1126).toNat = (e + 1074).toNat + 52 := by omega
  rw [es, Nat.pow_add, ← Nat.mul_assoc, e52] at h3
  exact Nat.eq_of_mul_eq_mul_right (Nat.two_pow_pos _) h3

theorem Parts.of {V n : Nat} {e : Int} (hn : n % 2 = 1) (he : -1074 ≤ e) (h : V = n * 2 ^ (e + 1074).toNat) : Parts V n e := by
  refine ⟨hn, by omega, ?_⟩
  have e52 : (4503599627370496 : Nat) = 2 ^ 52 := by decide
  have es : (e + 1126).toNat = (e + 1074).toNat + 52 := by omega
  rw [es, Nat.pow_add, ← Nat.mul_assoc, e52, h]

theorem Kinf_pow : Kinf = 2 ^ 53 * 2 ^ 2045 := Kinf_eq

/-- The bounds of a number's parts. -/
theorem Parts.bd {r n : Nat} {e : Int} (h : Parts (R r) n e) (hr : r < infR) (h0 : 0 < R r) : n < 9007199254740992 ∧ e ≤ 1023 ∧ -1074 ≤ e ∧ 1 ≤ n := by
  have hl := h.least h0
  have hv := h.val h0
  have hn1 : 1 ≤ n := by have := h.1; omega
  have hlt := R_fin_lt hr
  refine ⟨?_, ?_, hl, hn1⟩
  · obtain ⟨m, k, hm, -, hm2, -, -⟩ := R_form hr
    rw [hm] at hv
    -- n divides m
    by_cases hk : k ≤ (e + 1074).toNat
    · have es : (e + 1074).toNat = ((e + 1074).toNat - k) + k := by omega
      rw [es, Nat.pow_add, ← Nat.mul_assoc] at hv
      have h4 := Nat.eq_of_mul_eq_mul_right (Nat.two_pow_pos _) hv
      have : n ≤ n * 2 ^ ((e + 1074).toNat - k) := Nat.le_mul_of_pos_right _ (Nat.two_pow_pos _)
      omega
    · exfalso
      have es : k = (k - (e + 1074).toNat - 1) + 1 + (e + 1074).toNat := by omega
      rw [es, Nat.pow_add, ← Nat.mul_assoc] at hv
      have h4 := Nat.eq_of_mul_eq_mul_right (Nat.two_pow_pos _) hv
      rw [Nat.pow_succ, ← Nat.mul_assoc] at h4
      have := h.1
      omega
  · rw [hv] at hlt
    have h1 : 2 ^ (e + 1074).toNat < 2 ^ (53 + 2045) := by
      rw [Nat.pow_add 2 53 2045, ← Kinf_eq]
      exact Nat.lt_of_le_of_lt (Nat.le_mul_of_pos_left _ hn1) hlt
    have := pow_lt_inv h1
    omega

/-- In the midst: b, with e to be added to the power. -/
def Mid (V : Nat) (b : Nat) (e : Int) : Prop := rg b < infR ∧ sg b = false ∧ 0 < R (rg b) ∧ -1126 ≤ e ∧ V * (U * 4503599627370496) = R (rg b) * 2 ^ (e + 1126).toNat

theorem mid_start {b : Nat} (h1 : rg b < infR) (h2 : sg b = false) (h3 : 0 < R (rg b)) : Mid (R (rg b)) b 0 := by
  refine ⟨h1, h2, h3, by decide, ?_⟩
  have e : ((0:Int) + 1126).toNat = 52 + 1074 := by decide
  rw [e, U_add 52 (52 + 1074) rfl]
  have : (2:Nat) ^ 52 = 4503599627370496 := by decide
  rw [this, Nat.mul_comm U]

theorem word_false {r : Nat} (h : r < infR) : rg (double.word false r) = r ∧ sg (double.word false r) = false := ⟨rg_word _ (Nat.le_of_lt h), sg_word _ (Nat.le_of_lt h)⟩

/-- Halving what is 2 to the 53 or more. -/
theorem mid_half {V b : Nat} {e : Int} (h : Mid V b e) (hb : 9007199254740992 * U ≤ R (rg b)) : ∃ b', floatBits .quo .f64 b two = some b' ∧ Mid V b' (e + 1) ∧ 2 * R (rg b') = R (rg b) := by
  obtain ⟨h1, h2, h3, h4, h5⟩ := h
  obtain ⟨m, k, hm, -, hm2, hk, hn⟩ := R_form h1
  have e53 : (2:Nat) ^ 53 = 9007199254740992 := by decide
  have hk2 : 0 < k := by
    have h6 : 2 ^ (53 + 1074) < 2 ^ (53 + k) := by
      rw [U_add 53 (53 + 1074) rfl, e53, Nat.pow_add, e53]
      rw [hm] at hb
      exact Nat.lt_of_le_of_lt hb (Nat.mul_lt_mul_of_pos_right hm2 (Nat.two_pow_pos _))
    have h7 := Nat.lt_of_add_lt_add_left (pow_lt_inv h6)
    exact Nat.lt_of_le_of_lt (Nat.zero_le _) h7
  have hV : R (rg b) = 2 * (m * 2 ^ (k - 1)) := by
    have e1 : 2 ^ k = 2 ^ (k - 1) * 2 := by
      rw [← Nat.pow_succ]
      exact congrArg (2 ^ ·) (pred_succ hk2)
    rw [hm, e1, ← Nat.mul_assoc, Nat.mul_comm]
  have hrep : Rep (m * 2 ^ (k - 1)) := ⟨m, k - 1, rfl, hm2, Nat.lt_of_le_of_lt (Nat.sub_le _ _) hk, hn.imp_right (fun h => by rw [h])⟩
  obtain ⟨r, q1, q2, q3⟩ := half_fin h1 hV hrep
  rw [h2] at q3
  obtain ⟨w1, w2⟩ := word_false q1
  refine ⟨_, q3, ⟨by rw [w1]; exact q1, w2, by rw [w1, q2]; omega, by omega, ?_⟩, by rw [w1, q2, hV]⟩
  rw [w1, q2, h5, hV]
  rw [toNat_succ e 1126 (by omega), Nat.pow_succ, Nat.mul_comm 2, Nat.mul_assoc, Nat.mul_comm 2]

/-- Doubling what is below 2 to the 52. -/
theorem mid_dbl {V b : Nat} {e : Int} (h : Mid V b e) (he : -1126 < e) (hb : R (rg b) < 4503599627370496 * U) : ∃ b', floatBits .mul .f64 b two = some b' ∧ Mid V b' (e - 1) ∧ R (rg b') = 2 * R (rg b) := by
  obtain ⟨h1, h2, h3, h4, h5⟩ := h
  have hK : 2 * R (rg b) < Kinf := by
    have : 9007199254740992 * U ≤ Kinf := Nat.le_of_ble_eq_true (by decide +kernel)
    omega
  obtain ⟨r, q1, q2, q3⟩ := dbl_fin h1 hK
  rw [h2] at q3
  obtain ⟨w1, w2⟩ := word_false q1
  refine ⟨_, q3, ⟨by rw [w1]; exact q1, w2, by rw [w1, q2]; omega, by omega, ?_⟩, by rw [w1, q2]⟩
  rw [w1, q2, h5]
  rw [toNat_pred e 1126 (by omega), Nat.pow_succ, Nat.mul_comm 2 (R (rg b)), Nat.mul_assoc, Nat.mul_comm 2]

/-- How often it may be halved. -/
theorem mid_most {V b : Nat} {e : Int} (h : Mid V b e) (hV : V < Kinf) (hb : 9007199254740992 * U ≤ R (rg b)) : e < 971 := by
  obtain ⟨h1, h2, h3, h4, h5⟩ := h
  have e53 : (2:Nat) ^ 53 = 9007199254740992 := by decide
  have e52 : (2:Nat) ^ 52 = 4503599627370496 := by decide
  have h6 : 9007199254740992 * U * 2 ^ (e + 1126).toNat < Kinf * (U * 4503599627370496) := by
    refine Nat.lt_of_le_of_lt (Nat.mul_le_mul_right _ hb) ?_
    rw [← h5]
    exact Nat.mul_lt_mul_of_pos_right hV (Nat.mul_pos U_pos (by decide))
  have h7 : 2 ^ (53 + (e + 1126).toNat) * U < 2 ^ (53 + 2045 + 52) * U := by
    rw [Nat.pow_add 2 53, Nat.pow_add 2 (53 + 2045) 52, Nat.pow_add 2 53 2045, ← Kinf_eq, e53, e52]
    calc 9007199254740992 * 2 ^ (e + 1126).toNat * U = 9007199254740992 * U * 2 ^ (e + 1126).toNat := by rw [Nat.mul_right_comm]
      _ < Kinf * (U * 4503599627370496) := h6
      _ = Kinf * 4503599627370496 * U := by rw [Nat.mul_comm U, Nat.mul_assoc]
  have := pow_lt_inv (Nat.lt_of_mul_lt_mul_right h7)
  omega

/-- It is whole, or it may be doubled. -/
theorem mid_least {V b : Nat} {e : Int} (h : Mid V b e) (hV : 0 < V) (hb : R (rg b) < 4503599627370496 * U) : -1126 < e := by
  obtain ⟨h1, h2, h3, h4, h5⟩ := h
  by_cases he : e = -1126
  · exfalso
    rw [toNat_zero e 1126 he, Nat.pow_zero, Nat.mul_one] at h5
    have : U * 4503599627370496 ≤ V * (U * 4503599627370496) := Nat.le_mul_of_pos_left _ hV
    rw [Nat.mul_comm U] at this
    rw [Nat.mul_comm U] at h5
    omega
  · omega

/-- What is no whole number is below 2 to the 52. -/
theorem frac_small {b : Nat} (h1 : rg b < infR) (hf : R (rg b) % U ≠ 0) : R (rg b) < 4503599627370496 * U := by
  obtain ⟨m, k, hm, -, hm2, hk, hn⟩ := R_form h1
  by_cases hk2 : 1074 ≤ k
  · exfalso
    apply hf
    rw [hm, U_add (k - 1074) k (by omega), ← Nat.mul_assoc, Nat.mul_mod_left]
  · rw [hm, U_sub (1073 - k + 1) k (by omega), Nat.pow_succ]
    have h2 : m < 4503599627370496 * (2 ^ (1073 - k) * 2) := by
      have := Nat.two_pow_pos (1073 - k)
      omega
    rw [← Nat.mul_assoc]
    exact Nat.mul_lt_mul_of_pos_right h2 (Nat.two_pow_pos _)

/-- From 2 to the 52 on it is whole. -/
theorem whole_big {b : Nat} (h1 : rg b < infR) (hb : 4503599627370496 * U ≤ R (rg b)) : R (rg b) % U = 0 := by
  by_cases h : R (rg b) % U = 0
  · exact h
  · have := frac_small h1 h; omega

/-- A whole number in the midst. -/
theorem mid_whole {V b : Nat} {e : Int} (h : Mid V b e) (hw : R (rg b) % U = 0) : 1 ≤ R (rg b) / U ∧ V * 4503599627370496 = R (rg b) / U * 2 ^ (e + 1126).toNat := by
  obtain ⟨h1, h2, h3, h4, h5⟩ := h
  have hd := Nat.div_add_mod (R (rg b)) U
  rw [hw, Nat.add_zero] at hd
  refine ⟨?_, ?_⟩
  · refine Nat.one_le_iff_ne_zero.2 (fun h0 => ?_)
    rw [h0, Nat.mul_zero] at hd
    omega
  · have h6 : V * 4503599627370496 * U = R (rg b) / U * 2 ^ (e + 1126).toNat * U := by
      rw [Nat.mul_assoc, Nat.mul_comm 4503599627370496 U, h5, Nat.mul_right_comm, Nat.mul_comm (R (rg b) / U) U, hd]
    exact Nat.eq_of_mul_eq_mul_right U_pos h6
end Go.Proofs.YtlgacbjopobeoaaGreatDoor.Fm
