/- Real numbers of 64 bits: what a word stands for, and where nothing is rounded. -/
import Derived.Laws.FloatArith
import Derived.Test.YtjnddfpieogpiaaGreatDoorRows
import Derived.WalkKit
import Derived.ProofKit
import Derived.Handy
import Derived.WalkLawsBesides
import Derived.Deep.QuietTactic
import Derived.BigQuiet
import Derived.WalkSpells
import Derived.Lib.ItoaMem
import Derived.Lib.ItoaLen
import Derived.Lib.QuietBelow
import Derived.Laws.IdiomStrings
import Derived.Deep.LoopGhost
import Derived.Deep.Light
namespace Go.Proofs.YtjnddfpieogpiaaGreatDoor.Fm
open Ieee

def sg (b : Nat) : Bool := b / 9223372036854775808 % 2 == 1
def rg (b : Nat) : Nat := b % 9223372036854775808
/-- The magnitude of a rung, in units of the smallest number. -/
def R (r : Nat) : Nat := if r < 4503599627370496 then r else (4503599627370496 + r % 4503599627370496) * 2 ^ (r / 4503599627370496 - 1)
def infR : Nat := 9218868437227405312
def isN (b : Nat) : Prop := infR < rg b
instance (b : Nat) : Decidable (isN b) := inferInstanceAs (Decidable (_ < _))
def sv (b : Nat) : Int := if sg b then -(R (rg b) : Int) else (R (rg b) : Int)

theorem sw : double.signWeight = 9223372036854775808 := by decide
theorem bin : double.binade = 4503599627370496 := by decide
theorem infr : double.infRung = 9218868437227405312 := by decide
theorem least : double.leastPlace = -1074 := by decide

theorem read_eq (b : Nat) : double.read b =
    if rg b < 4503599627370496 then .number (sg b) (rg b) (-1074)
    else if rg b < infR then .number (sg b) (4503599627370496 + rg b % 4503599627370496) (-1074 + (rg b / 4503599627370496 - 1 : Nat))
    else if rg b = infR then .infinity (sg b)
    else .nan (sg b) (rg b - infR) := by
  unfold Format.read
  rw [sw, bin, infr, least]
  rfl

/-- A finite number, opened. -/
theorem read_fin {b : Nat} (h : rg b < infR) : ∃ m k : Nat, double.read b = .number (sg b) m (-1074 + (k : Int)) ∧ R (rg b) = m * 2 ^ k ∧ m < 9007199254740992 ∧ k < 2046 ∧ (4503599627370496 ≤ m ∨ k = 0) := by
  rw [read_eq]
  by_cases h0 : rg b < 4503599627370496
  · refine ⟨rg b, 0, ?_, ?_, ?_, ?_, ?_⟩
    · rw [if_pos h0]; rfl
    · unfold R; rw [if_pos h0]; simp
    · omega
    · omega
    · right; rfl
  · refine ⟨4503599627370496 + rg b % 4503599627370496, rg b / 4503599627370496 - 1, ?_, ?_, ?_, ?_, ?_⟩
    · rw [if_neg h0, if_pos h]
    · unfold R; rw [if_neg h0]
    · omega
    · unfold infR at h; omega
    · left; omega

theorem read_inf {b : Nat} (h : rg b = infR) : double.read b = .infinity (sg b) := by
  rw [read_eq, if_neg (by rw [h]; decide), if_neg (by rw [h]; decide), if_pos h]

theorem read_nan {b : Nat} (h : isN b) : ∃ t, double.read b = .nan (sg b) t := by
  unfold isN at h
  have : infR = 9218868437227405312 := rfl
  exact ⟨rg b - infR, by rw [read_eq, if_neg (by omega), if_neg (by omega), if_neg (by omega)]⟩

def Kinf : Nat := 2 ^ 2098
theorem Kinf_eq : Kinf = 2 ^ 53 * 2 ^ 2045 := by decide +kernel
theorem Kinf_pos : 0 < Kinf := by decide +kernel
theorem R_inf : R infR = Kinf := by decide +kernel

theorem R_fin_lt {r : Nat} (h : r < infR) : R r < Kinf := by
  unfold R
  split
  · refine Nat.lt_of_lt_of_le (by assumption) ?_
    exact (by decide +kernel : 4503599627370496 ≤ Kinf)
  · have h1 : r / 4503599627370496 - 1 ≤ 2045 := by unfold infR at h; omega
    have h2 : (4503599627370496 + r % 4503599627370496) < 2 ^ 53 := by
      have : (2:Nat) ^ 53 = 9007199254740992 := by decide
      omega
    calc (4503599627370496 + r % 4503599627370496) * 2 ^ (r / 4503599627370496 - 1)
        < 2 ^ 53 * 2 ^ (r / 4503599627370496 - 1) := Nat.mul_lt_mul_of_pos_right h2 (Nat.two_pow_pos _)
      _ ≤ 2 ^ 53 * 2 ^ 2045 := Nat.mul_le_mul_left _ (Nat.pow_le_pow_right (by decide) h1)
      _ = Kinf := Kinf_eq.symm

theorem order_nan {x y : Nat} (h : isN x ∨ isN y) : double.order x y = none := by
  unfold Format.order
  rcases h with h | h
  · obtain ⟨t, e⟩ := read_nan h
    rw [e]; rfl
  · obtain ⟨t, e⟩ := read_nan h
    rw [e]; cases double.read x <;> rfl

theorem cmp_mul {a b : Int} {c : Int} (hc : 0 < c) : compare (a * c) (b * c) = compare a b := by
  rcases Int.lt_trichotomy a b with h | h | h
  · rw [Int.compare_eq_lt.2 h, Int.compare_eq_lt.2 (Int.mul_lt_mul_of_pos_right h hc)]
  · subst h; rw [Int.compare_eq_eq.2 rfl, Int.compare_eq_eq.2 rfl]
  · rw [Int.compare_eq_gt.2 h, Int.compare_eq_gt.2 (Int.mul_lt_mul_of_pos_right h hc)]

theorem signed_eq (s : Bool) (m u : Nat) : signed s m u = (if s then -1 else 1) * ((m * 2 ^ u : Nat) : Int) := by
  unfold signed
  cases s
  · rw [if_neg (by decide), if_neg (by decide), Nat.shiftLeft_eq, Int.one_mul]
  · rw [if_pos rfl, if_pos rfl, Nat.shiftLeft_eq, Int.neg_mul, Int.one_mul]

theorem sv_eq (b : Nat) : sv b = (if sg b then -1 else 1) * (R (rg b) : Int) := by
  unfold sv
  cases sg b <;> simp

theorem order_fin {x y : Nat} (hx : rg x < infR) (hy : rg y < infR) : double.order x y = some (compare (sv x) (sv y)) := by
  obtain ⟨m, k, e1, r1, -, -, -⟩ := read_fin hx
  obtain ⟨n, l, e2, r2, -, -, -⟩ := read_fin hy
  unfold Format.order
  rw [e1, e2]
  show some (compare (signed (sg x) m ((-1074 + (k:Int)) - min (-1074 + (k:Int)) (-1074 + (l:Int))).toNat) (signed (sg y) n ((-1074 + (l:Int)) - min (-1074 + (k:Int)) (-1074 + (l:Int))).toNat)) = _
  rw [signed_eq, signed_eq, sv_eq, sv_eq, r1, r2]
  congr 1
  have ha : ((-1074 + (k:Int)) - min (-1074 + (k:Int)) (-1074 + (l:Int))).toNat = k - min k l := by omega
  have hb : ((-1074 + (l:Int)) - min (-1074 + (k:Int)) (-1074 + (l:Int))).toNat = l - min k l := by omega
  rw [ha, hb]
  have hc : (0:Int) < ((2 ^ (min k l) : Nat) : Int) := Int.ofNat_lt.2 (Nat.two_pow_pos _)
  rw [← cmp_mul hc]
  have e3 : m * 2 ^ k = m * 2 ^ (k - min k l) * 2 ^ (min k l) := by
    rw [Nat.mul_assoc, ← Nat.pow_add]; congr 2; omega
  have e4 : n * 2 ^ l = n * 2 ^ (l - min k l) * 2 ^ (min k l) := by
    rw [Nat.mul_assoc, ← Nat.pow_add]; congr 2; omega
  rw [e3, e4]
  simp only [Int.mul_assoc, Int.natCast_mul]

theorem order_eq {x y : Nat} (hx : ¬ isN x) (hy : ¬ isN y) : double.order x y = some (compare (sv x) (sv y)) := by
  unfold isN at hx hy
  by_cases h1 : rg x < infR
  · by_cases h2 : rg y < infR
    · exact order_fin h1 h2
    · have h2 : rg y = infR := by omega
      obtain ⟨m, k, e1, r1, -, -, -⟩ := read_fin h1
      have b1 := R_fin_lt h1
      unfold Format.order
      rw [e1, read_inf h2]
      show some (if sg y then Ordering.gt else Ordering.lt) = _
      congr 1
      unfold sv
      rw [h2, R_inf]
      generalize Kinf = K at b1 ⊢
      symm
      cases sg y <;> cases sg x <;> simp only [Bool.false_eq_true, if_false, if_true]
      all_goals first | (refine Int.compare_eq_lt.2 ?_; omega) | (refine Int.compare_eq_gt.2 ?_; omega)
  · have h1 : rg x = infR := by omega
    by_cases h2 : rg y < infR
    · obtain ⟨m, k, e1, r1, -, -, -⟩ := read_fin h2
      have b1 := R_fin_lt h2
      unfold Format.order
      rw [e1, read_inf h1]
      show some (if sg x then Ordering.lt else Ordering.gt) = _
      congr 1
      unfold sv
      rw [h1, R_inf]
      generalize Kinf = K at b1 ⊢
      symm
      cases sg y <;> cases sg x <;> simp only [Bool.false_eq_true, if_false, if_true]
      all_goals first | (refine Int.compare_eq_lt.2 ?_; omega) | (refine Int.compare_eq_gt.2 ?_; omega)
    · have h2 : rg y = infR := by omega
      unfold Format.order
      rw [read_inf h1, read_inf h2]
      show some (compare (sg y).toNat (sg x).toNat) = _
      congr 1
      unfold sv
      rw [h1, h2, R_inf]
      have hp := Kinf_pos
      generalize Kinf = K at hp ⊢
      cases sg y <;> cases sg x <;> simp only [Bool.false_eq_true, if_false, if_true]
      · rw [Int.compare_eq_eq.2 rfl]; rfl
      · rw [Int.compare_eq_lt.2 (by omega)]; rfl
      · rw [Int.compare_eq_gt.2 (by omega)]; rfl
      · rw [Int.compare_eq_eq.2 rfl]; rfl
end Go.Proofs.YtjnddfpieogpiaaGreatDoor.Fm
/- Real numbers of 64 bits: where nothing is rounded. -/
namespace Go.Proofs.YtjnddfpieogpiaaGreatDoor.Fm
open Ieee

theorem cut_exact (neg : Bool) (q drop : Nat) (hq : 0 < q) : Toward.even.cut neg (q * 2 ^ drop) drop = q := by
  have h2 : 0 < 2 ^ drop := Nat.two_pow_pos _
  have hne : q * 2 ^ drop ≠ 0 := Nat.ne_of_gt (Nat.mul_pos hq h2)
  have hl : drop ≤ (q * 2 ^ drop).log2 := (Nat.le_log2 hne).2 (Nat.le_mul_of_pos_left _ hq)
  have hm : min drop ((q * 2 ^ drop).log2 + 2) = drop := by omega
  unfold Toward.cut
  simp only [hm, Nat.one_shiftLeft, Nat.mul_div_cancel _ h2, Nat.mul_mod_left]
  have h3 : ¬ (2 ^ drop < 2 * 0) := by omega
  have h4 : (2 ^ drop == 2 * 0) = false := by
    rw [beq_eq_false_iff_ne]; omega
  simp only [h3, h4, decide_false, Bool.false_and, Bool.or_false, Bool.toNat_false, Nat.add_zero]

theorem R_form {r : Nat} (h : r < infR) : ∃ m k : Nat, R r = m * 2 ^ k ∧ r = k * 4503599627370496 + m ∧ m < 9007199254740992 ∧ k < 2046 ∧ (4503599627370496 ≤ m ∨ k = 0) := by
  unfold infR at h
  unfold R
  by_cases h0 : r < 4503599627370496
  · exact ⟨r, 0, by rw [if_pos h0]; simp, by omega, by omega, by omega, Or.inr rfl⟩
  · exact ⟨4503599627370496 + r % 4503599627370496, r / 4503599627370496 - 1, by rw [if_neg h0], by omega, by omega, by omega, Or.inl (by omega)⟩

theorem R_of (m k : Nat) (hm : m < 9007199254740992) (hk : 4503599627370496 ≤ m ∨ k = 0) : R (k * 4503599627370496 + m) = m * 2 ^ k := by
  unfold R
  by_cases h0 : k * 4503599627370496 + m < 4503599627370496
  · have : k = 0 := by omega
    subst this
    rw [if_pos h0]; simp
  · rw [if_neg h0]
    rcases hk with hk | hk
    · have e1 : (k * 4503599627370496 + m) % 4503599627370496 = m - 4503599627370496 := by omega
      have e2 : (k * 4503599627370496 + m) / 4503599627370496 = k + 1 := by omega
      have e3 : 4503599627370496 + (m - 4503599627370496) = m := by omega
      rw [e1, e2, e3, Nat.add_sub_cancel]
    · subst hk
      have e1 : (0 * 4503599627370496 + m) % 4503599627370496 = m - 4503599627370496 := by omega
      have e2 : (0 * 4503599627370496 + m) / 4503599627370496 = 1 := by omega
      have e3 : 4503599627370496 + (m - 4503599627370496) = m := by omega
      rw [e1, e2, e3, Nat.sub_self]

theorem log2_mul_pow {n : Nat} (h : n ≠ 0) (a : Nat) : (n * 2 ^ a).log2 = n.log2 + a := by
  have h2 : n * 2 ^ a ≠ 0 := Nat.mul_ne_zero h (Nat.ne_of_gt (Nat.two_pow_pos _))
  refine Nat.le_antisymm ?_ ?_
  · refine Nat.le_of_lt_succ ((Nat.log2_lt h2).2 ?_)
    have := Nat.lt_log2_self (n := n)
    calc n * 2 ^ a < 2 ^ (n.log2 + 1) * 2 ^ a := Nat.mul_lt_mul_of_pos_right this (Nat.two_pow_pos _)
      _ = 2 ^ (n.log2 + a + 1) := by rw [← Nat.pow_add]; congr 1; omega
  · refine (Nat.le_log2 h2).2 ?_
    rw [Nat.pow_add]
    exact Nat.mul_le_mul_right _ (Nat.log2_self_le h)

theorem nearest_exact (neg : Bool) (mag : Nat) (place : Int) (m k : Nat) (hE : mag * 2 ^ (place + 1074).toNat = m * 2 ^ k * 2 ^ (-(place + 1074)).toNat)
    (hm : m < 9007199254740992) (hk : k < 2046) (hn : 4503599627370496 ≤ m ∨ k = 0) : double.nearest neg mag place = double.word neg (k * 4503599627370496 + m) := by
  have p2 : ∀ a : Nat, 0 < 2 ^ a := fun a => Nat.two_pow_pos a
  unfold Format.nearest
  by_cases h0 : mag = 0
  · rw [if_pos h0]
    rw [h0, Nat.zero_mul, Nat.mul_assoc] at hE
    have hm0 : m = 0 := by
      rcases Nat.mul_eq_zero.1 hE.symm with h | h
      · exact h
      · have := Nat.mul_pos (p2 k) (p2 (-(place + 1074)).toNat); omega
    have hk0 : k = 0 := by omega
    rw [hm0, hk0]
  · rw [if_neg h0]
    have hm0 : m ≠ 0 := by
      intro e
      rw [e, Nat.zero_mul, Nat.zero_mul] at hE
      rcases Nat.mul_eq_zero.1 hE with h | h
      · exact h0 h
      · have := p2 (place + 1074).toNat; omega
    have hlog : (mag.log2 : Int) + (place + 1074) = m.log2 + k := by
      have := congrArg Nat.log2 hE
      rw [log2_mul_pow h0, Nat.mul_assoc, ← Nat.pow_add, log2_mul_pow hm0] at this
      omega
    have hl : m.log2 = 52 ∨ (m.log2 ≤ 52 ∧ k = 0) := by
      have h52 : m.log2 < 53 := (Nat.log2_lt hm0).2 (by have : (2:Nat) ^ 53 = 9007199254740992 := by decide
                                                        omega)
      rcases hn with hn | hn
      · left
        have : 52 ≤ m.log2 := (Nat.le_log2 hm0).2 (by have : (2:Nat) ^ 52 = 4503599627370496 := by decide
                                                      omega)
        omega
      · right; omega
    have hlast : max (place + mag.log2 - (double.fractionBits : Nat)) double.leastPlace = (k : Int) - 1074 := by
      rw [least]
      have : ((double.fractionBits : Nat) : Int) = 52 := rfl
      rw [this]
      omega
    simp only [hlast]
    rw [least, bin, infr]
    have e1 : ((k : Int) - 1074 - -1074).toNat = k := by omega
    rw [e1]
    have hkept : Toward.even.cut neg (mag <<< (place - ((k : Int) - 1074)).toNat) ((k : Int) - 1074 - place).toNat = m := by
      rw [Nat.shiftLeft_eq]
      by_cases hp : (k : Int) - 1074 ≤ place
      · have d0 : ((k : Int) - 1074 - place).toNat = 0 := by omega
        rw [d0]
        have e2 : (place + 1074).toNat = (place - ((k : Int) - 1074)).toNat + k := by omega
        have e3 : (-(place + 1074)).toNat = 0 := by omega
        rw [e2, e3, Nat.pow_zero, Nat.mul_one, Nat.pow_add, ← Nat.mul_assoc] at hE
        have e4 := Nat.eq_of_mul_eq_mul_right (p2 k) hE
        rw [e4]
        have := cut_exact neg m 0 (Nat.pos_of_ne_zero hm0)
        rwa [Nat.pow_zero, Nat.mul_one] at this
      · have d0 : (place - ((k : Int) - 1074)).toNat = 0 := by omega
        rw [d0, Nat.pow_zero, Nat.mul_one]
        have e4 : mag = m * 2 ^ ((k : Int) - 1074 - place).toNat := by
          by_cases hq : 0 ≤ place + 1074
          · have e2 : k = ((k : Int) - 1074 - place).toNat + (place + 1074).toNat := by omega
            have e3 : (-(place + 1074)).toNat = 0 := by omega
            rw [e3, Nat.pow_zero, Nat.mul_one] at hE
            have e5 : m * 2 ^ k = m * 2 ^ ((k : Int) - 1074 - place).toNat * 2 ^ (place + 1074).toNat := by
              rw [Nat.mul_assoc, ← Nat.pow_add, ← e2]
            rw [e5] at hE
            exact Nat.eq_of_mul_eq_mul_right (p2 _) hE
          · have e2 : ((k : Int) - 1074 - place).toNat = k + (-(place + 1074)).toNat := by omega
            have e3 : (place + 1074).toNat = 0 := by omega
            rw [e3, Nat.pow_zero, Nat.mul_one, Nat.mul_assoc, ← Nat.pow_add, ← e2] at hE
            exact hE
        rw [e4]
        exact cut_exact neg m _ (Nat.pos_of_ne_zero hm0)
    rw [hkept, Nat.min_eq_left (by omega)]

theorem word_eq (s : Bool) (r : Nat) : double.word s r = if s then 9223372036854775808 + r else r := by
  unfold Format.word; rw [sw]
theorem rg_word (s : Bool) {r : Nat} (h : r ≤ infR) : rg (double.word s r) = r := by
  unfold infR at h
  unfold rg; rw [word_eq]; cases s
  · rw [if_neg (by decide)]; omega
  · rw [if_pos rfl]; omega
theorem sg_word (s : Bool) {r : Nat} (h : r ≤ infR) : sg (double.word s r) = s := by
  unfold infR at h
  unfold sg; rw [word_eq]; cases s
  · rw [if_neg (by decide), beq_eq_false_iff_ne]; omega
  · rw [if_pos rfl, beq_iff_eq]; omega
theorem word_lt (s : Bool) {r : Nat} (h : r ≤ infR) : double.word s r < 18446744073709551616 := by
  unfold infR at h
  rw [word_eq]; cases s
  · rw [if_neg (by decide)]; omega
  · rw [if_pos rfl]; omega

/-- A magnitude that a number has. -/
def Rep (V : Nat) : Prop := ∃ m k : Nat, V = m * 2 ^ k ∧ m < 9007199254740992 ∧ k < 2046 ∧ (4503599627370496 ≤ m ∨ k = 0)

theorem Rep.rung {V : Nat} (h : Rep V) : ∃ r, r < infR ∧ R r = V := by
  obtain ⟨m, k, e, h1, h2, h3⟩ := h
  refine ⟨k * 4503599627370496 + m, ?_, ?_⟩
  · unfold infR; omega
  · rw [R_of m k h1 h3, e]

theorem pow_lt_inv {a b : Nat} (h : 2 ^ a < 2 ^ b) : a < b := (Nat.pow_lt_pow_iff_right (by decide)).1 h

/-- A number of 53 bits times a power of two, below the infinite. -/
theorem rep_of (n j : Nat) (hn : n < 9007199254740992) (hV : n * 2 ^ j < Kinf) : Rep (n * 2 ^ j) := by
  have e53 : (2:Nat) ^ 53 = 9007199254740992 := by decide
  have e52 : (2:Nat) ^ 52 = 4503599627370496 := by decide
  by_cases h0 : n = 0
  · exact ⟨0, 0, by rw [h0]; simp, by omega, by omega, Or.inr rfl⟩
  have hl : n.log2 < 53 := (Nat.log2_lt h0).2 (by omega)
  have hself := Nat.log2_self_le h0
  have hlt := Nat.lt_log2_self (n := n)
  -- move up by s
  by_cases hj : 52 - n.log2 ≤ j
  · have hu : n * 2 ^ (52 - n.log2) < 9007199254740992 := by
      rw [← e53]
      calc n * 2 ^ (52 - n.log2) < 2 ^ (n.log2 + 1) * 2 ^ (52 - n.log2) := Nat.mul_lt_mul_of_pos_right hlt (Nat.two_pow_pos _)
        _ = 2 ^ 53 := by rw [← Nat.pow_add]; congr 1; omega
    have hd : 4503599627370496 ≤ n * 2 ^ (52 - n.log2) := by
      rw [← e52]
      calc 2 ^ 52 = 2 ^ n.log2 * 2 ^ (52 - n.log2) := by rw [← Nat.pow_add]; congr 1; omega
        _ ≤ n * 2 ^ (52 - n.log2) := Nat.mul_le_mul_right _ hself
    refine ⟨n * 2 ^ (52 - n.log2), j - (52 - n.log2), ?_, hu, ?_, Or.inl hd⟩
    · rw [Nat.mul_assoc, ← Nat.pow_add]; congr 2; omega
    · have h1 : 2 ^ (n.log2 + j) < 2 ^ (53 + 2045) := by
        rw [Nat.pow_add 2 53 2045, ← Kinf_eq, Nat.pow_add]
        exact Nat.lt_of_le_of_lt (Nat.mul_le_mul_right _ hself) hV
      have := pow_lt_inv h1
      omega
  · have hu : n * 2 ^ j < 9007199254740992 := by
      rw [← e53]
      calc n * 2 ^ j < 2 ^ (n.log2 + 1) * 2 ^ j := Nat.mul_lt_mul_of_pos_right hlt (Nat.two_pow_pos _)
        _ = 2 ^ (n.log2 + 1 + j) := (Nat.pow_add _ _ _).symm
        _ ≤ 2 ^ 53 := Nat.pow_le_pow_right (by decide) (by omega)
    exact ⟨n * 2 ^ j, 0, by simp, hu, by omega, Or.inr rfl⟩

/-- What is written of an exact number. -/
theorem nearest_rep (neg : Bool) (mag : Nat) (place : Int) {V : Nat} (h : Rep V) (hE : mag * 2 ^ (place + 1074).toNat = V * 2 ^ (-(place + 1074)).toNat) :
    ∃ r, r < infR ∧ R r = V ∧ double.nearest neg mag place = double.word neg r := by
  obtain ⟨m, k, e, h1, h2, h3⟩ := h
  refine ⟨k * 4503599627370496 + m, ?_, ?_, ?_⟩
  · unfold infR; omega
  · rw [R_of m k h1 h3, e]
  · rw [e] at hE
    exact nearest_exact neg mag place m k hE h1 h2 h3

/-- Whatever is written, it is a number or infinite. -/
theorem nearest_word (neg : Bool) (mag : Nat) (place : Int) : ∃ r, r ≤ infR ∧ double.nearest neg mag place = double.word neg r := by
  unfold Format.nearest
  split
  · exact ⟨0, by decide, rfl⟩
  · exact ⟨_, by rw [infr]; exact Nat.min_le_right _ _, rfl⟩

theorem notN_word (s : Bool) {r : Nat} (h : r ≤ infR) : ¬ isN (double.word s r) := by
  unfold isN; rw [rg_word s h]; omega
end Go.Proofs.YtjnddfpieogpiaaGreatDoor.Fm
/- Real numbers of 64 bits: doubling, halving, cutting. -/
namespace Go.Proofs.YtjnddfpieogpiaaGreatDoor.Fm
open Ieee

theorem nearest_over (neg : Bool) (mag : Nat) (place : Int) (m k : Nat) (hE : mag * 2 ^ (place + 1074).toNat = m * 2 ^ k * 2 ^ (-(place + 1074)).toNat)
    (hm : m < 9007199254740992) (hk : 2046 ≤ k) (hn : 4503599627370496 ≤ m) : double.nearest neg mag place = double.word neg infR := by
  have p2 : ∀ a : Nat, 0 < 2 ^ a := fun a => Nat.two_pow_pos a
  have hm0 : m ≠ 0 := by omega
  have h0 : mag ≠ 0 := by
    intro e
    rw [e, Nat.zero_mul, Nat.mul_assoc] at hE
    rcases Nat.mul_eq_zero.1 hE.symm with h | h
    · exact hm0 h
    · have := Nat.mul_pos (p2 k) (p2 (-(place + 1074)).toNat); omega
  have hlog : (mag.log2 : Int) + (place + 1074) = m.log2 + k := by
    have := congrArg Nat.log2 hE
    rw [log2_mul_pow h0, Nat.mul_assoc, ← Nat.pow_add, log2_mul_pow hm0] at this
    omega
  have hl : m.log2 = 52 := by
    have h52 : m.log2 < 53 := (Nat.log2_lt hm0).2 (by have : (2:Nat) ^ 53 = 9007199254740992 := by decide
                                                      omega)
    have : 52 ≤ m.log2 := (Nat.le_log2 hm0).2 (by have : (2:Nat) ^ 52 = 4503599627370496 := by decide
                                                  omega)
    omega
  unfold Format.nearest
  rw [if_neg h0]
  have hlast : max (place + mag.log2 - (double.fractionBits : Nat)) double.leastPlace = (k : Int) - 1074 := by
    rw [least]
    have : ((double.fractionBits : Nat) : Int) = 52 := rfl
    rw [this]
    omega
  simp only [hlast]
  rw [least, bin, infr]
  have e1 : ((k : Int) - 1074 - -1074).toNat = k := by omega
  rw [e1]
  have hkept : Toward.even.cut neg (mag <<< (place - ((k : Int) - 1074)).toNat) ((k : Int) - 1074 - place).toNat = m := by
    rw [Nat.shiftLeft_eq]
    by_cases hp : (k : Int) - 1074 ≤ place
    · have d0 : ((k : Int) - 1074 - place).toNat = 0 := by omega
      rw [d0]
      have e2 : (place + 1074).toNat = (place - ((k : Int) - 1074)).toNat + k := by omega
      have e3 : (-(place + 1074)).toNat = 0 := by omega
      rw [e2, e3, Nat.pow_zero, Nat.mul_one, Nat.pow_add, ← Nat.mul_assoc] at hE
      have e4 := Nat.eq_of_mul_eq_mul_right (p2 k) hE
      rw [e4]
      have := cut_exact neg m 0 (Nat.pos_of_ne_zero hm0)
      rwa [Nat.pow_zero, Nat.mul_one] at this
    · have d0 : (place - ((k : Int) - 1074)).toNat = 0 := by omega
      rw [d0, Nat.pow_zero, Nat.mul_one]
      have e4 : mag = m * 2 ^ ((k : Int) - 1074 - place).toNat := by
        by_cases hq : 0 ≤ place + 1074
        · have e2 : k = ((k : Int) - 1074 - place).toNat + (place + 1074).toNat := by omega
          have e3 : (-(place + 1074)).toNat = 0 := by omega
          rw [e3, Nat.pow_zero, Nat.mul_one] at hE
          have e5 : m * 2 ^ k = m * 2 ^ ((k : Int) - 1074 - place).toNat * 2 ^ (place + 1074).toNat := by
            rw [Nat.mul_assoc, ← Nat.pow_add, ← e2]
          rw [e5] at hE
          exact Nat.eq_of_mul_eq_mul_right (p2 _) hE
        · have e2 : ((k : Int) - 1074 - place).toNat = k + (-(place + 1074)).toNat := by omega
          have e3 : (place + 1074).toNat = 0 := by omega
          rw [e3, Nat.pow_zero, Nat.mul_one, Nat.mul_assoc, ← Nat.pow_add, ← e2] at hE
          exact hE
      rw [e4]
      exact cut_exact neg m _ (Nat.pos_of_ne_zero hm0)
  rw [hkept, Nat.min_eq_right (by omega)]
  rfl

theorem R_pos {r : Nat} (h : R r = 0) : r = 0 := by
  unfold R at h
  split at h
  · exact h
  · have := Nat.mul_pos (show 0 < 4503599627370496 + r % 4503599627370496 by omega) (Nat.two_pow_pos (r / 4503599627370496 - 1))
    omega
abbrev two : Nat := 4611686018427387904
abbrev one : Nat := 4607182418800017408
theorem read_two : double.read two = .number false 4503599627370496 (-51) := by decide +kernel
theorem read_one : double.read one = .number false 4503599627370496 (-52) := by decide +kernel

theorem dbl_fin {x : Nat} (hx : rg x < infR) (hV : 2 * R (rg x) < Kinf) : ∃ r, r < infR ∧ R r = 2 * R (rg x) ∧ double.mul x two = some (double.word (sg x) r) := by
  obtain ⟨m, k, e1, r1, h1, h2, h3⟩ := read_fin hx
  have hr : Rep (2 * R (rg x)) := by
    have e : 2 * R (rg x) = m * 2 ^ (k + 1) := by rw [r1, Nat.pow_succ, Nat.mul_comm 2, Nat.mul_assoc]
    rw [e] at hV ⊢
    exact rep_of m (k + 1) h1 hV
  obtain ⟨r, q1, q2, q3⟩ := nearest_rep (sg x) (m * 4503599627370496) (-1074 + (k:Int) + -51) hr (by
    rw [r1]
    have e52 : 4503599627370496 = (2:Nat) ^ 52 := by decide
    rw [e52]
    by_cases hk : 51 ≤ k
    · have a1 : (-1074 + (k:Int) + -51 + 1074).toNat = k - 51 := by omega
      have a2 : (-(-1074 + (k:Int) + -51 + 1074)).toNat = 0 := by omega
      rw [a1, a2, Nat.pow_zero, Nat.mul_one, Nat.mul_assoc, ← Nat.pow_add, Nat.mul_comm 2, Nat.mul_assoc, ← Nat.pow_succ]
      have : 52 + (k - 51) = k + 1 := by omega
      rw [this]
    · have a1 : (-1074 + (k:Int) + -51 + 1074).toNat = 0 := by omega
      have a2 : (-(-1074 + (k:Int) + -51 + 1074)).toNat = 51 - k := by omega
      have a3 : 2 * (m * 2 ^ k) = m * 2 ^ (k + 1) := by rw [Nat.mul_comm 2, Nat.mul_assoc, ← Nat.pow_succ]
      rw [a1, a2, a3, Nat.pow_zero, Nat.mul_one, Nat.mul_assoc, ← Nat.pow_add]
      have : k + 1 + (51 - k) = 52 := by omega
      rw [this])
  refine ⟨r, q1, q2, ?_⟩
  unfold Format.mul
  rw [e1, read_two]
  show some (double.nearest (sg x ^^ false) (m * 4503599627370496) (-1074 + (k:Int) + -51)) = _
  rw [Bool.xor_false, q3]

theorem dbl_any {x : Nat} (hx : ¬ isN x) : ∃ r, r ≤ infR ∧ double.mul x two = some (double.word (sg x) r) ∧ (r < infR → rg x < infR ∧ R r = 2 * R (rg x)) := by
  unfold isN at hx
  by_cases h : rg x < infR
  · by_cases hV : 2 * R (rg x) < Kinf
    · obtain ⟨r, q1, q2, q3⟩ := dbl_fin h hV
      exact ⟨r, by omega, q3, fun _ => ⟨h, q2⟩⟩
    · obtain ⟨m, k, e1, r1, h1, h2, h3⟩ := read_fin h
      have hk : k = 2045 := by
        by_cases hk : k = 2045
        · exact hk
        · exfalso
          apply hV
          have e53 : (9007199254740992 : Nat) = 2 ^ 53 := by decide
          rw [e53] at h1
          rw [r1, Kinf_eq, Nat.mul_comm 2, Nat.mul_assoc, ← Nat.pow_succ]
          calc m * 2 ^ (k + 1) < 2 ^ 53 * 2 ^ (k + 1) := Nat.mul_lt_mul_of_pos_right h1 (Nat.two_pow_pos _)
            _ ≤ 2 ^ 53 * 2 ^ 2045 := Nat.mul_le_mul_left _ (Nat.pow_le_pow_right (by decide) (by omega))
      have hm : 4503599627370496 ≤ m := by omega
      refine ⟨infR, Nat.le_refl _, ?_, fun h => absurd h (Nat.lt_irrefl _)⟩
      unfold Format.mul
      rw [e1, read_two]
      show some (double.nearest (sg x ^^ false) (m * 4503599627370496) (-1074 + (k:Int) + -51)) = _
      rw [Bool.xor_false, nearest_over (sg x) _ _ m (k + 1) ?_ h1 (by omega) hm]
      have e52 : 4503599627370496 = (2:Nat) ^ 52 := by decide
      rw [e52]
      have a1 : (-1074 + (k:Int) + -51 + 1074).toNat = k - 51 := by omega
      have a2 : (-(-1074 + (k:Int) + -51 + 1074)).toNat = 0 := by omega
      rw [a1, a2, Nat.pow_zero, Nat.mul_one, Nat.mul_assoc, ← Nat.pow_add]
      have : 52 + (k - 51) = k + 1 := by omega
      rw [this]
  · have h : rg x = infR := by omega
    refine ⟨infR, Nat.le_refl _, ?_, fun h => absurd h (Nat.lt_irrefl _)⟩
    unfold Format.mul
    rw [read_inf h, read_two]
    show some (double.word (sg x ^^ false) double.infRung) = _
    rw [Bool.xor_false]; rfl

theorem half_fin {x V : Nat} (hx : rg x < infR) (hV : R (rg x) = 2 * V) (hr : Rep V) : ∃ r, r < infR ∧ R r = V ∧ double.div x two = some (double.word (sg x) r) := by
  obtain ⟨m, k, e1, r1, h1, h2, h3⟩ := read_fin hx
  have e52 : (4503599627370496 : Nat) = 2 ^ 52 := by decide
  have hlog : m.log2 ≤ 52 := by
    by_cases h0 : m = 0
    · rw [h0]; decide
    · have : m.log2 < 53 := (Nat.log2_lt h0).2 (by have : (2:Nat) ^ 53 = 9007199254740992 := by decide
                                                   omega)
      omega
  have l52 : (4503599627370496 : Nat).log2 = 52 := by decide +kernel
  let more := 54 + (4503599627370496 : Nat).log2 - m.log2
  have hmore : more = 106 - m.log2 := by show 54 + (4503599627370496 : Nat).log2 - m.log2 = _; rw [l52]
  have hdiv : (m <<< more) / 4503599627370496 = m * 2 ^ (more - 52) := by
    rw [Nat.shiftLeft_eq, e52]
    have : m * 2 ^ more = m * 2 ^ (more - 52) * 2 ^ 52 := by rw [Nat.mul_assoc, ← Nat.pow_add]; have : more - 52 + 52 = more := by omega
                                                             rw [this]
    rw [this, Nat.mul_div_cancel _ (Nat.two_pow_pos _)]
  have hmod : (m <<< more) % 4503599627370496 = 0 := by
    rw [Nat.shiftLeft_eq, e52]
    have : m * 2 ^ more = m * 2 ^ (more - 52) * 2 ^ 52 := by rw [Nat.mul_assoc, ← Nat.pow_add]; have : more - 52 + 52 = more := by omega
                                                             rw [this]
    rw [this, Nat.mul_mod_left]
  have hV2 : m * 2 ^ k = 2 * V := by rw [← r1, hV]
  obtain ⟨r, q1, q2, q3⟩ := nearest_rep (sg x) (2 * (m * 2 ^ (more - 52))) (-1074 + (k:Int) - -51 - more - 1) hr (by
    have b : ∀ c : Nat, 2 * (m * 2 ^ c) = m * 2 ^ (c + 1) := fun c => by rw [Nat.mul_comm 2, Nat.mul_assoc, ← Nat.pow_succ]
    rw [b]
    have key : ∀ a c : Nat, k + a = c + 1 → m * 2 ^ c = V * 2 ^ a := fun a c h => by
      have : 2 * (m * 2 ^ c) = 2 * (V * 2 ^ a) := by
        rw [b, ← h, Nat.pow_add, ← Nat.mul_assoc, hV2, Nat.mul_assoc]
      omega
    by_cases hk : (more : Int) ≤ k + 50
    · have a1 : (-1074 + (k:Int) - -51 - more - 1 + 1074).toNat = k + 50 - more := by omega
      have a2 : (-(-1074 + (k:Int) - -51 - more - 1 + 1074)).toNat = 0 := by omega
      rw [a1, a2, Nat.mul_assoc, ← Nat.pow_add]
      exact key 0 _ (by omega)
    · have a1 : (-1074 + (k:Int) - -51 - more - 1 + 1074).toNat = 0 := by omega
      have a2 : (-(-1074 + (k:Int) - -51 - more - 1 + 1074)).toNat = more - 50 - k := by omega
      rw [a1, a2, Nat.pow_zero, Nat.mul_one]
      exact key _ _ (by omega))
  refine ⟨r, q1, q2, ?_⟩
  unfold Format.div
  rw [e1, read_two]
  show some (double.nearest (sg x ^^ false) (2 * ((m <<< more) / 4503599627370496) + ((m <<< more) % 4503599627370496 != 0).toNat) (-1074 + (k:Int) - -51 - more - 1)) = _
  rw [Bool.xor_false, hdiv, hmod]
  exact congrArg some q3

theorem half_any {x : Nat} (hx : ¬ isN x) : ∃ r, r ≤ infR ∧ double.div x two = some (double.word (sg x) r) := by
  unfold isN at hx
  by_cases h : rg x < infR
  · obtain ⟨m, k, e1, r1, h1, h2, h3⟩ := read_fin h
    unfold Format.div
    rw [e1, read_two]
    obtain ⟨r, q1, q2⟩ := nearest_word (sg x) (2 * ((m <<< (54 + (4503599627370496 : Nat).log2 - m.log2)) / 4503599627370496) + ((m <<< (54 + (4503599627370496 : Nat).log2 - m.log2)) % 4503599627370496 != 0).toNat) (-1074 + (k:Int) - -51 - (54 + (4503599627370496 : Nat).log2 - m.log2 : Nat) - 1)
    refine ⟨r, q1, ?_⟩
    rw [← q2]
    show some (double.nearest (sg x ^^ false) _ _) = _
    rw [Bool.xor_false]
    rfl
  · have h : rg x = infR := by omega
    refine ⟨infR, Nat.le_refl _, ?_⟩
    unfold Format.div
    rw [read_inf h, read_two]
    show some (double.word (sg x ^^ false) double.infRung) = _
    rw [Bool.xor_false]; rfl

/-- One by a zero. -/
theorem inv_zero {x : Nat} (h : R (rg x) = 0) : double.div one x = some (double.word (sg x) infR) := by
  have h0 := R_pos h
  unfold Format.div
  have : double.read x = .number (sg x) 0 (-1074) := by rw [read_eq, h0, if_pos (by decide)]
  rw [this, read_one]
  show some (double.word (false ^^ sg x) double.infRung) = _
  rw [Bool.false_xor]; rfl

theorem cut_zero (neg : Bool) (n drop : Nat) : Toward.zero.cut neg n drop = n / 2 ^ drop := by
  unfold Toward.cut
  simp only [Nat.one_shiftLeft, Bool.toNat_false, Nat.add_zero]
  by_cases h : drop ≤ n.log2 + 2
  · rw [Nat.min_eq_left h]
  · rw [Nat.min_eq_right (by omega)]
    have h1 : n < 2 ^ (n.log2 + 2) := Nat.lt_of_lt_of_le Nat.lt_log2_self (Nat.pow_le_pow_right (by decide) (by omega))
    have h2 : n < 2 ^ drop := Nat.lt_of_lt_of_le h1 (Nat.pow_le_pow_right (by decide) (by omega))
    rw [Nat.div_eq_of_lt h1, Nat.div_eq_of_lt h2]

/-- The number 1, in units. -/
def uE : Nat := 1074
def U : Nat := 2 ^ uE
theorem U_pos : 0 < U := Nat.two_pow_pos uE
theorem U_add (a b : Nat) (h : b = a + 1074) : 2 ^ b = 2 ^ a * U := by
  have h' : b = a + uE := h
  rw [h']; exact Nat.pow_add 2 a uE
theorem U_sub (a b : Nat) (h : a + b = 1074) : U = 2 ^ a * 2 ^ b := by
  have h' : uE = a + b := h.symm
  unfold U
  rw [h', Nat.pow_add]

/-- A number cut towards 0. -/
theorem toInt_fin {x : Nat} (h : rg x < infR) : (double.read x).toInt .zero = some ((if sg x then -1 else 1) * ((R (rg x) / U : Nat) : Int)) := by
  obtain ⟨m, k, e1, r1, -, -, -⟩ := read_fin h
  rw [e1]
  show some (signed (sg x) (Toward.zero.cut (sg x) (m <<< (-1074 + (k:Int)).toNat) (-(-1074 + (k:Int))).toNat) 0) = _
  rw [signed_eq, cut_zero, r1, Nat.pow_zero, Nat.mul_one, Nat.shiftLeft_eq]
  have key : m * 2 ^ (-1074 + (k:Int)).toNat / 2 ^ (-(-1074 + (k:Int))).toNat = m * 2 ^ k / U := by
    by_cases hk : 1074 ≤ k
    · have a1 : (-1074 + (k:Int)).toNat = k - 1074 := by omega
      have a2 : (-(-1074 + (k:Int))).toNat = 0 := by omega
      rw [a1, a2, Nat.pow_zero, Nat.div_one]
      rw [U_add (k - 1074) k (by omega), ← Nat.mul_assoc, Nat.mul_div_cancel _ U_pos]
    · have a1 : (-1074 + (k:Int)).toNat = 0 := by omega
      have a2 : (-(-1074 + (k:Int))).toNat = 1074 - k := by omega
      rw [a1, a2, Nat.pow_zero, Nat.mul_one, U_sub (1074 - k) k (by omega), Nat.mul_div_mul_right _ _ (Nat.two_pow_pos _)]
  rw [key]
end Go.Proofs.YtjnddfpieogpiaaGreatDoor.Fm
/- Real numbers of 64 bits: tests, signs, whole numbers; what is drawn where there is no number. -/
namespace Go.Proofs.YtjnddfpieogpiaaGreatDoor.Fm
open Ieee

abbrev F : Ieee.Format := FloatKind.f64.format
theorem F_eq : F = double := rfl

theorem lt_b {x y : Nat} (hx : ¬ isN x) (hy : ¬ isN y) : (F.order x y == some .lt) = decide (sv x < sv y) := by
  rw [F_eq, order_eq hx hy]
  rcases Int.lt_trichotomy (sv x) (sv y) with h | h | h
  · rw [Int.compare_eq_lt.2 h, decide_eq_true h]; rfl
  · rw [Int.compare_eq_eq.2 h, decide_eq_false (by omega)]; rfl
  · rw [Int.compare_eq_gt.2 h, decide_eq_false (by omega)]; rfl
theorem gt_b {x y : Nat} (hx : ¬ isN x) (hy : ¬ isN y) : (F.order x y == some .gt) = decide (sv y < sv x) := by
  rw [F_eq, order_eq hx hy]
  rcases Int.lt_trichotomy (sv x) (sv y) with h | h | h
  · rw [Int.compare_eq_lt.2 h, decide_eq_false (by omega)]; rfl
  · rw [Int.compare_eq_eq.2 h, decide_eq_false (by omega)]; rfl
  · rw [Int.compare_eq_gt.2 h, decide_eq_true h]; rfl
theorem eq_b {x y : Nat} (hx : ¬ isN x) (hy : ¬ isN y) : (F.order x y == some .eq) = decide (sv x = sv y) := by
  rw [F_eq, order_eq hx hy]
  rcases Int.lt_trichotomy (sv x) (sv y) with h | h | h
  · rw [Int.compare_eq_lt.2 h, decide_eq_false (by omega)]; rfl
  · rw [Int.compare_eq_eq.2 h, decide_eq_true h]; rfl
  · rw [Int.compare_eq_gt.2 h, decide_eq_false (by omega)]; rfl
theorem ne_b {x y : Nat} (hx : ¬ isN x) (hy : ¬ isN y) : (F.order x y != some .eq) = decide (sv x ≠ sv y) := by
  have := eq_b hx hy
  unfold bne
  rw [this]
  by_cases h : sv x = sv y <;> simp [h]
theorem ge_b {x y : Nat} (hx : ¬ isN x) (hy : ¬ isN y) : (F.order x y == some .gt || F.order x y == some .eq) = decide (sv y ≤ sv x) := by
  rw [gt_b hx hy, eq_b hx hy, ← Bool.decide_or]
  congr 1
  exact propext ⟨fun h => by omega, fun h => by omega⟩
theorem ord_n {x y : Nat} (h : isN x ∨ isN y) : F.order x y = none := order_nan h
theorem self_ne (x : Nat) : (F.order x x != some .eq) = decide (isN x) := by
  by_cases h : isN x
  · rw [ord_n (Or.inl h), decide_eq_true h]; rfl
  · rw [ne_b h h, decide_eq_false h, decide_eq_false (by simp)]
theorem neg_eq (b : Nat) : Op.negFloat .f64 b = b ^^^ 2 ^ 63 := rfl
theorem rg_neg (b : Nat) : rg (Op.negFloat .f64 b) = rg b := by
  have e : (9223372036854775808 : Nat) = 2 ^ 63 := by decide
  unfold rg
  rw [neg_eq, e, Nat.xor_mod_two_pow, Nat.mod_self, Nat.xor_zero]
theorem sg_neg {b : Nat} (h : b < 18446744073709551616) : sg (Op.negFloat .f64 b) = !sg b := by
  have e : (9223372036854775808 : Nat) = 2 ^ 63 := by decide
  unfold sg
  rw [neg_eq, e, Nat.xor_div_two_pow, Nat.div_self (Nat.two_pow_pos _), ← e]
  have : b / 9223372036854775808 = 0 ∨ b / 9223372036854775808 = 1 := by omega
  rcases this with h | h <;> rw [h] <;> rfl
theorem neg_lt {b : Nat} (h : b < 18446744073709551616) : Op.negFloat .f64 b < 18446744073709551616 := by
  rw [neg_eq]
  have e : (18446744073709551616 : Nat) = 2 ^ 64 := by decide
  rw [e] at h ⊢
  exact Nat.xor_lt_two_pow h (by decide)
theorem word_of {b : Nat} (h : b < 18446744073709551616) : b = double.word (sg b) (rg b) := by
  rw [word_eq]
  unfold sg rg
  have : b / 9223372036854775808 = 0 ∨ b / 9223372036854775808 = 1 := by omega
  rcases this with e | e <;> rw [e]
  · rw [if_neg (by decide)]; omega
  · rw [if_pos (by decide)]; omega

theorem whole_word (n : Int) : ∃ r, r ≤ infR ∧ floatOfInt .f64 n = double.word (decide (n < 0)) r := nearest_word _ _ _
theorem whole_exact (n : Int) (h : n.natAbs < 9007199254740992) : ∃ r, r < infR ∧ R r = n.natAbs * U ∧ floatOfInt .f64 n = double.word (decide (n < 0)) r := by
  have hK : n.natAbs * 2 ^ uE < Kinf := by
    refine Nat.lt_of_lt_of_le (Nat.mul_lt_mul_of_pos_right h (Nat.two_pow_pos _)) ?_
    decide +kernel
  have := nearest_rep (decide (n < 0)) n.natAbs 0 (rep_of n.natAbs uE h hK) (by
    have a1 : ((0:Int) + 1074).toNat = uE := rfl
    have a2 : (-((0:Int) + 1074)).toNat = 0 := rfl
    rw [a1, a2, Nat.pow_zero, Nat.mul_one])
  exact this

/-- 'int64(x)', 'int(x)'. -/
theorem toInt64 {x : Nat} (h : rg x < infR) (hb : R (rg x) / U < 9223372036854775808) : floatToIntVal .f64 x .i64 = some ((if sg x then -1 else 1) * ((R (rg x) / U : Nat) : Int)) := by
  unfold floatToIntVal
  have : FloatKind.f64.decode x = double.read x := rfl
  rw [this, toInt_fin h]
  have e1 : IntKind.i64.min = -9223372036854775808 := rfl
  have e2 : IntKind.i64.max = 9223372036854775807 := rfl
  generalize R (rg x) / U = q at hb
  simp only [e1, e2]
  rw [if_pos]
  cases sg x <;> simp <;> omega

/-- What is drawn where there is no number. -/
def nanOf (t : Nat) : Nat := (t % 2) * 2 ^ 63 + 0x7ff0000000000000 + 1 + (t / 2) % (2 ^ 52 - 1)
theorem nanOf_form (t : Nat) : ∃ a c : Nat, a < 2 ∧ c < 4503599627370495 ∧ nanOf t = a * 9223372036854775808 + 9218868437227405312 + 1 + c :=
  ⟨t % 2, t / 2 % 4503599627370495, by omega, by omega, rfl⟩
theorem nanOf_isN (t : Nat) : isN (nanOf t) := by
  obtain ⟨a, c, ha, hc, e⟩ := nanOf_form t
  rw [e]
  unfold isN rg infR
  omega
theorem nanOf_lt (t : Nat) : nanOf t < 18446744073709551616 := by
  obtain ⟨a, c, ha, hc, e⟩ := nanOf_form t
  rw [e]
  omega

section
variable {P : Program}
/-- An operation that has no number: its bits are drawn. -/
theorem run_none (w : World) (op : BinOp) (t : TypeId) (x y : Nat) (ho : op = .add ∨ op = .sub ∨ op = .mul ∨ op = .quo) (h : floatBits op .f64 x y = none) :
    (binOp op t (.float .f64 x) (.float .f64 y)).run P w = .ok (.float .f64 (nanOf (w.tape w.drawn (.nanBits .f64 x y)))) w.drew := by
  unfold floatBits at h
  rcases ho with rfl | rfl | rfl | rfl <;> simp only at h
  all_goals simp [binOp, Op.floatArith, h, Question.forced, Question.cut, nanOf]
end
end Go.Proofs.YtjnddfpieogpiaaGreatDoor.Fm
/- Real numbers of 64 bits: a quotient, rounded once. -/
namespace Go.Proofs.YtjnddfpieogpiaaGreatDoor.Fm
open Ieee

end Go.Proofs.YtjnddfpieogpiaaGreatDoor.Fm
/- Tests of whole and real numbers: the program's and the specification's. -/
namespace Go.Proofs.YtjnddfpieogpiaaGreatDoor
open Go.RowKit
set_option linter.unusedVariables false

theorem st_nilFunc (P : Program) (w : World) (a : Addr) (m : Mode) : (store a .nilFunc m).run P w = stored P w a .nilFunc m := run_store P w a _ m rfl
theorem st_func (P : Program) (w : World) (a : Addr) (m : Mode) (fn : Fn) (x y : Array Value) : (store a (.func fn x y) m).run P w = stored P w a (.func fn x y) m := run_store P w a _ m rfl
theorem st_float (P : Program) (w : World) (a : Addr) (m : Mode) (k : FloatKind) (x : Nat) : (store a (.float k x) m).run P w = stored P w a (.float k x) m := run_store P w a _ m rfl
attribute [go_sem] st_nilFunc st_func st_float

/-- What a test says of two whole numbers. -/
def wc (op a b : Int) : Bool := if op = 1 then decide (a < b) else if op = 2 then decide (a ≤ b) else if op = 3 then a == b else if op = 4 then a != b else if op = 5 then decide (b ≤ a) else if op = 6 then decide (b < a) else false
/-- What a test says of two real numbers. -/
def rc (op : Int) (a b : Nat) : Bool := if op = 1 then (Fm.F.order a b == some .lt) else if op = 2 then (Fm.F.order a b == some .lt || Fm.F.order a b == some .eq) else if op = 3 then (Fm.F.order a b == some .eq) else if op = 4 then (Fm.F.order a b != some .eq) else if op = 5 then (Fm.F.order a b == some .gt || Fm.F.order a b == some .eq) else if op = 6 then (Fm.F.order a b == some .gt) else false
end Go.Proofs.YtjnddfpieogpiaaGreatDoor
/- Decimals: the specification's l26Dec (of a seat without strconv). -/
namespace Go.Proofs.YtjnddfpieogpiaaGreatDoor
open Go.RowKit Go.Lib
set_option linter.unusedVariables false

open Go.Lib (decDigits itoa nDigits)

/-- A text out of its bytes. -/
def tx (l : List UInt8) : ByteArray := ⟨l.toArray⟩

theorem decDigits_step (u : Nat) (h : 10 ≤ u) : decDigits u = decDigits (u / 10) ++ [UInt8.ofNat (48 + u % 10)] := by
  rw [decDigits, dif_neg (by omega)]

theorem tx_size (l : List UInt8) : (tx l).size = l.length := by simp [tx, ByteArray.size]
theorem tx_append (a b : List UInt8) : tx a ++ tx b = tx (a ++ b) := by
  apply ByteArray.ext
  simp [tx]
theorem conv1 (wr : World) (y : Int) (d : Nat) (hy : y = d) (hd : d < 256) :
    (convert 22 9 (.slice (some ⟨wr.heap.size, 0, none⟩) 1 1)).run Tryz.prog (wr.alloc (.cells #[.int .u8 y] 5)) = .ok (.string (tx [UInt8.ofNat d])) (wr.alloc (.cells #[.int .u8 y] 5)) := by
  refine run_convert_bytes_back (P := Tryz.prog) _ 22 9 5 ⟨wr.heap.size, 0, none⟩ 1 [UInt8.ofNat d] Tryz.underlying22 Tryz.underlying5 Tryz.underlying9 ?_
  intro j hj
  have e : j = 0 := by simp at hj; exact hj
  subst e
  have e2 : (UInt8.ofNat d).toNat = d := by simp; omega
  simp [Addr.add, e2, hy]

set_option maxRecDepth 100000 in
set_option maxHeartbeats 1000000 in
theorem dec_pos (u : Nat) (hu : u ≤ 10000000000000000) (w : World) :
    Calls Tryz.prog 91 #[.int .i64 u] w fun e w' => e = .returned (.string (tx (decDigits u))) ∧ Below w.heap.size w w' := by
  go_enter Tryz.func91, Tryz.ntmps91
  go_wp2
  go_loopw [0, 3] (fun n o wr => ∃ (m : Nat) (l : List UInt8), m ≤ u ∧ n = .int .i64 m ∧ o = .string (tx l) ∧ Hid (decDigits u = decDigits m ++ l) ∧ l.length ≤ 100 ∧ Below w.heap.size w wr) (fun n _ _ => (RowKit.intOf n).toNat)
  case atStart => exact ⟨u, [], Nat.le_refl _, rfl, rfl, (List.append_nil _).symm, by simp, Below.refl _ _⟩
  case round =>
    obtain ⟨m, l, hm, rfl, rfl, hd, hl, hb⟩ := hrel
    obtain ⟨O, HO⟩ : ∃ O, Hid (O = tx l) := ⟨_, rfl⟩
    rw [← HO.out]
    have hO : O.size ≤ 100 := by rw [HO.out]; simpa [tx, ByteArray.size] using hl
    by_cases h9 : 9 < m
    · have cv := conv1 wr (48 + (m : Int) % 10) (48 + m % 10) (by omega) (by omega)
      obtain ⟨D, HD⟩ : ∃ D, Hid (D = tx [UInt8.ofNat (48 + m % 10)]) := ⟨_, rfl⟩
      rw [← HD.out] at cv
      have hD : D.size = 1 := by rw [HD.out]; rfl
      have hn : decDigits u = decDigits (m / 10) ++ (UInt8.ofNat (48 + m % 10) :: l) := by rw [hd.out, decDigits_step m (by omega), List.append_assoc]; rfl
      have hlen : (UInt8.ofNat (48 + m % 10) :: l).length ≤ 100 := by
        have h1 := Lib.itoa_length_le (u : Int) (by omega) (by omega)
        rw [Lib.itoa_nonneg, hn, List.length_append] at h1
        omega
      have HN : Hid (decDigits u = decDigits (m / 10) ++ (UInt8.ofNat (48 + m % 10) :: l)) := hn
      have HE : Hid (D ++ O = tx (UInt8.ofNat (48 + m % 10) :: l)) := by rw [HD.out, HO.out]; exact tx_append _ _
      clear hn hd HD HO
      go_wp2
      go_roundw
      case rel => exact ⟨m / 10, UInt8.ofNat (48 + m % 10) :: l, by omega, by go_num, congrArg Value.string HE.out, HN, hlen, hb.alloc hb.size _⟩
      case measure => simp [RowKit.intOf]; omega
    · have cv := conv1 wr (48 + (m : Int)) (48 + m) (by omega) (by omega)
      obtain ⟨D, HD⟩ : ∃ D, Hid (D = tx [UInt8.ofNat (48 + m)]) := ⟨_, rfl⟩
      rw [← HD.out] at cv
      have hD : D.size = 1 := by rw [HD.out]; rfl
      have HE : Hid (D ++ O = tx (decDigits u)) := by rw [HD.out, HO.out, hd.out, Lib.decDigits_one (by omega)]; exact tx_append _ _
      clear hd HD HO
      go_wp2
      go_ret
      exact ⟨congrArg (fun s => Ending.returned (Value.string s)) HE.out, hb.alloc hb.size _⟩

/-- The text of a number. -/
theorem tx_neg (u : Nat) (h : 1 ≤ u) : tx (itoa (-(u : Int))) = ⟨#[45]⟩ ++ tx (decDigits u) := by
  rw [Lib.itoa_neg u h]
  exact (tx_append [45] (decDigits u)).symm
theorem digits_size (u : Nat) (hu : u ≤ 10000000000000000) : (tx (decDigits u)).size ≤ 21 ∧ 1 ≤ (tx (decDigits u)).size := by
  rw [tx_size]
  have h1 := Lib.itoa_length_le (u : Int) (by omega) (by omega)
  rw [Lib.itoa_nonneg] at h1
  have h2 := Lib.nDigits_pos u
  rw [← Lib.decDigits_length] at h2
  exact ⟨h1, h2⟩

set_option maxRecDepth 100000 in
set_option maxHeartbeats 1000000 in
theorem dec_neg (u : Nat) (h : 1 ≤ u) (hu : u ≤ 10000000000000000) (w : World) :
    Calls Tryz.prog 91 #[.int .i64 (-(u : Int))] w fun e w' => e = .returned (.string (tx (itoa (-(u : Int))))) ∧ Below w.heap.size w w' := by
  rw [tx_neg u h]
  have HC : Hid (∀ W : World, Calls Tryz.prog 91 #[.int .i64 u] W fun e w' => e = .returned (.string (tx (decDigits u))) ∧ Below W.heap.size W w') := fun W => dec_pos u hu W
  have hs := digits_size u hu
  obtain ⟨D, HD⟩ : ∃ D, Hid (D = tx (decDigits u)) := ⟨_, rfl⟩
  rw [← HD.out] at HC hs ⊢
  clear HD
  have i1 : ¬ (-(u : Int) < -9223372036854775807) := by omega
  have i2 : -(u : Int) < 0 := by omega
  go_enter Tryz.func91, Tryz.ntmps91
  go_wp2_with fail
  refine (HC.out _).mono ?_
  rintro e w1 ⟨rfl, g1⟩
  go_wp2
  go_ret
  exact ⟨rfl, g1⟩

theorem dec_any (n : Int) (h0 : -10000000000000000 ≤ n) (h1 : n ≤ 10000000000000000) (w : World) :
    Calls Tryz.prog 91 #[.int .i64 n] w fun e w' => e = .returned (.string (tx (itoa n))) ∧ Below w.heap.size w w' := by
  by_cases h : 0 ≤ n
  · obtain ⟨u, rfl⟩ := Int.eq_ofNat_of_zero_le h
    rw [Lib.itoa_nonneg]
    exact dec_pos u (by omega) w
  · obtain ⟨u, hu⟩ := Int.eq_ofNat_of_zero_le (by omega : 0 ≤ -n)
    obtain rfl : n = -(u : Int) := by omega
    exact dec_neg u (by omega) (by omega) w
end Go.Proofs.YtjnddfpieogpiaaGreatDoor
