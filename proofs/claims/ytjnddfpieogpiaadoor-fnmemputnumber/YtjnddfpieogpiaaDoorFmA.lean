/- Real numbers of 64 bits: what a word stands for, and where nothing is rounded. -/
import Derived.Laws.FloatArith
namespace Go.Proofs.YtjnddfpieogpiaaDoor.Fm
open Ieee

def sg (b : Nat) : Bool := b / 9223372036854775808 % 2 == 1
def rg (b : Nat) : Nat := b % 9223372036854775808
/-- The magnitude of a rung, in units of the smallest number. -/
def R (r : Nat) : Nat := if r < 4503599627370496 then r else (4503599627370496 + r % 4503599627370496) * 2 ^ (r / 4503599627370496 - 1)
def infR : Nat := 9218868437227405312
def isN (b : Nat) : Prop := infR < rg b
instance (b : Nat) : Decidable (isN b) := inferInstanceAs (Decidable (_ < _))
def sv (b : Nat) : Int := if sg b then -(R (rg b) : Int) else (R (rg b) : Int)

theorem sw : double.signWeight = 9223372036854775808 := by decide
theorem bin : double.binade = 4503599627370496 := by decide
theorem infr : double.infRung = 9218868437227405312 := by decide
theorem least : double.leastPlace = -1074 := by decide

theorem read_eq (b : Nat) : double.read b =
    if rg b < 4503599627370496 then .number (sg b) (rg b) (-1074)
    else if rg b < infR then .number (sg b) (4503599627370496 + rg b % 4503599627370496) (-1074 + (rg b / 4503599627370496 - 1 : Nat))
    else if rg b = infR then .infinity (sg b)
    else .nan (sg b) (rg b - infR) := by
  unfold Format.read
  rw [sw, bin, infr, least]
  rfl

/-- A finite number, opened. -/
theorem read_fin {b : Nat} (h : rg b < infR) : ∃ m k : Nat, double.read b = .number (sg b) m (-1074 + (k : Int)) ∧ R (rg b) = m * 2 ^ k ∧ m < 9007199254740992 ∧ k < 2046 ∧ (4503599627370496 ≤ m ∨ k = 0) := by
  rw [read_eq]
  by_cases h0 : rg b < 4503599627370496
  · refine ⟨rg b, 0, ?_, ?_, ?_, ?_, ?_⟩
    · rw [if_pos h0]; rfl
    · unfold R; rw [if_pos h0]; simp
    · omega
    · omega
    · right; rfl
  · refine ⟨4503599627370496 + rg b % 4503599627370496, rg b / 4503599627370496 - 1, ?_, ?_, ?_, ?_, ?_⟩
    · rw [if_neg h0, if_pos h]
    · unfold R; rw [if_neg h0]
    · omega
    · unfold infR at h; omega
    · left; omega

theorem read_inf {b : Nat} (h : rg b = infR) : double.read b = .infinity (sg b) := by
  rw [read_eq, if_neg (by rw [h]; decide), if_neg (by rw [h]; decide), if_pos h]

theorem read_nan {b : Nat} (h : isN b) : ∃ t, double.read b = .nan (sg b) t := by
  unfold isN at h
  have : infR = 9218868437227405312 := rfl
  exact ⟨rg b - infR, by rw [read_eq, if_neg (by omega), if_neg (by omega), if_neg (by omega)]⟩

def Kinf : Nat := 2 ^ 2098
theorem Kinf_eq : Kinf = 2 ^ 53 * 2 ^ 2045 := by decide +kernel
theorem Kinf_pos : 0 < Kinf := by decide +kernel
theorem R_inf : R infR = Kinf := by decide +kernel

theorem R_fin_lt {r : Nat} (h : r < infR) : R r < Kinf := by
  unfold R
  split
  · refine Nat.lt_of_lt_of_le (by assumption) ?_
    exact (by decide +kernel : 4503599627370496 ≤ Kinf)
  · have h1 : r / 4503599627370496 - 1 ≤ 2045 := by unfold infR at h; omega
    have h2 : (4503599627370496 + r % 4503599627370496) < 2 ^ 53 := by
      have : (2:Nat) ^ 53 = 9007199254740992 := by decide
      omega
    calc (4503599627370496 + r % 4503599627370496) * 2 ^ (r / 4503599627370496 - 1)
        < 2 ^ 53 * 2 ^ (r / 4503599627370496 - 1) := Nat.mul_lt_mul_of_pos_right h2 (Nat.two_pow_pos _)
      _ ≤ 2 ^ 53 * 2 ^ 2045 := Nat.mul_le_mul_left _ (Nat.pow_le_pow_right (by decide) h1)
      _ = Kinf := Kinf_eq.symm

theorem order_nan {x y : Nat} (h : isN x ∨ isN y) : double.order x y = none := by
  unfold Format.order
  rcases h with h | h
  · obtain ⟨t, e⟩ := read_nan h
    rw [e]; rfl
  · obtain ⟨t, e⟩ := read_nan h
    rw [e]; cases double.read x <;> rfl

theorem cmp_mul {a b : Int} {c : Int} (hc : 0 < c) : compare (a * c) (b * c) = compare a b := by
  rcases Int.lt_trichotomy a b with h | h | h
  · rw [Int.compare_eq_lt.2 h, Int.compare_eq_lt.2 (Int.mul_lt_mul_of_pos_right h hc)]
  · subst h; rw [Int.compare_eq_eq.2 rfl, Int.compare_eq_eq.2 rfl]
  · rw [Int.compare_eq_gt.2 h, Int.compare_eq_gt.2 (Int.mul_lt_mul_of_pos_right h hc)]

theorem signed_eq (s : Bool) (m u : Nat) : signed s m u = (if s then -1 else 1) * ((m * 2 ^ u : Nat) : Int) := by
  unfold signed
  cases s
  · rw [if_neg (by decide), if_neg (by decide), Nat.shiftLeft_eq, Int.one_mul]
  · rw [if_pos rfl, if_pos rfl, Nat.shiftLeft_eq, Int.neg_mul, Int.one_mul]

theorem sv_eq (b : Nat) : sv b = (if sg b then -1 else 1) * (R (rg b) : Int) := by
  unfold sv
  cases sg b <;> simp

theorem order_fin {x y : Nat} (hx : rg x < infR) (hy : rg y < infR) : double.order x y = some (compare (sv x) (sv y)) := by
  obtain ⟨m, k, e1, r1, -, -, -⟩ := read_fin hx
  obtain ⟨n, l, e2, r2, -, -, -⟩ := read_fin hy
  unfold Format.order
  rw [e1, e2]
  show some (compare (signed (sg x) m ((-1074 + (k:Int)) - min (-1074 + (k:Int)) (-1074 + (l:Int))).toNat) (signed (sg y) n ((-1074 + (l:Int)) - min (-1074 + (k:Int)) (-1074 + (l:Int))).toNat)) = _
  rw [signed_eq, signed_eq, sv_eq, sv_eq, r1, r2]
  congr 1
  have ha : ((-1074 + (k:Int)) - min (-1074 + (k:Int)) (-1074 + (l:Int))).toNat = k - min k l := by omega
  have hb : ((-1074 + (l:Int)) - min (-1074 + (k:Int)) (-1074 + (l:Int))).toNat = l - min k l := by omega
  rw [ha, hb]
  have hc : (0:Int) < ((2 ^ (min k l) : Nat) : Int) := Int.ofNat_lt.2 (Nat.two_pow_pos _)
  rw [← cmp_mul hc]
  have e3 : m * 2 ^ k = m * 2 ^ (k - min k l) * 2 ^ (min k l) := by
    rw [Nat.mul_assoc, ← Nat.pow_add]; congr 2; omega
  have e4 : n * 2 ^ l = n * 2 ^ (l - min k l) * 2 ^ (min k l) := by
    rw [Nat.mul_assoc, ← Nat.pow_add]; congr 2; omega
  rw [e3, e4]
  simp only [Int.mul_assoc, Int.natCast_mul]

theorem order_eq {x y : Nat} (hx : ¬ isN x) (hy : ¬ isN y) : double.order x y = some (compare (sv x) (sv y)) := by
  unfold isN at hx hy
  by_cases h1 : rg x < infR
  · by_cases h2 : rg y < infR
    · exact order_fin h1 h2
    · have h2 : rg y = infR := by omega
      obtain ⟨m, k, e1, r1, -, -, -⟩ := read_fin h1
      have b1 := R_fin_lt h1
      unfold Format.order
      rw [e1, read_inf h2]
      show some (if sg y then Ordering.gt else Ordering.lt) = _
      congr 1
      unfold sv
      rw [h2, R_inf]
      generalize Kinf = K at b1 ⊢
      symm
      cases sg y <;> cases sg x <;> simp only [Bool.false_eq_true, if_false, if_true]
      all_goals first | (refine Int.compare_eq_lt.2 ?_; omega) | (refine Int.compare_eq_gt.2 ?_; omega)
  · have h1 : rg x = infR := by omega
    by_cases h2 : rg y < infR
    · obtain ⟨m, k, e1, r1, -, -, -⟩ := read_fin h2
      have b1 := R_fin_lt h2
      unfold Format.order
      rw [e1, read_inf h1]
      show some (if sg x then Ordering.lt else Ordering.gt) = _
      congr 1
      unfold sv
      rw [h1, R_inf]
      generalize Kinf = K at b1 ⊢
      symm
      cases sg y <;> cases sg x <;> simp only [Bool.false_eq_true, if_false, if_true]
      all_goals first | (refine Int.compare_eq_lt.2 ?_; omega) | (refine Int.compare_eq_gt.2 ?_; omega)
    · have h2 : rg y = infR := by omega
      unfold Format.order
      rw [read_inf h1, read_inf h2]
      show some (compare (sg y).toNat (sg x).toNat) = _
      congr 1
      unfold sv
      rw [h1, h2, R_inf]
      have hp := Kinf_pos
      generalize Kinf = K at hp ⊢
      cases sg y <;> cases sg x <;> simp only [Bool.false_eq_true, if_false, if_true]
      · rw [Int.compare_eq_eq.2 rfl]; rfl
      · rw [Int.compare_eq_lt.2 (by omega)]; rfl
      · rw [Int.compare_eq_gt.2 (by omega)]; rfl
      · rw [Int.compare_eq_eq.2 rfl]; rfl
end Go.Proofs.YtjnddfpieogpiaaDoor.Fm
