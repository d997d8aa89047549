/- Real numbers of 64 bits: decimal numbers, rounded once, keep their order. -/
import Derived.Test.YtkmejeebkckcpaaFmF
namespace Go.Proofs.Ytkmejeebkckcpaa.Fm
open Ieee

/-- The rung of A by a million. -/
def kA (a : Nat) : Nat := (a * U / 1000000).log2 - 52
def rA (a : Nat) : Nat := rhe (a * U) (1000000 * 2 ^ kA a)
def rungA (a : Nat) : Nat := if a = 0 then 0 else min (kA a * 4503599627370496 + rA a) infR

theorem big_U : 1000000 * 2 ^ 53 ≤ U := Nat.le_of_ble_eq_true (by decide +kernel)

theorem kA_spec {a : Nat} (h : 0 < a) : 1000000 * 2 ^ (52 + kA a) ≤ a * U ∧ a * U < 1000000 * 2 ^ (53 + kA a) := by
  have hb := big_U
  have hv : 2 ^ 53 ≤ a * U / 1000000 := by
    refine (Nat.le_div_iff_mul_le (by decide)).2 ?_
    have : U ≤ a * U := Nat.le_mul_of_pos_left _ h
    omega
  have hv0 : a * U / 1000000 ≠ 0 := by
    have := Nat.two_pow_pos 53
    omega
  have hl : 53 ≤ (a * U / 1000000).log2 := (Nat.le_log2 hv0).2 hv
  have e1 : 52 + kA a = (a * U / 1000000).log2 := by unfold kA; omega
  have e2 : 53 + kA a = (a * U / 1000000).log2 + 1 := by unfold kA; omega
  rw [e1, e2]
  have h1 := Nat.log2_self_le hv0
  have h2 := Nat.lt_log2_self (n := a * U / 1000000)
  have h3 := Nat.div_add_mod (a * U) 1000000
  have h4 := Nat.mod_lt (a * U) (show 0 < 1000000 by decide)
  generalize a * U / 1000000 = v at h1 h2 h3
  generalize 2 ^ v.log2 = x at h1
  generalize 2 ^ (v.log2 + 1) = y at h2
  omega

theorem rA_bd {a : Nat} (h : 0 < a) : 4503599627370496 ≤ rA a ∧ rA a ≤ 9007199254740992 := by
  obtain ⟨h1, h2⟩ := kA_spec h
  have e52 : (2:Nat) ^ 52 = 4503599627370496 := by decide
  have e53 : (2:Nat) ^ 53 = 9007199254740992 := by decide
  have hq : 0 < 1000000 * 2 ^ kA a := Nat.mul_pos (by decide) (Nat.two_pow_pos _)
  rw [Nat.pow_add, e52] at h1
  rw [Nat.pow_add, e53] at h2
  refine ⟨rhe_ge _ _ _ hq ?_, rhe_le _ _ _ hq ?_⟩
  · have : 1000000 * 2 ^ kA a * 4503599627370496 = 1000000 * (4503599627370496 * 2 ^ kA a) := by rw [Nat.mul_assoc, Nat.mul_comm (2 ^ kA a)]
    omega
  · have : 1000000 * 2 ^ kA a * 9007199254740992 = 1000000 * (9007199254740992 * 2 ^ kA a) := by rw [Nat.mul_assoc, Nat.mul_comm (2 ^ kA a)]
    omega

theorem R_rung {m k : Nat} (h1 : 4503599627370496 ≤ m) (h2 : m ≤ 9007199254740992) : R (k * 4503599627370496 + m) = m * 2 ^ k := by
  by_cases h : m < 9007199254740992
  · exact R_of m k h (.inl h1)
  · have e : m = 9007199254740992 := by omega
    subst e
    have e1 : k * 4503599627370496 + 9007199254740992 = (k + 1) * 4503599627370496 + 4503599627370496 := by omega
    rw [e1, R_of 4503599627370496 (k + 1) (by decide) (.inl (Nat.le_refl _)), Nat.pow_succ]
    have : 9007199254740992 = 4503599627370496 * 2 := by decide
    rw [this, Nat.mul_assoc, Nat.mul_comm 2]

theorem kA_small {a : Nat} (h : 0 < a) (h2 : a < 1000000000000000) : 4 * (1000000 * 2 ^ kA a) ≤ U := by
  obtain ⟨h1, -⟩ := kA_spec h
  have e52 : (2:Nat) ^ 52 = 4503599627370496 := by decide
  rw [Nat.pow_add, e52] at h1
  have h3 : a * U ≤ 1000000000000000 * U := Nat.mul_le_mul_right _ (by omega)
  generalize 2 ^ kA a = x at h1
  generalize U = u at h1 h3
  generalize a * u = y at h1 h3
  omega

theorem kA_lt {a : Nat} (h : 0 < a) (h2 : a < 1000000000000000) : kA a < uE := by
  have h1 := kA_small h h2
  have h3 : 2 ^ kA a < U := by
    have := Nat.two_pow_pos (kA a)
    generalize 2 ^ kA a = x at h1 this
    omega
  have h4 : 2 ^ kA a < 2 ^ uE := h3
  exact pow_lt_inv h4

/-- The rung of a decimal number, its magnitude, how far off it is. -/
theorem rungA_spec {a : Nat} (h2 : a < 1000000000000000) : rungA a < infR ∧ 8 * (R (rungA a) * 1000000) ≤ 8 * (a * U) + U ∧ 8 * (a * U) ≤ 8 * (R (rungA a) * 1000000) + U := by
  by_cases h : a = 0
  · subst h
    have e0 : rungA 0 = 0 := if_pos rfl
    rw [e0, R_zero, Nat.zero_mul, Nat.zero_mul]
    exact ⟨by decide, by omega, by omega⟩
  · have ha : 0 < a := Nat.pos_of_ne_zero h
    have hk := kA_lt ha h2
    have hu : uE = 1074 := rfl
    rw [hu] at hk
    obtain ⟨b1, b2⟩ := rA_bd ha
    have hr : rungA a = kA a * 4503599627370496 + rA a := by
      unfold rungA
      rw [if_neg h]
      refine Nat.min_eq_left ?_
      unfold infR
      omega
    rw [hr, R_rung b1 b2]
    refine ⟨by unfold infR; omega, ?_⟩
    have hq : 0 < 1000000 * 2 ^ kA a := Nat.mul_pos (by decide) (Nat.two_pow_pos _)
    obtain ⟨e1, e2⟩ := rhe_err (a * U) (1000000 * 2 ^ kA a) hq
    have hs := kA_small ha h2
    have er : rA a * 2 ^ kA a * 1000000 = 1000000 * 2 ^ kA a * rhe (a * U) (1000000 * 2 ^ kA a) := by
      show rhe (a * U) (1000000 * 2 ^ kA a) * 2 ^ kA a * 1000000 = _
      rw [Nat.mul_assoc, Nat.mul_comm (2 ^ kA a), Nat.mul_comm]
    rw [er]
    generalize 1000000 * 2 ^ kA a * rhe (a * U) (1000000 * 2 ^ kA a) = x at e1 e2
    generalize 1000000 * 2 ^ kA a = y at e1 e2 hs
    generalize U = u at e1 e2 hs
    omega

theorem pow10_split {p : Nat} (h : p ≤ 6) : 10 ^ p * 10 ^ (6 - p) = 1000000 := by
  rw [← Nat.pow_add]
  have : p + (6 - p) = 6 := by omega
  rw [this]

theorem nearest_zero (neg : Bool) (place : Int) : double.nearest neg 0 place = double.word neg 0 := by
  unfold Format.nearest
  rw [if_pos rfl]

/-- N by 10 to the P hangs on N times 10 to the 6-P alone. -/
theorem div_dec (n : Int) (p y : Nat) (hp : p ≤ 6) (hn : n.natAbs ≤ 999999999) (hy : rg y < infR) (ys : sg y = false) (hR : R (rg y) = 10 ^ p * U) :
    double.div (floatOfInt .f64 n) y = some (double.word (decide (n < 0)) (rungA (n.natAbs * 10 ^ (6 - p)))) := by
  have hpw : 0 < 10 ^ (6 - p) := Nat.pow_pos (by decide)
  have hsp := pow10_split hp
  obtain ⟨r, h1, h2, h3⟩ := whole_exact n (by omega)
  have hx1 : rg (floatOfInt .f64 n) = r := by rw [h3, rg_word _ (Nat.le_of_lt h1)]
  have hx2 : sg (floatOfInt .f64 n) = decide (n < 0) := by rw [h3, sg_word _ (Nat.le_of_lt h1)]
  have y0 : 0 < R (rg y) := by rw [hR]; exact Nat.mul_pos (Nat.pow_pos (by decide)) U_pos
  by_cases h0 : n = 0
  · subst h0
    have hr0 : r = 0 := R_pos (by rw [h2]; simp)
    obtain ⟨m, i, e, hm⟩ := read_num hy y0
    have hz : double.read (floatOfInt .f64 0) = .number false 0 (-1074) := by decide +kernel
    unfold Format.div
    rw [hz, e, ys]
    unfold Datum.quotient
    simp only [if_neg hm, Nat.zero_shiftLeft, Nat.zero_div, Nat.zero_mod]
    have e0 : rungA ((0 : Int).natAbs * 10 ^ (6 - p)) = 0 := by
      rw [Int.natAbs_zero, Nat.zero_mul]; exact if_pos rfl
    rw [e0]
    have e1 : 2 * 0 + ((0 : Nat) != 0).toNat = 0 := rfl
    rw [e1]
    show some (double.nearest (false ^^ false) 0 _) = _
    rw [nearest_zero]
    rfl
  · have hA : 0 < n.natAbs * 10 ^ (6 - p) := Nat.mul_pos (by omega) hpw
    have hsc : ∀ k : Nat, R (rg y) * 2 ^ k * 10 ^ (6 - p) = 1000000 * 2 ^ k * U := fun k => by
      rw [hR]
      calc 10 ^ p * U * 2 ^ k * 10 ^ (6 - p) = 10 ^ p * 10 ^ (6 - p) * 2 ^ k * U := by
            simp only [Nat.mul_comm, Nat.mul_left_comm, Nat.mul_assoc]
        _ = _ := by rw [hsp]
    have hsx : R r * U * 10 ^ (6 - p) = n.natAbs * 10 ^ (6 - p) * U * U := by
      rw [h2]
      simp only [Nat.mul_comm, Nat.mul_assoc]
    obtain ⟨g1, g2⟩ := kA_spec hA
    have f1 : R (rg y) * 2 ^ (52 + kA (n.natAbs * 10 ^ (6 - p))) ≤ R (rg (floatOfInt .f64 n)) * U := by
      rw [hx1]
      refine Nat.le_of_mul_le_mul_right ?_ hpw
      rw [hsc, hsx]
      exact Nat.mul_le_mul_right _ g1
    have f2 : R (rg (floatOfInt .f64 n)) * U < R (rg y) * 2 ^ (53 + kA (n.natAbs * 10 ^ (6 - p))) := by
      rw [hx1]
      refine Nat.lt_of_mul_lt_mul_right (a := 10 ^ (6 - p)) ?_
      rw [hsc, hsx]
      exact Nat.mul_lt_mul_of_pos_right g2 U_pos
    have x0 : 0 < R (rg (floatOfInt .f64 n)) := by rw [hx1, h2]; exact Nat.mul_pos (by omega) U_pos
    rw [div_round (by rw [hx1]; exact h1) hy x0 y0 _ f1 f2, hx2, ys, Bool.xor_false]
    have fin : rhe (R (rg (floatOfInt .f64 n)) * U) (R (rg y) * 2 ^ kA (n.natAbs * 10 ^ (6 - p))) = rA (n.natAbs * 10 ^ (6 - p)) := by
      rw [← rhe_scale _ _ _ hpw, hx1, hsx, hsc]
      exact rhe_scale _ _ _ U_pos
    rw [fin]
    unfold rungA
    rw [if_neg (Nat.ne_of_gt hA)]

/-- The real number of A by a million. -/
def decOf (A : Int) : Nat := double.word (decide (A < 0)) (rungA A.natAbs)

theorem decOf_notN {A : Int} (h : A.natAbs < 1000000000000000) : ¬ isN (decOf A) := notN_word _ (Nat.le_of_lt (rungA_spec h).1)
theorem decOf_lt {A B : Int} (ha : A.natAbs < 1000000000000000) (hb : B.natAbs < 1000000000000000) (h : A < B) : sv (decOf A) < sv (decOf B) := by
  obtain ⟨a1, a2, a3⟩ := rungA_spec ha
  obtain ⟨b1, b2, b3⟩ := rungA_spec hb
  have hU := U_pos
  unfold decOf sv
  rw [rg_word _ (Nat.le_of_lt a1), sg_word _ (Nat.le_of_lt a1), rg_word _ (Nat.le_of_lt b1), sg_word _ (Nat.le_of_lt b1)]
  have e : ∀ (C : Int), ((C.natAbs * U : Nat) : Int) = (if C < 0 then -1 else 1) * (C * U) := fun C => by
    rw [Int.natCast_mul]
    by_cases hC : C < 0
    · have e1 : ((C.natAbs : Nat) : Int) = -C := by omega
      rw [if_pos hC, e1, Int.neg_mul, Int.neg_mul, Int.one_mul]
    · have e1 : ((C.natAbs : Nat) : Int) = C := by omega
      rw [if_neg hC, e1, Int.one_mul]
  have eA := e A
  have eB := e B
  have hAB : A * U + U ≤ B * U := by
    have : (A + 1) * (U : Int) ≤ B * U := Int.mul_le_mul_of_nonneg_right (by omega) (by omega)
    rw [Int.add_mul, Int.one_mul] at this
    exact this
  generalize A.natAbs * U = x at a2 a3 eA
  generalize B.natAbs * U = y at b2 b3 eB
  generalize R (rungA A.natAbs) = r at a2 a3
  generalize R (rungA B.natAbs) = s at b2 b3
  generalize A * (U : Int) = p at eA hAB
  generalize B * (U : Int) = q at eB hAB
  generalize U = u at a2 a3 b2 b3 hU hAB
  by_cases hA : A < 0 <;> by_cases hB : B < 0
  all_goals
    simp only [hA, hB, decide_true, decide_false, if_true, if_false, Bool.false_eq_true] at eA eB ⊢
    omega
end Go.Proofs.Ytkmejeebkckcpaa.Fm
