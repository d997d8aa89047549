/- Real numbers of 64 bits: a quotient, rounded once. -/
import Derived.Test.YtjnddfpieogpiaaDoorFmD
namespace Go.Proofs.YtjnddfpieogpiaaDoor.Fm
open Ieee

/-- The nearest whole number to p / q, to even. -/
def rhe (p q : Nat) : Nat := p / q + (decide (q < 2 * (p % q)) || (q == 2 * (p % q) && p / q % 2 == 1)).toNat

theorem rhe_scale (p q s : Nat) (hs : 0 < s) : rhe (p * s) (q * s) = rhe p q := by
  unfold rhe
  rw [Nat.mul_div_mul_right _ _ hs, Nat.mul_mod_mul_right]
  have e1 : (q * s < 2 * (p % q * s)) = (q < 2 * (p % q)) := by
    rw [← Nat.mul_assoc]
    exact propext ⟨fun h => Nat.lt_of_mul_lt_mul_right h, fun h => Nat.mul_lt_mul_of_pos_right h hs⟩
  have e2 : (q * s == 2 * (p % q * s)) = (q == 2 * (p % q)) := by
    rw [← Nat.mul_assoc]
    by_cases h : q = 2 * (p % q)
    · rw [← h]; simp
    · rw [beq_eq_false_iff_ne.2 h, beq_eq_false_iff_ne]
      exact fun h' => h (Nat.eq_of_mul_eq_mul_right hs h')
  rw [e2]
  simp only [e1]

theorem cut_even (neg : Bool) (n drop : Nat) : Toward.even.cut neg n drop = rhe n (2 ^ drop) := by
  unfold Toward.cut rhe
  simp only [Nat.one_shiftLeft]
  by_cases h : drop ≤ n.log2 + 2
  · rw [Nat.min_eq_left h]
  · rw [Nat.min_eq_right (by omega)]
    have h1 : 2 * n < 2 ^ (n.log2 + 2) := by
      have := Nat.lt_log2_self (n := n)
      rw [Nat.pow_succ]; omega
    have h2 : 2 ^ (n.log2 + 2) ≤ 2 ^ drop := Nat.pow_le_pow_right (by decide) (by omega)
    generalize 2 ^ (n.log2 + 2) = a at h1 h2
    generalize 2 ^ drop = b at h2
    rw [Nat.div_eq_of_lt (show n < a by omega), Nat.mod_eq_of_lt (show n < a by omega), Nat.div_eq_of_lt (show n < b by omega), Nat.mod_eq_of_lt (show n < b by omega)]
    have d1 : ¬ a < 2 * n := by omega
    have d2 : ¬ b < 2 * n := by omega
    simp [d1, d2]

theorem rhe_err (p q : Nat) (hq : 0 < q) : 2 * (q * rhe p q) ≤ 2 * p + q ∧ 2 * p ≤ 2 * (q * rhe p q) + q := by
  unfold rhe
  have h1 := Nat.div_add_mod p q
  have h2 := Nat.mod_lt p hq
  generalize p / q = f at h1
  generalize p % q = t at h1 h2
  have h3 : p = q * f + t := h1.symm
  subst h3
  by_cases c : q < 2 * t
  · simp only [c, decide_true, Bool.true_or, Bool.toNat_true, Nat.mul_add, Nat.mul_one]
    omega
  · by_cases d : q = 2 * t
    · by_cases e : f % 2 == 1
      · have : (decide (q < 2 * t) || (q == 2 * t && f % 2 == 1)) = true := by rw [e]; simp [d]
        rw [this]
        simp only [Bool.toNat_true, Nat.mul_add, Nat.mul_one]
        omega
      · have e : (f % 2 == 1) = false := by simpa using e
        have : (decide (q < 2 * t) || (q == 2 * t && f % 2 == 1)) = false := by rw [e]; simp [c]
        rw [this]
        simp only [Bool.toNat_false, Nat.mul_add, Nat.add_zero]
        omega
    · have : (decide (q < 2 * t) || (q == 2 * t && f % 2 == 1)) = false := by simp [c, d]
      rw [this]
      simp only [Bool.toNat_false, Nat.mul_add, Nat.add_zero]
      omega

theorem rhe_le (p q c : Nat) (hq : 0 < q) (h : p ≤ q * c) : rhe p q ≤ c := by
  have h1 := (rhe_err p q hq).1
  have : q * (2 * rhe p q) ≤ q * (2 * c + 1) := by
    have a1 : q * (2 * rhe p q) = 2 * (q * rhe p q) := by rw [Nat.mul_left_comm]
    have a2 : q * (2 * c + 1) = 2 * (q * c) + q := by rw [Nat.mul_add, Nat.mul_one, Nat.mul_left_comm]
    omega
  have := Nat.le_of_mul_le_mul_left this hq
  omega
theorem rhe_ge (p q c : Nat) (hq : 0 < q) (h : q * c ≤ p) : c ≤ rhe p q := by
  have h1 := (rhe_err p q hq).2
  have : q * (2 * c) ≤ q * (2 * rhe p q + 1) := by
    have a1 : q * (2 * c) = 2 * (q * c) := by rw [Nat.mul_left_comm]
    have a2 : q * (2 * rhe p q + 1) = 2 * (q * rhe p q) + q := by rw [Nat.mul_add, Nat.mul_one, Nat.mul_left_comm]
    omega
  have := Nat.le_of_mul_le_mul_left this hq
  omega

/-- One digit more, which is 1 where anything is left over, rounds as the whole does. -/
theorem rhe_sticky (D n e : Nat) (hn : 0 < n) : rhe (2 * (D / n) + (D % n != 0).toNat) (2 ^ (e + 2)) = rhe D (n * 2 ^ (e + 1)) := by
  have h2 : (0:Nat) < 2 ^ (e + 1) := Nat.two_pow_pos _
  have hH : (2:Nat) ^ (e + 2) = 2 * 2 ^ (e + 1) := by rw [Nat.pow_succ, Nat.mul_comm]
  have hH1 : (2:Nat) ^ (e + 1) = 2 * 2 ^ e := by rw [Nat.pow_succ, Nat.mul_comm]
  have hG : (0:Nat) < 2 ^ e := Nat.two_pow_pos _
  rw [hH]
  have d0 := Nat.div_add_mod D n
  have d1 := Nat.mod_lt D hn
  generalize hg : D / n = g at d0
  generalize hr : D % n = r at d0 d1
  -- the quotient by n * H
  have q1 : D / (n * 2 ^ (e + 1)) = g / 2 ^ (e + 1) := by rw [← Nat.div_div_eq_div_mul, hg]
  have q2 : D % (n * 2 ^ (e + 1)) = n * (g % 2 ^ (e + 1)) + r := by
    rw [Nat.mod_mul, hg, hr]; omega
  unfold rhe
  rw [q1, q2]
  have st : (r != 0).toNat ≤ 1 := by cases (r != 0) <;> decide
  have f1 : (2 * g + (r != 0).toNat) / (2 * 2 ^ (e + 1)) = g / 2 ^ (e + 1) := by
    rw [← Nat.div_div_eq_div_mul]
    have : (2 * g + (r != 0).toNat) / 2 = g := by omega
    rw [this]
  have f2 : (2 * g + (r != 0).toNat) % (2 * 2 ^ (e + 1)) = 2 * (g % 2 ^ (e + 1)) + (r != 0).toNat := by
    rw [Nat.mod_mul]
    have a : (2 * g + (r != 0).toNat) / 2 = g := by omega
    have b : (2 * g + (r != 0).toNat) % 2 = (r != 0).toNat := by omega
    rw [a, b]; omega
  rw [f1, f2, hH1]
  have hlt := Nat.mod_lt g h2
  rw [hH1] at hlt
  generalize g % (2 * 2 ^ e) = y at hlt
  generalize g / (2 * 2 ^ e) = z
  generalize 2 ^ e = G at hG hlt
  -- compare 2G·2 with 2(2y+st), and n·2G with 2(ny+r)
  have nG : n * (2 * G) = 2 * (n * G) := by rw [Nat.mul_left_comm]
  by_cases hr0 : r = 0
  · subst hr0
    have e0 : ((0:Nat) != 0).toNat = 0 := rfl
    rw [e0, Nat.add_zero, Nat.add_zero]
    have c1 : (2 * (2 * G) < 2 * (2 * y)) = (n * (2 * G) < 2 * (n * y)) := by
      rw [nG]
      refine propext ⟨fun h => ?_, fun h => ?_⟩
      · have : n * G < n * y := Nat.mul_lt_mul_of_pos_left (by omega) hn
        omega
      · have : n * G < n * y := by omega
        have := Nat.lt_of_mul_lt_mul_left this
        omega
    have c2 : (2 * (2 * G) == 2 * (2 * y)) = (n * (2 * G) == 2 * (n * y)) := by
      rw [nG]
      by_cases h : G = y
      · subst h; simp
      · rw [beq_eq_false_iff_ne.2 (by omega), Eq.comm, beq_eq_false_iff_ne]
        intro h'
        have : n * G = n * y := by omega
        exact h (Nat.eq_of_mul_eq_mul_left hn this)
    rw [c2]
    simp only [c1]
  · have e0 : (r != 0).toNat = 1 := by
      have : (r != 0) = true := by simp [hr0]
      rw [this]; rfl
    rw [e0]
    have c1 : (2 * (2 * G) < 2 * (2 * y + 1)) = (n * (2 * G) < 2 * (n * y + r)) := by
      rw [nG]
      refine propext ⟨fun h => ?_, fun h => ?_⟩
      · have : n * G ≤ n * y := Nat.mul_le_mul_left _ (by omega)
        omega
      · by_cases hy : G ≤ y
        · omega
        · exfalso
          have h5 : n * (y + 1) ≤ n * G := Nat.mul_le_mul_left _ (by omega)
          rw [Nat.mul_add, Nat.mul_one] at h5
          omega
    have c2 : (2 * (2 * G) == 2 * (2 * y + 1)) = false := by rw [beq_eq_false_iff_ne]; omega
    have c3 : (n * (2 * G) == 2 * (n * y + r)) = false := by
      rw [nG, beq_eq_false_iff_ne]
      intro h
      by_cases hy : G ≤ y
      · have : n * G ≤ n * y := Nat.mul_le_mul_left _ hy
        omega
      · have h5 : n * (y + 1) ≤ n * G := Nat.mul_le_mul_left _ (by omega)
        rw [Nat.mul_add, Nat.mul_one] at h5
        omega
    rw [c2, c3]
    simp only [c1]

theorem sticky_lt (D n c : Nat) (hn : 0 < n) : 2 * (D / n) + (D % n != 0).toNat < 2 ^ (c + 1) ↔ D < n * 2 ^ c := by
  have st : (D % n != 0).toNat ≤ 1 := by cases (D % n != 0) <;> decide
  have h2 : (2:Nat) ^ (c + 1) = 2 * 2 ^ c := by rw [Nat.pow_succ, Nat.mul_comm]
  rw [h2]
  have : D < n * 2 ^ c ↔ D / n < 2 ^ c := by rw [Nat.div_lt_iff_lt_mul hn, Nat.mul_comm]
  rw [this]
  omega

theorem num1 (c a b k m u : Nat) (h : 54 ≤ c) (e : c + a + u = b + 53 + k + m) : c - 54 + 1 + (a + u) = b + k + m := by omega

/-- A quotient of two numbers above 0, if it is not among the smallest: rounded once. -/
theorem div_round {x y : Nat} (hx : rg x < infR) (hy : rg y < infR) (x0 : 0 < R (rg x)) (y0 : 0 < R (rg y)) (k : Nat)
    (h1 : R (rg y) * 2 ^ (52 + k) ≤ R (rg x) * U) (h2 : R (rg x) * U < R (rg y) * 2 ^ (53 + k)) :
    double.div x y = some (double.word (sg x ^^ sg y) (min (k * 4503599627370496 + rhe (R (rg x) * U) (R (rg y) * 2 ^ k)) infR)) := by
  obtain ⟨m, a, e1, r1, m1, -, -⟩ := read_fin hx
  obtain ⟨n, b, e2, r2, n1, -, -⟩ := read_fin hy
  have p2 : ∀ a : Nat, 0 < 2 ^ a := fun a => Nat.two_pow_pos a
  have hm : m ≠ 0 := by
    intro e; rw [r1, e, Nat.zero_mul] at x0; omega
  have hn : n ≠ 0 := by
    intro e; rw [r2, e, Nat.zero_mul] at y0; omega
  have hn' : 0 < n := Nat.pos_of_ne_zero hn
  have e53 : (2:Nat) ^ 53 = 9007199254740992 := by decide
  have lm : m.log2 < 53 := (Nat.log2_lt hm).2 (by omega)
  have ln : n.log2 < 53 := (Nat.log2_lt hn).2 (by omega)
  let more := 54 + n.log2 - m.log2
  have hmore : more + m.log2 = 54 + n.log2 := by show 54 + n.log2 - m.log2 + m.log2 = _; omega
  unfold Format.div
  rw [e1, e2]
  have hq : (Datum.number (sg x) m (-1074 + (a:Int))).quotient (double.fractionBits + 2) (Datum.number (sg y) n (-1074 + (b:Int))) =
      some (.number (sg x ^^ sg y) (2 * ((m <<< more) / n) + ((m <<< more) % n != 0).toNat) ((-1074 + (a:Int)) - (-1074 + (b:Int)) - more - 1)) := by
    unfold Datum.quotient
    simp only [if_neg hn]
    rfl
  rw [hq]
  show some (double.nearest _ _ _) = _
  rw [Nat.shiftLeft_eq]
  have hD : n * 2 ^ 53 ≤ m * 2 ^ more := by
    calc n * 2 ^ 53 ≤ 2 ^ (n.log2 + 1) * 2 ^ 53 := Nat.mul_le_mul_right _ (Nat.le_of_lt Nat.lt_log2_self)
      _ = 2 ^ m.log2 * 2 ^ more := by rw [← Nat.pow_add, ← Nat.pow_add]; have : n.log2 + 1 + 53 = m.log2 + more := by omega
                                      rw [this]
      _ ≤ m * 2 ^ more := Nat.mul_le_mul_right _ (Nat.log2_self_le hm)
  generalize hM : 2 * (m * 2 ^ more / n) + (m * 2 ^ more % n != 0).toNat = M
  have hge : 2 ^ 54 ≤ M := by
    rw [← hM]
    exact Nat.le_of_not_lt fun h => by
      have := (sticky_lt (m * 2 ^ more) n 53 hn').1 h
      omega
  have hM0 : M ≠ 0 := by have := p2 54; omega
  have hc : 54 ≤ M.log2 := (Nat.le_log2 hM0).2 hge
  -- c = M.log2
  have c1 : n * 2 ^ (M.log2 - 1) ≤ m * 2 ^ more := Nat.le_of_not_lt fun h => by
    have := (sticky_lt (m * 2 ^ more) n (M.log2 - 1) hn').2 h
    rw [hM, Nat.sub_add_cancel (by omega)] at this
    have := Nat.log2_self_le hM0
    omega
  have c2 : m * 2 ^ more < n * 2 ^ M.log2 := (sticky_lt (m * 2 ^ more) n M.log2 hn').1 (by rw [hM]; exact Nat.lt_log2_self)
  have Ue : ∀ t : Nat, 2 ^ t * U = 2 ^ (t + 1074) := fun t => (U_add t _ rfl).symm
  rw [r1, r2, Nat.mul_assoc, Nat.mul_assoc, Ue, ← Nat.pow_add] at h1
  rw [r1, r2, Nat.mul_assoc, Nat.mul_assoc, Ue, ← Nat.pow_add] at h2
  have key : M.log2 + a + 1074 = b + 53 + k + more := by
    have a1 : n * 2 ^ (M.log2 - 1 + (a + 1074)) < n * 2 ^ (b + (53 + k) + more) := by
      calc n * 2 ^ (M.log2 - 1 + (a + 1074)) = n * 2 ^ (M.log2 - 1) * 2 ^ (a + 1074) := by rw [Nat.pow_add, Nat.mul_assoc]
        _ ≤ m * 2 ^ more * 2 ^ (a + 1074) := Nat.mul_le_mul_right _ c1
        _ = m * 2 ^ (a + 1074) * 2 ^ more := by rw [Nat.mul_right_comm]
        _ < n * 2 ^ (b + (53 + k)) * 2 ^ more := Nat.mul_lt_mul_of_pos_right h2 (p2 _)
        _ = n * 2 ^ (b + (53 + k) + more) := by rw [Nat.mul_assoc, ← Nat.pow_add]
    have a2 : n * 2 ^ (b + (52 + k) + more) < n * 2 ^ (M.log2 + (a + 1074)) := by
      calc n * 2 ^ (b + (52 + k) + more) = n * 2 ^ (b + (52 + k)) * 2 ^ more := by rw [Nat.mul_assoc, ← Nat.pow_add]
        _ ≤ m * 2 ^ (a + 1074) * 2 ^ more := Nat.mul_le_mul_right _ h1
        _ = m * 2 ^ more * 2 ^ (a + 1074) := by rw [Nat.mul_right_comm]
        _ < n * 2 ^ M.log2 * 2 ^ (a + 1074) := Nat.mul_lt_mul_of_pos_right c2 (p2 _)
        _ = n * 2 ^ (M.log2 + (a + 1074)) := by rw [Nat.mul_assoc, ← Nat.pow_add]
    have b1 := pow_lt_inv (Nat.lt_of_mul_lt_mul_left a1)
    have b2 := pow_lt_inv (Nat.lt_of_mul_lt_mul_left a2)
    omega
  have y1 : M.log2 - 54 + 1 + (a + 1074) = b + k + more := num1 _ _ _ _ _ 1074 hc key
  unfold Format.nearest
  rw [if_neg hM0]
  have hlast : max ((-1074 + (a:Int)) - (-1074 + (b:Int)) - more - 1 + M.log2 - (double.fractionBits : Nat)) double.leastPlace = (k : Int) - 1074 := by
    rw [least]
    have : ((double.fractionBits : Nat) : Int) = 52 := rfl
    rw [this]
    omega
  simp only [hlast]
  rw [least, bin, infr]
  have g1 : ((k : Int) - 1074 - -1074).toNat = k := by omega
  have g2 : ((-1074 + (a:Int)) - (-1074 + (b:Int)) - more - 1 - ((k : Int) - 1074)).toNat = 0 := by omega
  have g3 : ((k : Int) - 1074 - ((-1074 + (a:Int)) - (-1074 + (b:Int)) - more - 1)).toNat = M.log2 - 54 + 2 := by omega
  rw [g1, g2, g3, Nat.shiftLeft_zero, cut_even, ← hM, rhe_sticky _ _ _ hn', hM]
  have hfin : rhe (m * 2 ^ more) (n * 2 ^ (M.log2 - 54 + 1)) = rhe (R (rg x) * U) (R (rg y) * 2 ^ k) := by
    rw [← rhe_scale _ _ _ (p2 (a + 1074)), ← rhe_scale (R (rg x) * U) _ _ (p2 more), r1, r2]
    have z1 : m * 2 ^ more * 2 ^ (a + 1074) = m * 2 ^ a * U * 2 ^ more := by
      rw [Nat.mul_assoc m (2 ^ a) U, Ue, Nat.mul_right_comm]
    have z2 : n * 2 ^ (M.log2 - 54 + 1) * 2 ^ (a + 1074) = n * 2 ^ b * 2 ^ k * 2 ^ more := by
      have y2 : 2 ^ (M.log2 - 54 + 1) * 2 ^ (a + 1074) = 2 ^ (b + k + more) := by rw [← y1]; exact (Nat.pow_add _ _ _).symm
      have y3 : 2 ^ b * 2 ^ k * 2 ^ more = 2 ^ (b + k + more) := by rw [Nat.pow_add, Nat.pow_add]
      rw [Nat.mul_assoc n (2 ^ (M.log2 - 54 + 1)), y2, Nat.mul_assoc n (2 ^ b) (2 ^ k), Nat.mul_assoc n (2 ^ b * 2 ^ k), y3]
    rw [z1, z2]
  rw [hfin]
  rfl
end Go.Proofs.YtjnddfpieogpiaaDoor.Fm
