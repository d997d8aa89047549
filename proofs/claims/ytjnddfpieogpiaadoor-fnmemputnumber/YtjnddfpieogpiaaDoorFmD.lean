/- Real numbers of 64 bits: tests, signs, whole numbers; what is drawn where there is no number. -/
import Derived.Test.YtjnddfpieogpiaaDoorFmC
namespace Go.Proofs.YtjnddfpieogpiaaDoor.Fm
open Ieee

abbrev F : Ieee.Format := FloatKind.f64.format
theorem F_eq : F = double := rfl

theorem lt_b {x y : Nat} (hx : ¬ isN x) (hy : ¬ isN y) : (F.order x y == some .lt) = decide (sv x < sv y) := by
  rw [F_eq, order_eq hx hy]
  rcases Int.lt_trichotomy (sv x) (sv y) with h | h | h
  · rw [Int.compare_eq_lt.2 h, decide_eq_true h]; rfl
  · rw [Int.compare_eq_eq.2 h, decide_eq_false (by omega)]; rfl
  · rw [Int.compare_eq_gt.2 h, decide_eq_false (by omega)]; rfl
theorem gt_b {x y : Nat} (hx : ¬ isN x) (hy : ¬ isN y) : (F.order x y == some .gt) = decide (sv y < sv x) := by
  rw [F_eq, order_eq hx hy]
  rcases Int.lt_trichotomy (sv x) (sv y) with h | h | h
  · rw [Int.compare_eq_lt.2 h, decide_eq_false (by omega)]; rfl
  · rw [Int.compare_eq_eq.2 h, decide_eq_false (by omega)]; rfl
  · rw [Int.compare_eq_gt.2 h, decide_eq_true h]; rfl
theorem eq_b {x y : Nat} (hx : ¬ isN x) (hy : ¬ isN y) : (F.order x y == some .eq) = decide (sv x = sv y) := by
  rw [F_eq, order_eq hx hy]
  rcases Int.lt_trichotomy (sv x) (sv y) with h | h | h
  · rw [Int.compare_eq_lt.2 h, decide_eq_false (by omega)]; rfl
  · rw [Int.compare_eq_eq.2 h, decide_eq_true h]; rfl
  · rw [Int.compare_eq_gt.2 h, decide_eq_false (by omega)]; rfl
theorem ne_b {x y : Nat} (hx : ¬ isN x) (hy : ¬ isN y) : (F.order x y != some .eq) = decide (sv x ≠ sv y) := by
  have := eq_b hx hy
  unfold bne
  rw [this]
  by_cases h : sv x = sv y <;> simp [h]
theorem le_b {x y : Nat} (hx : ¬ isN x) (hy : ¬ isN y) : (F.order x y == some .lt || F.order x y == some .eq) = decide (sv x ≤ sv y) := by
  rw [lt_b hx hy, eq_b hx hy, ← Bool.decide_or]
  congr 1
  exact propext ⟨fun h => by omega, fun h => by omega⟩
theorem ge_b {x y : Nat} (hx : ¬ isN x) (hy : ¬ isN y) : (F.order x y == some .gt || F.order x y == some .eq) = decide (sv y ≤ sv x) := by
  rw [gt_b hx hy, eq_b hx hy, ← Bool.decide_or]
  congr 1
  exact propext ⟨fun h => by omega, fun h => by omega⟩
theorem ord_n {x y : Nat} (h : isN x ∨ isN y) : F.order x y = none := order_nan h
theorem self_ne (x : Nat) : (F.order x x != some .eq) = decide (isN x) := by
  by_cases h : isN x
  · rw [ord_n (Or.inl h), decide_eq_true h]; rfl
  · rw [ne_b h h, decide_eq_false h, decide_eq_false (by simp)]
theorem self_eq (x : Nat) : (F.order x x == some .eq) = decide (¬ isN x) := by
  by_cases h : isN x
  · rw [ord_n (Or.inl h), decide_eq_false (by simp [h])]; rfl
  · rw [eq_b h h, decide_eq_true rfl, decide_eq_true h]

theorem neg_eq (b : Nat) : Op.negFloat .f64 b = b ^^^ 2 ^ 63 := rfl
theorem rg_neg (b : Nat) : rg (Op.negFloat .f64 b) = rg b := by
  have e : (9223372036854775808 : Nat) = 2 ^ 63 := by decide
  unfold rg
  rw [neg_eq, e, Nat.xor_mod_two_pow, Nat.mod_self, Nat.xor_zero]
theorem sg_neg {b : Nat} (h : b < 18446744073709551616) : sg (Op.negFloat .f64 b) = !sg b := by
  have e : (9223372036854775808 : Nat) = 2 ^ 63 := by decide
  unfold sg
  rw [neg_eq, e, Nat.xor_div_two_pow, Nat.div_self (Nat.two_pow_pos _), ← e]
  have : b / 9223372036854775808 = 0 ∨ b / 9223372036854775808 = 1 := by omega
  rcases this with h | h <;> rw [h] <;> rfl
theorem isN_neg (b : Nat) : isN (Op.negFloat .f64 b) ↔ isN b := by
  unfold isN; rw [rg_neg]
theorem neg_lt {b : Nat} (h : b < 18446744073709551616) : Op.negFloat .f64 b < 18446744073709551616 := by
  rw [neg_eq]
  have e : (18446744073709551616 : Nat) = 2 ^ 64 := by decide
  rw [e] at h ⊢
  exact Nat.xor_lt_two_pow h (by decide)
theorem sv_neg {b : Nat} (h : b < 18446744073709551616) : sv (Op.negFloat .f64 b) = - sv b := by
  unfold sv
  rw [rg_neg, sg_neg h]
  cases sg b <;> simp

theorem word_of {b : Nat} (h : b < 18446744073709551616) : b = double.word (sg b) (rg b) := by
  rw [word_eq]
  unfold sg rg
  have : b / 9223372036854775808 = 0 ∨ b / 9223372036854775808 = 1 := by omega
  rcases this with e | e <;> rw [e]
  · rw [if_neg (by decide)]; omega
  · rw [if_pos (by decide)]; omega

theorem whole_word (n : Int) : ∃ r, r ≤ infR ∧ floatOfInt .f64 n = double.word (decide (n < 0)) r := nearest_word _ _ _
theorem whole_exact (n : Int) (h : n.natAbs < 9007199254740992) : ∃ r, r < infR ∧ R r = n.natAbs * U ∧ floatOfInt .f64 n = double.word (decide (n < 0)) r := by
  have hK : n.natAbs * 2 ^ uE < Kinf := by
    refine Nat.lt_of_lt_of_le (Nat.mul_lt_mul_of_pos_right h (Nat.two_pow_pos _)) ?_
    decide +kernel
  have := nearest_rep (decide (n < 0)) n.natAbs 0 (rep_of n.natAbs uE h hK) (by
    have a1 : ((0:Int) + 1074).toNat = uE := rfl
    have a2 : (-((0:Int) + 1074)).toNat = 0 := rfl
    rw [a1, a2, Nat.pow_zero, Nat.mul_one])
  exact this

/-- 'int64(x)', 'int(x)'. -/
theorem toInt64 {x : Nat} (h : rg x < infR) (hb : R (rg x) / U < 9223372036854775808) : floatToIntVal .f64 x .i64 = some ((if sg x then -1 else 1) * ((R (rg x) / U : Nat) : Int)) := by
  unfold floatToIntVal
  have : FloatKind.f64.decode x = double.read x := rfl
  rw [this, toInt_fin h]
  have e1 : IntKind.i64.min = -9223372036854775808 := rfl
  have e2 : IntKind.i64.max = 9223372036854775807 := rfl
  generalize R (rg x) / U = q at hb
  simp only [e1, e2]
  rw [if_pos]
  cases sg x <;> simp <;> omega

/-- What is drawn where there is no number. -/
def nanOf (t : Nat) : Nat := (t % 2) * 2 ^ 63 + 0x7ff0000000000000 + 1 + (t / 2) % (2 ^ 52 - 1)
theorem nanOf_form (t : Nat) : ∃ a c : Nat, a < 2 ∧ c < 4503599627370495 ∧ nanOf t = a * 9223372036854775808 + 9218868437227405312 + 1 + c :=
  ⟨t % 2, t / 2 % 4503599627370495, by omega, by omega, rfl⟩
theorem nanOf_isN (t : Nat) : isN (nanOf t) := by
  obtain ⟨a, c, ha, hc, e⟩ := nanOf_form t
  rw [e]
  unfold isN rg infR
  omega
theorem nanOf_lt (t : Nat) : nanOf t < 18446744073709551616 := by
  obtain ⟨a, c, ha, hc, e⟩ := nanOf_form t
  rw [e]
  omega

section
variable {P : Program}
/-- An operation that has no number: its bits are drawn. -/
theorem run_none (w : World) (op : BinOp) (t : TypeId) (x y : Nat) (ho : op = .add ∨ op = .sub ∨ op = .mul ∨ op = .quo) (h : floatBits op .f64 x y = none) :
    (binOp op t (.float .f64 x) (.float .f64 y)).run P w = .ok (.float .f64 (nanOf (w.tape w.drawn (.nanBits .f64 x y)))) w.drew := by
  unfold floatBits at h
  rcases ho with rfl | rfl | rfl | rfl <;> simp only at h
  all_goals simp [binOp, Op.floatArith, h, Question.forced, Question.cut, nanOf]
end
end Go.Proofs.YtjnddfpieogpiaaDoor.Fm
