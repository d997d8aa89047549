/- Real numbers of 64 bits: operations that have a number; differences that are exact. -/
import Derived.Test.YtjnddfpieogpiaaDoorFmE
namespace Go.Proofs.YtjnddfpieogpiaaDoor.Fm
open Ieee

theorem read_num {x : Nat} (h : rg x < infR) (h0 : 0 < R (rg x)) : ∃ m i, double.read x = .number (sg x) m i ∧ m ≠ 0 := by
  obtain ⟨m, k, e, r, -, -, -⟩ := read_fin h
  refine ⟨m, _, e, fun e0 => ?_⟩
  rw [e0, Nat.zero_mul] at r
  omega

theorem write_notN {d : Datum} (h : d.isNaN = false) : ∃ r s, r ≤ infR ∧ double.write d = double.word s r := by
  cases d with
  | number s m i => obtain ⟨r, h1, h2⟩ := nearest_word s m i; exact ⟨r, s, h1, h2⟩
  | infinity s => exact ⟨infR, s, Nat.le_refl _, rfl⟩
  | nan s t => cases h

theorem mul_some {x y : Nat} (hx : rg x < infR) (x0 : 0 < R (rg x)) (hy : ¬ isN y) : ∃ r, floatBits .mul .f64 x y = some r ∧ ¬ isN r ∧ r < 18446744073709551616 := by
  obtain ⟨m, i, e, hm⟩ := read_num hx x0
  have : ∃ d, ((double.read x).product (double.read y)) = some d ∧ d.isNaN = false := by
    rw [e]
    unfold isN at hy
    by_cases h : rg y < infR
    · obtain ⟨n, k, e2, -, -, -, -⟩ := read_fin h
      rw [e2]; exact ⟨_, rfl, rfl⟩
    · rw [read_inf (by omega)]
      exact ⟨.infinity (sg y ^^ sg x), by simp [Datum.product, hm], rfl⟩
  obtain ⟨d, h1, h2⟩ := this
  obtain ⟨r, s, h3, h4⟩ := write_notN h2
  refine ⟨double.word s r, ?_, notN_word s h3, word_lt s h3⟩
  show double.mul x y = _
  unfold Format.mul
  rw [h1, ← h4]; rfl

theorem mul_some' {x y : Nat} (hx : ¬ isN x) (hy : rg y < infR) (y0 : 0 < R (rg y)) : ∃ r, floatBits .mul .f64 x y = some r ∧ ¬ isN r ∧ r < 18446744073709551616 := by
  obtain ⟨m, i, e, hm⟩ := read_num hy y0
  have : ∃ d, ((double.read x).product (double.read y)) = some d ∧ d.isNaN = false := by
    rw [e]
    unfold isN at hx
    by_cases h : rg x < infR
    · obtain ⟨n, k, e2, -, -, -, -⟩ := read_fin h
      rw [e2]; exact ⟨_, rfl, rfl⟩
    · rw [read_inf (by omega)]
      exact ⟨.infinity (sg x ^^ sg y), by simp [Datum.product, hm], rfl⟩
  obtain ⟨d, h1, h2⟩ := this
  obtain ⟨r, s, h3, h4⟩ := write_notN h2
  refine ⟨double.word s r, ?_, notN_word s h3, word_lt s h3⟩
  show double.mul x y = _
  unfold Format.mul
  rw [h1, ← h4]; rfl

theorem div_some {x y : Nat} (hx : ¬ isN x) (hy : rg y < infR) (y0 : 0 < R (rg y)) : ∃ r, floatBits .quo .f64 x y = some r ∧ ¬ isN r ∧ r < 18446744073709551616 := by
  obtain ⟨m, i, e, hm⟩ := read_num hy y0
  have : ∃ d, ((double.read x).quotient (double.fractionBits + 2) (double.read y)) = some d ∧ d.isNaN = false := by
    rw [e]
    unfold isN at hx
    by_cases h : rg x < infR
    · obtain ⟨n, k, e2, -, -, -, -⟩ := read_fin h
      rw [e2]
      unfold Datum.quotient
      simp only [if_neg hm]
      exact ⟨_, rfl, rfl⟩
    · rw [read_inf (by omega)]
      exact ⟨.infinity (sg x ^^ sg y), rfl, rfl⟩
  obtain ⟨d, h1, h2⟩ := this
  obtain ⟨r, s, h3, h4⟩ := write_notN h2
  refine ⟨double.word s r, ?_, notN_word s h3, word_lt s h3⟩
  show double.div x y = _
  unfold Format.div
  rw [h1, ← h4]; rfl

theorem add_some {x y : Nat} (hx : rg x < infR) (hy : ¬ isN y) : ∃ r, floatBits .add .f64 x y = some r ∧ ¬ isN r ∧ r < 18446744073709551616 := by
  obtain ⟨m, k, e, -, -, -, -⟩ := read_fin hx
  have : ∃ d, ((double.read x).sum (double.read y)) = some d ∧ d.isNaN = false := by
    rw [e]
    unfold isN at hy
    by_cases h : rg y < infR
    · obtain ⟨n, k, e2, -, -, -, -⟩ := read_fin h
      rw [e2]; exact ⟨_, rfl, rfl⟩
    · rw [read_inf (by omega)]
      exact ⟨.infinity (sg y), rfl, rfl⟩
  obtain ⟨d, h1, h2⟩ := this
  obtain ⟨r, s, h3, h4⟩ := write_notN h2
  refine ⟨double.word s r, ?_, notN_word s h3, word_lt s h3⟩
  show double.add x y = _
  unfold Format.add
  rw [h1, ← h4]; rfl

/-- The bits of an operation that has a number. -/
def opB (op : BinOp) (x y : Nat) : Nat := (floatBits op .f64 x y).getD 0
def Good (op : BinOp) (x y : Nat) : Prop := ∃ r, floatBits op .f64 x y = some r ∧ ¬ isN r ∧ r < 18446744073709551616
theorem Good.run {P : Program} {op : BinOp} {x y : Nat} (h : Good op x y) (t : TypeId) (w : World) : (binOp op t (.float .f64 x) (.float .f64 y)).run P w = .ok (.float .f64 (opB op x y)) w := by
  obtain ⟨r, h1, -, -⟩ := h
  unfold opB
  rw [h1]
  exact run_float_arith w op t .f64 x y r h1
theorem Good.notN {op : BinOp} {x y : Nat} (h : Good op x y) : ¬ isN (opB op x y) := by
  obtain ⟨r, h1, h2, -⟩ := h
  unfold opB
  rw [h1]
  exact h2
theorem Good.lt {op : BinOp} {x y : Nat} (h : Good op x y) : opB op x y < 18446744073709551616 := by
  obtain ⟨r, h1, -, h2⟩ := h
  unfold opB
  rw [h1]
  exact h2

theorem whole_notN (n : Int) : ¬ isN (floatOfInt .f64 n) := by
  obtain ⟨r, h1, h2⟩ := whole_word n
  rw [h2]; exact notN_word _ h1
theorem whole_lt (n : Int) : floatOfInt .f64 n < 18446744073709551616 := by
  obtain ⟨r, h1, h2⟩ := whole_word n
  rw [h2]; exact word_lt _ h1
theorem whole_fin (n : Int) (h : n.natAbs < 9007199254740992) (h0 : n ≠ 0) : rg (floatOfInt .f64 n) < infR ∧ 0 < R (rg (floatOfInt .f64 n)) := by
  obtain ⟨r, h1, h2, h3⟩ := whole_exact n h
  rw [h3, rg_word _ (Nat.le_of_lt h1), h2]
  exact ⟨h1, Nat.mul_pos (by omega) U_pos⟩
theorem whole_sv (n : Int) (h : n.natAbs < 9007199254740992) : rg (floatOfInt .f64 n) < infR ∧ sv (floatOfInt .f64 n) = n * U := by
  obtain ⟨r, h1, h2, h3⟩ := whole_exact n h
  rw [h3]
  refine ⟨by rw [rg_word _ (Nat.le_of_lt h1)]; exact h1, ?_⟩
  unfold sv
  rw [rg_word _ (Nat.le_of_lt h1), sg_word _ (Nat.le_of_lt h1), h2]
  by_cases hn : n < 0
  · simp only [hn, decide_true, if_true]
    rw [Int.natCast_mul, ← Int.neg_mul]
    congr 1
    omega
  · simp only [hn, decide_false, Bool.false_eq_true, if_false]
    rw [Int.natCast_mul]
    congr 1
    omega

/-- What is left behind the point. -/
theorem rep_frac {r : Nat} (h : r < infR) : Rep (R r % U) := by
  obtain ⟨m, k, e, -, hm, hk, -⟩ := R_form h
  rw [e]
  by_cases hk2 : 1074 ≤ k
  · rw [U_add (k - 1074) k (by omega), ← Nat.mul_assoc, Nat.mul_mod_left]
    exact ⟨0, 0, by simp, by omega, by omega, Or.inr rfl⟩
  · have e1 : m * 2 ^ k % U = (m % 2 ^ (1074 - k)) * 2 ^ k := by
      rw [U_sub (1074 - k) k (by omega), Nat.mul_mod_mul_right]
    rw [e1]
    have hm2 : m % 2 ^ (1074 - k) ≤ m := Nat.mod_le _ _
    refine rep_of _ k (by omega) ?_
    have hR := R_fin_lt h
    rw [e] at hR
    exact Nat.lt_of_le_of_lt (Nat.mul_le_mul_right _ hm2) hR

theorem sub_exact {x y : Nat} (hx : rg x < infR) (hy : rg y < infR) (h : Rep (sv x - sv y).natAbs) : ∃ d, floatBits .sub .f64 x y = some d ∧ d < 18446744073709551616 ∧ rg d < infR ∧ sv d = sv x - sv y := by
  obtain ⟨m, k, e1, r1, -, -, -⟩ := read_fin hx
  obtain ⟨n, l, e2, r2, -, -, -⟩ := read_fin hy
  have hbase : min (-1074 + (k:Int)) (-1074 + (l:Int)) = -1074 + ((min k l : Nat) : Int) := by omega
  have ha : ((-1074 + (k:Int)) - (-1074 + ((min k l : Nat) : Int))).toNat = k - min k l := by omega
  have hb : ((-1074 + (l:Int)) - (-1074 + ((min k l : Nat) : Int))).toNat = l - min k l := by omega
  let total : Int := signed (sg x) m (k - min k l) + signed (!sg y) n (l - min k l)
  have htot : total * ((2 ^ (min k l) : Nat) : Int) = sv x - sv y := by
    have e3 : m * 2 ^ k = m * 2 ^ (k - min k l) * 2 ^ (min k l) := by
      rw [Nat.mul_assoc, ← Nat.pow_add]
      have : k - min k l + min k l = k := by omega
      rw [this]
    have e4 : n * 2 ^ l = n * 2 ^ (l - min k l) * 2 ^ (min k l) := by
      rw [Nat.mul_assoc, ← Nat.pow_add]
      have : l - min k l + min k l = l := by omega
      rw [this]
    show (signed (sg x) m (k - min k l) + signed (!sg y) n (l - min k l)) * _ = _
    rw [signed_eq, signed_eq, sv_eq, sv_eq, r1, r2, e3, e4]
    rw [Int.natCast_mul (m * 2 ^ (k - min k l)), Int.natCast_mul (n * 2 ^ (l - min k l))]
    generalize ((m * 2 ^ (k - min k l) : Nat) : Int) = A
    generalize ((n * 2 ^ (l - min k l) : Nat) : Int) = B
    generalize ((2 ^ (min k l) : Nat) : Int) = E
    rw [Int.add_mul, Int.mul_assoc, Int.mul_assoc]
    cases sg x <;> cases sg y <;> simp <;> omega
  have hsum : (Datum.number (sg x) m (-1074 + (k:Int))).sum (Datum.number (sg y) n (-1074 + (l:Int))).opposite = some (.number (if total = 0 then sg x && !sg y else total < 0) total.natAbs (-1074 + ((min k l : Nat) : Int))) := by
    unfold Datum.sum Datum.opposite
    simp only [ha, hb, hbase]
    rfl
  have hE : total.natAbs * 2 ^ (-1074 + ((min k l : Nat) : Int) + 1074).toNat = (sv x - sv y).natAbs * 2 ^ (-(-1074 + ((min k l : Nat) : Int) + 1074)).toNat := by
    have a1 : (-1074 + ((min k l : Nat) : Int) + 1074).toNat = min k l := by omega
    have a2 : (-(-1074 + ((min k l : Nat) : Int) + 1074)).toNat = 0 := by omega
    rw [a1, a2, Nat.pow_zero, Nat.mul_one, ← htot, Int.natAbs_mul, Int.natAbs_natCast]
  obtain ⟨r, q1, q2, q3⟩ := nearest_rep (if total = 0 then sg x && !sg y else total < 0) total.natAbs _ h hE
  refine ⟨double.word (if total = 0 then sg x && !sg y else total < 0) r, ?_, word_lt _ (Nat.le_of_lt q1), by rw [rg_word _ (Nat.le_of_lt q1)]; exact q1, ?_⟩
  · show double.sub x y = _
    unfold Format.sub
    rw [e1, e2, hsum, ← q3]; rfl
  · have hpos : (0:Int) < ((2 ^ (min k l) : Nat) : Int) := Int.ofNat_lt.2 (Nat.two_pow_pos _)
    unfold sv
    rw [rg_word _ (Nat.le_of_lt q1), sg_word _ (Nat.le_of_lt q1), q2]
    change _ = sv x - sv y
    by_cases h0 : total = 0
    · rw [h0, Int.zero_mul] at htot
      rw [← htot]
      simp
    · by_cases h1 : total < 0
      · have : sv x - sv y < 0 := by rw [← htot]; exact Int.mul_neg_of_neg_of_pos h1 hpos
        simp only [h0, h1, if_false, decide_true, if_true]
        omega
      · have : 0 < sv x - sv y := by rw [← htot]; exact Int.mul_pos (by omega) hpos
        simp only [h0, h1, if_false, decide_false, Bool.false_eq_true]
        omega
end Go.Proofs.YtjnddfpieogpiaaDoor.Fm
