/- Reading real numbers: the program's realScaled. -/
import Derived.Test.YtjnddfpieogpiaaGreatDoorTt6M
import Derived.Lib.SmallJoins
namespace Go.Proofs.YtjnddfpieogpiaaGreatDoor.Rr
open Go.RowKit
open Go.Lib (decDigits itoa)
set_option linter.unusedVariables false

/-- A number of n times 2 to the k, in units. -/
def Ex (s : Bool) (n k c : Nat) : Prop := ∃ r, r < Fm.infR ∧ Fm.R r = n * 2 ^ k ∧ c = Ieee.double.word s r

theorem ex_rg {s : Bool} {n k c : Nat} (h : Ex s n k c) : Fm.rg c < Fm.infR ∧ Fm.sg c = s ∧ Fm.R (Fm.rg c) = n * 2 ^ k ∧ c < 18446744073709551616 := by
  obtain ⟨r, h1, h2, rfl⟩ := h
  rw [Fm.rg_word _ (Nat.le_of_lt h1), Fm.sg_word _ (Nat.le_of_lt h1)]
  exact ⟨h1, rfl, h2, Fm.word_lt _ (Nat.le_of_lt h1)⟩
theorem ex_dbl {s : Bool} {n k c : Nat} (h : Ex s n k c) (hK : n * 2 ^ (k + 1) < Fm.Kinf) : ∃ c', floatBits .mul .f64 c Fm.two = some c' ∧ Ex s n (k + 1) c' := by
  obtain ⟨a, b, d, -⟩ := ex_rg h
  have e : n * 2 ^ (k + 1) = 2 * Fm.R (Fm.rg c) := by rw [d, Nat.pow_succ, ← Nat.mul_assoc, Nat.mul_comm]
  rw [e] at hK
  obtain ⟨r, q1, q2, q3⟩ := Fm.dbl_fin a hK
  rw [b] at q3
  exact ⟨_, q3, r, q1, by rw [q2, e], rfl⟩
theorem ex_half {s : Bool} {n k c : Nat} (h : Ex s n (k + 1) c) (hn : n < 9007199254740992) : ∃ c', floatBits .quo .f64 c Fm.two = some c' ∧ Ex s n k c' := by
  obtain ⟨a, b, d, -⟩ := ex_rg h
  have e : Fm.R (Fm.rg c) = 2 * (n * 2 ^ k) := by rw [d, Nat.pow_succ, ← Nat.mul_assoc, Nat.mul_comm]
  have hK := Fm.R_fin_lt a
  obtain ⟨r, q1, q2, q3⟩ := Fm.half_fin a e (Fm.rep_of n k hn (by omega))
  rw [b] at q3
  exact ⟨_, q3, r, q1, q2, rfl⟩
theorem ex_start (n : Nat) (z : Int) (hz : z.natAbs = n) (hn : n < 9007199254740992) : Ex (decide (z < 0)) n 1074 (floatOfInt .f64 z) := by
  obtain ⟨r, h1, h2, h3⟩ := Fm.whole_exact z (by omega)
  have e := Fm.U_add 0 1074 (by omega)
  exact ⟨r, h1, by rw [h2, hz, e]; simp, h3⟩

theorem dbl_good {c : Nat} (h : ¬ Fm.isN c) : ∃ c', floatBits .mul .f64 c Fm.two = some c' ∧ ¬ Fm.isN c' ∧ c' < 18446744073709551616 := by
  obtain ⟨r, h1, h2, -⟩ := Fm.dbl_any h
  exact ⟨_, h2, Fm.notN_word _ h1, Fm.word_lt _ h1⟩
theorem half_good {c : Nat} (h : ¬ Fm.isN c) : ∃ c', floatBits .quo .f64 c Fm.two = some c' ∧ ¬ Fm.isN c' ∧ c' < 18446744073709551616 := by
  obtain ⟨r, h1, h2⟩ := Fm.half_any h
  exact ⟨_, h2, Fm.notN_word _ h1, Fm.word_lt _ h1⟩

theorem pow_mono_lt {n a b K : Nat} (h : n * 2 ^ b < K) (hab : a ≤ b) : n * 2 ^ a < K :=
  Nat.lt_of_le_of_lt (Nat.mul_le_mul_left _ (Nat.pow_le_pow_right (by decide) hab)) h

end Go.Proofs.YtjnddfpieogpiaaGreatDoor.Rr
/- Reading real numbers: the library's part, the program's realGuess. -/
namespace Go.Proofs.YtjnddfpieogpiaaGreatDoor.Rr
open Go.RowKit
open Go.Lib (decDigits itoa)
set_option linter.unusedVariables false

theorem below_drewN (w : World) (n : Nat) : Below w.heap.size w (w.drewN n) := ⟨rfl, rfl, rfl, Nat.le_refl _, fun _ _ => rfl⟩

theorem parse_bd {B : Nat} (hB : B = 64) {l : List UInt8} {v : Int} (h : Lib.parseIntB B l = .ok v) : -9223372036854775808 ≤ v ∧ v ≤ 9223372036854775807 := by
  subst hB
  have h63 : (2 : Nat) ^ (64 - 1) = 9223372036854775808 := by decide
  unfold Lib.parseIntB at h
  split at h
  · cases h
  · simp only [h63] at h
    split at h
    · cases h
    · cases h
    · split at h
      · cases h
      · split at h
        · cases h
        · injection h with h
          subst h
          split <;> omega
theorem atoi_bd {l : List UInt8} {v : Int} (h : Lib.atoiAll l = .ok v) : -9223372036854775808 ≤ v ∧ v ≤ 9223372036854775807 := by
  obtain ⟨a, b⟩ := Lib.atoiAll_bounds h
  exact ⟨a, b⟩

end Go.Proofs.YtjnddfpieogpiaaGreatDoor.Rr
/- Reading real numbers: the program's realGuess and RealRead. -/
namespace Go.Proofs.YtjnddfpieogpiaaGreatDoor.Rr
open Go.RowKit
open Go.Lib (decDigits itoa)
set_option linter.unusedVariables false

def wB (j : Nat) : Nat := if j = 0 then 9221120237041090561 else if j = 1 then 9218868437227405312 else if j = 2 then 18442240474082181120 else 9223372036854775808
def wT (j : Nat) : List UInt8 := if j = 0 then [110, 97, 110] else if j = 1 then [105, 110, 102] else if j = 2 then [45, 105, 110, 102] else [45, 48]
theorem wB_txt (j : Nat) (h : j < 4) : Txt (wB j) (wT j) ∧ wB j < 18446744073709551616 := by
  have hj : j = 0 ∨ j = 1 ∨ j = 2 ∨ j = 3 := by omega
  rcases hj with rfl | rfl | rfl | rfl
  · exact ⟨.inl ⟨by decide, rfl⟩, by decide⟩
  · exact ⟨.inr (.inr ⟨by decide, by decide +kernel, [105, 110, 102], .inl ⟨by decide, rfl⟩, rfl⟩), by decide⟩
  · exact ⟨.inr (.inr ⟨by decide, by decide +kernel, [105, 110, 102], .inl ⟨by decide, rfl⟩, rfl⟩), by decide⟩
  · exact ⟨.inr (.inl ⟨by decide, by decide +kernel, rfl⟩), by decide⟩

/-- The text of a finite number other than 0. -/
def FT (t : List UInt8) (s : Bool) (n : Nat) (e : Int) : Prop := t = (if s then 45 :: posT n e else posT n e) ∧ n % 2 = 1 ∧ n < 9007199254740992 ∧ -1074 ≤ e ∧ e ≤ 1023 ∧ n * 2 ^ (e + 1074).toNat < Fm.Kinf

theorem txt_cases {x : Nat} {t : List UInt8} (h : Txt x t) : (∃ j, j < 4 ∧ t = wT j) ∨ t = [48] ∨ ∃ s n e, FT t s n e := by
  rcases h with ⟨h1, rfl⟩ | ⟨h1, h2, rfl⟩ | ⟨h1, h2, p, h3, rfl⟩
  · exact .inl ⟨0, by omega, rfl⟩
  · cases Fm.sg x
    · exact .inr (.inl rfl)
    · exact .inl ⟨3, by omega, rfl⟩
  · rcases h3 with ⟨h3, rfl⟩ | ⟨h3, n, e, h4, rfl⟩
    · cases Fm.sg x
      · exact .inl ⟨1, by omega, rfl⟩
      · exact .inl ⟨2, by omega, rfl⟩
    · obtain ⟨a, b, c, d⟩ := h4.bd h3 h2
      have hv := h4.val h2
      have hl := Fm.R_fin_lt h3
      rw [hv] at hl
      exact .inr (.inr ⟨Fm.sg x, n, e, rfl, h4.1, a, c, b, hl⟩)
theorem ft_txt {t : List UInt8} {s : Bool} {n y : Nat} {e : Int} (h : FT t s n e) (hy : Ex s n (e + 1074).toNat y) : Txt y t := by
  obtain ⟨h1, h2, h3, h4, h5, h6⟩ := h
  obtain ⟨a, b, c, d⟩ := ex_rg hy
  have hn : 0 < n := by omega
  have hR : 0 < Fm.R (Fm.rg y) := by rw [c]; exact Nat.mul_pos hn (Nat.two_pow_pos _)
  refine .inr (.inr ⟨by unfold Fm.isN; omega, hR, posT n e, .inr ⟨a, n, e, Fm.Parts.of h2 h4 c, rfl⟩, ?_⟩)
  rw [b, h1]

theorem tx_data (l : List UInt8) : (tx l).data.toList = l := by simp [tx]
theorem tx_of (s : ByteArray) : tx s.data.toList = s := by
  unfold tx
  cases s
  simp
theorem beq_no {a b : ByteArray} (h : a ≠ b) : (a.toList == b.toList) = false := by
  rw [beq_eq_false_iff_ne, ByteArray.toList_eq, ByteArray.toList_eq]
  intro e
  apply h
  rw [← tx_of a, ← tx_of b, e]
theorem beq_yes (a : ByteArray) : (a.toList == a.toList) = true := by simp

theorem cut_len (s sep : List UInt8) : (Lib.cut s sep).1.length ≤ s.length ∧ (Lib.cut s sep).2.1.length ≤ s.length := by
  unfold Lib.cut
  split
  · simp only [List.length_take, List.length_drop]
    omega
  · simp

theorem sep_data : (⟨#[42, 50, 94]⟩ : ByteArray).data.toList = [42, 50, 94] := rfl

/-- The signed number of a text. -/
theorem ft_cut {t : List UInt8} {s : Bool} {n : Nat} {e : Int} (h : FT t s n e) : Lib.cut t [42, 50, 94] = (itoa (if s then -(n : Int) else n), itoa e, true) := by
  obtain ⟨h1, h2, -⟩ := h
  rw [h1]
  cases s
  · simp only [Bool.false_eq_true, if_false]
    rw [Lib.itoa_nonneg]
    exact cut_star _ _ (dec_nostar n)
  · simp only [if_true]
    rw [Lib.itoa_neg n (by omega)]
    exact cut_star (45 :: decDigits n) _ (fun x hx => by
      rcases List.mem_cons.1 hx with rfl | hx
      · decide
      · exact dec_nostar n x hx)

theorem zero_cut : Lib.cut [48] [42, 50, 94] = ([48], [], false) := by decide

/-- How a text is read. -/
def Rd2 (l : List UInt8) (v : Nat) (ok : Bool) : Prop := v < 18446744073709551616 ∧ ((ok = true ∧ Txt v l) ∨ (ok = false ∧ v = 0 ∧ ∀ x, ¬ Txt x l))

end Go.Proofs.YtjnddfpieogpiaaGreatDoor.Rr
