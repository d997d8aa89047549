/- Reading real numbers: the program's realScaled. -/
import Derived.Test.YtjnddfpieogpiaaGreatDoorTt6M
import Derived.Lib.SmallJoins
import Derived.Lib.IndexBytes
namespace Go.Proofs.YtjnddfpieogpiaaGreatDoor.Rr
open Go.RowKit
open Go.Lib (decDigits itoa)
set_option linter.unusedVariables false

/-- A number of n times 2 to the k, in units. -/
def Ex (s : Bool) (n k c : Nat) : Prop := ∃ r, r < Fm.infR ∧ Fm.R r = n * 2 ^ k ∧ c = Ieee.double.word s r

theorem ex_rg {s : Bool} {n k c : Nat} (h : Ex s n k c) : Fm.rg c < Fm.infR ∧ Fm.sg c = s ∧ Fm.R (Fm.rg c) = n * 2 ^ k ∧ c < 18446744073709551616 := by
  obtain ⟨r, h1, h2, rfl⟩ := h
  rw [Fm.rg_word _ (Nat.le_of_lt h1), Fm.sg_word _ (Nat.le_of_lt h1)]
  exact ⟨h1, rfl, h2, Fm.word_lt _ (Nat.le_of_lt h1)⟩
theorem ex_dbl {s : Bool} {n k c : Nat} (h : Ex s n k c) (hK : n * 2 ^ (k + 1) < Fm.Kinf) : ∃ c', floatBits .mul .f64 c Fm.two = some c' ∧ Ex s n (k + 1) c' := by
  obtain ⟨a, b, d, -⟩ := ex_rg h
  have e : n * 2 ^ (k + 1) = 2 * Fm.R (Fm.rg c) := by rw [d, Nat.pow_succ, ← Nat.mul_assoc, Nat.mul_comm]
  rw [e] at hK
  obtain ⟨r, q1, q2, q3⟩ := Fm.dbl_fin a hK
  rw [b] at q3
  exact ⟨_, q3, r, q1, by rw [q2, e], rfl⟩
theorem ex_half {s : Bool} {n k c : Nat} (h : Ex s n (k + 1) c) (hn : n < 9007199254740992) : ∃ c', floatBits .quo .f64 c Fm.two = some c' ∧ Ex s n k c' := by
  obtain ⟨a, b, d, -⟩ := ex_rg h
  have e : Fm.R (Fm.rg c) = 2 * (n * 2 ^ k) := by rw [d, Nat.pow_succ, ← Nat.mul_assoc, Nat.mul_comm]
  have hK := Fm.R_fin_lt a
  obtain ⟨r, q1, q2, q3⟩ := Fm.half_fin a e (Fm.rep_of n k hn (by omega))
  rw [b] at q3
  exact ⟨_, q3, r, q1, q2, rfl⟩
theorem ex_start (n : Nat) (z : Int) (hz : z.natAbs = n) (hn : n < 9007199254740992) : Ex (decide (z < 0)) n 1074 (floatOfInt .f64 z) := by
  obtain ⟨r, h1, h2, h3⟩ := Fm.whole_exact z (by omega)
  have e := Fm.U_add 0 1074 (by omega)
  exact ⟨r, h1, by rw [h2, hz, e]; simp, h3⟩

theorem dbl_good {c : Nat} (h : ¬ Fm.isN c) : ∃ c', floatBits .mul .f64 c Fm.two = some c' ∧ ¬ Fm.isN c' ∧ c' < 18446744073709551616 := by
  obtain ⟨r, h1, h2, -⟩ := Fm.dbl_any h
  exact ⟨_, h2, Fm.notN_word _ h1, Fm.word_lt _ h1⟩
theorem half_good {c : Nat} (h : ¬ Fm.isN c) : ∃ c', floatBits .quo .f64 c Fm.two = some c' ∧ ¬ Fm.isN c' ∧ c' < 18446744073709551616 := by
  obtain ⟨r, h1, h2⟩ := Fm.half_any h
  exact ⟨_, h2, Fm.notN_word _ h1, Fm.word_lt _ h1⟩

theorem pow_mono_lt {n a b K : Nat} (h : n * 2 ^ b < K) (hab : a ≤ b) : n * 2 ^ a < K :=
  Nat.lt_of_le_of_lt (Nat.mul_le_mul_left _ (Nat.pow_le_pow_right (by decide) hab)) h

end Go.Proofs.YtjnddfpieogpiaaGreatDoor.Rr
/- Reading real numbers: the library's part, the program's realGuess. -/
namespace Go.Proofs.YtjnddfpieogpiaaGreatDoor.Rr
open Go.RowKit
open Go.Lib (decDigits itoa)
set_option linter.unusedVariables false

theorem below_drewN (w : World) (n : Nat) : Below w.heap.size w (w.drewN n) := ⟨rfl, rfl, rfl, Nat.le_refl _, fun _ _ => rfl⟩

theorem parse_bd {B : Nat} (hB : B = 64) {l : List UInt8} {v : Int} (h : Lib.parseIntB B l = .ok v) : -9223372036854775808 ≤ v ∧ v ≤ 9223372036854775807 := by
  subst hB
  have h63 : (2 : Nat) ^ (64 - 1) = 9223372036854775808 := by decide
  unfold Lib.parseIntB at h
  split at h
  · cases h
  · simp only [h63] at h
    split at h
    · cases h
    · cases h
    · split at h
      · cases h
      · split at h
        · cases h
        · injection h with h
          subst h
          split <;> omega
theorem atoi_bd {l : List UInt8} {v : Int} (h : Lib.atoiAll l = .ok v) : -9223372036854775808 ≤ v ∧ v ≤ 9223372036854775807 := by
  obtain ⟨a, b⟩ := Lib.atoiAll_bounds h
  exact ⟨a, b⟩

end Go.Proofs.YtjnddfpieogpiaaGreatDoor.Rr
/- Reading real numbers: the program's realGuess and RealRead. -/
namespace Go.Proofs.YtjnddfpieogpiaaGreatDoor.Rr
open Go.RowKit
open Go.Lib (decDigits itoa)
set_option linter.unusedVariables false

def wB (j : Nat) : Nat := if j = 0 then 9221120237041090561 else if j = 1 then 9218868437227405312 else if j = 2 then 18442240474082181120 else 9223372036854775808
def wT (j : Nat) : List UInt8 := if j = 0 then [110, 97, 110] else if j = 1 then [105, 110, 102] else if j = 2 then [45, 105, 110, 102] else [45, 48]
theorem wB_txt (j : Nat) (h : j < 4) : Txt (wB j) (wT j) ∧ wB j < 18446744073709551616 := by
  have hj : j = 0 ∨ j = 1 ∨ j = 2 ∨ j = 3 := by omega
  rcases hj with rfl | rfl | rfl | rfl
  · exact ⟨.inl ⟨by decide, rfl⟩, by decide⟩
  · exact ⟨.inr (.inr ⟨by decide, by decide +kernel, [105, 110, 102], .inl ⟨by decide, rfl⟩, rfl⟩), by decide⟩
  · exact ⟨.inr (.inr ⟨by decide, by decide +kernel, [105, 110, 102], .inl ⟨by decide, rfl⟩, rfl⟩), by decide⟩
  · exact ⟨.inr (.inl ⟨by decide, by decide +kernel, rfl⟩), by decide⟩

/-- The text of a finite number other than 0. -/
def FT (t : List UInt8) (s : Bool) (n : Nat) (e : Int) : Prop := t = (if s then 45 :: posT n e else posT n e) ∧ n % 2 = 1 ∧ n < 9007199254740992 ∧ -1074 ≤ e ∧ e ≤ 1023 ∧ n * 2 ^ (e + 1074).toNat < Fm.Kinf

theorem txt_cases {x : Nat} {t : List UInt8} (h : Txt x t) : (∃ j, j < 4 ∧ t = wT j) ∨ t = [48] ∨ ∃ s n e, FT t s n e := by
  rcases h with ⟨h1, rfl⟩ | ⟨h1, h2, rfl⟩ | ⟨h1, h2, p, h3, rfl⟩
  · exact .inl ⟨0, by omega, rfl⟩
  · cases Fm.sg x
    · exact .inr (.inl rfl)
    · exact .inl ⟨3, by omega, rfl⟩
  · rcases h3 with ⟨h3, rfl⟩ | ⟨h3, n, e, h4, rfl⟩
    · cases Fm.sg x
      · exact .inl ⟨1, by omega, rfl⟩
      · exact .inl ⟨2, by omega, rfl⟩
    · obtain ⟨a, b, c, d⟩ := h4.bd h3 h2
      have hv := h4.val h2
      have hl := Fm.R_fin_lt h3
      rw [hv] at hl
      exact .inr (.inr ⟨Fm.sg x, n, e, rfl, h4.1, a, c, b, hl⟩)
theorem ft_txt {t : List UInt8} {s : Bool} {n y : Nat} {e : Int} (h : FT t s n e) (hy : Ex s n (e + 1074).toNat y) : Txt y t := by
  obtain ⟨h1, h2, h3, h4, h5, h6⟩ := h
  obtain ⟨a, b, c, d⟩ := ex_rg hy
  have hn : 0 < n := by omega
  have hR : 0 < Fm.R (Fm.rg y) := by rw [c]; exact Nat.mul_pos hn (Nat.two_pow_pos _)
  refine .inr (.inr ⟨by unfold Fm.isN; omega, hR, posT n e, .inr ⟨a, n, e, Fm.Parts.of h2 h4 c, rfl⟩, ?_⟩)
  rw [b, h1]

theorem tx_data (l : List UInt8) : (tx l).data.toList = l := by simp [tx]
theorem tx_of (s : ByteArray) : tx s.data.toList = s := by
  unfold tx
  cases s
  simp
theorem beq_no {a b : ByteArray} (h : a ≠ b) : (a.toList == b.toList) = false := by
  rw [beq_eq_false_iff_ne, ByteArray.toList_eq, ByteArray.toList_eq]
  intro e
  apply h
  rw [← tx_of a, ← tx_of b, e]
theorem beq_yes (a : ByteArray) : (a.toList == a.toList) = true := by simp

theorem cut_len (s sep : List UInt8) : (Lib.cut s sep).1.length ≤ s.length ∧ (Lib.cut s sep).2.1.length ≤ s.length := by
  unfold Lib.cut
  split
  · simp only [List.length_take, List.length_drop]
    omega
  · simp

theorem sep_data : (⟨#[42, 50, 94]⟩ : ByteArray).data.toList = [42, 50, 94] := rfl

/-- The signed number of a text. -/
theorem ft_cut {t : List UInt8} {s : Bool} {n : Nat} {e : Int} (h : FT t s n e) : Lib.cut t [42, 50, 94] = (itoa (if s then -(n : Int) else n), itoa e, true) := by
  obtain ⟨h1, h2, -⟩ := h
  rw [h1]
  cases s
  · simp only [Bool.false_eq_true, if_false]
    rw [Lib.itoa_nonneg]
    exact cut_star _ _ (dec_nostar n)
  · simp only [if_true]
    rw [Lib.itoa_neg n (by omega)]
    exact cut_star (45 :: decDigits n) _ (fun x hx => by
      rcases List.mem_cons.1 hx with rfl | hx
      · decide
      · exact dec_nostar n x hx)

theorem zero_cut : Lib.cut [48] [42, 50, 94] = ([48], [], false) := by decide

/-- How a text is read. -/
def Rd2 (l : List UInt8) (v : Nat) (ok : Bool) : Prop := v < 18446744073709551616 ∧ ((ok = true ∧ Txt v l) ∨ (ok = false ∧ v = 0 ∧ ∀ x, ¬ Txt x l))

end Go.Proofs.YtjnddfpieogpiaaGreatDoor.Rr
/- Reading real numbers: the specification's l26Find and l26Num. -/
namespace Go.Proofs.YtjnddfpieogpiaaGreatDoor.Rr
open Go.RowKit
open Go.Lib (decDigits itoa)
set_option linter.unusedVariables false

theorem drop_at (s : ByteArray) (i : Nat) (hi : i < s.size) : s.data.toList.drop i = (s[i]'hi) :: s.data.toList.drop (i + 1) := by
  have h : i < s.data.toList.length := by rw [← Lib.size_eq]; exact hi
  rw [List.drop_eq_getElem_cons h]
  rfl
theorem take_at (s : ByteArray) (i : Nat) (hi : i < s.size) : s.data.toList.take (i + 1) = s.data.toList.take i ++ [s[i]'hi] := by
  have h : i < s.data.toList.length := by rw [← Lib.size_eq]; exact hi
  rw [List.take_add_one, List.getElem?_eq_getElem h]
  rfl
theorem mem_at (s : ByteArray) (i : Nat) (hi : i < s.size) : (s[i]'hi) ∈ s.data.toList := by
  have := drop_at s i hi
  exact List.mem_of_mem_drop (by rw [this]; simp)

set_option maxRecDepth 100000 in
set_option maxHeartbeats 1000000 in
theorem find_r (s : ByteArray) (w : World) (d : Nat) (hs : s.size ≤ 1048576) (hd : d ≤ s.size) (hno : ∀ j, j < d → ∀ h : j < s.size, (s[j]'h).toNat ≠ 42) (hat : ∀ h : d < s.size, (s[d]'h).toNat = 42) :
    Calls Tryz.prog 94 #[.string s, .int .u8 42] w fun e w' => e = .returned (.int .i64 (if d < s.size then (d : Int) else -1)) ∧ w' = w := by
  obtain ⟨G, HG⟩ : ∃ G : Int, Hid (G = if d < s.size then (d : Int) else -1) := ⟨_, Eq.refl (if d < s.size then (d : Int) else -1)⟩
  rw [← HG.out]
  have Hno : Hid (∀ j, j < d → ∀ h : j < s.size, (s[j]'h).toNat ≠ 42) := hno
  have Hat : Hid (∀ h : d < s.size, (s[d]'h).toNat = 42) := hat
  clear hno hat
  go_enter Tryz.func94, Tryz.ntmps94
  go_wp2
  go_loopg [5] s.size (fun g i wr => ∃ (j : Nat), j + g = s.size ∧ i = .int .i64 j ∧ j ≤ d ∧ wr = w)
  case atStart => exact ⟨0, by omega, rfl, by omega, rfl⟩
  case round =>
    obtain ⟨j, hj, rfl, hjd, rfl⟩ := hrel
    by_cases hlt : j < s.size
    · by_cases hj2 : j < d
      · have hne : ((((s[j]'hlt).toNat : Nat) : Int) == 42) = false := by
          rw [beq_eq_false_iff_ne]
          have := Hno.out j hj2 hlt
          omega
        go_wp2
        go_roundg (gk - 1)
        case measure => omega
        case rel => exact ⟨j + 1, by omega, by go_num, by omega, rfl⟩
      · obtain rfl : j = d := by omega
        have hne : ((((s[j]'hlt).toNat : Nat) : Int) == 42) = true := by
          rw [beq_iff_eq]
          have := Hat.out hlt
          omega
        go_wp2
        go_ret
        exact ⟨by rw [HG.out, if_pos hlt]; rfl, rfl⟩
    · go_wp2
      go_ret
      exact ⟨by rw [HG.out, if_neg (by omega)]; rfl, rfl⟩

/-- Digits of a number, at most 17, as they are written. -/
def Good (neg : Bool) (l : List UInt8) : Prop := l ≠ [] ∧ l.length ≤ 17 ∧ (∀ b ∈ l, isD b) ∧ (∀ r, l = 48 :: r → r = [] ∧ neg = false)

theorem len17 (u : Nat) (h : u < 100000000000000000) : (decDigits u).length ≤ 17 := by
  rw [Lib.decDigits_length u]
  by_cases h0 : Lib.nDigits u ≤ 17
  · exact h0
  · exfalso
    have key : ∀ k u, k < Lib.nDigits u → 1 ≤ k → 10 ^ k ≤ u := by
      intro k
      induction k with
      | zero => intro u _ h; omega
      | succ k ih =>
        intro u hk _
        by_cases hu : u < 10
        · rw [Lib.nDigits_small hu] at hk; omega
        · rw [Lib.nDigits_big hu] at hk
          by_cases hk0 : k = 0
          · subst hk0; simp; omega
          · have := ih (u / 10) (by omega) (by omega)
            rw [Nat.pow_succ]
            omega
    have := key 17 u (by omega) (by omega)
    have e : (10 : Nat) ^ 17 = 100000000000000000 := by decide
    omega

theorem val_lt (l : List UInt8) (A : Nat) (h : ∀ b ∈ l, isD b) : valN l A < (A + 1) * 10 ^ l.length := by
  induction l generalizing A with
  | nil => simp [valN]
  | cons b l ih =>
    have hb := (h b (by simp)).2
    have := ih (A * 10 + (b.toNat - 48)) (fun x hx => h x (by simp [hx]))
    simp only [valN, List.length_cons]
    refine Nat.lt_of_lt_of_le this ?_
    rw [Nat.pow_succ, Nat.mul_comm (10 ^ l.length) 10, ← Nat.mul_assoc]
    exact Nat.mul_le_mul_right _ (by omega)

theorem zero_dec : decDigits 0 = [48] := by rw [Lib.decDigits_one (by decide)]; rfl

theorem good_of_itoa {neg : Bool} {l : List UInt8} {v : Int} (hv : v.natAbs < 100000000000000000) (h : (if neg then 45 :: l else l) = itoa v) (h45 : neg = false → ∀ r, l ≠ 45 :: r) : Good neg l := by
  have d45 : ¬ isD 45 := by unfold isD; decide
  have body : ∀ u : Nat, u < 100000000000000000 → l = decDigits u → (neg = true → 1 ≤ u) → Good neg l := by
    intro u hu e hn
    subst e
    refine ⟨dec_ne u, len17 u hu, dec_isD u, fun r er => ?_⟩
    by_cases h0 : u = 0
    · subst h0
      rw [zero_dec] at er
      injection er with _ er
      refine ⟨er.symm, ?_⟩
      cases neg
      · rfl
      · have := hn rfl; omega
    · exfalso
      obtain ⟨b, r', e2, h1, -⟩ := dec_head u (by omega)
      rw [e2] at er
      injection er with er _
      rw [er] at h1
      exact absurd h1 (by decide)
  rcases itoa_cases v with ⟨u, rfl, e⟩ | ⟨u, hu, rfl, e⟩
  · cases neg
    · simp only [Bool.false_eq_true, if_false] at h
      exact body u (by omega) (h.trans e) (fun h => by cases h)
    · simp only [if_true] at h
      exfalso
      have := dec_isD u 45 (by rw [← e, ← h]; simp)
      exact d45 this
  · cases neg
    · simp only [Bool.false_eq_true, if_false] at h
      exact absurd (h.trans e) (h45 rfl _)
    · simp only [if_true] at h
      rw [e] at h
      injection h with _ h
      exact body u (by omega) h (fun _ => hu)

theorem itoa_of_good {neg : Bool} {l : List UInt8} (h : Good neg l) : (if neg then 45 :: l else l) = itoa (if neg then -((valN l 0 : Nat) : Int) else ((valN l 0 : Nat) : Int)) ∧ valN l 0 < 100000000000000000 := by
  obtain ⟨h1, h2, h3, h4⟩ := h
  have hlt : valN l 0 < 100000000000000000 := by
    have a := val_lt l 0 h3
    rw [Nat.zero_add, Nat.one_mul] at a
    have b : 10 ^ l.length ≤ 10 ^ 17 := Nat.pow_le_pow_right (by decide) h2
    have e : (10 : Nat) ^ 17 = 100000000000000000 := by decide
    omega
  refine ⟨?_, hlt⟩
  by_cases h0 : ∃ r, l = 48 :: r
  · obtain ⟨r, e⟩ := h0
    obtain ⟨rfl, rfl⟩ := h4 r e
    subst e
    simp only [Bool.false_eq_true, if_false]
    have : valN [48] 0 = 0 := by decide
    rw [this]
    have : itoa ((0 : Nat) : Int) = decDigits 0 := Lib.itoa_nonneg 0
    rw [this, zero_dec]
  · obtain ⟨c1, c2⟩ := canon l h3 (fun b r e => by
      have hb := h3 b (by rw [e]; simp)
      have := hb.1
      by_cases h48 : b.toNat = 48
      · exfalso
        apply h0
        have : b = 48 := by
          have := UInt8.ofNat_toNat (x := b)
          rw [h48] at this
          exact this.symm
        exact ⟨r, by rw [e, this]⟩
      · omega) h1
    cases neg
    · simp only [Bool.false_eq_true, if_false]
      rw [Lib.itoa_nonneg, c1]
    · simp only [if_true]
      rw [Lib.itoa_neg _ c2, c1]

/-- How a number is read. -/
def NumS (l : List UInt8) (v : Int) (ok : Bool) : Prop := (ok = true ∧ l = itoa v ∧ v.natAbs < 100000000000000000) ∨ (ok = false ∧ v = 0 ∧ ∀ u : Int, u.natAbs < 100000000000000000 → l ≠ itoa u)
def NumE (l : List UInt8) (e : Ending) : Prop := ∃ v ok, e = .returned (.tuple #[.int .i64 v, .bool ok]) ∧ NumS l v ok ∧ v.natAbs < 100000000000000000
theorem nums_no {neg : Bool} {l : List UInt8} (h : ¬ Good neg l) (h45 : neg = false → ∀ r, l ≠ 45 :: r) : NumS (if neg then 45 :: l else l) 0 false :=
  .inr ⟨rfl, rfl, fun u hu e => h (good_of_itoa hu e h45)⟩
theorem nums_yes {neg : Bool} {l : List UInt8} (h : Good neg l) : NumS (if neg then 45 :: l else l) (if neg then -((valN l 0 : Nat) : Int) else ((valN l 0 : Nat) : Int)) true := by
  obtain ⟨a, b⟩ := itoa_of_good h
  refine .inl ⟨rfl, a, ?_⟩
  cases neg
  · simp only [Bool.false_eq_true, if_false]; omega
  · simp only [if_true]; omega
theorem pow17 (i : Nat) (h : i ≤ 16) : 10 ^ i ≤ 10000000000000000 := by
  have : ∀ j : Fin 17, 10 ^ j.val ≤ 10000000000000000 := by decide
  exact this ⟨i, by omega⟩

set_option maxRecDepth 100000 in
set_option maxHeartbeats 4000000 in
theorem num_neg (s t : ByteArray) (w : World) (hs : s.size ≤ 1048576) (h1 : 0 < s.size) (h45 : (s[0]'h1).toNat = 45) (ht : s.extract 1 s.size = t) (hL : s.data.toList = 45 :: t.data.toList) :
    Calls Tryz.prog 95 #[.string s] w fun e w' => NumE s.data.toList e ∧ w' = w := by
  obtain ⟨L, HL⟩ : ∃ L, Hid (L = s.data.toList) := ⟨_, rfl⟩
  rw [← HL.out]
  have HNO : Hid (¬ Good true t.data.toList → NumS L 0 false) := fun h => by rw [HL.out, hL]; exact nums_no (neg := true) h (fun h => by cases h)
  have HYES : Hid (Good true t.data.toList → NumS L (-((valN t.data.toList 0 : Nat) : Int)) true) := fun h => by rw [HL.out, hL]; exact nums_yes (neg := true) h
  have hts : t.size + 1 = s.size := by
    have := congrArg List.length hL
    rw [← Lib.size_eq, List.length_cons, ← Lib.size_eq] at this
    omega
  have hs0 : s[0]? = some (s[0]'h1) := by simp [h1]
  have j1 : (0 : Int) < (s.size : Int) := by omega
  have j2 : ((((s[0]'h1).toNat : Nat) : Int) == 45) = true := by rw [beq_iff_eq]; omega
  clear HL hL h45
  go_enter Tryz.func95, Tryz.ntmps95
  by_cases z0 : t.size = 0
  · have i1 : ((t.size : Int) == 0) = true := by rw [beq_iff_eq]; omega
    have HR := HNO.out (fun h => h.1 (List.length_eq_zero_iff.1 (by rw [← Lib.size_eq]; exact z0)))
    have HR : Hid (NumS L 0 false) := HR
    clear HNO HYES z0
    go_wp2
    go_ret2
    exact ⟨⟨0, false, rfl, HR.out, by decide⟩, rfl⟩
  · have i1 : ((t.size : Int) == 0) = false := by rw [beq_eq_false_iff_ne]; omega
    by_cases z1 : 17 < t.size
    · have i2 : (17 : Int) < (t.size : Int) := by omega
      have HR : Hid (NumS L 0 false) := HNO.out (fun h => by have := h.2.1; rw [← Lib.size_eq] at this; omega)
      clear HNO HYES z0 z1
      go_wp2
      go_ret2
      exact ⟨⟨0, false, rfl, HR.out, by decide⟩, rfl⟩
    · have i2 : ¬ (17 : Int) < (t.size : Int) := by omega
      have h0 : 0 < t.size := by omega
      have hd0 := drop_at t 0 h0
      rw [List.drop_zero] at hd0
      have ht0 : t[0]? = some (t[0]'h0) := by simp [h0]
      by_cases z2 : (t[0]'h0).toNat = 48
      · have i3 : ((((t[0]'h0).toNat : Nat) : Int) == 48) = true := by rw [beq_iff_eq]; omega
        have hb48 : (t[0]'h0) = 48 := by
          have := UInt8.ofNat_toNat (x := (t[0]'h0))
          rw [z2] at this
          exact this.symm
        have HR : Hid (NumS L 0 false) := HNO.out (fun h => by
          have := (h.2.2.2 _ (by rw [hd0, hb48])).2
          cases this)
        clear HNO HYES hd0 z2 hb48
        by_cases z3 : (1 : Int) < (t.size : Int)
        · go_wp2
          go_ret2
          exact ⟨⟨0, false, rfl, HR.out, by decide⟩, rfl⟩
        · go_wp2
          go_ret2
          exact ⟨⟨0, false, rfl, HR.out, by decide⟩, rfl⟩
      · have i3 : ((((t[0]'h0).toNat : Nat) : Int) == 48) = false := by rw [beq_eq_false_iff_ne]; omega
        have HG : Hid ((∀ b ∈ t.data.toList, isD b) → Good true t.data.toList) := fun hd => ⟨by rw [hd0]; simp, by rw [← Lib.size_eq]; omega, hd, fun r er => by
          exfalso
          rw [hd0] at er
          injection er with er _
          apply z2
          rw [er]
          rfl⟩
        clear z2 hd0
        go_wp2
        go_loopg [5, 6] t.size (fun g x i wr => ∃ (j A : Nat), j + g = t.size ∧ i = .int .i64 j ∧ x = .int .i64 A ∧ A < 10 ^ j ∧ Hid ((∀ b ∈ t.data.toList.take j, isD b) ∧ valN (t.data.toList.take j) 0 = A) ∧ wr = w)
        case atStart => exact ⟨0, 0, by omega, rfl, rfl, by decide, ⟨by simp, by simp [valN]⟩, rfl⟩
        case round =>
          obtain ⟨j, A, hj, rfl, rfl, hA, HA, rfl⟩ := hrel
          by_cases hlt : j < t.size
          · have hp := pow17 j (by omega)
            have hA2 : A < 10000000000000000 := Nat.lt_of_lt_of_le hA hp
            have hsj : t[j]? = some (t[j]'hlt) := by simp [hlt]
            have hmem := mem_at t j hlt
            by_cases d1 : (t[j]'hlt).toNat < 48
            · have d1' : (((t[j]'hlt).toNat : Nat) : Int) < 48 := by omega
              have HR : Hid (NumS L 0 false) := HNO.out (fun h => by have := (h.2.2.1 _ hmem).1; omega)
              clear HA HNO HYES HG hp hmem hA
              go_wp2
              go_ret2
              exact ⟨⟨0, false, rfl, HR.out, by decide⟩, rfl⟩
            · have d1' : ¬ (((t[j]'hlt).toNat : Nat) : Int) < 48 := by omega
              by_cases d2 : 57 < (t[j]'hlt).toNat
              · have d2' : 57 < (((t[j]'hlt).toNat : Nat) : Int) := by omega
                have HR : Hid (NumS L 0 false) := HNO.out (fun h => by have := (h.2.2.1 _ hmem).2; omega)
                clear HA HNO HYES HG hp hmem hA
                go_wp2
                go_ret2
                exact ⟨⟨0, false, rfl, HR.out, by decide⟩, rfl⟩
              · have d2' : ¬ 57 < (((t[j]'hlt).toNat : Nat) : Int) := by omega
                have HA2 : Hid ((∀ b ∈ t.data.toList.take (j + 1), isD b) ∧ valN (t.data.toList.take (j + 1)) 0 = A * 10 + ((t[j]'hlt).toNat - 48)) := by
                  have e := take_at t j hlt
                  refine ⟨fun b hb => ?_, ?_⟩
                  · rw [e] at hb
                    rcases List.mem_append.1 hb with hb | hb
                    · exact HA.out.1 b hb
                    · rw [List.mem_singleton.1 hb]; exact ⟨by omega, by omega⟩
                  · rw [e, valN_append, HA.out.2]; rfl
                have hB : A * 10 + ((t[j]'hlt).toNat - 48) < 10 ^ (j + 1) := by rw [Nat.pow_succ]; omega
                have HB : Hid (A * 10 + ((t[j]'hlt).toNat - 48) < 10 ^ (j + 1)) := hB
                clear HA hp hmem hA hB
                go_wp2
                go_roundg (gk - 1)
                case measure => omega
                case rel => exact ⟨j + 1, _, by omega, by go_num, by go_num, HB.out, HA2, rfl⟩
          · have hall : t.data.toList.take j = t.data.toList := List.take_of_length_le (by rw [← Lib.size_eq]; omega)
            have HA2 := HA.out
            rw [hall] at HA2
            have HR : Hid (NumS L (-(A : Int)) true) := by
              have := HYES.out (HG.out HA2.1)
              rw [HA2.2] at this
              exact this
            have hA3 : A < 100000000000000000 := by
              have := (itoa_of_good (HG.out HA2.1)).2
              rw [HA2.2] at this
              exact this
            clear HA HA2 HNO HYES HG hall hA
            go_wp2
            go_ret2
            exact ⟨⟨_, true, rfl, HR.out, by omega⟩, rfl⟩

set_option maxRecDepth 100000 in
set_option maxHeartbeats 4000000 in
theorem num_pos (t : ByteArray) (w : World) (hs : t.size ≤ 1048576) (h45 : ∀ h : 0 < t.size, (t[0]'h).toNat ≠ 45) :
    Calls Tryz.prog 95 #[.string t] w fun e w' => NumE t.data.toList e ∧ w' = w := by
  obtain ⟨L, HL⟩ : ∃ L, Hid (L = t.data.toList) := ⟨_, rfl⟩
  have hno : ∀ r, t.data.toList ≠ 45 :: r := fun r e => by
    have h1 : 0 < t.size := by rw [Lib.size_eq, e]; simp
    have hd := drop_at t 0 h1
    rw [List.drop_zero, e] at hd
    injection hd with hd _
    apply h45 h1
    rw [← hd]
    rfl
  rw [← HL.out]
  have HNO : Hid (¬ Good false t.data.toList → NumS L 0 false) := fun h => by rw [HL.out]; exact nums_no (neg := false) h (fun _ => hno)
  have HYES : Hid (Good false t.data.toList → NumS L ((valN t.data.toList 0 : Nat) : Int) true) := fun h => by rw [HL.out]; exact nums_yes (neg := false) h
  clear HL hno
  by_cases h1 : 0 < t.size
  · have hs0 : t[0]? = some (t[0]'h1) := by simp [h1]
    have j1 : (0 : Int) < (t.size : Int) := by omega
    have j2 : ((((t[0]'h1).toNat : Nat) : Int) == 45) = false := by rw [beq_eq_false_iff_ne]; have := h45 h1; omega
    clear h45
    go_enter Tryz.func95, Tryz.ntmps95
    by_cases z0 : t.size = 0
    · have i1 : ((t.size : Int) == 0) = true := by rw [beq_iff_eq]; omega
      have HR := HNO.out (fun h => h.1 (List.length_eq_zero_iff.1 (by rw [← Lib.size_eq]; exact z0)))
      have HR : Hid (NumS L 0 false) := HR
      clear HNO HYES z0
      go_wp2
      go_ret2
      exact ⟨⟨0, false, rfl, HR.out, by decide⟩, rfl⟩
    · have i1 : ((t.size : Int) == 0) = false := by rw [beq_eq_false_iff_ne]; omega
      by_cases z1 : 17 < t.size
      · have i2 : (17 : Int) < (t.size : Int) := by omega
        have HR : Hid (NumS L 0 false) := HNO.out (fun h => by have := h.2.1; rw [← Lib.size_eq] at this; omega)
        clear HNO HYES z0 z1
        go_wp2
        go_ret2
        exact ⟨⟨0, false, rfl, HR.out, by decide⟩, rfl⟩
      · have i2 : ¬ (17 : Int) < (t.size : Int) := by omega
        have h0 : 0 < t.size := by omega
        have hd0 := drop_at t 0 h0
        rw [List.drop_zero] at hd0
        have ht0 : t[0]? = some (t[0]'h0) := by simp [h0]
        by_cases z2 : (t[0]'h0).toNat = 48
        · have i3 : ((((t[0]'h0).toNat : Nat) : Int) == 48) = true := by rw [beq_iff_eq]; omega
          have hb48 : (t[0]'h0) = 48 := by
            have := UInt8.ofNat_toNat (x := (t[0]'h0))
            rw [z2] at this
            exact this.symm
          by_cases z3 : (1 : Int) < (t.size : Int)
          · have HR : Hid (NumS L 0 false) := HNO.out (fun h => by
              have := (h.2.2.2 _ (by rw [hd0, hb48])).1
              have hl := congrArg List.length this
              rw [List.length_drop, ← Lib.size_eq] at hl
              simp at hl
              omega)
            clear HNO HYES hd0 z2 hb48
            go_wp2
            go_ret2
            exact ⟨⟨0, false, rfl, HR.out, by decide⟩, rfl⟩
          · have HG : Hid ((∀ b ∈ t.data.toList, isD b) → Good false t.data.toList) := fun hd => ⟨by rw [hd0]; simp, by rw [← Lib.size_eq]; omega, hd, fun r er => ⟨by
              have hl := congrArg List.length er
              rw [← Lib.size_eq] at hl
              cases r with
              | nil => rfl
              | cons a b => simp at hl; omega, rfl⟩⟩
            clear hd0 z2 hb48
            go_wp2
            go_loopg [5, 6] t.size (fun g x i wr => ∃ (j A : Nat), j + g = t.size ∧ i = .int .i64 j ∧ x = .int .i64 A ∧ A < 10 ^ j ∧ Hid ((∀ b ∈ t.data.toList.take j, isD b) ∧ valN (t.data.toList.take j) 0 = A) ∧ wr = w)
            case atStart => exact ⟨0, 0, by omega, rfl, rfl, by decide, ⟨by simp, by simp [valN]⟩, rfl⟩
            case round =>
              obtain ⟨j, A, hj, rfl, rfl, hA, HA, rfl⟩ := hrel
              by_cases hlt : j < t.size
              · have hp := pow17 j (by omega)
                have hA2 : A < 10000000000000000 := Nat.lt_of_lt_of_le hA hp
                have hsj : t[j]? = some (t[j]'hlt) := by simp [hlt]
                have hmem := mem_at t j hlt
                by_cases d1 : (t[j]'hlt).toNat < 48
                · have d1' : (((t[j]'hlt).toNat : Nat) : Int) < 48 := by omega
                  have HR : Hid (NumS L 0 false) := HNO.out (fun h => by have := (h.2.2.1 _ hmem).1; omega)
                  clear HA HNO HYES HG hp hmem hA
                  go_wp2
                  go_ret2
                  exact ⟨⟨0, false, rfl, HR.out, by decide⟩, rfl⟩
                · have d1' : ¬ (((t[j]'hlt).toNat : Nat) : Int) < 48 := by omega
                  by_cases d2 : 57 < (t[j]'hlt).toNat
                  · have d2' : 57 < (((t[j]'hlt).toNat : Nat) : Int) := by omega
                    have HR : Hid (NumS L 0 false) := HNO.out (fun h => by have := (h.2.2.1 _ hmem).2; omega)
                    clear HA HNO HYES HG hp hmem hA
                    go_wp2
                    go_ret2
                    exact ⟨⟨0, false, rfl, HR.out, by decide⟩, rfl⟩
                  · have d2' : ¬ 57 < (((t[j]'hlt).toNat : Nat) : Int) := by omega
                    have HA2 : Hid ((∀ b ∈ t.data.toList.take (j + 1), isD b) ∧ valN (t.data.toList.take (j + 1)) 0 = A * 10 + ((t[j]'hlt).toNat - 48)) := by
                      have e := take_at t j hlt
                      refine ⟨fun b hb => ?_, ?_⟩
                      · rw [e] at hb
                        rcases List.mem_append.1 hb with hb | hb
                        · exact HA.out.1 b hb
                        · rw [List.mem_singleton.1 hb]; exact ⟨by omega, by omega⟩
                      · rw [e, valN_append, HA.out.2]; rfl
                    have hB : A * 10 + ((t[j]'hlt).toNat - 48) < 10 ^ (j + 1) := by rw [Nat.pow_succ]; omega
                    have HB : Hid (A * 10 + ((t[j]'hlt).toNat - 48) < 10 ^ (j + 1)) := hB
                    clear HA hp hmem hA hB
                    go_wp2
                    go_roundg (gk - 1)
                    case measure => omega
                    case rel => exact ⟨j + 1, _, by omega, by go_num, by go_num, HB.out, HA2, rfl⟩
              · have hall : t.data.toList.take j = t.data.toList := List.take_of_length_le (by rw [← Lib.size_eq]; omega)
                have HA2 := HA.out
                rw [hall] at HA2
                have HR : Hid (NumS L ((A : Int)) true) := by
                  have := HYES.out (HG.out HA2.1)
                  rw [HA2.2] at this
                  exact this
                have hA3 : A < 100000000000000000 := by
                  have := (itoa_of_good (HG.out HA2.1)).2
                  rw [HA2.2] at this
                  exact this
                clear HA HA2 HNO HYES HG hall hA
                go_wp2
                go_ret2
                exact ⟨⟨_, true, rfl, HR.out, by omega⟩, rfl⟩
        · have i3 : ((((t[0]'h0).toNat : Nat) : Int) == 48) = false := by rw [beq_eq_false_iff_ne]; omega
          have HG : Hid ((∀ b ∈ t.data.toList, isD b) → Good false t.data.toList) := fun hd => ⟨by rw [hd0]; simp, by rw [← Lib.size_eq]; omega, hd, fun r er => by
            exfalso
            rw [hd0] at er
            injection er with er _
            apply z2
            rw [er]
            rfl⟩
          clear z2 hd0
          go_wp2
          go_loopg [5, 6] t.size (fun g x i wr => ∃ (j A : Nat), j + g = t.size ∧ i = .int .i64 j ∧ x = .int .i64 A ∧ A < 10 ^ j ∧ Hid ((∀ b ∈ t.data.toList.take j, isD b) ∧ valN (t.data.toList.take j) 0 = A) ∧ wr = w)
          case atStart => exact ⟨0, 0, by omega, rfl, rfl, by decide, ⟨by simp, by simp [valN]⟩, rfl⟩
          case round =>
            obtain ⟨j, A, hj, rfl, rfl, hA, HA, rfl⟩ := hrel
            by_cases hlt : j < t.size
            · have hp := pow17 j (by omega)
              have hA2 : A < 10000000000000000 := Nat.lt_of_lt_of_le hA hp
              have hsj : t[j]? = some (t[j]'hlt) := by simp [hlt]
              have hmem := mem_at t j hlt
              by_cases d1 : (t[j]'hlt).toNat < 48
              · have d1' : (((t[j]'hlt).toNat : Nat) : Int) < 48 := by omega
                have HR : Hid (NumS L 0 false) := HNO.out (fun h => by have := (h.2.2.1 _ hmem).1; omega)
                clear HA HNO HYES HG hp hmem hA
                go_wp2
                go_ret2
                exact ⟨⟨0, false, rfl, HR.out, by decide⟩, rfl⟩
              · have d1' : ¬ (((t[j]'hlt).toNat : Nat) : Int) < 48 := by omega
                by_cases d2 : 57 < (t[j]'hlt).toNat
                · have d2' : 57 < (((t[j]'hlt).toNat : Nat) : Int) := by omega
                  have HR : Hid (NumS L 0 false) := HNO.out (fun h => by have := (h.2.2.1 _ hmem).2; omega)
                  clear HA HNO HYES HG hp hmem hA
                  go_wp2
                  go_ret2
                  exact ⟨⟨0, false, rfl, HR.out, by decide⟩, rfl⟩
                · have d2' : ¬ 57 < (((t[j]'hlt).toNat : Nat) : Int) := by omega
                  have HA2 : Hid ((∀ b ∈ t.data.toList.take (j + 1), isD b) ∧ valN (t.data.toList.take (j + 1)) 0 = A * 10 + ((t[j]'hlt).toNat - 48)) := by
                    have e := take_at t j hlt
                    refine ⟨fun b hb => ?_, ?_⟩
                    · rw [e] at hb
                      rcases List.mem_append.1 hb with hb | hb
                      · exact HA.out.1 b hb
                      · rw [List.mem_singleton.1 hb]; exact ⟨by omega, by omega⟩
                    · rw [e, valN_append, HA.out.2]; rfl
                  have hB : A * 10 + ((t[j]'hlt).toNat - 48) < 10 ^ (j + 1) := by rw [Nat.pow_succ]; omega
                  have HB : Hid (A * 10 + ((t[j]'hlt).toNat - 48) < 10 ^ (j + 1)) := hB
                  clear HA hp hmem hA hB
                  go_wp2
                  go_roundg (gk - 1)
                  case measure => omega
                  case rel => exact ⟨j + 1, _, by omega, by go_num, by go_num, HB.out, HA2, rfl⟩
            · have hall : t.data.toList.take j = t.data.toList := List.take_of_length_le (by rw [← Lib.size_eq]; omega)
              have HA2 := HA.out
              rw [hall] at HA2
              have HR : Hid (NumS L ((A : Int)) true) := by
                have := HYES.out (HG.out HA2.1)
                rw [HA2.2] at this
                exact this
              have hA3 : A < 100000000000000000 := by
                have := (itoa_of_good (HG.out HA2.1)).2
                rw [HA2.2] at this
                exact this
              clear HA HA2 HNO HYES HG hall hA
              go_wp2
              go_ret2
              exact ⟨⟨_, true, rfl, HR.out, by omega⟩, rfl⟩
  · have j1 : ¬ (0 : Int) < (t.size : Int) := by omega
    have i1 : ((t.size : Int) == 0) = true := by rw [beq_iff_eq]; omega
    have HR : Hid (NumS L 0 false) := HNO.out (fun h => h.1 (List.length_eq_zero_iff.1 (by rw [← Lib.size_eq]; omega)))
    clear h45 HNO HYES h1
    go_enter Tryz.func95, Tryz.ntmps95
    go_wp2
    go_ret2
    exact ⟨⟨0, false, rfl, HR.out, by decide⟩, rfl⟩

theorem num_s (s : ByteArray) (w : World) (hs : s.size ≤ 1048576) :
    Calls Tryz.prog 95 #[.string s] w fun e w' => NumE s.data.toList e ∧ w' = w := by
  by_cases h : ∃ h1 : 0 < s.size, (s[0]'h1).toNat = 45
  · obtain ⟨h1, h45⟩ := h
    have hd := drop_at s 0 h1
    rw [List.drop_zero] at hd
    have hb : (s[0]'h1) = 45 := by
      have := UInt8.ofNat_toNat (x := (s[0]'h1))
      rw [h45] at this
      exact this.symm
    rw [hb] at hd
    have ht : (s.extract 1 s.size).data.toList = s.data.toList.drop 1 := Lib.extract_to_end s 1
    refine num_neg s (s.extract 1 s.size) w hs h1 h45 rfl ?_
    rw [ht]
    exact hd
  · exact num_pos s w hs (fun h1 h45 => h ⟨h1, h45⟩)
end Go.Proofs.YtjnddfpieogpiaaGreatDoor.Rr
/- Reading real numbers: the specification's l3Read. -/
namespace Go.Proofs.YtjnddfpieogpiaaGreatDoor.Rr
open Go.RowKit
open Go.Lib (decDigits itoa)
set_option linter.unusedVariables false

theorem ext_mid (s : ByteArray) (a k : Nat) : (s.extract a (a + k)).data.toList = (s.data.toList.drop a).take k := by
  rw [ByteArray.data_extract]
  simp [List.take_drop]

theorem star_unique (a c b r : List UInt8) (ha : ∀ x ∈ a, x ≠ 42) (hc : ∀ x ∈ c, x ≠ 42) (h : a ++ 42 :: b = c ++ 42 :: r) : a = c ∧ b = r := by
  induction a generalizing c with
  | nil =>
    cases c with
    | nil => injection h with _ h; exact ⟨rfl, h⟩
    | cons y c => injection h with h _; exact absurd h.symm (hc y (by simp))
  | cons x a ih =>
    cases c with
    | nil => injection h with h _; exact absurd h (ha x (by simp))
    | cons y c =>
      injection h with h1 h2
      obtain ⟨e1, e2⟩ := ih c (fun z hz => ha z (by simp [hz])) (fun z hz => hc z (by simp [hz])) h2
      exact ⟨by rw [h1, e1], e2⟩

/-- The first star. -/
theorem first_star (s : ByteArray) : ∃ d, d ≤ s.size ∧ (∀ j, j < d → ∀ h : j < s.size, (s[j]'h).toNat ≠ 42) ∧ (∀ h : d < s.size, (s[d]'h).toNat = 42) := by
  have key : ∀ n, n ≤ s.size → (∃ d, d < n ∧ (∀ j, j < d → ∀ h : j < s.size, (s[j]'h).toNat ≠ 42) ∧ (∀ h : d < s.size, (s[d]'h).toNat = 42)) ∨ (∀ j, j < n → ∀ h : j < s.size, (s[j]'h).toNat ≠ 42) := by
    intro n
    induction n with
    | zero => intro _; exact .inr (fun j hj => by omega)
    | succ n ih =>
      intro hn
      rcases ih (by omega) with ⟨d, h1, h2, h3⟩ | h
      · exact .inl ⟨d, by omega, h2, h3⟩
      · by_cases hc : (s[n]'(by omega)).toNat = 42
        · exact .inl ⟨n, by omega, h, fun _ => hc⟩
        · refine .inr (fun j hj hjs => ?_)
          by_cases hjn : j < n
          · exact h j hjn hjs
          · have : j = n := by omega
            subst this
            exact hc
  rcases key s.size (Nat.le_refl _) with ⟨d, h1, h2, h3⟩ | h
  · exact ⟨d, by omega, h2, h3⟩
  · exact ⟨s.size, Nat.le_refl _, h, fun h' => by omega⟩

theorem take_no (s : ByteArray) (d : Nat) (hd : d ≤ s.size) (hno : ∀ j, j < d → ∀ h : j < s.size, (s[j]'h).toNat ≠ 42) : ∀ x ∈ s.data.toList.take d, x ≠ 42 := by
  intro x hx e
  obtain ⟨i, hi, ex⟩ := List.getElem_of_mem hx
  have hi2 : i < d := by rw [List.length_take] at hi; omega
  have hi3 : i < s.size := by omega
  have h1 := hno i hi2 hi3
  apply h1
  rw [List.getElem_take] at ex
  have : (s[i]'hi3) = x := ex
  rw [this, e]
  rfl

/-- How a text of a number above 0 is read. -/
def R3 (l : List UInt8) (x : Nat) (ok : Bool) : Prop := x < 18446744073709551616 ∧ ((ok = true ∧ ∃ n e, FT l false n e ∧ Ex false n (e + 1074).toNat x) ∨ (ok = false ∧ ∀ n e, ¬ FT l false n e))
def RE (l : List UInt8) (e : Ending) : Prop := ∃ x ok, e = .returned (.tuple #[.float .f64 x, .bool ok]) ∧ R3 l x ok

theorem ft_split {l : List UInt8} {n : Nat} {e : Int} (h : FT l false n e) : l = decDigits n ++ 42 :: 50 :: 94 :: itoa e := h.1

theorem ft_star {l a r : List UInt8} (ha : ∀ x ∈ a, x ≠ 42) (hl : l = a ++ 42 :: r) {n : Nat} {e : Int} (h : FT l false n e) : a = decDigits n ∧ r = 50 :: 94 :: itoa e := by
  have h1 := ft_split h
  rw [hl] at h1
  exact star_unique _ _ _ _ ha (dec_nostar n) h1

theorem inf_sv : Fm.sv 9218868437227405312 = (Fm.Kinf : Int) := by decide +kernel
theorem lt_inf_fin {x : Nat} (h : Fm.rg x < Fm.infR) : (Fm.F.order x 9218868437227405312 == some .lt) = true := by
  rw [Fm.lt_b (by unfold Fm.isN; omega) (by decide), inf_sv]
  have := Fm.R_fin_lt h
  refine decide_eq_true ?_
  unfold Fm.sv
  split <;> omega
theorem lt_inf_inf : (Fm.F.order 9218868437227405312 9218868437227405312 == some .lt) = false := by decide +kernel

/-- Doubling on, over the bound too. -/
def Ov (n k c : Nat) : Prop := ∃ r, r ≤ Fm.infR ∧ c = Ieee.double.word false r ∧ (r < Fm.infR → Fm.R r = n * 2 ^ k)
theorem ov_dbl {n k c : Nat} (h : Ov n k c) : ∃ c', floatBits .mul .f64 c Fm.two = some c' ∧ Ov n (k + 1) c' := by
  obtain ⟨r, h1, h2, h3⟩ := h
  rw [h2]
  obtain ⟨r', q1, q2, q3⟩ := Fm.dbl_any (Fm.notN_word false h1)
  rw [Fm.sg_word _ h1] at q2
  rw [Fm.rg_word _ h1] at q3
  refine ⟨_, q2, r', q1, rfl, fun hr => ?_⟩
  obtain ⟨a, b⟩ := q3 hr
  rw [b, h3 a, Nat.pow_succ, Nat.mul_comm 2, Nat.mul_assoc]
theorem ov_start {n c : Nat} (h : Ex false n 1074 c) : Ov n 1074 c := by
  obtain ⟨r, h1, h2, h3⟩ := h
  exact ⟨r, Nat.le_of_lt h1, h3, fun _ => h2⟩
theorem ov_end {n k c : Nat} (h : Ov n k c) (hK : ¬ n * 2 ^ k < Fm.Kinf) : c = 9218868437227405312 := by
  obtain ⟨r, h1, h2, h3⟩ := h
  by_cases hr : r < Fm.infR
  · exfalso
    have := Fm.R_fin_lt hr
    rw [h3 hr] at this
    exact hK this
  · have e : r = Fm.infR := by omega
    rw [h2, e]
    rfl

theorem spec_inf' (w : World) :
    Calls Tryz.prog 121 #[] w fun e w' => e = .returned (.float .f64 9218868437227405312) ∧ w' = w := by
  have hq : ∀ (t : TypeId) (w : World), (binOp .quo t (.float .f64 4607182418800017408) (.float .f64 0)).run Tryz.prog w = .ok (.float .f64 9218868437227405312) w := fun t w => run_float_arith w .quo t .f64 _ _ _ (by decide +kernel)
  go_enter Tryz.func121, Tryz.ntmps121
  go_wp2
  go_ret
  exact ⟨rfl, rfl⟩

set_option maxHeartbeats 2000000 in
theorem spec_inf2 (w : World) :
    Calls Tryz.prog 121 #[] w fun e w' => e = .returned (.float .f64 9218868437227405312) ∧ w' = w := spec_inf' w

set_option maxRecDepth 100000 in
set_option maxHeartbeats 8000000 in
theorem read3 (s : ByteArray) (w : World) (hs : s.size ≤ 1048576) :
    Calls Tryz.prog 175 #[.string s] w fun e w' => RE s.data.toList e ∧ w' = w := by
  obtain ⟨d, hd, hno, hat⟩ := first_star s
  have hf := fun W => find_r s W d hs hd hno hat
  have hA := take_no s d hd hno
  have hz : s.data.toList.length = s.size := by rw [← Lib.size_eq]
  obtain ⟨L, HL⟩ : ∃ L, Hid (L = s.data.toList) := ⟨_, rfl⟩
  rw [← HL.out] at hA hz ⊢
  by_cases hlt : d < s.size
  · rw [if_pos hlt] at hf
    have hdr := drop_at s d hlt
    rw [← HL.out] at hdr
    have hb42 : (s[d]'hlt) = 42 := by
      have := UInt8.ofNat_toNat (x := (s[d]'hlt))
      rw [hat hlt] at this
      exact this.symm
    rw [hb42] at hdr
    have hsplit : L = L.take d ++ 42 :: L.drop (d + 1) := by rw [← hdr, List.take_append_drop]
    have HS : Hid (∀ n e, FT L false n e → L.take d = decDigits n ∧ L.drop (d + 1) = 50 :: 94 :: itoa e) := fun n e h => ft_star hA hsplit h
    clear hno hat hb42 hdr hA
    have j0 : ¬ ((d : Int) < 0) := by omega
    by_cases h4 : s.size < d + 4
    · have j1 : (s.size : Int) < (d : Int) + 4 := by omega
      have HR : Hid (R3 L 0 false) := ⟨by decide, .inr ⟨rfl, fun n e h => by
        obtain ⟨-, h2⟩ := HS.out n e h
        have h3 := congrArg List.length h2
        rw [List.length_drop, hz, List.length_cons, List.length_cons] at h3
        have : itoa e ≠ [] := by
          rcases itoa_cases e with ⟨u, -, e1⟩ | ⟨u, -, -, e1⟩ <;> rw [e1]
          · exact dec_ne u
          · simp
        have := List.length_pos_iff.2 this
        omega⟩⟩
      clear HS HL hsplit hz h4
      go_enter Tryz.func175, Tryz.ntmps175
      go_wp2_with fail
      refine (hf _).mono ?_
      rintro e w1 ⟨rfl, rfl⟩
      go_wp2
      go_ret2
      exact ⟨⟨0, false, rfl, HR.out⟩, rfl⟩
    · have j1 : ¬ (s.size : Int) < (d : Int) + 4 := by omega
      obtain ⟨M, x1⟩ : ∃ M, s.extract d (d + 3) = M := ⟨_, rfl⟩
      obtain ⟨PA, x2⟩ : ∃ M, s.extract 0 d = M := ⟨_, rfl⟩
      obtain ⟨PB, x3⟩ : ∃ M, s.extract (d + 3) s.size = M := ⟨_, rfl⟩
      have l1 : M.data.toList = (L.drop d).take 3 := by rw [← x1, HL.out]; exact ext_mid s d 3
      have l2 : PA.data.toList = L.take d := by rw [← x2, HL.out]; have := ext_mid s 0 d; rw [Nat.zero_add, List.drop_zero] at this; exact this
      have l3 : PB.data.toList = L.drop (d + 3) := by rw [← x3, HL.out]; exact Lib.extract_to_end s (d + 3)
      have z2 : PA.size ≤ 1048576 := by rw [Lib.size_eq, l2, List.length_take]; omega
      have z3 : PB.size ≤ 1048576 := by rw [Lib.size_eq, l3, List.length_drop]; omega
      by_cases hm : M.toList = [42, 50, 94]
      · have j2 : (M.toList == [42, 50, 94]) = true := by rw [hm]; rfl
        have hm2 : (L.drop d).take 3 = [42, 50, 94] := by rw [← l1, ← ByteArray.toList_eq]; exact hm
        have hfull : L = L.take d ++ 42 :: 50 :: 94 :: L.drop (d + 3) := by
          have e1 : L.drop d = (L.drop d).take 3 ++ (L.drop d).drop 3 := (List.take_append_drop 3 _).symm
          rw [hm2, List.drop_drop] at e1
          have e2 : L = L.take d ++ L.drop d := (List.take_append_drop d L).symm
          rw [e1] at e2
          exact e2
        have hd1 : L.drop (d + 1) = 50 :: 94 :: L.drop (d + 3) := by
          have h1 := hsplit.symm.trans hfull
          have h2 := List.append_cancel_left h1
          injection h2
        have c1 := fun W => num_s PA W z2
        have c2 := fun W => num_s PB W z3
        rw [l2] at c1
        rw [l3] at c2
        have HN : Hid (∀ v1 o1 v2 o2, NumS (L.take d) v1 o1 → NumS (L.drop (d + 3)) v2 o2 → ∀ n e, FT L false n e → o1 = true ∧ o2 = true ∧ v1 = n ∧ v2 = e) := by
          intro v1 o1 v2 o2 h1 h2 n e h
          obtain ⟨a1, a2⟩ := HS.out n e h
          rw [hd1] at a2
          injection a2 with _ a2
          injection a2 with _ a2
          obtain ⟨-, -, f3, f4, f5, -⟩ := h
          have a1 : L.take d = itoa (n : Int) := by rw [Lib.itoa_nonneg]; exact a1
          rw [a1] at h1
          rw [a2] at h2
          rcases h1 with ⟨g1, g2, g3⟩ | ⟨g1, _, g2⟩
          · rcases h2 with ⟨k1, k2, k3⟩ | ⟨k1, _, k2⟩
            · exact ⟨g1, k1, (itoa_inj (by omega) (by omega) g2).symm, (itoa_inj (by omega) (by omega) k2).symm⟩
            · exact absurd rfl (k2 e (by omega))
          · exact absurd rfl (g2 n (by omega))
        have HY : Hid (∀ (n : Nat) (e : Int), NumS (L.take d) n true → NumS (L.drop (d + 3)) e true → L = posT n e) := by
          intro n e h1 h2
          rcases h1 with ⟨-, g2, -⟩ | ⟨g1, -⟩
          · rcases h2 with ⟨-, k2, -⟩ | ⟨k1, -⟩
            · rw [hfull, g2, k2, Lib.itoa_nonneg]
              rfl
            · cases k1
          · cases g1
        clear HS HL hsplit hm hm2 hfull hd1 l1 l2 l3 hz
        go_enter Tryz.func175, Tryz.ntmps175
        go_wp2_with fail
        refine (hf _).mono ?_
        rintro e w1 ⟨rfl, rfl⟩
        go_wp2_with fail
        refine (c1 _).mono ?_
        rintro e w2 ⟨⟨v1, o1, rfl, n1, b1⟩, rfl⟩
        have b1l : -100000000000000000 < v1 := by omega
        have b1u : v1 < 100000000000000000 := by omega
        have H1 : Hid (NumS (L.take d) v1 o1) := n1
        clear n1 b1 c1
        go_wp2_with fail
        refine (c2 _).mono ?_
        rintro e w3 ⟨⟨v2, o2, rfl, n2, b2⟩, rfl⟩
        have b2l : -100000000000000000 < v2 := by omega
        have b2u : v2 < 100000000000000000 := by omega
        have H2 : Hid (NumS (L.drop (d + 3)) v2 o2) := n2
        clear n2 b2 c2 hf
        have HF : Hid (∀ n e, FT L false n e → o1 = true ∧ o2 = true ∧ v1 = n ∧ v2 = e) := HN.out v1 o1 v2 o2 H1.out H2.out
        clear HN
        cases o1 with
        | false =>
          have HR : Hid (R3 L 0 false) := ⟨by decide, .inr ⟨rfl, fun n e h => by
            have a := HF.out n e h
            obtain ⟨-, f2, f3, f4, f5, -⟩ := h
            cases a.1⟩⟩
          clear HF HY H1 H2
          go_wp2
          go_ret2
          exact ⟨⟨0, false, rfl, HR.out⟩, rfl⟩
        | true =>
          cases o2 with
          | false =>
            have HR : Hid (R3 L 0 false) := ⟨by decide, .inr ⟨rfl, fun n e h => by
              have a := HF.out n e h
              obtain ⟨-, f2, f3, f4, f5, -⟩ := h
              cases a.2.1⟩⟩
            clear HF HY H1 H2
            go_wp2
            go_ret2
            exact ⟨⟨0, false, rfl, HR.out⟩, rfl⟩
          | true =>
            by_cases i1 : v1 < 1
            · have HR : Hid (R3 L 0 false) := ⟨by decide, .inr ⟨rfl, fun n e h => by
                have a := HF.out n e h
                obtain ⟨-, f2, f3, f4, f5, -⟩ := h
                omega⟩⟩
              clear HF HY H1 H2
              go_wp2
              go_ret2
              exact ⟨⟨0, false, rfl, HR.out⟩, rfl⟩
            · by_cases i2 : 9007199254740991 < v1
              · have HR : Hid (R3 L 0 false) := ⟨by decide, .inr ⟨rfl, fun n e h => by
                  have a := HF.out n e h
                  obtain ⟨-, f2, f3, f4, f5, -⟩ := h
                  omega⟩⟩
                clear HF HY H1 H2
                go_wp2
                go_ret2
                exact ⟨⟨0, false, rfl, HR.out⟩, rfl⟩
              · by_cases i3 : v1 % 2 = 0
                · have i5 : (v1 % 2 == 0) = true := by rw [beq_iff_eq]; exact i3
                  have HR : Hid (R3 L 0 false) := ⟨by decide, .inr ⟨rfl, fun n e h => by
                    have a := HF.out n e h
                    obtain ⟨-, f2, f3, f4, f5, -⟩ := h
                    omega⟩⟩
                  clear HF HY H1 H2
                  go_wp2
                  go_ret2
                  exact ⟨⟨0, false, rfl, HR.out⟩, rfl⟩
                · have i5 : (v1 % 2 == 0) = false := by rw [beq_eq_false_iff_ne]; exact i3
                  by_cases i6 : v2 < -1074
                  · have HR : Hid (R3 L 0 false) := ⟨by decide, .inr ⟨rfl, fun n e h => by
                      have a := HF.out n e h
                      obtain ⟨-, f2, f3, f4, f5, -⟩ := h
                      omega⟩⟩
                    clear HF HY H1 H2
                    go_wp2
                    go_ret2
                    exact ⟨⟨0, false, rfl, HR.out⟩, rfl⟩
                  · by_cases i7 : 1023 < v2
                    · have HR : Hid (R3 L 0 false) := ⟨by decide, .inr ⟨rfl, fun n e h => by
                        have a := HF.out n e h
                        obtain ⟨-, f2, f3, f4, f5, -⟩ := h
                        omega⟩⟩
                      clear HF HY H1 H2
                      go_wp2
                      go_ret2
                      exact ⟨⟨0, false, rfl, HR.out⟩, rfl⟩
                    · obtain ⟨n, HV⟩ : ∃ n : Nat, Hid (v1 = n) := ⟨v1.toNat, by show v1 = (v1.toNat : Int); omega⟩
                      have hl := HY.out n v2 (by rw [← HV.out]; exact H1.out) H2.out
                      have hn2 : n < 9007199254740992 := by have := HV.out; omega
                      have hn1 : 1 ≤ n := by have := HV.out; omega
                      have hex := ex_start n v1 (by have := HV.out; omega) hn2
                      have hneg : decide (v1 < 0) = false := decide_eq_false (by omega)
                      rw [hneg] at hex
                      have hodd : n % 2 = 1 := by
                        have := HV.out
                        omega
                      clear HY HF H1 H2 hneg
                      by_cases hK : n * 2 ^ (v2 + 1074).toNat < Fm.Kinf
                      · have HR : Hid (∀ c, Ex false n (v2 + 1074).toNat c → R3 L c true) := fun c hc => ⟨(ex_rg hc).2.2.2, .inl ⟨rfl, n, v2, ⟨hl, hodd, hn2, by omega, by omega, hK⟩, hc⟩⟩
                        have HX : Hid (Ex false n 1074 (floatOfInt .f64 v1)) := hex
                        obtain ⟨E, HE⟩ : ∃ E : Nat, Hid (E = (v2 + 1074).toNat) := ⟨_, rfl⟩
                        have hE : (E : Int) = v2 + 1074 := by rw [HE.out]; omega
                        rw [← HE.out] at HR
                        have HK : Hid (n * 2 ^ E < Fm.Kinf ∧ n < 9007199254740992) := by rw [HE.out]; exact ⟨hK, hn2⟩
                        clear hex hK hl hodd HE HV hn1 hn2
                        go_wp2
                        go_loopg [9, 10] v2.toNat (fun g c i wr => ∃ (b j : Nat), j + g = v2.toNat ∧ c = .float .f64 b ∧ i = .int .i64 j ∧ Hid (Ex false n (1074 + j) b) ∧ wr = w3)
                        case atStart => exact ⟨_, 0, by omega, rfl, rfl, HX, rfl⟩
                        case round =>
                          clear HX
                          obtain ⟨b, j, hj, rfl, rfl, HB, rfl⟩ := hrel
                          by_cases h0 : (j : Int) < v2
                          · obtain ⟨c', q1, q2⟩ := ex_dbl HB.out (pow_mono_lt HK.out.1 (by omega))
                            have hq := fun (t : TypeId) (w : World) => run_float_arith (P := Tryz.prog) w .mul t .f64 b _ c' q1
                            have HB2 : Hid (Ex false n (1074 + (j + 1)) c') := q2
                            clear q1 q2 HB
                            go_wp2
                            go_roundg (gk - 1)
                            case measure => omega
                            case rel => exact ⟨c', j + 1, by omega, rfl, by go_num, HB2, rfl⟩
                          · go_wp2
                            go_loopg [9, 11] (-v2).toNat (fun g c i wx => ∃ (b k : Nat) (m : Int), m ≤ 0 ∧ -1074 ≤ m ∧ -m + (g : Int) = (-v2).toNat ∧ c = .float .f64 b ∧ i = .int .i64 m ∧ (k : Int) = 1074 + j + m ∧ Hid (Ex false n k b) ∧ wx = wr)
                            case atStart => exact ⟨b, 1074 + j, 0, by omega, by omega, by omega, rfl, rfl, by omega, HB, rfl⟩
                            case round =>
                              clear HB
                              obtain ⟨b, k, m, m1, m2, hm, rfl, rfl, hk, HB, rfl⟩ := hrel
                              by_cases h1 : v2 < m
                              · obtain ⟨k', rfl⟩ : ∃ k', k = k' + 1 := ⟨k - 1, by omega⟩
                                obtain ⟨c', q1, q2⟩ := ex_half HB.out HK.out.2
                                have hq := fun (t : TypeId) (w : World) => run_float_arith (P := Tryz.prog) w .quo t .f64 b _ c' q1
                                have HB2 : Hid (Ex false n k' c') := q2
                                clear q1 q2 HB
                                go_wp2
                                go_roundg (gk - 1)
                                case measure => omega
                                case rel => exact ⟨c', k', m - 1, by omega, by omega, by omega, rfl, by go_num, by omega, HB2, rfl⟩
                              · have HF : Hid (Ex false n E b) := by
                                  have : E = k := by omega
                                  rw [this]; exact HB.out
                                have hlt2 := lt_inf_fin (ex_rg HF.out).1
                                clear HB
                                go_wp2_with fail
                                refine (spec_inf2 _).mono ?_
                                rintro e w4 ⟨rfl, rfl⟩
                                go_wp2
                                go_ret2
                                exact ⟨⟨b, true, rfl, HR.out b HF.out⟩, rfl⟩
                      · have HR : Hid (R3 L 9218868437227405312 false) := ⟨by decide, .inr ⟨rfl, fun m e h => by
                          obtain ⟨g1, g2, g3, g4, g5, g6⟩ := h
                          simp only [Bool.false_eq_true, if_false] at g1
                          obtain ⟨q1, q2⟩ := posT_inj hn2 ⟨by omega, by omega⟩ ⟨g4, g5⟩ (hl.symm.trans g1)
                          rw [← q1, ← q2] at g6
                          exact hK g6⟩⟩
                        have HX : Hid (Ov n 1074 (floatOfInt .f64 v1)) := ov_start hex
                        have hpos : 0 < v2 := by
                          by_cases hv : 0 < v2
                          · exact hv
                          · exfalso
                            apply hK
                            have := Fm.R_fin_lt (ex_rg hex).1
                            rw [(ex_rg hex).2.2.1] at this
                            exact pow_mono_lt this (by omega)
                        have HK : Hid (¬ n * 2 ^ (v2 + 1074).toNat < Fm.Kinf) := hK
                        clear hex hK hl hodd HV hn1 hn2
                        go_wp2
                        go_loopg [9, 10] v2.toNat (fun g c i wr => ∃ (b j : Nat), j + g = v2.toNat ∧ c = .float .f64 b ∧ i = .int .i64 j ∧ Hid (Ov n (1074 + j) b) ∧ wr = w3)
                        case atStart => exact ⟨_, 0, by omega, rfl, rfl, HX, rfl⟩
                        case round =>
                          clear HX
                          obtain ⟨b, j, hj, rfl, rfl, HB, rfl⟩ := hrel
                          by_cases h0 : (j : Int) < v2
                          · obtain ⟨c', q1, q2⟩ := ov_dbl HB.out
                            have hq := fun (t : TypeId) (w : World) => run_float_arith (P := Tryz.prog) w .mul t .f64 b _ c' q1
                            have HB2 : Hid (Ov n (1074 + (j + 1)) c') := q2
                            clear q1 q2 HB
                            go_wp2
                            go_roundg (gk - 1)
                            case measure => omega
                            case rel => exact ⟨c', j + 1, by omega, rfl, by go_num, HB2, rfl⟩
                          · have hb : b = 9218868437227405312 := by
                              refine ov_end HB.out ?_
                              have : 1074 + j = (v2 + 1074).toNat := by omega
                              rw [this]
                              exact HK.out
                            subst hb
                            have hl2 := lt_inf_inf
                            clear HB HK
                            go_wp2
                            go_loopg [9, 11] 0 (fun g c i wx => c = .float .f64 9218868437227405312 ∧ i = .int .i64 0 ∧ wx = wr)
                            case atStart => exact ⟨rfl, rfl, rfl⟩
                            case round =>
                              obtain ⟨rfl, rfl, rfl⟩ := hrel
                              have h1 : ¬ v2 < 0 := by omega
                              go_wp2_with fail
                              refine (spec_inf2 _).mono ?_
                              rintro e w4 ⟨rfl, rfl⟩
                              go_wp2
                              go_ret2
                              exact ⟨⟨_, false, rfl, HR.out⟩, rfl⟩
      · have j2 : (M.toList == [42, 50, 94]) = false := by rw [beq_eq_false_iff_ne]; exact hm
        have HR : Hid (R3 L 0 false) := ⟨by decide, .inr ⟨rfl, fun n e h => by
          obtain ⟨-, h2⟩ := HS.out n e h
          apply hm
          have e2 : L.drop d = 42 :: L.drop (d + 1) := by
            have e3 : L = L.take d ++ L.drop d := (List.take_append_drop d L).symm
            exact List.append_cancel_left (e3.symm.trans hsplit)
          rw [ByteArray.toList_eq, l1, e2, h2]
          rfl⟩⟩
        clear HS HL hsplit hm l1 l2 l3 hz x2 x3
        go_enter Tryz.func175, Tryz.ntmps175
        go_wp2_with fail
        refine (hf _).mono ?_
        rintro e w1 ⟨rfl, rfl⟩
        go_wp2
        go_ret2
        exact ⟨⟨0, false, rfl, HR.out⟩, rfl⟩
  · rw [if_neg hlt] at hf
    have HR : Hid (R3 L 0 false) := ⟨by decide, .inr ⟨rfl, fun n e h => by
      have h1 := ft_split h
      have h2 : (42 : UInt8) ∈ L.take d := by
        rw [List.take_of_length_le (by omega), h1]
        simp
      exact hA _ h2 rfl⟩⟩
    clear hno hat hA HL hz hlt
    go_enter Tryz.func175, Tryz.ntmps175
    go_wp2_with fail
    refine (hf _).mono ?_
    rintro e w1 ⟨rfl, rfl⟩
    go_wp2
    go_ret2
    exact ⟨⟨0, false, rfl, HR.out⟩, rfl⟩
end Go.Proofs.YtjnddfpieogpiaaGreatDoor.Rr
/- Reading real numbers: the specification's RealRead; the walk of FnExactRealRead. -/
namespace Go.Proofs.YtjnddfpieogpiaaGreatDoor.Rr
open Go.RowKit
open Go.Lib (decDigits itoa)
set_option linter.unusedVariables false

def RdE (l : List UInt8) (e : Ending) : Prop := ∃ v ok, e = .returned (.tuple #[.float .f64 v, .bool ok]) ∧ Rd2 l v ok

theorem posT_head {n : Nat} (h : 0 < n) (e : Int) : ∃ b r, posT n e = b :: r ∧ 49 ≤ b.toNat ∧ b.toNat ≤ 57 := by
  obtain ⟨b, r, e1, h1, h2⟩ := dec_head n h
  unfold posT
  rw [e1]
  exact ⟨b, _, rfl, h1, h2⟩
theorem no_txt {l : List UInt8} (hw : ∀ j, j < 4 → l ≠ wT j) (h0 : l ≠ [48]) (hf : ∀ s n e, ¬ FT l s n e) : ∀ x, ¬ Txt x l := fun x hx => by
  rcases txt_cases hx with ⟨j, h1, h2⟩ | h | ⟨s, n, e, h⟩
  · exact hw j h1 h2
  · exact h0 h
  · exact hf s n e h
theorem ft_neg {l t : List UInt8} (hl : l = 45 :: t) {s : Bool} {n : Nat} {e : Int} (h : FT l s n e) : s = true ∧ FT t false n e := by
  obtain ⟨h1, h2, h3, h4, h5, h6⟩ := h
  cases s
  · simp only [Bool.false_eq_true, if_false] at h1
    obtain ⟨b, r, e1, k1, k2⟩ := posT_head (n := n) (by omega) e
    rw [hl, e1] at h1
    injection h1 with h1 _
    rw [← h1] at k1
    exact absurd k1 (by decide)
  · simp only [if_true] at h1
    rw [hl] at h1
    injection h1 with _ h1
    exact ⟨rfl, h1, h2, h3, h4, h5, h6⟩
theorem ft_pos {l : List UInt8} (hl : ∀ t, l ≠ 45 :: t) {s : Bool} {n : Nat} {e : Int} (h : FT l s n e) : s = false := by
  cases s
  · rfl
  · exact absurd h.1 (hl _)
theorem ft_back {t : List UInt8} {n : Nat} {e : Int} (h : FT t false n e) : FT (45 :: t) true n e := by
  obtain ⟨h1, h2⟩ := h
  simp only [Bool.false_eq_true, if_false] at h1
  exact ⟨by rw [h1]; rfl, h2⟩
theorem ex_neg {n k x : Nat} (h : Ex false n k x) : Ex true n k (Op.negFloat .f64 x) := by
  obtain ⟨a, b, c, d⟩ := ex_rg h
  refine ⟨Fm.rg x, a, c, ?_⟩
  have := Fm.word_of (Fm.neg_lt d)
  rw [Fm.rg_neg, Fm.sg_neg d, b] at this
  exact this

set_option maxRecDepth 100000 in
set_option maxHeartbeats 4000000 in
theorem spec_read (s : ByteArray) (w : World) (hs : s.size ≤ 1048576) :
    Calls Tryz.prog 145 #[.string s] w fun e w' => RdE s.data.toList e ∧ Below w.heap.size w w' := by
  have htl : s.toList = s.data.toList := ByteArray.toList_eq s
  obtain ⟨L, HL⟩ : ∃ L, Hid (L = s.data.toList) := ⟨_, rfl⟩
  rw [← HL.out] at htl ⊢
  by_cases h0 : L = [110, 97, 110]
  · have i0 : (s.toList == [110, 97, 110]) = true := by rw [htl, h0]; rfl
    have HT : Hid (∀ v, Fm.isN v → (Lit.float .f64 v).wf = true → Rd2 L v true) := fun v h hf => ⟨lt_of_wf hf, .inl ⟨rfl, .inl ⟨h, h0⟩⟩⟩
    clear h0 HL htl
    go_enter Tryz.func145, Tryz.ntmps145
    go_wp2_with fail
    refine (spec_nan _).mono ?_
    rintro e w1 ⟨v, rfl, hv, hf, g1⟩
    have HR : Hid (Rd2 L v true) := HT.out v hv hf
    clear hv hf HT
    go_wp2
    go_ret2
    exact ⟨⟨v, true, rfl, HR.out⟩, g1⟩
  have i0 : (s.toList == [110, 97, 110]) = false := by rw [htl, beq_eq_false_iff_ne]; exact h0
  by_cases h1 : L = [105, 110, 102]
  · have i1 : (s.toList == [105, 110, 102]) = true := by rw [htl, h1]; rfl
    have HR : Hid (Rd2 L 9218868437227405312 true) := ⟨by decide, .inl ⟨rfl, by rw [h1]; exact (wB_txt 1 (by omega)).1⟩⟩
    clear h0 h1 HL htl
    go_enter Tryz.func145, Tryz.ntmps145
    go_wp2_with fail
    refine (spec_inf2 _).mono ?_
    rintro e w1 ⟨rfl, rfl⟩
    go_wp2
    go_ret2
    exact ⟨⟨_, true, rfl, HR.out⟩, Below.refl _ _⟩
  have i1 : (s.toList == [105, 110, 102]) = false := by rw [htl, beq_eq_false_iff_ne]; exact h1
  by_cases h2 : L = [45, 105, 110, 102]
  · have i2 : (s.toList == [45, 105, 110, 102]) = true := by rw [htl, h2]; rfl
    have HR : Hid (Rd2 L (Op.negFloat .f64 9218868437227405312) true) := ⟨Fm.neg_lt (by decide), .inl ⟨rfl, by
      rw [h2]
      have : Op.negFloat .f64 9218868437227405312 = wB 2 := by decide +kernel
      rw [this]
      exact (wB_txt 2 (by omega)).1⟩⟩
    clear h0 h1 h2 HL htl
    go_enter Tryz.func145, Tryz.ntmps145
    go_wp2_with fail
    refine (spec_inf2 _).mono ?_
    rintro e w1 ⟨rfl, rfl⟩
    go_wp2
    go_ret2
    exact ⟨⟨_, true, rfl, HR.out⟩, Below.refl _ _⟩
  have i2 : (s.toList == [45, 105, 110, 102]) = false := by rw [htl, beq_eq_false_iff_ne]; exact h2
  by_cases h3 : L = [48]
  · have i3 : (s.toList == [48]) = true := by rw [htl, h3]; rfl
    have HR : Hid (Rd2 L 0 true) := ⟨by decide, .inl ⟨rfl, .inr (.inl ⟨by decide, by decide, h3⟩)⟩⟩
    clear h0 h1 h2 h3 HL htl
    go_enter Tryz.func145, Tryz.ntmps145
    go_wp2
    go_ret2
    exact ⟨⟨_, true, rfl, HR.out⟩, Below.refl _ _⟩
  have i3 : (s.toList == [48]) = false := by rw [htl, beq_eq_false_iff_ne]; exact h3
  by_cases h4 : L = [45, 48]
  · have i4 : (s.toList == [45, 48]) = true := by rw [htl, h4]; rfl
    have HR : Hid (Rd2 L (Op.negFloat .f64 0) true) := ⟨Fm.neg_lt (by decide), .inl ⟨rfl, by
      rw [h4]
      have : Op.negFloat .f64 0 = wB 3 := by decide +kernel
      rw [this]
      exact (wB_txt 3 (by omega)).1⟩⟩
    clear h0 h1 h2 h3 h4 HL htl
    go_enter Tryz.func145, Tryz.ntmps145
    go_wp2
    go_ret2
    exact ⟨⟨_, true, rfl, HR.out⟩, Below.refl _ _⟩
  have i4 : (s.toList == [45, 48]) = false := by rw [htl, beq_eq_false_iff_ne]; exact h4
  have HNO : Hid ((∀ z n e, ¬ FT L z n e) → Rd2 L 0 false) := fun hf => ⟨by decide, .inr ⟨rfl, rfl, no_txt (fun j hj => by
    have hj4 : j = 0 ∨ j = 1 ∨ j = 2 ∨ j = 3 := by omega
    rcases hj4 with rfl | rfl | rfl | rfl
    · exact h0
    · exact h1
    · exact h2
    · exact h4) h3 hf⟩⟩
  clear h0 h1 h2 h3 h4
  by_cases h5 : s.size = 0
  · have i5 : (s.toList == []) = true := by
      have hL0 : s.data.toList = [] := List.length_eq_zero_iff.1 (by rw [← Lib.size_eq]; exact h5)
      rw [htl, HL.out, hL0]
      rfl
    have HR : Hid (Rd2 L 0 false) := HNO.out (fun z n e h => by
      have hL : L = [] := by rw [HL.out]; exact List.length_eq_zero_iff.1 (by rw [← Lib.size_eq]; exact h5)
      obtain ⟨f1, f2, -⟩ := h
      rw [hL] at f1
      cases z
      · obtain ⟨b, r, e1, -⟩ := posT_head (n := n) (by omega) e
        simp only [Bool.false_eq_true, if_false] at f1
        rw [e1] at f1
        cases f1
      · simp only [if_true] at f1
        cases f1)
    clear HNO HL htl h5
    go_enter Tryz.func145, Tryz.ntmps145
    go_wp2
    go_ret2
    exact ⟨⟨0, false, rfl, HR.out⟩, Below.refl _ _⟩
  have i5 : (s.toList == []) = false := by
    rw [htl, beq_eq_false_iff_ne, HL.out]
    intro e
    apply h5
    rw [Lib.size_eq, e]
    rfl
  have hp : 0 < s.size := by omega
  have hs0 : s[0]? = some (s[0]'hp) := by simp [hp]
  have hd := drop_at s 0 hp
  rw [List.drop_zero, ← HL.out] at hd
  by_cases h45 : (s[0]'hp).toNat = 45
  · have j1 : ((((s[0]'hp).toNat : Nat) : Int) == 45) = true := by rw [beq_iff_eq]; omega
    have hb : (s[0]'hp) = 45 := by
      have := UInt8.ofNat_toNat (x := (s[0]'hp))
      rw [h45] at this
      exact this.symm
    rw [hb] at hd
    obtain ⟨t, x1⟩ : ∃ t, s.extract 1 s.size = t := ⟨_, rfl⟩
    have lt : t.data.toList = s.data.toList.drop 1 := by rw [← x1]; exact Lib.extract_to_end s 1
    have hL : L = 45 :: t.data.toList := by rw [lt, ← HL.out]; exact hd
    have zt : t.size ≤ 1048576 := by rw [Lib.size_eq, lt, List.length_drop, ← Lib.size_eq]; omega
    have c1 := fun W => read3 t W zt
    have HT : Hid (∀ x ok, R3 t.data.toList x ok → (ok = true → Rd2 L (Op.negFloat .f64 x) true) ∧ (ok = false → Rd2 L 0 false)) := fun x ok h => by
      obtain ⟨hx, ⟨o1, n, e, f1, f2⟩ | ⟨o1, f1⟩⟩ := h
      · subst o1
        refine ⟨fun _ => ⟨Fm.neg_lt hx, .inl ⟨rfl, ?_⟩⟩, fun h => by cases h⟩
        have := ft_back f1
        rw [← hL] at this
        exact ft_txt this (ex_neg f2)
      · subst o1
        exact ⟨fun h => by (cases h), fun _ => HNO.out (fun z n e h => f1 n e (ft_neg hL h).2)⟩
    clear HNO hd hb h45 lt hL zt HL htl h5
    go_enter Tryz.func145, Tryz.ntmps145
    go_wp2_with fail
    refine (c1 _).mono ?_
    rintro e w1 ⟨⟨x, ok, rfl, hr⟩, rfl⟩
    obtain ⟨r1, r2⟩ := HT.out x ok hr
    clear hr HT c1
    cases ok
    · have HR : Hid (Rd2 L 0 false) := r2 rfl
      clear r1 r2
      go_wp2
      go_ret2
      exact ⟨⟨0, false, rfl, HR.out⟩, Below.refl _ _⟩
    · have HR : Hid (Rd2 L (Op.negFloat .f64 x) true) := r1 rfl
      clear r1 r2
      go_wp2
      go_ret2
      exact ⟨⟨_, true, rfl, HR.out⟩, Below.refl _ _⟩
  · have j1 : ((((s[0]'hp).toNat : Nat) : Int) == 45) = false := by rw [beq_eq_false_iff_ne]; omega
    have hno : ∀ t, L ≠ 45 :: t := fun t e => by
      rw [hd] at e
      injection e with e _
      apply h45
      rw [e]
      rfl
    have c1 := fun W => read3 s W hs
    rw [← HL.out] at c1
    have HT : Hid (∀ x ok, R3 L x ok → (ok = true → Rd2 L x true) ∧ (ok = false → Rd2 L 0 false)) := fun x ok h => by
      obtain ⟨hx, ⟨o1, n, e, f1, f2⟩ | ⟨o1, f1⟩⟩ := h
      · subst o1
        exact ⟨fun _ => ⟨hx, .inl ⟨rfl, ft_txt f1 f2⟩⟩, fun h => by cases h⟩
      · subst o1
        refine ⟨fun h => by (cases h), fun _ => HNO.out (fun z n e h => ?_)⟩
        have := ft_pos hno h
        subst this
        exact f1 n e h
    clear HNO hd h45 hno HL htl h5
    go_enter Tryz.func145, Tryz.ntmps145
    go_wp2_with fail
    refine (c1 _).mono ?_
    rintro e w1 ⟨⟨x, ok, rfl, hr⟩, rfl⟩
    obtain ⟨r1, r2⟩ := HT.out x ok hr
    clear hr HT c1
    cases ok
    · have HR : Hid (Rd2 L 0 false) := r2 rfl
      clear r1 r2
      go_wp2
      go_ret2
      exact ⟨⟨0, false, rfl, HR.out⟩, Below.refl _ _⟩
    · have HR : Hid (Rd2 L x true) := r1 rfl
      clear r1 r2
      go_wp2
      go_ret2
      exact ⟨⟨_, true, rfl, HR.out⟩, Below.refl _ _⟩

def hc (t : List UInt8) : Nat := (t.headD 0).toNat * 1000 + (t.tail.headD 0).toNat
/-- The seven forms of a text. -/
inductive Form (x : Nat) (t : List UInt8) : Prop where
  | nan (h : Fm.isN x) (c : hc t = 110097)
  | zero (h : Fm.rg x = 0) (s : Fm.sg x = false) (c : hc t = 48000)
  | mzero (h : Fm.rg x = 0) (s : Fm.sg x = true) (c : hc t = 45048)
  | inf (h : Fm.rg x = Fm.infR) (s : Fm.sg x = false) (c : hc t = 105110)
  | minf (h : Fm.rg x = Fm.infR) (s : Fm.sg x = true) (c : hc t = 45105)
  | pos (n : Nat) (e : Int) (h : Fm.rg x < Fm.infR) (p : 0 < Fm.R (Fm.rg x)) (q : Fm.Parts (Fm.R (Fm.rg x)) n e) (s : Fm.sg x = false) (c : 49000 ≤ hc t ∧ hc t ≤ 57999) (k : t = posT n e)
  | mpos (n : Nat) (e : Int) (h : Fm.rg x < Fm.infR) (p : 0 < Fm.R (Fm.rg x)) (q : Fm.Parts (Fm.R (Fm.rg x)) n e) (s : Fm.sg x = true) (c : 45049 ≤ hc t ∧ hc t ≤ 45057) (k : t = 45 :: posT n e)

end Go.Proofs.YtjnddfpieogpiaaGreatDoor.Rr
