/- The text of a real number: the program's and the specification's. -/
import Derived.Test.YtlgacbjopobeoaaGreatDoorTx6
import Derived.Test.YtlgacbjopobeoaaGreatDoorTm6
import Derived.Lib.AtoiAll
import Derived.Lib.ParseIntB
import Derived.Lib.IndexMore
import Derived.Lib.IndexLaws
namespace Go.Proofs.YtlgacbjopobeoaaGreatDoor
open Go.RowKit
open Go.Lib (decDigits itoa)
set_option linter.unusedVariables false

def posT (n : Nat) (e : Int) : List UInt8 := decDigits n ++ (42 :: 50 :: 94 :: itoa e)
/-- The text of a magnitude. -/
def PosT (r : Nat) (t : List UInt8) : Prop := (r = Fm.infR ∧ t = [105, 110, 102]) ∨ (r < Fm.infR ∧ ∃ n e, Fm.Parts (Fm.R r) n e ∧ t = posT n e)
/-- The text of a real number. -/
def Txt (x : Nat) (t : List UInt8) : Prop :=
  (Fm.isN x ∧ t = [110, 97, 110]) ∨ (¬ Fm.isN x ∧ Fm.R (Fm.rg x) = 0 ∧ t = if Fm.sg x then [45, 48] else [48]) ∨ (¬ Fm.isN x ∧ 0 < Fm.R (Fm.rg x) ∧ ∃ p, PosT (Fm.rg x) p ∧ t = if Fm.sg x then 45 :: p else p)

theorem PosT.unique {r : Nat} {t s : List UInt8} (h : PosT r t) (k : PosT r s) : t = s := by
  rcases h with ⟨h1, rfl⟩ | ⟨h1, n, e, h2, rfl⟩
  · rcases k with ⟨k1, rfl⟩ | ⟨k1, m, f, k2, rfl⟩
    · rfl
    · omega
  · rcases k with ⟨k1, rfl⟩ | ⟨k1, m, f, k2, rfl⟩
    · omega
    · obtain ⟨rfl, rfl⟩ := h2.unique k2
      rfl
theorem Txt.unique {x : Nat} {t s : List UInt8} (h : Txt x t) (k : Txt x s) : t = s := by
  rcases h with ⟨h1, rfl⟩ | ⟨h1, h2, rfl⟩ | ⟨h1, h2, p, h3, rfl⟩
  · rcases k with ⟨k1, rfl⟩ | ⟨k1, k2, rfl⟩ | ⟨k1, k2, q, k3, rfl⟩
    · rfl
    · exact absurd h1 k1
    · exact absurd h1 k1
  · rcases k with ⟨k1, rfl⟩ | ⟨k1, k2, rfl⟩ | ⟨k1, k2, q, k3, rfl⟩
    · exact absurd k1 h1
    · rfl
    · omega
  · rcases k with ⟨k1, rfl⟩ | ⟨k1, k2, rfl⟩ | ⟨k1, k2, q, k3, rfl⟩
    · exact absurd k1 h1
    · omega
    · rw [h3.unique k3]

def kmax : Nat := 2045
theorem R_le_max {r : Nat} (h : r < Fm.infR) : Fm.R r ≤ 9007199254740991 * 2 ^ kmax := by
  obtain ⟨m, k, hm, -, hm2, hk, -⟩ := Fm.R_form h
  rw [hm]
  exact Nat.le_trans (Nat.mul_le_mul_right _ (Nat.le_of_lt_succ hm2)) (Nat.mul_le_mul_left _ (Nat.pow_le_pow_right (by decide) (Nat.le_of_lt_succ hk)))
theorem R_max : Fm.R 9218868437227405311 = 9007199254740991 * 2 ^ kmax := by decide +kernel
theorem sv_max : Fm.sv 9218868437227405311 = (Fm.R 9218868437227405311 : Int) := by decide +kernel
theorem gt_max {x : Nat} (hs : Fm.sg x = false) (hr : Fm.rg x ≤ Fm.infR) : (Fm.F.order x 9218868437227405311 == some .gt) = decide (Fm.rg x = Fm.infR) := by
  have hn : ¬ Fm.isN x := by unfold Fm.isN; omega
  have hx : Fm.sv x = (Fm.R (Fm.rg x) : Int) := by unfold Fm.sv; rw [hs]; rfl
  rw [Fm.gt_b hn (by decide), sv_max, hx]
  by_cases h : Fm.rg x = Fm.infR
  · rw [decide_eq_true h, h, Fm.R_inf]
    have : Fm.R 9218868437227405311 < Fm.Kinf := Fm.R_fin_lt (by decide)
    exact decide_eq_true (Int.ofNat_lt.2 this)
  · rw [decide_eq_false h]
    have h1 := R_le_max (r := Fm.rg x) (by omega)
    rw [← R_max] at h1
    exact decide_eq_false (by omega)

theorem posT_len (n : Nat) (e : Int) (hn : n < 9007199254740992) (he : -1074 ≤ e) (he2 : e ≤ 1023) : (posT n e).length ≤ 50 := by
  have h1 := Lib.itoa_length_le (n : Int) (by omega) (by omega)
  rw [Lib.itoa_nonneg] at h1
  have h2 := Lib.itoa_length_le e (by omega) (by omega)
  unfold posT
  simp only [List.length_append, List.length_cons]
  omega
theorem posT_tx (n : Nat) (e : Int) : tx (decDigits n) ++ ⟨#[42, 50, 94]⟩ ++ tx (itoa e) = tx (posT n e) := by
  have e1 : (⟨#[42, 50, 94]⟩ : ByteArray) = tx [42, 50, 94] := rfl
  rw [e1, tx_append, tx_append]
  unfold posT
  rw [List.append_assoc]
  rfl
theorem dec_sz (n : Nat) (hn : n < 9007199254740992) : (tx (decDigits n)).size ≤ 21 := (digits_size n (by omega)).1
theorem itoa_sz (e : Int) (he : -1074 ≤ e) (he2 : e ≤ 1023) : (tx (itoa e)).size ≤ 21 := by
  rw [tx_size]; exact Lib.itoa_length_le e (by omega) (by omega)

theorem PosT.len {r : Nat} {t : List UInt8} (h : PosT r t) (h0 : 0 < Fm.R r) : t.length ≤ 50 := by
  rcases h with ⟨h1, rfl⟩ | ⟨h1, n, e, h2, rfl⟩
  · decide
  · obtain ⟨a, b, c, d⟩ := h2.bd h1 h0
    exact posT_len n e a c b
theorem Txt.len {x : Nat} {t : List UInt8} (h : Txt x t) : t.length ≤ 51 := by
  rcases h with ⟨h1, rfl⟩ | ⟨h1, h2, rfl⟩ | ⟨h1, h2, p, h3, rfl⟩
  · decide
  · split <;> decide
  · have := h3.len h2
    split
    · simp only [List.length_cons]; omega
    · omega

end Go.Proofs.YtlgacbjopobeoaaGreatDoor
/- The text of any real number; the walk of FnExactRealText. -/
namespace Go.Proofs.YtlgacbjopobeoaaGreatDoor
open Go.RowKit
open Go.Lib (decDigits itoa)
set_option linter.unusedVariables false

theorem inf_lt (s : Bool) : (Fm.F.order (Ieee.double.word s Fm.infR) 0 == some .lt) = s := by
  cases s <;> decide +kernel
theorem minus_tx (p : List UInt8) : (⟨#[45]⟩ : ByteArray) ++ tx p = tx (45 :: p) := tx_append [45] p

theorem rg_le {b : Nat} (h : ¬ Fm.isN b) : Fm.rg b ≤ Fm.infR := by unfold Fm.isN at h; omega

end Go.Proofs.YtlgacbjopobeoaaGreatDoor
/- Reading real numbers: digits and texts, as mathematics. -/
namespace Go.Proofs.YtlgacbjopobeoaaGreatDoor
open Go.RowKit
open Go.Lib (decDigits itoa)
set_option linter.unusedVariables false

def isD (b : UInt8) : Prop := 48 ≤ b.toNat ∧ b.toNat ≤ 57
def valN : List UInt8 → Nat → Nat
  | [], A => A
  | b :: r, A => valN r (A * 10 + (b.toNat - 48))
theorem valN_append (a b : List UInt8) (A : Nat) : valN (a ++ b) A = valN b (valN a A) := by
  induction a generalizing A with
  | nil => rfl
  | cons x a ih => exact ih _
theorem valN_ge (l : List UInt8) (A : Nat) : A ≤ valN l A := by
  induction l generalizing A with
  | nil => exact Nat.le_refl _
  | cons x l ih =>
    have := ih (A * 10 + (x.toNat - 48))
    simp only [valN]
    omega
theorem dig_nat (d : Nat) (h : d < 10) : (UInt8.ofNat (48 + d)).toNat = 48 + d := by simp; omega
theorem dec_isD (u : Nat) : ∀ b ∈ decDigits u, isD b := by
  induction u using Nat.strongRecOn with
  | _ u ih =>
    intro b hb
    by_cases h : u < 10
    · rw [Lib.decDigits_one h] at hb
      rw [List.mem_singleton.1 hb]
      have := dig_nat u h
      unfold isD
      omega
    · rw [decDigits_step u (by omega)] at hb
      rcases List.mem_append.1 hb with hb | hb
      · exact ih (u / 10) (by omega) b hb
      · rw [List.mem_singleton.1 hb]
        have := dig_nat (u % 10) (by omega)
        unfold isD
        omega
theorem dec_val (u : Nat) : valN (decDigits u) 0 = u := by
  induction u using Nat.strongRecOn with
  | _ u ih =>
    by_cases h : u < 10
    · rw [Lib.decDigits_one h]
      have := dig_nat u h
      simp only [valN]
      omega
    · rw [decDigits_step u (by omega), valN_append, ih (u / 10) (by omega)]
      have := dig_nat (u % 10) (by omega)
      simp only [valN]
      omega
theorem dec_inj {u v : Nat} (h : decDigits u = decDigits v) : u = v := by
  rw [← dec_val u, h, dec_val v]
theorem dec_ne (u : Nat) : decDigits u ≠ [] := by
  intro h
  by_cases hu : u < 10
  · rw [Lib.decDigits_one hu] at h; cases h
  · rw [decDigits_step u (by omega)] at h
    exact absurd (congrArg List.length h) (by simp)
/-- The first digit of a number above 0. -/
theorem dec_head (u : Nat) (h : 0 < u) : ∃ b r, decDigits u = b :: r ∧ 49 ≤ b.toNat ∧ b.toNat ≤ 57 := by
  induction u using Nat.strongRecOn with
  | _ u ih =>
    by_cases hu : u < 10
    · rw [Lib.decDigits_one hu]
      have := dig_nat u hu
      exact ⟨_, [], rfl, by omega, by omega⟩
    · obtain ⟨b, r, e, h1, h2⟩ := ih (u / 10) (by omega) (by omega)
      rw [decDigits_step u (by omega), e]
      exact ⟨b, r ++ [_], rfl, h1, h2⟩

theorem byte_of {b : UInt8} (h : isD b) : UInt8.ofNat (48 + (b.toNat - 48)) = b := by
  have : 48 + (b.toNat - 48) = b.toNat := by have := h.1; omega
  rw [this]
  exact UInt8.ofNat_toNat

/-- Digits without needless zeros are the digits of their number. -/
theorem canon (l : List UInt8) (h : ∀ b ∈ l, isD b) (hd : ∀ b r, l = b :: r → 49 ≤ b.toNat) (hne : l ≠ []) : decDigits (valN l 0) = l ∧ 0 < valN l 0 := by
  have key : ∀ n (l : List UInt8), l.length = n → (∀ b ∈ l, isD b) → (∀ b r, l = b :: r → 49 ≤ b.toNat) → l ≠ [] → decDigits (valN l 0) = l ∧ 0 < valN l 0 := by
    intro n
    induction n with
    | zero => intro l hl _ _ hne; exact absurd (List.length_eq_zero_iff.1 hl) hne
    | succ n ih =>
      intro l hl h hd hne
      obtain ⟨l', x, rfl⟩ : ∃ l' x, l = l' ++ [x] := ⟨l.dropLast, l.getLast hne, (List.dropLast_concat_getLast hne).symm⟩
      have hx := h x (by simp)
      by_cases h0 : l' = []
      · subst h0
        have h9 := hd x [] rfl
        have e : valN ([] ++ [x]) 0 = x.toNat - 48 := by simp [valN]
        rw [e, Lib.decDigits_one (by have := hx.2; omega), byte_of hx]
        exact ⟨rfl, by omega⟩
      · have hl' : l'.length = n := by simp at hl; exact hl
        obtain ⟨i1, i2⟩ := ih l' hl' (fun b hb => h b (by simp [hb])) (fun b r e => hd b (r ++ [x]) (by rw [e]; rfl)) h0
        have e : valN (l' ++ [x]) 0 = valN l' 0 * 10 + (x.toNat - 48) := by rw [valN_append]; rfl
        rw [e]
        have hx1 := hx.1
        have hx2 := hx.2
        refine ⟨?_, by omega⟩
        rw [decDigits_step _ (by omega)]
        have e1 : (valN l' 0 * 10 + (x.toNat - 48)) / 10 = valN l' 0 := by omega
        have e2 : (valN l' 0 * 10 + (x.toNat - 48)) % 10 = x.toNat - 48 := by omega
        rw [e1, e2, i1, byte_of hx]
  exact key l.length l rfl h hd hne

theorem parse10 (l : List UInt8) (A : Nat) (h : ∀ b ∈ l, isD b) (hv : valN l A < 9223372036854775808) : Lib.parseUint10 A l = .ok (valN l A) := by
  induction l generalizing A with
  | nil => rfl
  | cons b l ih =>
    have hb := h b (by simp)
    simp only [valN] at hv
    have hge := valN_ge l (A * 10 + (b.toNat - 48))
    unfold Lib.parseUint10
    rw [if_pos (show 48 ≤ b.toNat ∧ b.toNat ≤ 57 from hb), if_neg (by omega), if_neg (by omega)]
    exact ih _ (fun x hx => h x (by simp [hx])) hv
theorem parseM (M : Nat) (l : List UInt8) (A : Nat) (h : ∀ b ∈ l, isD b) (hv : valN l A < 9223372036854775808) (hM : 9223372036854775807 ≤ M) : Lib.parseUintM M A l = .ok (valN l A) := by
  induction l generalizing A with
  | nil => rfl
  | cons b l ih =>
    have hb := h b (by simp)
    simp only [valN] at hv
    have hge := valN_ge l (A * 10 + (b.toNat - 48))
    unfold Lib.parseUintM
    rw [if_pos (show 48 ≤ b.toNat ∧ b.toNat ≤ 57 from hb), if_neg (by omega), if_neg (by omega)]
    exact ih _ (fun x hx => h x (by simp [hx])) hv

theorem itoa_cases (n : Int) : (∃ u : Nat, n = u ∧ itoa n = decDigits u) ∨ (∃ u : Nat, 1 ≤ u ∧ n = -(u : Int) ∧ itoa n = 45 :: decDigits u) := by
  by_cases h : 0 ≤ n
  · obtain ⟨u, rfl⟩ := Int.eq_ofNat_of_zero_le h
    exact .inl ⟨u, rfl, Lib.itoa_nonneg u⟩
  · obtain ⟨u, hu⟩ := Int.eq_ofNat_of_zero_le (by omega : 0 ≤ -n)
    obtain rfl : n = -(u : Int) := by omega
    exact .inr ⟨u, by omega, rfl, Lib.itoa_neg u (by omega)⟩

theorem atoi_itoa (n : Int) (h : n.natAbs < 9223372036854775808) : Lib.atoiAll (itoa n) = .ok n := by
  rcases itoa_cases n with ⟨u, rfl, e⟩ | ⟨u, hu, rfl, e⟩
  · rw [e]
    have hd := dec_isD u
    have hv := dec_val u
    have hp : Lib.parseMag (decDigits u) = .ok u := by
      unfold Lib.parseMag
      rw [if_neg (dec_ne u), parse10 _ 0 hd (by rw [hv]; omega), hv]
    cases hc : decDigits u with
    | nil => exact absurd hc (dec_ne u)
    | cons b r =>
      rw [hc] at hp hd
      have hb := hd b (by simp)
      have hb1 := hb.1
      unfold Lib.atoiAll
      simp only
      rw [if_neg (show ¬ (b.toNat = 43 ∨ b.toNat = 45) by omega), hp]
      simp only
      rw [if_neg (by omega), if_neg (by omega), if_neg (by omega)]
  · rw [e]
    have hd := dec_isD u
    have hv := dec_val u
    have hp : Lib.parseMag (decDigits u) = .ok u := by
      unfold Lib.parseMag
      rw [if_neg (dec_ne u), parse10 _ 0 hd (by rw [hv]; omega), hv]
    have e45 : (45 : UInt8).toNat = 45 := by decide
    unfold Lib.atoiAll
    simp only
    rw [if_pos (show ((45 : UInt8).toNat = 43 ∨ (45 : UInt8).toNat = 45) from .inr e45), hp]
    simp only
    rw [if_neg (by omega), if_neg (by omega), if_pos e45]
theorem parseInt_itoa (n : Int) (h : n.natAbs < 9223372036854775808) : Lib.parseIntB 64 (itoa n) = .ok n := by
  have hM : (9223372036854775807 : Nat) ≤ 2 ^ 64 - 1 := by decide
  have h63 : (2 : Nat) ^ (64 - 1) = 9223372036854775808 := by decide
  rcases itoa_cases n with ⟨u, rfl, e⟩ | ⟨u, hu, rfl, e⟩
  · rw [e]
    have hd := dec_isD u
    have hv := dec_val u
    have hp : Lib.parseUintB 64 (decDigits u) = .ok u := by
      unfold Lib.parseUintB
      rw [if_neg (dec_ne u), parseM _ _ 0 hd (by rw [hv]; omega) hM, hv]
    cases hc : decDigits u with
    | nil => exact absurd hc (dec_ne u)
    | cons b r =>
      rw [hc] at hp hd
      have hb := hd b (by simp)
      have hb1 := hb.1
      unfold Lib.parseIntB
      simp only
      rw [if_neg (show ¬ (b.toNat = 43 ∨ b.toNat = 45) by omega), hp]
      simp only [h63]
      rw [if_neg (by omega), if_neg (by omega), if_neg (by omega)]
  · rw [e]
    have hd := dec_isD u
    have hv := dec_val u
    have hp : Lib.parseUintB 64 (decDigits u) = .ok u := by
      unfold Lib.parseUintB
      rw [if_neg (dec_ne u), parseM _ _ 0 hd (by rw [hv]; omega) hM, hv]
    have e45 : (45 : UInt8).toNat = 45 := by decide
    unfold Lib.parseIntB
    simp only
    rw [if_pos (show ((45 : UInt8).toNat = 43 ∨ (45 : UInt8).toNat = 45) from .inr e45), hp]
    simp only [h63]
    rw [if_neg (by omega), if_neg (by omega), if_pos e45]

theorem itoa_inj {a b : Int} (ha : a.natAbs < 9223372036854775808) (hb : b.natAbs < 9223372036854775808) (h : itoa a = itoa b) : a = b := by
  have h1 := atoi_itoa a ha
  rw [h, atoi_itoa b hb] at h1
  injection h1 with h1
  exact h1.symm

/-- Where no star stands ahead, it is cut at the first. -/
theorem cut_star (a b : List UInt8) (h : ∀ x ∈ a, x ≠ 42) : Lib.cut (a ++ (42 :: 50 :: 94 :: b)) [42, 50, 94] = (a, b, true) := by
  have hi : Lib.index (a ++ (42 :: 50 :: 94 :: b)) [42, 50, 94] = (a.length : Int) := by
    refine Lib.index_first (by simp) ?_ ?_
    · unfold Lib.occAt
      rw [List.drop_left]
      simp [List.isPrefixOf]
    · intro j hj
      unfold Lib.occAt
      obtain ⟨x, r, e⟩ : ∃ x r, a.drop j = x :: r := by
        cases hd : a.drop j with
        | nil => have := List.drop_eq_nil_iff.1 hd; omega
        | cons x r => exact ⟨x, r, rfl⟩
      have hx : x ∈ a := List.mem_of_mem_drop (by rw [e]; simp)
      rw [List.drop_append_of_le_length (by omega), e]
      have hne := h x hx
      simp only [List.cons_append, List.isPrefixOf, Bool.and_eq_false_iff]
      left
      exact beq_eq_false_iff_ne.2 (Ne.symm hne)
  unfold Lib.cut
  rw [hi, if_pos (by omega)]
  have e1 : ((a.length : Int)).toNat = a.length := by omega
  rw [e1, List.take_left]
  congr 1
  congr 1
  rw [List.length_cons, List.length_cons, List.length_cons, List.length_nil, ← List.drop_drop, List.drop_left]
  rfl

theorem dec_nostar (u : Nat) : ∀ x ∈ decDigits u, x ≠ 42 := fun x hx e => by
  have := (dec_isD u x hx).1
  rw [e] at this
  exact absurd this (by decide)
theorem itoa_nostar (n : Int) : ∀ x ∈ itoa n, x ≠ 42 := by
  rcases itoa_cases n with ⟨u, rfl, e⟩ | ⟨u, hu, rfl, e⟩
  · rw [e]; exact dec_nostar u
  · rw [e]
    intro x hx
    rcases List.mem_cons.1 hx with rfl | hx
    · decide
    · exact dec_nostar u x hx

theorem posT_inj {n m : Nat} {e f : Int} (hn : n < 9007199254740992) (he : -1074 ≤ e ∧ e ≤ 1023) (hf : -1074 ≤ f ∧ f ≤ 1023) (h : posT n e = posT m f) : n = m ∧ e = f := by
  have h1 := cut_star (decDigits n) (itoa e) (dec_nostar n)
  have h2 := cut_star (decDigits m) (itoa f) (dec_nostar m)
  unfold posT at h
  rw [h, h2] at h1
  injection h1 with a b
  injection b with b c
  exact ⟨(dec_inj a).symm, (itoa_inj (by omega) (by omega) b).symm⟩

theorem R_inj {r s : Nat} (hr : r < Fm.infR) (hs : s < Fm.infR) (h : Fm.R r = Fm.R s) : r = s := by
  obtain ⟨m, k, e1, e2, h1, h2, h3⟩ := Fm.R_form hr
  obtain ⟨n, l, f1, f2, k1, k2, k3⟩ := Fm.R_form hs
  have p1 := Fm.nearest_exact false (Fm.R r) (-1074) m k (by rw [e1]; simp) h1 h2 h3
  have p2 := Fm.nearest_exact false (Fm.R r) (-1074) n l (by rw [h, f1]; simp) k1 k2 k3
  rw [← e2] at p1
  rw [← f2] at p2
  have p3 := p1.symm.trans p2
  rw [Fm.word_eq, Fm.word_eq] at p3
  simpa using p3
end Go.Proofs.YtlgacbjopobeoaaGreatDoor
/- Unlike real numbers have unlike texts. -/
namespace Go.Proofs.YtlgacbjopobeoaaGreatDoor
open Go.RowKit Go.Lib
set_option linter.unusedVariables false

instance (x y : Nat) : Decidable (Same x y) := inferInstanceAs (Decidable (_ ∨ _))

theorem PosT.head {r : Nat} {p : List UInt8} (h : PosT r p) (h0 : 0 < Fm.R r) : 3 ≤ p.length ∧ ∃ b l, p = b :: l ∧ (b.toNat = 105 ∨ (49 ≤ b.toNat ∧ b.toNat ≤ 57)) := by
  rcases h with ⟨_, rfl⟩ | ⟨h1, n, e, h2, rfl⟩
  · exact ⟨by decide, _, _, rfl, .inl (by decide)⟩
  · have hb := h2.bd h1 h0
    obtain ⟨b, r', hd, d1, d2⟩ := dec_head n (by omega)
    unfold posT
    rw [hd]
    exact ⟨by simp; omega, b, _, rfl, .inr ⟨d1, d2⟩⟩
theorem PosT.inj {r s : Nat} {p : List UInt8} (h : PosT r p) (k : PosT s p) (h0 : 0 < Fm.R r) (k0 : 0 < Fm.R s) : r = s := by
  rcases h with ⟨h1, rfl⟩ | ⟨h1, n, e, h2, rfl⟩
  · rcases k with ⟨k1, _⟩ | ⟨k1, m, f, k2, hk⟩
    · rw [h1, k1]
    · exfalso
      have hb := k2.bd k1 k0
      obtain ⟨b, r', hd, d1, d2⟩ := dec_head m (by omega)
      unfold posT at hk
      rw [hd] at hk
      injection hk with a _
      rw [← a] at d2
      exact absurd d2 (by decide)
  · rcases k with ⟨k1, hk⟩ | ⟨k1, m, f, k2, hk⟩
    · exfalso
      have hb := h2.bd h1 h0
      obtain ⟨b, r', hd, d1, d2⟩ := dec_head n (by omega)
      unfold posT at hk
      rw [hd] at hk
      injection hk with a _
      rw [a] at d2
      exact absurd d2 (by decide)
    · have hb := h2.bd h1 h0
      have kb := k2.bd k1 k0
      obtain ⟨rfl, rfl⟩ := posT_inj hb.1 ⟨hb.2.2.1, hb.2.1⟩ ⟨kb.2.2.1, kb.2.1⟩ hk
      exact R_inj h1 k1 ((h2.val h0).trans (k2.val k0).symm)
theorem eq_of_parts {x y : Nat} (hx : x < 18446744073709551616) (hy : y < 18446744073709551616) (hs : Fm.sg x = Fm.sg y) (hr : Fm.rg x = Fm.rg y) : x = y := by
  rw [Fm.word_of hx, Fm.word_of hy, hs, hr]
theorem fin_of_zero {x : Nat} (h : ¬ Fm.isN x) (h0 : Fm.R (Fm.rg x) = 0) : Fm.rg x < Fm.infR := by
  rcases Nat.lt_or_ge (Fm.rg x) Fm.infR with h1 | h1
  · exact h1
  · exfalso
    have : Fm.rg x = Fm.infR := by unfold Fm.isN at h; omega
    rw [this] at h0
    exact absurd h0 (by decide +kernel)

theorem Txt.inj {x y : Nat} (hx : x < 18446744073709551616) (hy : y < 18446744073709551616) {t : List UInt8} (h : Txt x t) (k : Txt y t) : Same x y := by
  rcases h with ⟨h1, rfl⟩ | ⟨h1, h2, rfl⟩ | ⟨h1, h2, p, h3, rfl⟩
  · rcases k with ⟨k1, _⟩ | ⟨k1, k2, hk⟩ | ⟨k1, k2, q, k3, hk⟩
    · exact .inr ⟨h1, k1⟩
    · exfalso; revert hk; cases Fm.sg y <;> decide
    · exfalso
      obtain ⟨_, b, l, rfl, hb⟩ := k3.head k2
      cases hs : Fm.sg y with
      | true => rw [hs, if_pos rfl] at hk; injection hk with a _; exact absurd a (by decide)
      | false =>
        rw [hs, if_neg (by decide)] at hk
        injection hk with a _
        rw [← a] at hb
        exact absurd hb (by decide)
  · rcases k with ⟨k1, hk⟩ | ⟨k1, k2, hk⟩ | ⟨k1, k2, q, k3, hk⟩
    · exfalso; revert hk; cases Fm.sg x <;> decide
    · refine .inl (eq_of_parts hx hy ?_ (R_inj (fin_of_zero h1 h2) (fin_of_zero k1 k2) (h2.trans k2.symm)))
      revert hk
      cases Fm.sg x <;> cases Fm.sg y <;> simp
    · exfalso
      obtain ⟨hl, _⟩ := k3.head k2
      have := congrArg List.length hk
      revert this
      cases Fm.sg x <;> cases Fm.sg y <;> simp only [if_true, if_false, Bool.false_eq_true, List.length_cons, List.length_nil] <;> omega
  · obtain ⟨hl, b, l, hp, hb⟩ := h3.head h2
    rcases k with ⟨k1, hk⟩ | ⟨k1, k2, hk⟩ | ⟨k1, k2, q, k3, hk⟩
    · exfalso
      subst hp
      cases hs : Fm.sg x with
      | true => rw [hs, if_pos rfl] at hk; injection hk with a _; exact absurd a (by decide)
      | false =>
        rw [hs, if_neg (by decide)] at hk
        injection hk with a _
        rw [a] at hb
        exact absurd hb (by decide)
    · exfalso
      have := congrArg List.length hk
      revert this
      cases Fm.sg x <;> cases Fm.sg y <;> simp only [if_true, if_false, Bool.false_eq_true, List.length_cons, List.length_nil] <;> omega
    · obtain ⟨_, b', l', hq, hb'⟩ := k3.head k2
      cases hs : Fm.sg x with
      | true =>
        cases ht : Fm.sg y with
        | true =>
          rw [hs, ht, if_pos rfl, if_pos rfl] at hk
          injection hk with _ hpq
          subst hpq
          exact .inl (eq_of_parts hx hy (hs.trans ht.symm) (h3.inj k3 h2 k2))
        | false =>
          exfalso
          rw [hs, ht, if_pos rfl, if_neg (by decide), hq] at hk
          injection hk with a _
          rw [← a] at hb'
          exact absurd hb' (by decide)
      | false =>
        cases ht : Fm.sg y with
        | true =>
          exfalso
          rw [hs, ht, if_pos rfl, if_neg (by decide), hp] at hk
          injection hk with a _
          rw [a] at hb
          exact absurd hb (by decide)
        | false =>
          rw [hs, ht, if_neg (by decide), if_neg (by decide)] at hk
          subst hk
          exact .inl (eq_of_parts hx hy (hs.trans ht.symm) (h3.inj k3 h2 k2))
theorem Txt.same {x y : Nat} {t s : List UInt8} (h : Txt x t) (k : Txt y s) (e : Same x y) : t = s := by
  rcases e with rfl | ⟨e1, e2⟩
  · exact h.unique k
  · rcases h with ⟨_, rfl⟩ | ⟨h1, _⟩ | ⟨h1, _⟩
    · rcases k with ⟨_, rfl⟩ | ⟨k1, _⟩ | ⟨k1, _⟩
      · rfl
      · exact absurd e2 k1
      · exact absurd e2 k1
    · exact absurd e1 h1
    · exact absurd e1 h1
end Go.Proofs.YtlgacbjopobeoaaGreatDoor
