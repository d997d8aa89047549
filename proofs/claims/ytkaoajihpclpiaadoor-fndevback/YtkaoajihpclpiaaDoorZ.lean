/- Reading back what is written: digits and numbers, as mathematics. -/
import Derived.Test.YtkaoajihpclpiaaDoorYa
namespace Go.Proofs.YtkaoajihpclpiaaDoor
open Go.RowKit
open Go.Lib (decDigits itoa)
set_option linter.unusedVariables false

def isD (b : UInt8) : Prop := 48 ≤ b.toNat ∧ b.toNat ≤ 57
def valD : List UInt8 → Int → Int
  | [], A => A
  | b :: r, A => valD r (A * 10 + ((b.toNat : Int) - 48))

theorem valD_append (a b : List UInt8) (A : Int) : valD (a ++ b) A = valD b (valD a A) := by
  induction a generalizing A with
  | nil => rfl
  | cons x a ih => exact ih _
theorem valD_ge (l : List UInt8) (A : Int) (hA : 0 ≤ A) (h : ∀ b ∈ l, isD b) : A ≤ valD l A := by
  induction l generalizing A with
  | nil => exact Int.le_refl _
  | cons x l ih =>
    have hx := h x (by simp)
    have := ih (A * 10 + ((x.toNat : Int) - 48)) (by have := hx.1; omega) (fun b hb => h b (by simp [hb]))
    have h1 := hx.1
    simp only [valD]
    omega
theorem dgF_val (l : List UInt8) (A : Int) (h : ∀ b ∈ l, isD b) : dgF l A = valD l A := by
  induction l generalizing A with
  | nil => rfl
  | cons x l ih =>
    have hx := h x (by simp)
    rw [dgF, if_neg (by have := hx.1; have := hx.2; omega), valD]
    exact ih _ (fun b hb => h b (by simp [hb]))
theorem digS_val (l : List UInt8) (h : ∀ b ∈ l, isD b) (h1 : 1 ≤ l.length) (h2 : l.length ≤ 17) : digS l = valD l 0 := by
  unfold digS
  rw [if_neg (by omega), dgF_val l 0 h]

theorem dig_toNat (d : Nat) (h : d < 10) : (UInt8.ofNat (48 + d)).toNat = 48 + d := by simp; omega
theorem dec_isD (u : Nat) : ∀ b ∈ decDigits u, isD b := by
  induction u using Nat.strongRecOn with
  | _ u ih =>
    intro b hb
    by_cases h : u < 10
    · rw [Lib.decDigits_one h] at hb
      rw [List.mem_singleton.1 hb]
      have := dig_toNat u h
      unfold isD
      omega
    · rw [decDigits_step u (by omega)] at hb
      rcases List.mem_append.1 hb with hb | hb
      · exact ih (u / 10) (by omega) b hb
      · rw [List.mem_singleton.1 hb]
        have := dig_toNat (u % 10) (by omega)
        unfold isD
        omega
theorem dec_val (u : Nat) : valD (decDigits u) 0 = u := by
  induction u using Nat.strongRecOn with
  | _ u ih =>
    by_cases h : u < 10
    · rw [Lib.decDigits_one h]
      have := dig_toNat u h
      simp only [valD]
      omega
    · rw [decDigits_step u (by omega), valD_append, ih (u / 10) (by omega)]
      have := dig_toNat (u % 10) (by omega)
      simp only [valD]
      omega
theorem dec_len (u : Nat) (hu : u ≤ 1000000000000) : 1 ≤ (decDigits u).length ∧ (decDigits u).length ≤ 21 := by
  have := digits_size u hu
  rw [tx_size] at this
  exact ⟨this.2, this.1⟩
theorem dec_len9 (u : Nat) (hu : u ≤ 999999999) : (decDigits u).length ≤ 9 := by
  have h := Lib.decDigits_length u
  rw [h]
  by_cases h0 : Lib.nDigits u ≤ 9
  · exact h0
  · exfalso
    have key : ∀ k u, k < Lib.nDigits u → 1 ≤ k → 10 ^ k ≤ u := by
      intro k
      induction k with
      | zero => intro u _ h; omega
      | succ k ih =>
        intro u hk _
        by_cases hu : u < 10
        · rw [Lib.nDigits_small hu] at hk; omega
        · rw [Lib.nDigits_big hu] at hk
          by_cases hk0 : k = 0
          · subst hk0; simp; omega
          · have := ih (u / 10) (by omega) (by omega)
            rw [Nat.pow_succ]
            omega
    have := key 9 u (by omega) (by omega)
    have e : (10 : Nat) ^ 9 = 1000000000 := by decide
    omega

theorem zeros_val (j : Nat) (l : List UInt8) : valD (List.replicate j 48 ++ l) 0 = valD l 0 := by
  induction j with
  | zero => rfl
  | succ j ih =>
    rw [List.replicate_succ, List.cons_append, valD]
    exact ih
theorem pad_val (u p : Nat) : valD (pad u p) 0 = u := by rw [pad, zeros_val, dec_val]
theorem pad_isD (u p : Nat) : ∀ b ∈ pad u p, isD b := by
  intro b hb
  rcases List.mem_append.1 hb with hb | hb
  · have := (List.mem_replicate.1 hb).2
    subst this
    exact ⟨by decide, by decide⟩
  · exact dec_isD u b hb
theorem pad_len9 (u p : Nat) (hu : u ≤ 999999999) (hp : p ≤ 6) : (pad u p).length ≤ 16 := by
  have := dec_len9 u hu
  have := pad_len u p
  omega

/-- The two parts of a decimal number. -/
theorem cutp_parts (u p : Nat) : ∃ A B : List UInt8, cutp u p = A ++ 46 :: B ∧ A ++ B = pad u p ∧ B.length = p ∧ 1 ≤ A.length := by
  have h := pad_len u p
  refine ⟨(pad u p).take ((pad u p).length - p), (pad u p).drop ((pad u p).length - p), ?_, List.take_append_drop _ _, ?_, ?_⟩
  · simp [cutp]
  · rw [List.length_drop]; omega
  · rw [List.length_take]; omega

theorem gl_val (l r : List UInt8) (f : Bool) (S K N P : Int) (hN : 0 ≤ N) (h : ∀ b ∈ l, isD b) (hv : valD l N ≤ 999999999) :
    gl f S K N P (l ++ r) = gl (f && l.isEmpty) S K (valD l N) (if K = 12 then P + l.length else P) r := by
  induction l generalizing f N P with
  | nil => simp [valD]
  | cons b l ih =>
    have hb := h b (by simp)
    have hge := valD_ge l (N * 10 + ((b.toNat : Int) - 48)) (by have := hb.1; omega) (fun x hx => h x (by simp [hx]))
    have hb1 := hb.1
    simp only [valD] at hv
    rw [List.cons_append, gl_dig f S K N P b (l ++ r) hb.1 hb.2 (by omega), ih false _ _ (by omega) (fun x hx => h x (by simp [hx])) hv]
    simp only [valD, List.isEmpty_cons, Bool.and_false, Bool.false_and, List.length_cons]
    congr 1
    split
    · omega
    · rfl

theorem gl_cut (u p : Nat) (f : Bool) (S : Int) (hu : u ≤ 999999999) : gl f S 11 0 0 (cutp u p) = (12, (u : Int) * S, (p : Int)) := by
  obtain ⟨A, B, h1, h2, h3, h4⟩ := cutp_parts u p
  have hd := pad_isD u p
  rw [← h2] at hd
  have hv := pad_val u p
  rw [← h2, valD_append] at hv
  have hA : ∀ b ∈ A, isD b := fun b hb => hd b (by simp [hb])
  have hB : ∀ b ∈ B, isD b := fun b hb => hd b (by simp [hb])
  have g0 := valD_ge A 0 (by omega) hA
  have g1 := valD_ge B (valD A 0) g0 hB
  rw [h1, gl_val A (46 :: B) f S 11 0 0 (by omega) hA (by omega), if_neg (by decide), gl_dot _ _ _ _ _ _ (by decide)]
  have := gl_val B [] false S 12 (valD A 0) 0 g0 hB (by omega)
  rw [List.append_nil] at this
  rw [this, if_pos rfl, hv, h3]
  simp [gl]

theorem gl_int (u : Nat) (f : Bool) (S K : Int) (hu : u ≤ 999999999) (hK : K ≠ 12) : gl f S K 0 0 (decDigits u) = (K, (u : Int) * S, 0) := by
  have hv := dec_val u
  have := gl_val (decDigits u) [] f S K 0 0 (by omega) (dec_isD u) (by omega)
  rw [List.append_nil] at this
  rw [this, if_neg hK, hv]
  simp [gl]
end Go.Proofs.YtkaoajihpclpiaaDoor
