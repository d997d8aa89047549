/- PicSum of the program and of the specification. -/
import Derived.Test.YtcihplachlokiaaDoorPca
import Derived.Test.YtcihplachlokiaaDoorPcb
import Derived.Laws.BitsAllLaws
namespace Go.Proofs.YtcihplachlokiaaDoor
open Go.RowKit
set_option linter.unusedVariables false

set_option maxRecDepth 10000 in
set_option maxHeartbeats 1000000 in
theorem xor_s (A B : Nat) (w : World) (hA : A < 65536) (hB : B < 65536) :
    Calls Tryd.prog 46 #[.int .i64 A, .int .i64 B] w fun e w' => e = .returned (.int .i64 ((A ^^^ B : Nat) : Int)) ∧ w = w' := by
  have HE : Hid ((A ^^^ B) % 2 ^ 16 = A ^^^ B) := xor_end hA hB
  go_enter Tryd.func46, Tryd.ntmps46
  go_wp2
  go_loop [0, 1, 5, 6] (fun a b out p => ∃ k P : Nat, k ≤ 16 ∧ Hid (P = 2 ^ k) ∧ a = .int .i64 ((A / P : Nat) : Int) ∧ b = .int .i64 ((B / P : Nat) : Int) ∧ out = .int .i64 (((A ^^^ B) % P : Nat) : Int) ∧ p = .int .i64 (P : Nat)) (fun _ _ _ p => 65536 - (intOf p).toNat)
  case atStart => exact ⟨0, 1, Nat.zero_le _, rfl, by simp, by simp, by simp [Nat.mod_one], rfl⟩
  case round =>
    obtain ⟨k, P, hk, HP, rfl, rfl, rfl, rfl⟩ := hrel
    have hP1 : 1 ≤ P ∧ P ≤ 65536 ∧ (k < 16 → P ≤ 32768) ∧ (¬ k < 16 → P = 65536) := by
      have : ∀ j : Fin 17, 1 ≤ 2 ^ j.val ∧ 2 ^ j.val ≤ 65536 ∧ (j.val < 16 → 2 ^ j.val ≤ 32768) ∧ (¬ j.val < 16 → 2 ^ j.val = 65536) := by decide
      rw [HP.out]; exact this ⟨k, by omega⟩
    obtain ⟨hP1, hP2, hP3, hP4⟩ := hP1
    by_cases hlt : k < 16
    · have hP5 := hP3 hlt
      have hS : Hid ((A ^^^ B) % (P * 2) = (A ^^^ B) % P + (if A / P % 2 ≠ B / P % 2 then P else 0)) := by
        have := xor_step A B k
        rw [Nat.pow_succ, ← HP.out] at this
        exact this
      have hA2 : Hid (A / (P * 2) = A / P / 2 ∧ B / (P * 2) = B / P / 2) := ⟨(Nat.div_div_eq_div_mul ..).symm, (Nat.div_div_eq_div_mul ..).symm⟩
      have lA : A / P < 65536 := Nat.lt_of_le_of_lt (Nat.div_le_self _ _) hA
      have lB : B / P < 65536 := Nat.lt_of_le_of_lt (Nat.div_le_self _ _) hB
      have lX : (A ^^^ B) % P < P := Nat.mod_lt _ (by omega)
      have HK : Hid (P * 2 = 2 ^ (k + 1)) := (by rw [Nat.pow_succ, ← HP.out] : P * 2 = 2 ^ (k + 1))
      generalize hx : (A ^^^ B) % P = X at *
      generalize ha : A / P = a at *
      generalize hb : B / P = b at *
      clear hP3 hP4
      have q1 : (a : Int).tdiv 2 = ((a / 2 : Nat) : Int) := by rw [Int.tdiv_eq_ediv_of_nonneg (by omega)]; omega
      have q2 : (b : Int).tdiv 2 = ((b / 2 : Nat) : Int) := by rw [Int.tdiv_eq_ediv_of_nonneg (by omega)]; omega
      have m1 : (a : Int).tmod 2 = ((a % 2 : Nat) : Int) := by rw [Int.tmod_eq_emod_of_nonneg (by omega)]; omega
      have m2 : (b : Int).tmod 2 = ((b % 2 : Nat) : Int) := by rw [Int.tmod_eq_emod_of_nonneg (by omega)]; omega
      have HH : Hid ((A ^^^ B) % P = X ∧ A / P = a ∧ B / P = b) := ⟨hx, ha, hb⟩
      clear hx ha hb
      by_cases hd : a % 2 = b % 2
      · have e1 : ((a : Int) % 2 != (b : Int) % 2) = false := by simp; omega
        have HS2 := hS.out; rw [if_neg (by simpa using hd)] at HS2
        obtain ⟨a2, ea2⟩ : ∃ z, ((a / 2 : Nat) : Int) = z := ⟨_, rfl⟩
        obtain ⟨b2, eb2⟩ : ∃ z, ((b / 2 : Nat) : Int) = z := ⟨_, rfl⟩
        rw [ea2] at q1
        rw [eb2] at q2
        have g1 : -32768 ≤ a2 ∧ a2 ≤ 65536 := by omega
        have g2 : -32768 ≤ b2 ∧ b2 ≤ 65536 := by omega
        have e1a : 0 ≤ (a : Int) ∧ (a : Int) < 65536 := by omega
        have e1b : 0 ≤ (b : Int) ∧ (b : Int) < 65536 := by omega
        have ep : 1 ≤ (P : Int) ∧ (P : Int) ≤ 32768 := by omega
        have ex : 0 ≤ (X : Int) ∧ (X : Int) ≤ 32768 := by omega
        have HE2 : Hid (((P * 2 : Nat) : Int) = (P : Int) * 2 ∧ ((A / (P * 2) : Nat) : Int) = a2 ∧ ((B / (P * 2) : Nat) : Int) = b2 ∧ (((A ^^^ B) % (P * 2) : Nat) : Int) = (X : Int)) := ⟨by omega, by rw [hA2.out.1]; exact ea2, by rw [hA2.out.2]; exact eb2, by rw [HS2]; rfl⟩
        obtain ⟨α, eα⟩ : ∃ z, (a : Int) = z := ⟨_, rfl⟩
        obtain ⟨β, eβ⟩ : ∃ z, (b : Int) = z := ⟨_, rfl⟩
        obtain ⟨ξ, eξ⟩ : ∃ z, (X : Int) = z := ⟨_, rfl⟩
        obtain ⟨π, eπ⟩ : ∃ z, (P : Int) = z := ⟨_, rfl⟩
        rw [eξ] at ex HE2 ⊢
        rw [eα] at q1 e1 e1a ⊢
        rw [eβ] at q2 e1 e1b ⊢
        rw [eπ] at ep HE2 ⊢
        clear eα eβ eξ eπ hd m1 m2 hS hA2 HH HS2 ea2 eb2 lA lB lX hA hB hP1 hP2 hP5
        go_wp2
        go_round
        case rel => exact ⟨k + 1, P * 2, by omega, HK, by rw [HE2.out.2.1], by rw [HE2.out.2.2.1], by rw [HE2.out.2.2.2], by rw [HE2.out.1]⟩
        case measure => simp [intOf]; omega
      · have e1 : ((a : Int) % 2 != (b : Int) % 2) = true := by simp; omega
        have HS2 := hS.out; rw [if_pos hd] at HS2
        obtain ⟨a2, ea2⟩ : ∃ z, ((a / 2 : Nat) : Int) = z := ⟨_, rfl⟩
        obtain ⟨b2, eb2⟩ : ∃ z, ((b / 2 : Nat) : Int) = z := ⟨_, rfl⟩
        rw [ea2] at q1
        rw [eb2] at q2
        have g1 : -32768 ≤ a2 ∧ a2 ≤ 65536 := by omega
        have g2 : -32768 ≤ b2 ∧ b2 ≤ 65536 := by omega
        have e1a : 0 ≤ (a : Int) ∧ (a : Int) < 65536 := by omega
        have e1b : 0 ≤ (b : Int) ∧ (b : Int) < 65536 := by omega
        have ep : 1 ≤ (P : Int) ∧ (P : Int) ≤ 32768 := by omega
        have ex : 0 ≤ (X : Int) ∧ (X : Int) ≤ 32768 := by omega
        have HE2 : Hid (((P * 2 : Nat) : Int) = (P : Int) * 2 ∧ ((A / (P * 2) : Nat) : Int) = a2 ∧ ((B / (P * 2) : Nat) : Int) = b2 ∧ (((A ^^^ B) % (P * 2) : Nat) : Int) = (X : Int) + P) := ⟨by omega, by rw [hA2.out.1]; exact ea2, by rw [hA2.out.2]; exact eb2, by rw [HS2]; omega⟩
        obtain ⟨α, eα⟩ : ∃ z, (a : Int) = z := ⟨_, rfl⟩
        obtain ⟨β, eβ⟩ : ∃ z, (b : Int) = z := ⟨_, rfl⟩
        obtain ⟨ξ, eξ⟩ : ∃ z, (X : Int) = z := ⟨_, rfl⟩
        obtain ⟨π, eπ⟩ : ∃ z, (P : Int) = z := ⟨_, rfl⟩
        rw [eξ] at ex HE2 ⊢
        rw [eα] at q1 e1 e1a ⊢
        rw [eβ] at q2 e1 e1b ⊢
        rw [eπ] at ep HE2 ⊢
        clear eα eβ eξ eπ hd m1 m2 hS hA2 HH HS2 ea2 eb2 lA lB lX hA hB hP1 hP2 hP5
        go_wp2
        go_round
        case rel => exact ⟨k + 1, P * 2, by omega, HK, by rw [HE2.out.2.1], by rw [HE2.out.2.2.1], by rw [HE2.out.2.2.2], by rw [HE2.out.1]⟩
        case measure => simp [intOf]; omega
    · have hk16 : k = 16 := by omega
      have hP6 := hP4 hlt
      have HX : Hid ((A ^^^ B) % P = A ^^^ B) := (by rw [hP6]; exact HE.out : (A ^^^ B) % P = A ^^^ B)
      subst hP6
      clear hP1 hP2 hP3 hP4
      rw [HX.out]
      go_wp2
      go_ret
      exact ⟨rfl, rfl⟩
end Go.Proofs.YtcihplachlokiaaDoor
