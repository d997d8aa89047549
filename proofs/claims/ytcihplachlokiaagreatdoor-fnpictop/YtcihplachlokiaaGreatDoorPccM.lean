/- PicSum of the program and of the specification. -/
import Derived.Test.YtcihplachlokiaaGreatDoorPca
import Derived.Test.YtcihplachlokiaaGreatDoorPcbM
import Derived.Laws.BitsAllLaws
namespace Go.Proofs.YtcihplachlokiaaGreatDoor
open Go.RowKit
set_option linter.unusedVariables false

set_option maxRecDepth 10000 in
set_option maxHeartbeats 1000000 in
theorem xor_s (A B : Nat) (w : World) (hA : A < 65536) (hB : B < 65536) :
    Calls Tryz.prog 46 #[.int .i64 A, .int .i64 B] w fun e w' => e = .returned (.int .i64 ((A ^^^ B : Nat) : Int)) ∧ w = w' := by
  have HE : Hid ((A ^^^ B) % 2 ^ 16 = A ^^^ B) := xor_end hA hB
  go_enter Tryz.func46, Tryz.ntmps46
  go_wp2
  go_loop [0, 1, 5, 6] (fun a b out p => ∃ k P : Nat, k ≤ 16 ∧ Hid (P = 2 ^ k) ∧ a = .int .i64 ((A / P : Nat) : Int) ∧ b = .int .i64 ((B / P : Nat) : Int) ∧ out = .int .i64 (((A ^^^ B) % P : Nat) : Int) ∧ p = .int .i64 (P : Nat)) (fun _ _ _ p => 65536 - (intOf p).toNat)
  case atStart => exact ⟨0, 1, Nat.zero_le _, rfl, by simp, by simp, by simp [Nat.mod_one], rfl⟩
  case round =>
    obtain ⟨k, P, hk, HP, rfl, rfl, rfl, rfl⟩ := hrel
    have hP1 : 1 ≤ P ∧ P ≤ 65536 ∧ (k < 16 → P ≤ 32768) ∧ (¬ k < 16 → P = 65536) := by
      have : ∀ j : Fin 17, 1 ≤ 2 ^ j.val ∧ 2 ^ j.val ≤ 65536 ∧ (j.val < 16 → 2 ^ j.val ≤ 32768) ∧ (¬ j.val < 16 → 2 ^ j.val = 65536) := by decide
      rw [HP.out]; exact this ⟨k, by omega⟩
    obtain ⟨hP1, hP2, hP3, hP4⟩ := hP1
    by_cases hlt : k < 16
    · have hP5 := hP3 hlt
      have hS : Hid ((A ^^^ B) % (P * 2) = (A ^^^ B) % P + (if A / P % 2 ≠ B / P % 2 then P else 0)) := by
        have := xor_step A B k
        rw [Nat.pow_succ, ← HP.out] at this
        exact this
      have hA2 : Hid (A / (P * 2) = A / P / 2 ∧ B / (P * 2) = B / P / 2) := ⟨(Nat.div_div_eq_div_mul ..).symm, (Nat.div_div_eq_div_mul ..).symm⟩
      have lA : A / P < 65536 := Nat.lt_of_le_of_lt (Nat.div_le_self _ _) hA
      have lB : B / P < 65536 := Nat.lt_of_le_of_lt (Nat.div_le_self _ _) hB
      have lX : (A ^^^ B) % P < P := Nat.mod_lt _ (by omega)
      have HK : Hid (P * 2 = 2 ^ (k + 1)) := (by rw [Nat.pow_succ, ← HP.out] : P * 2 = 2 ^ (k + 1))
      generalize hx : (A ^^^ B) % P = X at *
      generalize ha : A / P = a at *
      generalize hb : B / P = b at *
      clear hP3 hP4
      have q1 : (a : Int).tdiv 2 = ((a / 2 : Nat) : Int) := by rw [Int.tdiv_eq_ediv_of_nonneg (by omega)]; omega
      have q2 : (b : Int).tdiv 2 = ((b / 2 : Nat) : Int) := by rw [Int.tdiv_eq_ediv_of_nonneg (by omega)]; omega
      have m1 : (a : Int).tmod 2 = ((a % 2 : Nat) : Int) := by rw [Int.tmod_eq_emod_of_nonneg (by omega)]; omega
      have m2 : (b : Int).tmod 2 = ((b % 2 : Nat) : Int) := by rw [Int.tmod_eq_emod_of_nonneg (by omega)]; omega
      have HH : Hid ((A ^^^ B) % P = X ∧ A / P = a ∧ B / P = b) := ⟨hx, ha, hb⟩
      clear hx ha hb
      by_cases hd : a % 2 = b % 2
      · have e1 : ((a : Int) % 2 != (b : Int) % 2) = false := by simp; omega
        have HS2 := hS.out; rw [if_neg (by simpa using hd)] at HS2
        obtain ⟨a2, ea2⟩ : ∃ z, ((a / 2 : Nat) : Int) = z := ⟨_, rfl⟩
        obtain ⟨b2, eb2⟩ : ∃ z, ((b / 2 : Nat) : Int) = z := ⟨_, rfl⟩
        rw [ea2] at q1
        rw [eb2] at q2
        have g1 : -32768 ≤ a2 ∧ a2 ≤ 65536 := by omega
        have g2 : -32768 ≤ b2 ∧ b2 ≤ 65536 := by omega
        have e1a : 0 ≤ (a : Int) ∧ (a : Int) < 65536 := by omega
        have e1b : 0 ≤ (b : Int) ∧ (b : Int) < 65536 := by omega
        have ep : 1 ≤ (P : Int) ∧ (P : Int) ≤ 32768 := by omega
        have ex : 0 ≤ (X : Int) ∧ (X : Int) ≤ 32768 := by omega
        have HE2 : Hid (((P * 2 : Nat) : Int) = (P : Int) * 2 ∧ ((A / (P * 2) : Nat) : Int) = a2 ∧ ((B / (P * 2) : Nat) : Int) = b2 ∧ (((A ^^^ B) % (P * 2) : Nat) : Int) = (X : Int)) := ⟨by omega, by rw [hA2.out.1]; exact ea2, by rw [hA2.out.2]; exact eb2, by rw [HS2]; rfl⟩
        obtain ⟨α, eα⟩ : ∃ z, (a : Int) = z := ⟨_, rfl⟩
        obtain ⟨β, eβ⟩ : ∃ z, (b : Int) = z := ⟨_, rfl⟩
        obtain ⟨ξ, eξ⟩ : ∃ z, (X : Int) = z := ⟨_, rfl⟩
        obtain ⟨π, eπ⟩ : ∃ z, (P : Int) = z := ⟨_, rfl⟩
        rw [eξ] at ex HE2 ⊢
        rw [eα] at q1 e1 e1a ⊢
        rw [eβ] at q2 e1 e1b ⊢
        rw [eπ] at ep HE2 ⊢
        clear eα eβ eξ eπ hd m1 m2 hS hA2 HH HS2 ea2 eb2 lA lB lX hA hB hP1 hP2 hP5
        go_wp2
        go_round
        case rel => exact ⟨k + 1, P * 2, by omega, HK, by rw [HE2.out.2.1], by rw [HE2.out.2.2.1], by rw [HE2.out.2.2.2], by rw [HE2.out.1]⟩
        case measure => simp [intOf]; omega
      · have e1 : ((a : Int) % 2 != (b : Int) % 2) = true := by simp; omega
        have HS2 := hS.out; rw [if_pos hd] at HS2
        obtain ⟨a2, ea2⟩ : ∃ z, ((a / 2 : Nat) : Int) = z := ⟨_, rfl⟩
        obtain ⟨b2, eb2⟩ : ∃ z, ((b / 2 : Nat) : Int) = z := ⟨_, rfl⟩
        rw [ea2] at q1
        rw [eb2] at q2
        have g1 : -32768 ≤ a2 ∧ a2 ≤ 65536 := by omega
        have g2 : -32768 ≤ b2 ∧ b2 ≤ 65536 := by omega
        have e1a : 0 ≤ (a : Int) ∧ (a : Int) < 65536 := by omega
        have e1b : 0 ≤ (b : Int) ∧ (b : Int) < 65536 := by omega
        have ep : 1 ≤ (P : Int) ∧ (P : Int) ≤ 32768 := by omega
        have ex : 0 ≤ (X : Int) ∧ (X : Int) ≤ 32768 := by omega
        have HE2 : Hid (((P * 2 : Nat) : Int) = (P : Int) * 2 ∧ ((A / (P * 2) : Nat) : Int) = a2 ∧ ((B / (P * 2) : Nat) : Int) = b2 ∧ (((A ^^^ B) % (P * 2) : Nat) : Int) = (X : Int) + P) := ⟨by omega, by rw [hA2.out.1]; exact ea2, by rw [hA2.out.2]; exact eb2, by rw [HS2]; omega⟩
        obtain ⟨α, eα⟩ : ∃ z, (a : Int) = z := ⟨_, rfl⟩
        obtain ⟨β, eβ⟩ : ∃ z, (b : Int) = z := ⟨_, rfl⟩
        obtain ⟨ξ, eξ⟩ : ∃ z, (X : Int) = z := ⟨_, rfl⟩
        obtain ⟨π, eπ⟩ : ∃ z, (P : Int) = z := ⟨_, rfl⟩
        rw [eξ] at ex HE2 ⊢
        rw [eα] at q1 e1 e1a ⊢
        rw [eβ] at q2 e1 e1b ⊢
        rw [eπ] at ep HE2 ⊢
        clear eα eβ eξ eπ hd m1 m2 hS hA2 HH HS2 ea2 eb2 lA lB lX hA hB hP1 hP2 hP5
        go_wp2
        go_round
        case rel => exact ⟨k + 1, P * 2, by omega, HK, by rw [HE2.out.2.1], by rw [HE2.out.2.2.1], by rw [HE2.out.2.2.2], by rw [HE2.out.1]⟩
        case measure => simp [intOf]; omega
    · have hk16 : k = 16 := by omega
      have hP6 := hP4 hlt
      have HX : Hid ((A ^^^ B) % P = A ^^^ B) := (by rw [hP6]; exact HE.out : (A ^^^ B) % P = A ^^^ B)
      subst hP6
      clear hP1 hP2 hP3 hP4
      rw [HX.out]
      go_wp2
      go_ret
      exact ⟨rfl, rfl⟩
end Go.Proofs.YtcihplachlokiaaGreatDoor
/- PicSum of the specification and of the program. -/
namespace Go.Proofs.YtcihplachlokiaaGreatDoor
open Go.RowKit
set_option linter.unusedVariables false

set_option maxRecDepth 10000 in
set_option maxHeartbeats 1000000 in
theorem round_s (s : Nat) (w : World) (hs : s < 65536) :
    Calls Tryz.prog 47 #[.int .i64 s] w fun e w' => e = .returned (.int .i64 (rnd s : Nat)) ∧ w = w' := by
  by_cases h : 65536 ≤ s * 2
  · have hr : rnd s = (s * 2 - 65536) ^^^ 4129 := by unfold rnd; rw [if_pos h]
    have HX : Hid (Calls Tryz.prog 46 #[.int .i64 ((s : Int) * 2 - 65536), .int .i64 4129] w fun e w' => e = .returned (.int .i64 (rnd s : Nat)) ∧ w = w') := by
      have := xor_s (s * 2 - 65536) 4129 w (by omega) (by decide)
      rw [← hr, show ((s * 2 - 65536 : Nat) : Int) = (s : Int) * 2 - 65536 by omega] at this
      exact this
    obtain ⟨R, HR⟩ : ∃ R : Int, (rnd s : Int) = R := ⟨_, rfl⟩
    rw [HR] at HX ⊢
    have i1 : (65536 : Int) ≤ (s : Int) * 2 := by omega
    have i2 : (s : Int) < 65536 := by omega
    clear hr HR hs h
    go_enter Tryz.func47, Tryz.ntmps47
    go_wp2_with fail
    refine HX.out.mono ?_
    rintro e w1 ⟨rfl, rfl⟩
    go_wp2
    go_ret
    exact ⟨rfl, rfl⟩
  · have hr : ((rnd s : Nat) : Int) = (s : Int) * 2 := by unfold rnd; rw [if_neg h]; omega
    rw [hr]
    have i1 : ¬ (65536 : Int) ≤ (s : Int) * 2 := by omega
    have i2 : (s : Int) < 65536 := by omega
    clear hr hs h
    go_enter Tryz.func47, Tryz.ntmps47
    go_wp2
    go_ret
    exact ⟨rfl, rfl⟩

set_option maxRecDepth 10000 in
set_option maxHeartbeats 1000000 in
theorem psum_s (a : Option Addr) (n c : Nat) (f : Nat → Nat) (hf : ∀ j, f j < 256) (w : World) (hn : n ≤ 1048576) (h : Bt w a n f) :
    Calls Tryz.prog 22 #[.slice a n c] w fun e w' => e = .returned (.int .u16 (sumF f n : Nat)) ∧ w = w' := by
  have H0 : Hid (Bt w a n f) := h
  have HF : Hid (∀ j, sumF f j < 65536) := sumF_lt f hf
  have Hf : Hid (∀ j, f j < 256) := hf
  have HX : Hid (∀ k : Nat, Calls Tryz.prog 46 #[.int .i64 (sumF f k : Nat), .int .i64 (((f k : Nat) : Int) * 256)] w fun e w' => e = .returned (.int .i64 (rnds 0 (sumF f k ^^^ f k * 256) : Nat)) ∧ w = w') := by
    intro k
    have := xor_s (sumF f k) (f k * 256) w (HF.out k) (by have := hf k; omega)
    rwa [Int.natCast_mul] at this
  have HR : Hid (∀ k j : Nat, Calls Tryz.prog 47 #[.int .i64 (rnds j (sumF f k ^^^ f k * 256) : Nat)] w fun e w' => e = .returned (.int .i64 (rnds (j + 1) (sumF f k ^^^ f k * 256) : Nat)) ∧ w = w') := by
    intro k j
    exact round_s _ w (rnds_lt (xor_lt (HF.out k) (by have := hf k; omega)) j)
  clear h hf
  go_enter Tryz.func22, Tryz.ntmps22
  go_wp2
  go_loop [3, 4, 5] (fun s i _ => ∃ k : Nat, k ≤ n ∧ i = .int .i64 k ∧ s = .int .i64 (sumF f k : Nat)) (fun _ i _ => n - (intOf i).toNat)
  case atStart => exact ⟨0, Nat.zero_le _, rfl, rfl⟩
  case round =>
    obtain ⟨k, hk, rfl, rfl⟩ := hrel
    by_cases hlt : k < n
    · obtain ⟨g, o, rfl, hg, hcs⟩ : ∃ g o, a = some ⟨g, o, none⟩ ∧ g < w.heap.size ∧ ∀ j, j < n → w.cell? ⟨g, o + j, none⟩ = some (.int .u8 (f j)) := by
        rcases H0.out with h | h
        · omega
        · exact h
      have hc := hcs k hlt
      have i0 : (k : Int) < (n : Int) := by omega
      have i1 := Hf.out k
      clear hcs
      go_wp2_with fail
      refine (HX.out k).mono ?_
      rintro e w1 ⟨rfl, rfl⟩
      go_wp2
      go_loop [3, 5] (fun s i => ∃ j : Nat, j ≤ 8 ∧ i = .int .i64 j ∧ s = .int .i64 (rnds j (sumF f k ^^^ f k * 256) : Nat)) (fun _ i => 8 - (intOf i).toNat)
      case atStart => exact ⟨0, Nat.zero_le _, rfl, rfl⟩
      case round =>
        obtain ⟨j, hj, rfl, rfl⟩ := hrel
        by_cases hl8 : j < 8
        · have i2 : (j : Int) < 8 := by omega
          go_wp2_with fail
          refine (HR.out k j).mono ?_
          rintro e w2 ⟨rfl, rfl⟩
          go_wp2
          go_round
          case rel => exact ⟨j + 1, by omega, by go_num, rfl⟩
          case measure => simp [intOf]; omega
        · have hj8 : j = 8 := by omega
          subst hj8
          go_wp2
          go_round
          case rel => exact ⟨k + 1, by omega, by go_num, rfl⟩
          case measure => simp [intOf]; omega
    · have hkn : k = n := by omega
      subst hkn
      have HV : Hid (IntKind.u16.wrap ((sumF f k : Nat) : Int) = (sumF f k : Nat)) := (by rw [IntKind.wrap_u16]; have := HF.out k; omega : IntKind.u16.wrap ((sumF f k : Nat) : Int) = (sumF f k : Nat))
      have i1 := HF.out k
      go_wp2
      go_ret
      exact ⟨by first | rfl | rw [HV.out], rfl⟩
end Go.Proofs.YtcihplachlokiaaGreatDoor
/- PicSum of the program. -/
namespace Go.Proofs.YtcihplachlokiaaGreatDoor
open Go.RowKit
set_option linter.unusedVariables false

set_option maxRecDepth 10000 in
set_option maxHeartbeats 1000000 in
theorem psum_i (a : Option Addr) (n c : Nat) (f : Nat → Nat) (hf : ∀ j, f j < 256) (w : World) (hn : n ≤ 1048576) (h : Bt w a n f) :
    Calls Tryz.prog 18 #[.slice a n c] w fun e w' => e = .returned (.int .u16 (sumF f n : Nat)) ∧ w = w' := by
  have H0 : Hid (Bt w a n f) := h
  have HF : Hid (∀ j, sumF f j < 65536) := sumF_lt f hf
  have Hf : Hid (∀ j, f j < 256) := hf
  clear h hf
  go_enter Tryz.func18, Tryz.ntmps18
  go_wp2
  go_loop [3, 5, 6, 9] (fun s _ _ i => ∃ k : Nat, k ≤ n ∧ i = .int .i64 k ∧ s = .int .u16 (sumF f k : Nat)) (fun _ _ _ i => n - (intOf i).toNat)
  case atStart => exact ⟨0, Nat.zero_le _, rfl, rfl⟩
  case round =>
    obtain ⟨k, hk, rfl, rfl⟩ := hrel
    by_cases hlt : k < n
    · obtain ⟨g, o, rfl, hg, hcs⟩ : ∃ g o, a = some ⟨g, o, none⟩ ∧ g < w.heap.size ∧ ∀ j, j < n → w.cell? ⟨g, o + j, none⟩ = some (.int .u8 (f j)) := by
        rcases H0.out with h | h
        · omega
        · exact h
      have hc := hcs k hlt
      have i0 : (k : Int) < (n : Int) := by omega
      have i1 := Hf.out k
      have i2 := HF.out k
      clear hcs
      obtain ⟨V, HV⟩ : ∃ V, Hid (V = (rnds 0 (sumF f k ^^^ f k * 256))) := ⟨_, rfl⟩
      have lV : V < 65536 := by rw [HV.out]; exact xor_lt i2 (by omega)
      have eX : bits .xor .u16 ((sumF f k : Nat) : Int) (((f k : Nat) : Int) * 256) = (V : Nat) := by
        have := u16_xor_nat (sumF f k) (f k * 256) i2 (by omega)
        rw [HV.out]
        rwa [Int.natCast_mul] at this
      clear i2
      go_wp2
      go_loop [3, 6, 18] (fun s _ i => ∃ j : Nat, j ≤ 8 ∧ i = .int .i64 j ∧ s = .int .u16 (rnds j (sumF f k ^^^ f k * 256) : Nat)) (fun _ _ i => 8 - (intOf i).toNat)
      case atStart => exact ⟨0, Nat.zero_le _, rfl, by rw [← HV.out]⟩
      case round =>
        obtain ⟨j, hj, rfl, rfl⟩ := hrel
        obtain ⟨S, HS⟩ : ∃ S, Hid (S = rnds j (sumF f k ^^^ f k * 256)) := ⟨_, rfl⟩
        have lS : S < 65536 := by rw [HS.out]; exact rnds_lt (by have := HV.out; simp only [rnds] at this; omega) j
        rw [← HS.out]
        by_cases hl8 : j < 8
        · have i3 : (j : Int) < 8 := by omega
          have HB : Hid (bits .xor .u16 (IntKind.u16.wrap ((S : Int) * 2)) ((S : Int) / 32768 * 4129) = (rnds (j + 1) (sumF f k ^^^ f k * 256) : Nat)) := by
            have e1 : IntKind.u16.wrap ((S : Int) * 2) = ((S * 2 % 65536 : Nat) : Int) := by rw [IntKind.wrap_u16]; omega
            have e2 : (S : Int) / 32768 * 4129 = ((S / 32768 * 4129 % 65536 : Nat) : Int) := by omega
            show _ = ((rnd (rnds j (sumF f k ^^^ f k * 256)) : Nat) : Int)
            rw [e1, e2, u16_xor_nat _ _ (Nat.mod_lt _ (by decide)) (Nat.mod_lt _ (by decide)), ← HS.out, rnd_impl lS]
          go_wp2
          go_round
          case rel => exact ⟨j + 1, by omega, by go_num, by rw [HB.out]⟩
          case measure => simp [intOf]; omega
        · have hj8 : j = 8 := by omega
          subst hj8
          go_wp2
          go_round
          case rel => exact ⟨k + 1, by omega, by go_num, by rw [HS.out]; rfl⟩
          case measure => simp [intOf]; omega
    · have hkn : k = n := by omega
      subst hkn
      go_wp2
      go_ret
      exact ⟨rfl, rfl⟩
end Go.Proofs.YtcihplachlokiaaGreatDoor
