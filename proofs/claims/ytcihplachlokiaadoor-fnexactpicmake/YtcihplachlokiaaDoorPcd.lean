/- PicSum of the specification and of the program. -/
import Derived.Test.YtcihplachlokiaaDoorPcc
namespace Go.Proofs.YtcihplachlokiaaDoor
open Go.RowKit
set_option linter.unusedVariables false

set_option maxRecDepth 10000 in
set_option maxHeartbeats 1000000 in
theorem round_s (s : Nat) (w : World) (hs : s < 65536) :
    Calls Tryd.prog 47 #[.int .i64 s] w fun e w' => e = .returned (.int .i64 (rnd s : Nat)) ∧ w = w' := by
  by_cases h : 65536 ≤ s * 2
  · have hr : rnd s = (s * 2 - 65536) ^^^ 4129 := by unfold rnd; rw [if_pos h]
    have HX : Hid (Calls Tryd.prog 46 #[.int .i64 ((s : Int) * 2 - 65536), .int .i64 4129] w fun e w' => e = .returned (.int .i64 (rnd s : Nat)) ∧ w = w') := by
      have := xor_s (s * 2 - 65536) 4129 w (by omega) (by decide)
      rw [← hr, show ((s * 2 - 65536 : Nat) : Int) = (s : Int) * 2 - 65536 by omega] at this
      exact this
    obtain ⟨R, HR⟩ : ∃ R : Int, (rnd s : Int) = R := ⟨_, rfl⟩
    rw [HR] at HX ⊢
    have i1 : (65536 : Int) ≤ (s : Int) * 2 := by omega
    have i2 : (s : Int) < 65536 := by omega
    clear hr HR hs h
    go_enter Tryd.func47, Tryd.ntmps47
    go_wp2_with fail
    refine HX.out.mono ?_
    rintro e w1 ⟨rfl, rfl⟩
    go_wp2
    go_ret
    exact ⟨rfl, rfl⟩
  · have hr : ((rnd s : Nat) : Int) = (s : Int) * 2 := by unfold rnd; rw [if_neg h]; omega
    rw [hr]
    have i1 : ¬ (65536 : Int) ≤ (s : Int) * 2 := by omega
    have i2 : (s : Int) < 65536 := by omega
    clear hr hs h
    go_enter Tryd.func47, Tryd.ntmps47
    go_wp2
    go_ret
    exact ⟨rfl, rfl⟩

set_option maxRecDepth 10000 in
set_option maxHeartbeats 1000000 in
theorem psum_s (a : Option Addr) (n c : Nat) (f : Nat → Nat) (hf : ∀ j, f j < 256) (w : World) (hn : n ≤ 1048576) (h : Bt w a n f) :
    Calls Tryd.prog 26 #[.slice a n c] w fun e w' => e = .returned (.int .u16 (sumF f n : Nat)) ∧ w = w' := by
  have H0 : Hid (Bt w a n f) := h
  have HF : Hid (∀ j, sumF f j < 65536) := sumF_lt f hf
  have Hf : Hid (∀ j, f j < 256) := hf
  have HX : Hid (∀ k : Nat, Calls Tryd.prog 46 #[.int .i64 (sumF f k : Nat), .int .i64 (((f k : Nat) : Int) * 256)] w fun e w' => e = .returned (.int .i64 (rnds 0 (sumF f k ^^^ f k * 256) : Nat)) ∧ w = w') := by
    intro k
    have := xor_s (sumF f k) (f k * 256) w (HF.out k) (by have := hf k; omega)
    rwa [Int.natCast_mul] at this
  have HR : Hid (∀ k j : Nat, Calls Tryd.prog 47 #[.int .i64 (rnds j (sumF f k ^^^ f k * 256) : Nat)] w fun e w' => e = .returned (.int .i64 (rnds (j + 1) (sumF f k ^^^ f k * 256) : Nat)) ∧ w = w') := by
    intro k j
    exact round_s _ w (rnds_lt (xor_lt (HF.out k) (by have := hf k; omega)) j)
  clear h hf
  go_enter Tryd.func26, Tryd.ntmps26
  go_wp2
  go_loop [3, 4, 5] (fun s i _ => ∃ k : Nat, k ≤ n ∧ i = .int .i64 k ∧ s = .int .i64 (sumF f k : Nat)) (fun _ i _ => n - (intOf i).toNat)
  case atStart => exact ⟨0, Nat.zero_le _, rfl, rfl⟩
  case round =>
    obtain ⟨k, hk, rfl, rfl⟩ := hrel
    by_cases hlt : k < n
    · obtain ⟨g, o, rfl, hg, hcs⟩ : ∃ g o, a = some ⟨g, o, none⟩ ∧ g < w.heap.size ∧ ∀ j, j < n → w.cell? ⟨g, o + j, none⟩ = some (.int .u8 (f j)) := by
        rcases H0.out with h | h
        · omega
        · exact h
      have hc := hcs k hlt
      have i0 : (k : Int) < (n : Int) := by omega
      have i1 := Hf.out k
      clear hcs
      go_wp2_with fail
      refine (HX.out k).mono ?_
      rintro e w1 ⟨rfl, rfl⟩
      go_wp2
      go_loop [3, 5] (fun s i => ∃ j : Nat, j ≤ 8 ∧ i = .int .i64 j ∧ s = .int .i64 (rnds j (sumF f k ^^^ f k * 256) : Nat)) (fun _ i => 8 - (intOf i).toNat)
      case atStart => exact ⟨0, Nat.zero_le _, rfl, rfl⟩
      case round =>
        obtain ⟨j, hj, rfl, rfl⟩ := hrel
        by_cases hl8 : j < 8
        · have i2 : (j : Int) < 8 := by omega
          go_wp2_with fail
          refine (HR.out k j).mono ?_
          rintro e w2 ⟨rfl, rfl⟩
          go_wp2
          go_round
          case rel => exact ⟨j + 1, by omega, by go_num, rfl⟩
          case measure => simp [intOf]; omega
        · have hj8 : j = 8 := by omega
          subst hj8
          go_wp2
          go_round
          case rel => exact ⟨k + 1, by omega, by go_num, rfl⟩
          case measure => simp [intOf]; omega
    · have hkn : k = n := by omega
      subst hkn
      have HV : Hid (IntKind.u16.wrap ((sumF f k : Nat) : Int) = (sumF f k : Nat)) := (by rw [IntKind.wrap_u16]; have := HF.out k; omega : IntKind.u16.wrap ((sumF f k : Nat) : Int) = (sumF f k : Nat))
      have i1 := HF.out k
      go_wp2
      go_ret
      exact ⟨by first | rfl | rw [HV.out], rfl⟩
end Go.Proofs.YtcihplachlokiaaDoor
