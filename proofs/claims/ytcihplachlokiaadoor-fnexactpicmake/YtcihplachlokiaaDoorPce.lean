/- PicSum of the program. -/
import Derived.Test.YtcihplachlokiaaDoorPcd
namespace Go.Proofs.YtcihplachlokiaaDoor
open Go.RowKit
set_option linter.unusedVariables false

set_option maxRecDepth 10000 in
set_option maxHeartbeats 1000000 in
theorem psum_i (a : Option Addr) (n c : Nat) (f : Nat → Nat) (hf : ∀ j, f j < 256) (w : World) (hn : n ≤ 1048576) (h : Bt w a n f) :
    Calls Tryd.prog 40 #[.slice a n c] w fun e w' => e = .returned (.int .u16 (sumF f n : Nat)) ∧ w = w' := by
  have H0 : Hid (Bt w a n f) := h
  have HF : Hid (∀ j, sumF f j < 65536) := sumF_lt f hf
  have Hf : Hid (∀ j, f j < 256) := hf
  clear h hf
  go_enter Tryd.func40, Tryd.ntmps40
  go_wp2
  go_loop [3, 5, 6, 9] (fun s _ _ i => ∃ k : Nat, k ≤ n ∧ i = .int .i64 k ∧ s = .int .u16 (sumF f k : Nat)) (fun _ _ _ i => n - (intOf i).toNat)
  case atStart => exact ⟨0, Nat.zero_le _, rfl, rfl⟩
  case round =>
    obtain ⟨k, hk, rfl, rfl⟩ := hrel
    by_cases hlt : k < n
    · obtain ⟨g, o, rfl, hg, hcs⟩ : ∃ g o, a = some ⟨g, o, none⟩ ∧ g < w.heap.size ∧ ∀ j, j < n → w.cell? ⟨g, o + j, none⟩ = some (.int .u8 (f j)) := by
        rcases H0.out with h | h
        · omega
        · exact h
      have hc := hcs k hlt
      have i0 : (k : Int) < (n : Int) := by omega
      have i1 := Hf.out k
      have i2 := HF.out k
      clear hcs
      obtain ⟨V, HV⟩ : ∃ V, Hid (V = (rnds 0 (sumF f k ^^^ f k * 256))) := ⟨_, rfl⟩
      have lV : V < 65536 := by rw [HV.out]; exact xor_lt i2 (by omega)
      have eX : bits .xor .u16 ((sumF f k : Nat) : Int) (((f k : Nat) : Int) * 256) = (V : Nat) := by
        have := u16_xor_nat (sumF f k) (f k * 256) i2 (by omega)
        rw [HV.out]
        rwa [Int.natCast_mul] at this
      clear i2
      go_wp2
      go_loop [3, 6, 18] (fun s _ i => ∃ j : Nat, j ≤ 8 ∧ i = .int .i64 j ∧ s = .int .u16 (rnds j (sumF f k ^^^ f k * 256) : Nat)) (fun _ _ i => 8 - (intOf i).toNat)
      case atStart => exact ⟨0, Nat.zero_le _, rfl, by rw [← HV.out]⟩
      case round =>
        obtain ⟨j, hj, rfl, rfl⟩ := hrel
        obtain ⟨S, HS⟩ : ∃ S, Hid (S = rnds j (sumF f k ^^^ f k * 256)) := ⟨_, rfl⟩
        have lS : S < 65536 := by rw [HS.out]; exact rnds_lt (by have := HV.out; simp only [rnds] at this; omega) j
        rw [← HS.out]
        by_cases hl8 : j < 8
        · have i3 : (j : Int) < 8 := by omega
          have HB : Hid (bits .xor .u16 (IntKind.u16.wrap ((S : Int) * 2)) ((S : Int) / 32768 * 4129) = (rnds (j + 1) (sumF f k ^^^ f k * 256) : Nat)) := by
            have e1 : IntKind.u16.wrap ((S : Int) * 2) = ((S * 2 % 65536 : Nat) : Int) := by rw [IntKind.wrap_u16]; omega
            have e2 : (S : Int) / 32768 * 4129 = ((S / 32768 * 4129 % 65536 : Nat) : Int) := by omega
            show _ = ((rnd (rnds j (sumF f k ^^^ f k * 256)) : Nat) : Int)
            rw [e1, e2, u16_xor_nat _ _ (Nat.mod_lt _ (by decide)) (Nat.mod_lt _ (by decide)), ← HS.out, rnd_impl lS]
          go_wp2
          go_round
          case rel => exact ⟨j + 1, by omega, by go_num, by rw [HB.out]⟩
          case measure => simp [intOf]; omega
        · have hj8 : j = 8 := by omega
          subst hj8
          go_wp2
          go_round
          case rel => exact ⟨k + 1, by omega, by go_num, by rw [HS.out]; rfl⟩
          case measure => simp [intOf]; omega
    · have hkn : k = n := by omega
      subst hkn
      go_wp2
      go_ret
      exact ⟨rfl, rfl⟩
end Go.Proofs.YtcihplachlokiaaDoor
