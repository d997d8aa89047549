/- Walks of the small functions of chapter 1: ok (both widths), the specification's BitOk. -/
import Derived.Test.YtlpeianinlnbeaaRows
import Derived.WalkKit
import Derived.ProofKit
import Derived.Handy
import Derived.WalkLawsBesides
import Derived.Deep.QuietTactic
import Derived.BigQuiet
namespace Go.Proofs.Ytlpeianinlnbeaa
open Go.RowKit
set_option linter.unusedVariables false

def okS (m b n : Int) : Bool := decide (0 ≤ n ∧ n ≤ m ∧ b < 2 ^ n.toNat)

theorem bcell {W w1 : World} (hb : Below W.heap.size W w1) : (∀ b o, b < W.heap.size → w1.cell? ⟨b, o, none⟩ = W.cell? ⟨b, o, none⟩) ∧ (∀ b o, b < W.heap.size → w1.frozen? ⟨b, o, none⟩ = W.frozen? ⟨b, o, none⟩) :=
  ⟨fun b o h => hb.cell (p := ⟨b, o, none⟩) h, fun b o h => hb.frozen (p := ⟨b, o, none⟩) h⟩

theorem pow_bd (k : Nat) (h : k ≤ 16) : 1 ≤ (2 : Int) ^ k ∧ (2 : Int) ^ k ≤ 65536 := by
  have : ∀ j : Fin 17, 1 ≤ (2 : Int) ^ j.val ∧ (2 : Int) ^ j.val ≤ 65536 := by decide
  exact this ⟨k, by omega⟩

theorem ret_bool {a b : Bool} (h : a = b) : Ending.returned (.bool a) = .returned (.bool b) := by rw [h]

theorem okS_neg (m b n : Int) (h : n < 0) : okS m b n = false := by simp [okS]; omega
theorem okS_over (m b n : Int) (h : m < n) : okS m b n = false := by simp [okS]; omega
theorem okS_div (m b : Int) (k : Nat) (hb : 0 ≤ b) (h : (k : Int) ≤ m) : (b / 2 ^ k == 0) = okS m b (k : Int) := by
  have hp : (0 : Int) < 2 ^ k := Int.pow_pos (by decide)
  by_cases hl : b < 2 ^ k
  · simp [okS, hl, h, Int.ediv_eq_zero_of_lt hb hl]
  · have h1 : 1 ≤ b / 2 ^ k := Int.le_ediv_of_mul_le hp (by omega)
    have h2 : ¬ b / 2 ^ k = 0 := by omega
    simp [okS, hl, h2]
theorem okS_mid (m b : Int) (k : Nat) (h : (k : Int) ≤ m) : okS m b (k : Int) = decide (b < 2 ^ k) := by simp [okS]; omega

set_option maxHeartbeats 400000 in
theorem spec_ok (b n : Int) (w : World) (hb0 : 0 ≤ b) (hb1 : b ≤ 65535) :
    Calls Try.prog 27 #[.agg #[.int .u16 b, .int .i64 n]] w fun e w' => e = .returned (.bool (okS 16 b n)) ∧ Below w.heap.size w w' := by
  by_cases h0 : n < 0
  · go_enter Try.func27, Try.ntmps27
    go_wp2
    go_ret
    exact ⟨ret_bool (okS_neg _ _ _ h0).symm, (Below.refl _ _).alloc (Nat.le_refl _) _⟩
  · by_cases h1 : 16 < n
    · go_enter Try.func27, Try.ntmps27
      go_wp2
      go_ret
      exact ⟨ret_bool (okS_over _ _ _ h1).symm, (Below.refl _ _).alloc (Nat.le_refl _) _⟩
    · obtain ⟨N, rfl⟩ := Int.eq_ofNat_of_zero_le (by omega : 0 ≤ n)
      go_enter Try.func27, Try.ntmps27
      go_wp2
      go_loop [3, 4] (fun r i => ∃ k : Nat, k ≤ N ∧ i = .int .i64 k ∧ r = .int .i64 (2 ^ k)) (fun _ i => N - (intOf i).toNat)
      case atStart => exact ⟨0, Nat.zero_le _, rfl, rfl⟩
      case round =>
        obtain ⟨k, hk, rfl, rfl⟩ := hrel
        have hp := pow_bd k (by omega)
        by_cases hlt : k < N
        · go_wp2
          go_round
          case rel => exact ⟨k + 1, by omega, by go_num, by rw [Int.pow_succ]⟩
          case measure => simp [intOf]; omega
        · have hkN : k = N := by omega
          subst hkN
          go_wp2
          go_ret
          exact ⟨ret_bool (okS_mid _ _ _ (by omega)).symm, (Below.refl _ _).alloc (Nat.le_refl _) _⟩

set_option maxHeartbeats 400000 in
theorem ok16 (bl o : Nat) (b n : Int) (w : World) (hb0 : 0 ≤ b) (hb1 : b ≤ 65535) (c0 : w.cell? ⟨bl, o, none⟩ = some (.int .u16 b)) (c1 : w.cell? ⟨bl, o + 1, none⟩ = some (.int .i64 n)) (c2 : w.cell? ⟨bl, o + 2, none⟩ = some (.int .i64 16)) :
    Calls Try.prog 67 #[.pointer (some ⟨bl, o, none⟩)] w fun e w' => e = .returned (.bool (okS 16 b n)) ∧ ∃ k, w' = w.drewN k := by
  by_cases h0 : n < 0
  · have d0 : decide (0 ≤ n) = false := by simp; omega
    go_enter Try.func67, Try.ntmps67
    go_wp2
    go_quiet (fail)
    go_wp2
    go_ret
    exact ⟨ret_bool (okS_neg _ _ _ h0).symm, _, rfl⟩
  · by_cases h1 : 16 < n
    · have d0 : 0 ≤ n := by omega
      have d1 : decide (n ≤ 16) = false := by simp; omega
      go_enter Try.func67, Try.ntmps67
      go_wp2
      go_quiet (fail)
      go_wp2
      go_ret
      exact ⟨ret_bool (okS_over _ _ _ h1).symm, _, rfl⟩
    · obtain ⟨N, rfl⟩ := Int.eq_ofNat_of_zero_le (by omega : 0 ≤ n)
      have d1 : (N : Int) ≤ 16 := by omega
      go_enter Try.func67, Try.ntmps67
      go_wp2
      go_quiet (fail)
      go_wp2
      go_ret
      exact ⟨ret_bool (okS_div _ _ _ hb0 d1), _, rfl⟩

set_option maxHeartbeats 400000 in
theorem impl_ok (b n : Int) (w : World) (hb0 : 0 ≤ b) (hb1 : b ≤ 65535) :
    Calls Try.prog 26 #[.agg #[.int .u16 b, .int .i64 n]] w fun e w' => e = .returned (.bool (okS 16 b n)) ∧ Below w.heap.size w w' := by
  go_enter Try.func26, Try.ntmps26
  go_wp2_with (first | (go_at_call 67; go_call (ok16 _ _ b n _ hb0 hb1 _ _ _) as e w1 ⟨rfl, k, rfl⟩) | go_in)
  go_ret
  exact ⟨rfl, below_drewN (by go_grown) _⟩

set_option maxHeartbeats 400000 in
theorem to_stack (b n : Int) (w : World) :
    Calls Try.prog 44 #[.agg #[.int .u16 b, .int .i64 n]] w fun e w' => e = .returned (.agg #[.int .u16 b, .int .i64 n]) ∧ Below w.heap.size w w' := by
  go_enter Try.func44, Try.ntmps44
  go_wp2
  go_returns
  refine ⟨?_, ?_⟩
  · rfl
  · go_grown

end Go.Proofs.Ytlpeianinlnbeaa
