/- Reading real numbers: the program's realScaled. -/
import Derived.Test.YtpjpjndichpfaaaDoorRm
import Derived.Test.YtpjpjndichpfaaaDoorAr
namespace Go.Proofs.YtpjpjndichpfaaaDoor
open Go.RowKit
open Go.Lib (decDigits itoa)
set_option linter.unusedVariables false

/-- A number of n times 2 to the k, in units. -/
def Ex (s : Bool) (n k c : Nat) : Prop := ∃ r, r < Fm.infR ∧ Fm.R r = n * 2 ^ k ∧ c = Ieee.double.word s r

theorem ex_rg {s : Bool} {n k c : Nat} (h : Ex s n k c) : Fm.rg c < Fm.infR ∧ Fm.sg c = s ∧ Fm.R (Fm.rg c) = n * 2 ^ k ∧ c < 18446744073709551616 := by
  obtain ⟨r, h1, h2, rfl⟩ := h
  rw [Fm.rg_word _ (Nat.le_of_lt h1), Fm.sg_word _ (Nat.le_of_lt h1)]
  exact ⟨h1, rfl, h2, Fm.word_lt _ (Nat.le_of_lt h1)⟩
theorem ex_dbl {s : Bool} {n k c : Nat} (h : Ex s n k c) (hK : n * 2 ^ (k + 1) < Fm.Kinf) : ∃ c', floatBits .mul .f64 c Fm.two = some c' ∧ Ex s n (k + 1) c' := by
  obtain ⟨a, b, d, -⟩ := ex_rg h
  have e : n * 2 ^ (k + 1) = 2 * Fm.R (Fm.rg c) := by rw [d, Nat.pow_succ, ← Nat.mul_assoc, Nat.mul_comm]
  rw [e] at hK
  obtain ⟨r, q1, q2, q3⟩ := Fm.dbl_fin a hK
  rw [b] at q3
  exact ⟨_, q3, r, q1, by rw [q2, e], rfl⟩
theorem ex_half {s : Bool} {n k c : Nat} (h : Ex s n (k + 1) c) (hn : n < 9007199254740992) : ∃ c', floatBits .quo .f64 c Fm.two = some c' ∧ Ex s n k c' := by
  obtain ⟨a, b, d, -⟩ := ex_rg h
  have e : Fm.R (Fm.rg c) = 2 * (n * 2 ^ k) := by rw [d, Nat.pow_succ, ← Nat.mul_assoc, Nat.mul_comm]
  have hK := Fm.R_fin_lt a
  obtain ⟨r, q1, q2, q3⟩ := Fm.half_fin a e (Fm.rep_of n k hn (by omega))
  rw [b] at q3
  exact ⟨_, q3, r, q1, q2, rfl⟩
theorem ex_start (n : Nat) (z : Int) (hz : z.natAbs = n) (hn : n < 9007199254740992) : Ex (decide (z < 0)) n 1074 (floatOfInt .f64 z) := by
  obtain ⟨r, h1, h2, h3⟩ := Fm.whole_exact z (by omega)
  have e := Fm.U_add 0 1074 (by omega)
  exact ⟨r, h1, by rw [h2, hz, e]; simp, h3⟩

theorem dbl_good {c : Nat} (h : ¬ Fm.isN c) : ∃ c', floatBits .mul .f64 c Fm.two = some c' ∧ ¬ Fm.isN c' ∧ c' < 18446744073709551616 := by
  obtain ⟨r, h1, h2, -⟩ := Fm.dbl_any h
  exact ⟨_, h2, Fm.notN_word _ h1, Fm.word_lt _ h1⟩
theorem half_good {c : Nat} (h : ¬ Fm.isN c) : ∃ c', floatBits .quo .f64 c Fm.two = some c' ∧ ¬ Fm.isN c' ∧ c' < 18446744073709551616 := by
  obtain ⟨r, h1, h2⟩ := Fm.half_any h
  exact ⟨_, h2, Fm.notN_word _ h1, Fm.word_lt _ h1⟩

set_option maxHeartbeats 2000000 in
theorem scaled_any (x : Nat) (e : Int) (w : World) (hn : ¬ Fm.isN x) (hx : x < 18446744073709551616) (e1 : -1074 ≤ e) (e2 : e ≤ 1023) :
    Calls Tryd.prog 80 #[.float .f64 x, .int .i64 e] w fun r w' => ∃ y, r = .returned (.float .f64 y) ∧ y < 18446744073709551616 ∧ w' = w := by
  go_enter Tryd.func80, Tryd.ntmps80
  go_wp2
  go_loopg [0, 1] e.toNat (fun g c i wr => ∃ (b : Nat) (j : Int), j ≤ 1023 ∧ -1074 ≤ j ∧ j.toNat = g ∧ c = .float .f64 b ∧ i = .int .i64 j ∧ Hid (¬ Fm.isN b ∧ b < 18446744073709551616) ∧ wr = w)
  case atStart => exact ⟨x, e, e2, e1, rfl, rfl, rfl, ⟨hn, hx⟩, rfl⟩
  case round =>
    clear hn hx e1 e2
    obtain ⟨b, j, j1, j2, hj, rfl, rfl, HB, rfl⟩ := hrel
    by_cases h0 : 0 < j
    · obtain ⟨c', q1, q2, q3⟩ := dbl_good HB.out.1
      have hq := fun (t : TypeId) (w : World) => run_float_arith (P := Tryd.prog) w .mul t .f64 b _ c' q1
      have HB2 : Hid (¬ Fm.isN c' ∧ c' < 18446744073709551616) := ⟨q2, q3⟩
      clear q1 q2 q3 HB
      go_wp2
      go_roundg (gk - 1)
      case measure => omega
      case rel => exact ⟨c', j - 1, by omega, by omega, by omega, rfl, by go_num, HB2, rfl⟩
    · go_wp2
      go_loopg [0, 1] (-j).toNat (fun g c i wx => ∃ (b : Nat) (j : Int), j ≤ 0 ∧ -1074 ≤ j ∧ (-j).toNat = g ∧ c = .float .f64 b ∧ i = .int .i64 j ∧ Hid (¬ Fm.isN b ∧ b < 18446744073709551616) ∧ wx = wr)
      case atStart => exact ⟨b, j, by omega, j2, rfl, rfl, rfl, HB, rfl⟩
      case round =>
        clear HB h0 j1 j2 hj
        obtain ⟨b, j, j1, j2, hj, rfl, rfl, HB, rfl⟩ := hrel
        by_cases h0 : j < 0
        · obtain ⟨c', q1, q2, q3⟩ := half_good HB.out.1
          have hq := fun (t : TypeId) (w : World) => run_float_arith (P := Tryd.prog) w .quo t .f64 b _ c' q1
          have HB2 : Hid (¬ Fm.isN c' ∧ c' < 18446744073709551616) := ⟨q2, q3⟩
          clear q1 q2 q3 HB
          go_wp2
          go_roundg (gk - 1)
          case measure => omega
          case rel => exact ⟨c', j + 1, by omega, by omega, by omega, rfl, by go_num, HB2, rfl⟩
        · go_wp2
          go_ret
          exact ⟨b, rfl, HB.out.2, rfl⟩

theorem pow_mono_lt {n a b K : Nat} (h : n * 2 ^ b < K) (hab : a ≤ b) : n * 2 ^ a < K :=
  Nat.lt_of_le_of_lt (Nat.mul_le_mul_left _ (Nat.pow_le_pow_right (by decide) hab)) h

set_option maxHeartbeats 2000000 in
theorem scaled_ex (s : Bool) (n : Nat) (x : Nat) (e : Int) (w : World) (hx : Ex s n 1074 x) (hn : n < 9007199254740992) (e1 : -1074 ≤ e) (e2 : e ≤ 1023) (hK : n * 2 ^ (e + 1074).toNat < Fm.Kinf) :
    Calls Tryd.prog 80 #[.float .f64 x, .int .i64 e] w fun r w' => ∃ y, r = .returned (.float .f64 y) ∧ Ex s n (e + 1074).toNat y ∧ w' = w := by
  obtain ⟨E, HE⟩ : ∃ E : Nat, Hid (E = (e + 1074).toNat) := ⟨_, rfl⟩
  have hE : (E : Int) = e + 1074 := by rw [HE.out]; omega
  have HK : Hid (n * 2 ^ E < Fm.Kinf ∧ n < 9007199254740992) := by rw [HE.out]; exact ⟨hK, hn⟩
  rw [← HE.out]
  have HX : Hid (Ex s n 1074 x) := hx
  clear hx hK hn HE
  go_enter Tryd.func80, Tryd.ntmps80
  go_wp2
  go_loopg [0, 1] e.toNat (fun g c i wr => ∃ (b k : Nat) (j : Int), j ≤ 1023 ∧ -1074 ≤ j ∧ j.toNat = g ∧ c = .float .f64 b ∧ i = .int .i64 j ∧ (k : Int) + j = E ∧ Hid (Ex s n k b) ∧ wr = w)
  case atStart => exact ⟨x, 1074, e, e2, e1, rfl, rfl, rfl, by omega, HX, rfl⟩
  case round =>
    clear HX e1 e2 hE
    obtain ⟨b, k, j, j1, j2, hj, rfl, rfl, hk, HB, rfl⟩ := hrel
    by_cases h0 : 0 < j
    · obtain ⟨c', q1, q2⟩ := ex_dbl HB.out (pow_mono_lt HK.out.1 (by omega))
      have hq := fun (t : TypeId) (w : World) => run_float_arith (P := Tryd.prog) w .mul t .f64 b _ c' q1
      have HB2 : Hid (Ex s n (k + 1) c') := q2
      clear q1 q2 HB
      go_wp2
      go_roundg (gk - 1)
      case measure => omega
      case rel => exact ⟨c', k + 1, j - 1, by omega, by omega, by omega, rfl, by go_num, by omega, HB2, rfl⟩
    · go_wp2
      go_loopg [0, 1] (-j).toNat (fun g c i wx => ∃ (b k : Nat) (j : Int), j ≤ 0 ∧ -1074 ≤ j ∧ (-j).toNat = g ∧ c = .float .f64 b ∧ i = .int .i64 j ∧ (k : Int) + j = E ∧ Hid (Ex s n k b) ∧ wx = wr)
      case atStart => exact ⟨b, k, j, by omega, j2, rfl, rfl, rfl, hk, HB, rfl⟩
      case round =>
        clear HB h0 j1 j2 hj hk
        obtain ⟨b, k, j, j1, j2, hj, rfl, rfl, hk, HB, rfl⟩ := hrel
        by_cases h0 : j < 0
        · obtain ⟨k', rfl⟩ : ∃ k', k = k' + 1 := ⟨k - 1, by omega⟩
          obtain ⟨c', q1, q2⟩ := ex_half HB.out HK.out.2
          have hq := fun (t : TypeId) (w : World) => run_float_arith (P := Tryd.prog) w .quo t .f64 b _ c' q1
          have HB2 : Hid (Ex s n k' c') := q2
          clear q1 q2 HB
          go_wp2
          go_roundg (gk - 1)
          case measure => omega
          case rel => exact ⟨c', k', j + 1, by omega, by omega, by omega, rfl, by go_num, by omega, HB2, rfl⟩
        · have HF : Hid (Ex s n E b) := by
            have : E = k := by omega
            rw [this]; exact HB.out
          clear HB
          go_wp2
          go_ret
          exact ⟨b, rfl, HF.out, rfl⟩
end Go.Proofs.YtpjpjndichpfaaaDoor
