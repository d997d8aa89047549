/- Reading real numbers: the words and the scaling of the program. -/
import Derived.Test.YtjnddfpieogpiaaGreatDoorRiM
import Derived.Test.YtjnddfpieogpiaaGreatDoorTv6M
import Derived.Test.YtjnddfpieogpiaaGreatDoorEM
namespace Go.Proofs.YtjnddfpieogpiaaGreatDoor.Rr
open Go.RowKit
open Go.Lib (decDigits itoa)
set_option linter.unusedVariables false

set_option maxHeartbeats 1000000 in
theorem inf_pos (w : World) : Calls Tryz.prog 196 #[.int .i64 1] w fun e w' => e = .returned (.float .f64 9218868437227405312) ∧ w' = w := by
  go_enter Tryz.func196, Tryz.ntmps196
  go_wp2
  go_ret
  exact ⟨rfl, rfl⟩

set_option maxHeartbeats 1000000 in
theorem inf_neg (w : World) : Calls Tryz.prog 196 #[.int .i64 (-1)] w fun e w' => e = .returned (.float .f64 18442240474082181120) ∧ w' = w := by
  go_enter Tryz.func196, Tryz.ntmps196
  go_wp2
  go_ret
  exact ⟨rfl, rfl⟩

set_option maxHeartbeats 1000000 in
theorem impl_words (w : World) :
    Calls Tryz.prog 169 #[] w fun e w' => e = .returned (.agg #[.float .f64 9221120237041090561, .float .f64 9218868437227405312, .float .f64 18442240474082181120, .float .f64 9223372036854775808]) ∧ Below w.heap.size w w' := by
  have hq : ∀ (t : TypeId) (w : World), (binOp .quo t (.float .f64 4607182418800017408) (.float .f64 18442240474082181120)).run Tryz.prog w = .ok (.float .f64 9223372036854775808) w := fun t w => run_float_arith w .quo t .f64 _ _ _ (by decide +kernel)
  go_enter Tryz.func169, Tryz.ntmps169
  go_wp2_with fail
  refine (impl_nan _).mono ?_
  rintro e w1 ⟨rfl, rfl⟩
  go_wp2_with fail
  refine (inf_pos _).mono ?_
  rintro e w1 ⟨rfl, rfl⟩
  go_wp2_with fail
  refine (inf_neg _).mono ?_
  rintro e w1 ⟨rfl, rfl⟩
  go_wp2_with fail
  refine (inf_neg _).mono ?_
  rintro e w1 ⟨rfl, rfl⟩
  go_wp2
  go_returns
  exact ⟨rfl, by go_grown⟩

theorem idx71_0 (a b c d : Value) (w : World) : (Instr.index 220 (.agg #[a, b, c, d]) (.int .i64 0)).run Tryz.prog w = .ok a w := by kernel_rfl

theorem idx71_1 (a b c d : Value) (w : World) : (Instr.index 220 (.agg #[a, b, c, d]) (.int .i64 1)).run Tryz.prog w = .ok b w := by kernel_rfl

theorem idx71_2 (a b c d : Value) (w : World) : (Instr.index 220 (.agg #[a, b, c, d]) (.int .i64 2)).run Tryz.prog w = .ok c w := by kernel_rfl

theorem idx71_3 (a b c d : Value) (w : World) : (Instr.index 220 (.agg #[a, b, c, d]) (.int .i64 3)).run Tryz.prog w = .ok d w := by kernel_rfl
attribute [go_sem] idx71_0 idx71_1 idx71_2 idx71_3

set_option maxHeartbeats 2000000 in
theorem scaled_any (x : Nat) (e : Int) (w : World) (hn : ¬ Fm.isN x) (hx : x < 18446744073709551616) (e1 : -1074 ≤ e) (e2 : e ≤ 1023) :
    Calls Tryz.prog 171 #[.float .f64 x, .int .i64 e] w fun r w' => ∃ y, r = .returned (.float .f64 y) ∧ y < 18446744073709551616 ∧ w' = w := by
  go_enter Tryz.func171, Tryz.ntmps171
  go_wp2
  go_loopg [0, 1] e.toNat (fun g c i wr => ∃ (b : Nat) (j : Int), j ≤ 1023 ∧ -1074 ≤ j ∧ j.toNat = g ∧ c = .float .f64 b ∧ i = .int .i64 j ∧ Hid (¬ Fm.isN b ∧ b < 18446744073709551616) ∧ wr = w)
  case atStart => exact ⟨x, e, e2, e1, rfl, rfl, rfl, ⟨hn, hx⟩, rfl⟩
  case round =>
    clear hn hx e1 e2
    obtain ⟨b, j, j1, j2, hj, rfl, rfl, HB, rfl⟩ := hrel
    by_cases h0 : 0 < j
    · obtain ⟨c', q1, q2, q3⟩ := dbl_good HB.out.1
      have hq := fun (t : TypeId) (w : World) => run_float_arith (P := Tryz.prog) w .mul t .f64 b _ c' q1
      have HB2 : Hid (¬ Fm.isN c' ∧ c' < 18446744073709551616) := ⟨q2, q3⟩
      clear q1 q2 q3 HB
      go_wp2
      go_roundg (gk - 1)
      case measure => omega
      case rel => exact ⟨c', j - 1, by omega, by omega, by omega, rfl, by go_num, HB2, rfl⟩
    · go_wp2
      go_loopg [0, 1] (-j).toNat (fun g c i wx => ∃ (b : Nat) (j : Int), j ≤ 0 ∧ -1074 ≤ j ∧ (-j).toNat = g ∧ c = .float .f64 b ∧ i = .int .i64 j ∧ Hid (¬ Fm.isN b ∧ b < 18446744073709551616) ∧ wx = wr)
      case atStart => exact ⟨b, j, by omega, j2, rfl, rfl, rfl, HB, rfl⟩
      case round =>
        clear HB h0 j1 j2 hj
        obtain ⟨b, j, j1, j2, hj, rfl, rfl, HB, rfl⟩ := hrel
        by_cases h0 : j < 0
        · obtain ⟨c', q1, q2, q3⟩ := half_good HB.out.1
          have hq := fun (t : TypeId) (w : World) => run_float_arith (P := Tryz.prog) w .quo t .f64 b _ c' q1
          have HB2 : Hid (¬ Fm.isN c' ∧ c' < 18446744073709551616) := ⟨q2, q3⟩
          clear q1 q2 q3 HB
          go_wp2
          go_roundg (gk - 1)
          case measure => omega
          case rel => exact ⟨c', j + 1, by omega, by omega, by omega, rfl, by go_num, HB2, rfl⟩
        · go_wp2
          go_ret
          exact ⟨b, rfl, HB.out.2, rfl⟩

set_option maxHeartbeats 2000000 in
theorem scaled_ex (s : Bool) (n : Nat) (x : Nat) (e : Int) (w : World) (hx : Ex s n 1074 x) (hn : n < 9007199254740992) (e1 : -1074 ≤ e) (e2 : e ≤ 1023) (hK : n * 2 ^ (e + 1074).toNat < Fm.Kinf) :
    Calls Tryz.prog 171 #[.float .f64 x, .int .i64 e] w fun r w' => ∃ y, r = .returned (.float .f64 y) ∧ Ex s n (e + 1074).toNat y ∧ w' = w := by
  obtain ⟨E, HE⟩ : ∃ E : Nat, Hid (E = (e + 1074).toNat) := ⟨_, rfl⟩
  have hE : (E : Int) = e + 1074 := by rw [HE.out]; omega
  have HK : Hid (n * 2 ^ E < Fm.Kinf ∧ n < 9007199254740992) := by rw [HE.out]; exact ⟨hK, hn⟩
  rw [← HE.out]
  have HX : Hid (Ex s n 1074 x) := hx
  clear hx hK hn HE
  go_enter Tryz.func171, Tryz.ntmps171
  go_wp2
  go_loopg [0, 1] e.toNat (fun g c i wr => ∃ (b k : Nat) (j : Int), j ≤ 1023 ∧ -1074 ≤ j ∧ j.toNat = g ∧ c = .float .f64 b ∧ i = .int .i64 j ∧ (k : Int) + j = E ∧ Hid (Ex s n k b) ∧ wr = w)
  case atStart => exact ⟨x, 1074, e, e2, e1, rfl, rfl, rfl, by omega, HX, rfl⟩
  case round =>
    clear HX e1 e2 hE
    obtain ⟨b, k, j, j1, j2, hj, rfl, rfl, hk, HB, rfl⟩ := hrel
    by_cases h0 : 0 < j
    · obtain ⟨c', q1, q2⟩ := ex_dbl HB.out (pow_mono_lt HK.out.1 (by omega))
      have hq := fun (t : TypeId) (w : World) => run_float_arith (P := Tryz.prog) w .mul t .f64 b _ c' q1
      have HB2 : Hid (Ex s n (k + 1) c') := q2
      clear q1 q2 HB
      go_wp2
      go_roundg (gk - 1)
      case measure => omega
      case rel => exact ⟨c', k + 1, j - 1, by omega, by omega, by omega, rfl, by go_num, by omega, HB2, rfl⟩
    · go_wp2
      go_loopg [0, 1] (-j).toNat (fun g c i wx => ∃ (b k : Nat) (j : Int), j ≤ 0 ∧ -1074 ≤ j ∧ (-j).toNat = g ∧ c = .float .f64 b ∧ i = .int .i64 j ∧ (k : Int) + j = E ∧ Hid (Ex s n k b) ∧ wx = wr)
      case atStart => exact ⟨b, k, j, by omega, j2, rfl, rfl, rfl, hk, HB, rfl⟩
      case round =>
        clear HB h0 j1 j2 hj hk
        obtain ⟨b, k, j, j1, j2, hj, rfl, rfl, hk, HB, rfl⟩ := hrel
        by_cases h0 : j < 0
        · obtain ⟨k', rfl⟩ : ∃ k', k = k' + 1 := ⟨k - 1, by omega⟩
          obtain ⟨c', q1, q2⟩ := ex_half HB.out HK.out.2
          have hq := fun (t : TypeId) (w : World) => run_float_arith (P := Tryz.prog) w .quo t .f64 b _ c' q1
          have HB2 : Hid (Ex s n k' c') := q2
          clear q1 q2 HB
          go_wp2
          go_roundg (gk - 1)
          case measure => omega
          case rel => exact ⟨c', k', j + 1, by omega, by omega, by omega, rfl, by go_num, by omega, HB2, rfl⟩
        · have HF : Hid (Ex s n E b) := by
            have : E = k := by omega
            rw [this]; exact HB.out
          clear HB
          go_wp2
          go_ret
          exact ⟨b, rfl, HF.out, rfl⟩
end Go.Proofs.YtjnddfpieogpiaaGreatDoor.Rr
