/- A real number taken apart: the program's realParts. -/
import Derived.Test.YtjnddfpieogpiaaGreatDoorFmFM
import Derived.Test.YtjnddfpieogpiaaGreatDoorEM
import Derived.Test.YtjnddfpieogpiaaGreatDoorFmAM
import Derived.Deep.Light
import Derived.Deep.LoopGhost
namespace Go.Proofs.YtjnddfpieogpiaaGreatDoor.Rr
open Go.RowKit
set_option linter.unusedVariables false

theorem unary_fneg2 (b : Nat) : Op.unary .neg (.float .f64 b) = pure (.float .f64 (Op.negFloat .f64 b)) := rfl
attribute [go_sem] unary_fneg2

theorem sv_53 : Fm.sv 4845873199050653696 = 9007199254740992 * (Fm.U : Int) := by decide +kernel
theorem sv_52 : Fm.sv 4841369599423283200 = 4503599627370496 * (Fm.U : Int) := by decide +kernel
theorem n_53 : ¬ Fm.isN 4845873199050653696 := by decide
theorem n_52 : ¬ Fm.isN 4841369599423283200 := by decide

theorem mid_sv {V b : Nat} {e : Int} (h : Fm.Mid V b e) : ¬ Fm.isN b ∧ Fm.sv b = (Fm.R (Fm.rg b) : Int) := by
  obtain ⟨h1, h2, -⟩ := h
  refine ⟨by unfold Fm.isN; omega, ?_⟩
  unfold Fm.sv
  rw [h2]
  rfl

theorem ge_53 {V b : Nat} {e : Int} (h : Fm.Mid V b e) : (Fm.F.order b 4845873199050653696 == some .gt || Fm.F.order b 4845873199050653696 == some .eq) = decide (9007199254740992 * Fm.U ≤ Fm.R (Fm.rg b)) := by
  obtain ⟨h1, h2⟩ := mid_sv h
  rw [Fm.ge_b h1 n_53, sv_53, h2]
  congr 1
  exact propext ⟨fun h => by omega, fun h => by omega⟩
theorem lt_52 {V b : Nat} {e : Int} (h : Fm.Mid V b e) : (Fm.F.order b 4841369599423283200 == some .lt) = decide (Fm.R (Fm.rg b) < 4503599627370496 * Fm.U) := by
  obtain ⟨h1, h2⟩ := mid_sv h
  rw [Fm.lt_b h1 n_52, sv_52, h2]
  congr 1
  exact propext ⟨fun h => by omega, fun h => by omega⟩

/-- 'int64(x)' of a number in the midst. -/
theorem mid_int {V b : Nat} {e : Int} (h : Fm.Mid V b e) (hb : Fm.R (Fm.rg b) < 9007199254740992 * Fm.U) (t : TypeId) (ht : (Tryz.prog.underlying t).isSome = true) (d : TypeId) (hd : Tryz.prog.underlying d = some (.int .i64)) (w : World) :
    (convert t d (.float .f64 b)).run Tryz.prog w = .ok (.int .i64 ((Fm.R (Fm.rg b) / Fm.U : Nat) : Int)) w := by
  have hlt : Fm.R (Fm.rg b) / Fm.U < 9007199254740992 := (Nat.div_lt_iff_lt_mul Fm.U_pos).2 hb
  have := Fm.toInt64 h.1 (Nat.lt_trans hlt (by decide))
  rw [h.2.1] at this
  simp only [Bool.false_eq_true, if_false, Int.one_mul] at this
  exact run_convert_float_int w t d .f64 .i64 b _ ht hd this

/-- 'x != float64(int64(x))' of a number in the midst. -/
theorem mid_ne {V b : Nat} {e : Int} (h : Fm.Mid V b e) (hb : Fm.R (Fm.rg b) < 9007199254740992 * Fm.U) : (Fm.F.order b (floatOfInt .f64 ((Fm.R (Fm.rg b) / Fm.U : Nat) : Int)) != some .eq) = decide (Fm.R (Fm.rg b) % Fm.U ≠ 0) := by
  have hlt : Fm.R (Fm.rg b) / Fm.U < 9007199254740992 := (Nat.div_lt_iff_lt_mul Fm.U_pos).2 hb
  obtain ⟨h1, h2⟩ := mid_sv h
  obtain ⟨w1, w2⟩ := Fm.whole_sv ((Fm.R (Fm.rg b) / Fm.U : Nat) : Int) (by rw [Int.natAbs_natCast]; exact hlt)
  rw [Fm.ne_b h1 (Fm.whole_notN _), w2, h2]
  congr 1
  have hd := Nat.div_add_mod (Fm.R (Fm.rg b)) Fm.U
  rw [← Int.natCast_mul, Nat.mul_comm]
  exact propext ⟨fun h => by omega, fun h => by omega⟩

theorem parts_most {V n : Nat} {y : Int} (hV : V < Fm.Kinf) (hn : 1 ≤ n) (h : V * 4503599627370496 = n * 2 ^ (y + 1126).toNat) : y ≤ 1023 := by
  have e52 : (2:Nat) ^ 52 = 4503599627370496 := by decide
  have h1 : 2 ^ (y + 1126).toNat < 2 ^ (53 + 2045 + 52) := by
    rw [Nat.pow_add 2 (53 + 2045) 52, Nat.pow_add 2 53 2045, ← Fm.Kinf_eq, e52]
    have h2 : 2 ^ (y + 1126).toNat ≤ n * 2 ^ (y + 1126).toNat := Nat.le_mul_of_pos_left _ hn
    have h3 : V * 4503599627370496 < Fm.Kinf * 4503599627370496 := Nat.mul_lt_mul_of_pos_right hV (by decide)
    rw [h] at h3
    exact Nat.lt_of_le_of_lt h2 h3
  have := Fm.pow_lt_inv h1
  omega

set_option maxHeartbeats 2000000 in
theorem impl_parts (b : Nat) (w : World) (h1 : Fm.rg b < Fm.infR) (h2 : Fm.sg b = false) (h3 : 0 < Fm.R (Fm.rg b)) :
    Calls Tryz.prog 123 #[.float .f64 b] w fun e w' => ∃ (n : Nat) (x : Int), e = .returned (.tuple #[.int .i64 n, .int .i64 x]) ∧ Fm.Parts (Fm.R (Fm.rg b)) n x ∧ w' = w := by
  obtain ⟨V, HV⟩ : ∃ V, Hid (V = Fm.R (Fm.rg b)) := ⟨_, rfl⟩
  have hm : Fm.Mid V b 0 := by rw [HV.out]; exact Fm.mid_start h1 h2 h3
  have HK : Hid (V < Fm.Kinf ∧ 0 < V) := by
    rw [HV.out]
    exact ⟨Fm.R_fin_lt h1, h3⟩
  rw [← HV.out]
  have HM : Hid (Fm.Mid V b 0) := hm
  clear hm h1 h2 h3 HV
  go_enter Tryz.func123, Tryz.ntmps123
  go_wp2
  go_loopg [0, 3] 971 (fun g x e wr => ∃ (c : Nat) (j : Nat), j + g = 971 ∧ x = .float .f64 c ∧ e = .int .i64 j ∧ Hid (Fm.Mid V c j) ∧ wr = w)
  case atStart => exact ⟨b, 0, by omega, rfl, rfl, HM, rfl⟩
  case round =>
    clear HM
    obtain ⟨c, j, hj, rfl, rfl, HM, rfl⟩ := hrel
    have hge := ge_53 HM.out
    by_cases hb : 9007199254740992 * Fm.U ≤ Fm.R (Fm.rg c)
    · rw [decide_eq_true hb] at hge
      have hmost := Fm.mid_most HM.out HK.out.1 hb
      obtain ⟨c', q1, q2, q3⟩ := Fm.mid_half HM.out hb
      have hq := fun (t : TypeId) (w : World) => run_float_arith (P := Tryz.prog) w .quo t .f64 c _ c' q1
      have HM2 : Hid (Fm.Mid V c' ((j : Int) + 1)) := q2
      clear hb q1 q2 q3
      go_wp2
      go_roundg (gk - 1)
      case measure => omega
      case rel => exact ⟨c', j + 1, by omega, rfl, by go_num, HM2, rfl⟩
    · rw [decide_eq_false hb] at hge
      have hsm : Fm.R (Fm.rg c) < 9007199254740992 * Fm.U := by omega
      have HS : Hid (Fm.R (Fm.rg c) < 9007199254740992 * Fm.U) := hsm
      clear hb hsm
      go_wp2
      go_loopg [0, 3] (j + 1126) (fun g x e wx => ∃ (c : Nat) (y : Int), y + 1126 = g ∧ y ≤ 971 ∧ x = .float .f64 c ∧ e = .int .i64 y ∧ Hid (Fm.Mid V c y ∧ Fm.R (Fm.rg c) < 9007199254740992 * Fm.U) ∧ wx = wr)
      case atStart => exact ⟨c, j, by omega, by omega, rfl, rfl, ⟨HM.out, HS.out⟩, rfl⟩
      case round =>
        clear HM HS hge hj
        obtain ⟨c, y, hy, hy2, rfl, rfl, HM, rfl⟩ := hrel
        have hcv := mid_int HM.out.1 HM.out.2
        have hne := mid_ne HM.out.1 HM.out.2
        by_cases hf : Fm.R (Fm.rg c) % Fm.U ≠ 0
        · rw [decide_eq_true hf] at hne
          have h52 := Fm.frac_small HM.out.1.1 hf
          have hlo := Fm.mid_least HM.out.1 HK.out.2 h52
          obtain ⟨c', q1, q2, q3⟩ := Fm.mid_dbl HM.out.1 hlo h52
          have hq := fun (t : TypeId) (w : World) => run_float_arith (P := Tryz.prog) w .mul t .f64 c _ c' q1
          have HM2 : Hid (Fm.Mid V c' (y - 1) ∧ Fm.R (Fm.rg c') < 9007199254740992 * Fm.U) := ⟨q2, by rw [q3]; omega⟩
          obtain ⟨Z, HZ⟩ : ∃ Z : Int, Hid (Z = ((Fm.R (Fm.rg c) / Fm.U : Nat) : Int)) := ⟨_, rfl⟩
          rw [← HZ.out] at hcv hne
          clear hf h52 q1 q2 q3 HM HZ
          go_wp2
          go_roundg (gk - 1)
          case measure => omega
          case rel => exact ⟨c', y - 1, by omega, by omega, rfl, by go_num, HM2, rfl⟩
        · rw [decide_eq_false hf] at hne
          have hf : Fm.R (Fm.rg c) % Fm.U = 0 := by simpa using hf
          obtain ⟨n1, n2⟩ := Fm.mid_whole HM.out.1 hf
          have n3 : Fm.R (Fm.rg c) / Fm.U < 9007199254740992 := (Nat.div_lt_iff_lt_mul Fm.U_pos).2 HM.out.2
          obtain ⟨Z, HZ⟩ : ∃ Z : Nat, Hid (Z = Fm.R (Fm.rg c) / Fm.U) := ⟨_, rfl⟩
          rw [← HZ.out] at hcv hne n1 n2 n3
          have HN : Hid (V * 4503599627370496 = Z * 2 ^ (y + 1126).toNat) := n2
          clear hf n2 HM HZ
          go_wp2
          go_loopg [2, 3] Z (fun g x e wx => ∃ (n : Nat) (y : Int), n = g ∧ 1 ≤ n ∧ n < 9007199254740992 ∧ -1126 ≤ y ∧ x = .int .i64 n ∧ e = .int .i64 y ∧ Hid (V * 4503599627370496 = n * 2 ^ (y + 1126).toNat) ∧ wx = wr)
          case atStart => exact ⟨Z, y, rfl, n1, n3, by omega, rfl, rfl, HN, rfl⟩
          case round =>
            clear HN n1 n3 hy hy2 hcv hne
            obtain ⟨n, y, rfl, n1, n3, y0, rfl, rfl, HN, rfl⟩ := hrel
            have y1 := parts_most HK.out.1 n1 HN.out
            by_cases he : n % 2 = 0
            · have he2 : ((n : Int) % 2 == 0) = true := by simp; omega
              have HN2 : Hid (V * 4503599627370496 = n / 2 * 2 ^ (y + 1 + 1126).toNat) := by
                show V * 4503599627370496 = n / 2 * 2 ^ (y + 1 + 1126).toNat
                rw [HN.out, Fm.toNat_succ y 1126 (by omega), Nat.pow_succ, Nat.mul_comm _ 2, ← Nat.mul_assoc]
                have : n / 2 * 2 = n := by omega
                rw [this]
              clear HN
              go_wp2
              go_roundg (n / 2)
              case measure => omega
              case rel => exact ⟨n / 2, y + 1, rfl, by omega, by omega, by omega, by go_num, by go_num, HN2, rfl⟩
            · have he2 : ((n : Int) % 2 == 0) = false := by simp; omega
              have HP : Hid (Fm.Parts V n y) := ⟨by omega, y0, HN.out⟩
              clear HN
              go_wp2
              go_ret2
              exact ⟨n, y, rfl, HP.out, rfl⟩
end Go.Proofs.YtjnddfpieogpiaaGreatDoor.Rr
