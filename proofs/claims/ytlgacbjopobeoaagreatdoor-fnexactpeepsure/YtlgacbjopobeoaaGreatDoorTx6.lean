/- A real number taken apart: the program's realParts. -/
import Derived.Test.YtlgacbjopobeoaaGreatDoorFmAM
import Derived.Test.YtlgacbjopobeoaaGreatDoorAM
import Derived.Deep.Light
import Derived.Deep.LoopGhost
namespace Go.Proofs.YtlgacbjopobeoaaGreatDoor
open Go.RowKit
set_option linter.unusedVariables false

theorem unary_fneg2 (b : Nat) : Op.unary .neg (.float .f64 b) = pure (.float .f64 (Op.negFloat .f64 b)) := rfl
attribute [go_sem] unary_fneg2

theorem sv_53 : Fm.sv 4845873199050653696 = 9007199254740992 * (Fm.U : Int) := by decide +kernel
theorem sv_52 : Fm.sv 4841369599423283200 = 4503599627370496 * (Fm.U : Int) := by decide +kernel
theorem n_53 : ¬ Fm.isN 4845873199050653696 := by decide
theorem n_52 : ¬ Fm.isN 4841369599423283200 := by decide

theorem mid_sv {V b : Nat} {e : Int} (h : Fm.Mid V b e) : ¬ Fm.isN b ∧ Fm.sv b = (Fm.R (Fm.rg b) : Int) := by
  obtain ⟨h1, h2, -⟩ := h
  refine ⟨by unfold Fm.isN; omega, ?_⟩
  unfold Fm.sv
  rw [h2]
  rfl

theorem ge_53 {V b : Nat} {e : Int} (h : Fm.Mid V b e) : (Fm.F.order b 4845873199050653696 == some .gt || Fm.F.order b 4845873199050653696 == some .eq) = decide (9007199254740992 * Fm.U ≤ Fm.R (Fm.rg b)) := by
  obtain ⟨h1, h2⟩ := mid_sv h
  rw [Fm.ge_b h1 n_53, sv_53, h2]
  congr 1
  exact propext ⟨fun h => by omega, fun h => by omega⟩
theorem lt_52 {V b : Nat} {e : Int} (h : Fm.Mid V b e) : (Fm.F.order b 4841369599423283200 == some .lt) = decide (Fm.R (Fm.rg b) < 4503599627370496 * Fm.U) := by
  obtain ⟨h1, h2⟩ := mid_sv h
  rw [Fm.lt_b h1 n_52, sv_52, h2]
  congr 1
  exact propext ⟨fun h => by omega, fun h => by omega⟩

/-- 'int64(x)' of a number in the midst. -/
theorem mid_int {V b : Nat} {e : Int} (h : Fm.Mid V b e) (hb : Fm.R (Fm.rg b) < 9007199254740992 * Fm.U) (t : TypeId) (ht : (Tryz.prog.underlying t).isSome = true) (d : TypeId) (hd : Tryz.prog.underlying d = some (.int .i64)) (w : World) :
    (convert t d (.float .f64 b)).run Tryz.prog w = .ok (.int .i64 ((Fm.R (Fm.rg b) / Fm.U : Nat) : Int)) w := by
  have hlt : Fm.R (Fm.rg b) / Fm.U < 9007199254740992 := (Nat.div_lt_iff_lt_mul Fm.U_pos).2 hb
  have := Fm.toInt64 h.1 (Nat.lt_trans hlt (by decide))
  rw [h.2.1] at this
  simp only [Bool.false_eq_true, if_false, Int.one_mul] at this
  exact run_convert_float_int w t d .f64 .i64 b _ ht hd this

/-- 'x != float64(int64(x))' of a number in the midst. -/
theorem mid_ne {V b : Nat} {e : Int} (h : Fm.Mid V b e) (hb : Fm.R (Fm.rg b) < 9007199254740992 * Fm.U) : (Fm.F.order b (floatOfInt .f64 ((Fm.R (Fm.rg b) / Fm.U : Nat) : Int)) != some .eq) = decide (Fm.R (Fm.rg b) % Fm.U ≠ 0) := by
  have hlt : Fm.R (Fm.rg b) / Fm.U < 9007199254740992 := (Nat.div_lt_iff_lt_mul Fm.U_pos).2 hb
  obtain ⟨h1, h2⟩ := mid_sv h
  obtain ⟨w1, w2⟩ := Fm.whole_sv ((Fm.R (Fm.rg b) / Fm.U : Nat) : Int) (by rw [Int.natAbs_natCast]; exact hlt)
  rw [Fm.ne_b h1 (Fm.whole_notN _), w2, h2]
  congr 1
  have hd := Nat.div_add_mod (Fm.R (Fm.rg b)) Fm.U
  rw [← Int.natCast_mul, Nat.mul_comm]
  exact propext ⟨fun h => by omega, fun h => by omega⟩

theorem parts_most {V n : Nat} {y : Int} (hV : V < Fm.Kinf) (hn : 1 ≤ n) (h : V * 4503599627370496 = n * 2 ^ (y + 1126).toNat) : y ≤ 1023 := by
  have e52 : (2:Nat) ^ 52 = 4503599627370496 := by decide
  have h1 : 2 ^ (y + 1126).toNat < 2 ^ (53 + 2045 + 52) := by
    rw [Nat.pow_add 2 (53 + 2045) 52, Nat.pow_add 2 53 2045, ← Fm.Kinf_eq, e52]
    have h2 : 2 ^ (y + 1126).toNat ≤ n * 2 ^ (y + 1126).toNat := Nat.le_mul_of_pos_left _ hn
    have h3 : V * 4503599627370496 < Fm.Kinf * 4503599627370496 := Nat.mul_lt_mul_of_pos_right hV (by decide)
    rw [h] at h3
    exact Nat.lt_of_le_of_lt h2 h3
  have := Fm.pow_lt_inv h1
  omega

end Go.Proofs.YtlgacbjopobeoaaGreatDoor
