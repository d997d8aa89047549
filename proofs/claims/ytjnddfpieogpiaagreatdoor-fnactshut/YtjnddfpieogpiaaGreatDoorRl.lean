/- Draws of real numbers. -/
import Derived.Test.YtjnddfpieogpiaaGreatDoorS
import Derived.Test.YtjnddfpieogpiaaGreatDoorFmAM
import Derived.Test.YtjnddfpieogpiaaGreatDoorAM
namespace Go.Proofs.YtjnddfpieogpiaaGreatDoor.Rr
open Go.RowKit
set_option linter.unusedVariables false

theorem unary_fneg (b : Nat) : Op.unary .neg (.float .f64 b) = pure (.float .f64 (Op.negFloat .f64 b)) := rfl
attribute [go_sem] unary_fneg

set_option maxHeartbeats 1000000 in
theorem spec_inf (w : World) :
    Calls Tryz.prog 121 #[] w fun e w' => e = .returned (.float .f64 9218868437227405312) ∧ w' = w := by
  have hq : ∀ (t : TypeId) (w : World), (binOp .quo t (.float .f64 4607182418800017408) (.float .f64 0)).run Tryz.prog w = .ok (.float .f64 9218868437227405312) w := fun t w => run_float_arith w .quo t .f64 _ _ _ (by decide +kernel)
  go_enter Tryz.func121, Tryz.ntmps121
  go_wp2
  go_ret
  exact ⟨rfl, rfl⟩

set_option maxHeartbeats 1000000 in
theorem word_r (B R p : Nat) (w : World) (h : Reader B w R p) (hp : p < 900000) :
    Calls Tryz.prog 66 #[.pointer (some ⟨R, 0, none⟩)] w fun e w' => ∃ v : Int, e = .returned (.int .u64 v) ∧ (0 ≤ v ∧ v ≤ 18446744073709551615) ∧ (∃ q, q ≤ p + 8 ∧ Reader B w' R q) ∧ w.grownBy w' (some R) := by
  have hRB := h.1
  have hBw := h.2.1
  go_enter Tryz.func66, Tryz.ntmps66
  go_wp2
  go_loopg [3, 4] 8 (fun g x i wr => ∃ (j : Nat) (v : Int), j + g = 8 ∧ i = .int .i64 j ∧ x = .int .u64 v ∧ (0 ≤ v ∧ v ≤ 18446744073709551615) ∧ Reader B wr R (p + j) ∧ w.grownBy wr (some R))
  case atStart => exact ⟨0, 0, by omega, rfl, rfl, by omega, h, gb_refl _ _⟩
  case round =>
    obtain ⟨j, v, hj, rfl, rfl, hv, hr, hg⟩ := hrel
    by_cases hlt : j < 8
    · go_wp2_with fail
      refine (pick_r B R (p + j) 256 _ hr (by omega) (by omega) (by omega)).mono ?_
      rintro e w1 ⟨r, r1, rfl, h1, g1⟩
      have G1 := gb_pick hg g1
      clear hr hg g1
      go_wp2
      go_roundg (gk - 1)
      case measure => omega
      case rel =>
        refine ⟨j + 1, _, by omega, by go_num, rfl, ?_, h1, G1⟩
        first | omega | (simp only [IntKind.wrap_u64]; omega)
    · go_wp2
      go_ret
      exact ⟨v, rfl, hv, ⟨_, by omega, hr⟩, hg⟩

theorem real16 (r : Nat) (h : (r : Int) < 16) : r = 0 ∨ r = 1 ∨ r = 2 ∨ r = 3 ∨ r = 4 ∨ r = 5 ∨ r = 6 ∨ r = 7 ∨ r = 8 ∨ r = 9 ∨ r = 10 ∨ r = 11 ∨ 12 ≤ r := by omega

theorem good_c5 (n : Int) : Fm.Good .mul 1 (floatOfInt .f64 n) := Fm.mul_some (by decide) (by decide) (Fm.whole_notN n)
theorem good_c8 (n : Int) : Fm.Good .add 4503599627370496 (Fm.opB .mul 1 (floatOfInt .f64 n)) := Fm.add_some (by decide) (good_c5 n).notN
theorem good_q (n : Int) : Fm.Good .mul (floatOfInt .f64 n) 4598175219545276416 := Fm.mul_some' (Fm.whole_notN n) (by decide) (by decide +kernel)
theorem good_c9 (n : Int) (k : Int) (h1 : 1 ≤ k) (h2 : k ≤ 200) : Fm.Good .quo (floatOfInt .f64 n) (floatOfInt .f64 k) :=
  have h := Fm.whole_fin k (by omega) (by omega)
  Fm.div_some (Fm.whole_notN n) h.1 h.2
theorem good_small {x : Nat} (h : ¬ Fm.isN x) : Fm.Good .mul x 4563638014722897556 := Fm.mul_some' h (by decide) (by decide +kernel)
theorem good_c10 (n m : Int) (h1 : -32769 ≤ n) (h2 : n ≤ 32768) : Fm.Good .add (floatOfInt .f64 n) (Fm.opB .mul (floatOfInt .f64 m) 4598175219545276416) :=
  Fm.add_some (Fm.whole_sv n (by omega)).1 (good_q m).notN

set_option maxHeartbeats 4000000 in
theorem real_r (B R p : Nat) (w : World) (h : Reader B w R p) (hp : p < 800000) :
    Calls Tryz.prog 69 #[.pointer (some ⟨R, 0, none⟩)] w fun e w' => ∃ v : Nat, e = .returned (.float .f64 v) ∧ v < 18446744073709551616 ∧ (∃ q, q ≤ p + 20 ∧ Reader B w' R q) ∧ w.grownBy w' (some R) := by
  have hRB := h.1
  have hBw := h.2.1
  go_enter Tryz.func69, Tryz.ntmps69
  go_wp2_with fail
  refine (pick_r B R p 16 _ h (by omega) (by omega) (by omega)).mono ?_
  rintro e w1 ⟨r, r1, rfl, h1, g1⟩
  rcases real16 r r1 with rfl | rfl | rfl | rfl | rfl | rfl | rfl | rfl | rfl | rfl | rfl | rfl | hr
  · go_wp2_with fail
    refine (spec_nan _).mono ?_
    rintro e w2 ⟨v, rfl, hv, hf, g2⟩
    have HV : Hid (v < 18446744073709551616) := lt_of_wf hf
    clear hv hf
    go_wp2
    go_ret
    exact ⟨v, rfl, HV.out, ⟨_, by omega, h1.later g2⟩, gb_below' g1 g2⟩
  · go_wp2_with fail
    refine (spec_inf _).mono ?_
    rintro e w2 ⟨rfl, rfl⟩
    go_wp2
    go_ret
    exact ⟨_, rfl, by omega, ⟨_, by omega, h1⟩, g1⟩
  · go_wp2_with fail
    refine (spec_inf _).mono ?_
    rintro e w2 ⟨rfl, rfl⟩
    go_wp2
    go_ret
    exact ⟨_, rfl, Fm.neg_lt (by omega), ⟨_, by omega, h1⟩, g1⟩
  · go_wp2
    go_ret
    exact ⟨_, rfl, by omega, ⟨_, by omega, h1⟩, g1⟩
  · go_wp2
    go_ret
    exact ⟨_, rfl, Fm.neg_lt (by omega), ⟨_, by omega, h1⟩, g1⟩
  · go_wp2_with fail
    refine (pick_r _ _ _ 40 _ h1 (by omega) (by omega) (by omega)).mono ?_
    rintro e w2 ⟨r2, r3, rfl, h2, g2⟩
    have hq := fun (n : Int) (t : TypeId) (w : World) => (good_c5 n).run (P := Tryz.prog) t w
    go_wp2
    go_ret
    exact ⟨_, rfl, (good_c5 _).lt, ⟨_, by omega, h2⟩, gb_pick g1 g2⟩
  · go_wp2
    go_ret
    exact ⟨_, rfl, by omega, ⟨_, by omega, h1⟩, g1⟩
  · go_wp2
    go_ret
    exact ⟨_, rfl, by omega, ⟨_, by omega, h1⟩, g1⟩
  · go_wp2_with fail
    refine (pick_r _ _ _ 9 _ h1 (by omega) (by omega) (by omega)).mono ?_
    rintro e w2 ⟨r2, r3, rfl, h2, g2⟩
    have hq := fun (n : Int) (t : TypeId) (w : World) => (good_c5 n).run (P := Tryz.prog) t w
    have hq2 := fun (n : Int) (t : TypeId) (w : World) => (good_c8 n).run (P := Tryz.prog) t w
    go_wp2
    go_ret
    exact ⟨_, rfl, (good_c8 _).lt, ⟨_, by omega, h2⟩, gb_pick g1 g2⟩
  · go_wp2_with fail
    refine (word_r _ _ _ _ h1 (by omega)).mono ?_
    rintro e w2 ⟨v, rfl, hv, ⟨q2, hq2, h2⟩, g2⟩
    clear h1
    have G2 := gb_pick g1 g2
    clear g1 g2
    go_wp2_with fail
    refine (pick_r _ _ _ 200 _ h2 (by omega) (by omega) (by omega)).mono ?_
    rintro e w3 ⟨r3, r4, rfl, h3, g3⟩
    clear h2
    have G3 := gb_pick G2 g3
    clear G2 g3
    have hq := fun (n : Int) (t : TypeId) (w : World) => (good_c9 n (1 + (r3 : Int)) (by omega) (by omega)).run (P := Tryz.prog) t w
    have HN := fun (n : Int) => (good_c9 n (1 + (r3 : Int)) (by omega) (by omega)).notN
    have HL := fun (n : Int) => (good_c9 n (1 + (r3 : Int)) (by omega) (by omega)).lt
    have HB : Hid (∀ n, ¬ Fm.isN (Fm.opB .quo (floatOfInt .f64 n) (floatOfInt .f64 (1 + (r3 : Int)))) ∧ Fm.opB .quo (floatOfInt .f64 n) (floatOfInt .f64 (1 + (r3 : Int))) < 18446744073709551616) := fun n => ⟨HN n, HL n⟩
    clear HN HL
    go_wp2_with fail
    refine (pick_r _ _ _ 100 _ h3 (by omega) (by omega) (by omega)).mono ?_
    rintro e w4 ⟨r5, r6, rfl, h4, g4⟩
    clear h3
    have G4 := gb_pick G3 g4
    clear G3 g4 hq
    go_wp2
    go_loopg [4, 5] r5 (fun g x i wr => ∃ (b : Nat), g ≤ 100 ∧ i = .int .i64 g ∧ x = .float .f64 b ∧ ¬ Fm.isN b ∧ b < 18446744073709551616 ∧ wr = w4)
    case atStart => exact ⟨_, by omega, rfl, rfl, (HB.out _).1, (HB.out _).2, rfl⟩
    case round =>
      obtain ⟨b, hgk, rfl, rfl, hb, hb2, rfl⟩ := hrel
      have hq := fun (t : TypeId) (w : World) => (good_small hb).run (P := Tryz.prog) t w
      have HQ : Hid (¬ Fm.isN (Fm.opB .mul b 4563638014722897556) ∧ Fm.opB .mul b 4563638014722897556 < 18446744073709551616) := ⟨(good_small hb).notN, (good_small hb).lt⟩
      by_cases hg : 0 < gk
      · go_wp2
        go_roundg (gk - 1)
        case measure => omega
        case rel => exact ⟨_, by omega, by go_num, rfl, HQ.out.1, HQ.out.2, rfl⟩
      · go_wp2
        go_ret
        exact ⟨b, rfl, hb2, ⟨_, by omega, h4⟩, G4⟩
  · have hs1 := g1.size
    go_wp2_with fail
    refine (num_r B R (p + 1) w1.heap.size [32767, 32768, -32768, -32769, 32766] 5 _ (h1.alloc _) (by decide) (by decide) (by omega) (by omega) (by exact cells_row w1 [32767, 32768, -32768, -32769, 32766] 3)).mono ?_
    rintro e w2 ⟨v, hv, rfl, h2, g2⟩
    have bv : -32769 ≤ v ∧ v ≤ 32768 := by simp at hv; omega
    have G2 : w.grownBy w2 (some R) := gb_pick (gb_alloc g1 _) g2
    clear hv g1 g2 h1
    go_wp2_with fail
    refine (pick_r _ _ _ 5 _ h2 (by omega) (by omega) (by omega)).mono ?_
    rintro e w3 ⟨r3, r4, rfl, h3, g3⟩
    have G3 := gb_pick G2 g3
    clear h2 G2 g3
    have hq := fun (n : Int) (t : TypeId) (w : World) => (good_q n).run (P := Tryz.prog) t w
    have hq2 := fun (m : Int) (t : TypeId) (w : World) => (good_c10 v m bv.1 bv.2).run (P := Tryz.prog) t w
    have HB : Hid (∀ m, Fm.opB .add (floatOfInt .f64 v) (Fm.opB .mul (floatOfInt .f64 m) 4598175219545276416) < 18446744073709551616) := fun m => (good_c10 v m bv.1 bv.2).lt
    clear bv
    go_wp2
    go_ret
    exact ⟨_, rfl, HB.out _, ⟨_, by omega, h3⟩, G3⟩
  · go_wp2_with fail
    refine (word_r _ _ _ _ h1 (by omega)).mono ?_
    rintro e w2 ⟨v, rfl, hv, ⟨q2, hq2, h2⟩, g2⟩
    clear h1
    go_wp2
    go_ret
    exact ⟨_, rfl, Fm.whole_lt _, ⟨_, by omega, h2⟩, gb_pick g1 g2⟩
  · have n0 : ((r : Int) == 0) = false := by simp; omega
    have n1 : ((r : Int) == 1) = false := by simp; omega
    have n2 : ((r : Int) == 2) = false := by simp; omega
    have n3 : ((r : Int) == 3) = false := by simp; omega
    have n4 : ((r : Int) == 4) = false := by simp; omega
    have n5 : ((r : Int) == 5) = false := by simp; omega
    have n6 : ((r : Int) == 6) = false := by simp; omega
    have n7 : ((r : Int) == 7) = false := by simp; omega
    have n8 : ((r : Int) == 8) = false := by simp; omega
    have n9 : ((r : Int) == 9) = false := by simp; omega
    have n10 : ((r : Int) == 10) = false := by simp; omega
    have n11 : ((r : Int) == 11) = false := by simp; omega
    go_wp2_with fail
    refine (pick_r _ _ _ 41 _ h1 (by omega) (by omega) (by omega)).mono ?_
    rintro e w2 ⟨r2, r3, rfl, h2, g2⟩
    have hq := fun (n : Int) (t : TypeId) (w : World) => (good_q n).run (P := Tryz.prog) t w
    go_wp2
    go_ret
    exact ⟨_, rfl, (good_q _).lt, ⟨_, by omega, h2⟩, gb_pick g1 g2⟩
end Go.Proofs.YtjnddfpieogpiaaGreatDoor.Rr
