/- The draw of a contact. -/
import Derived.Test.YtjbdcbamkdnjhaaGreatDoorEu
import Derived.Deep.RegionHeld3
import Derived.Deep.RegionLaw
import Derived.Deep.Upon
import Derived.Test.YtjbdcbamkdnjhaaGreatDoorEw
import Derived.Test.YtjbdcbamkdnjhaaGreatDoorEs
namespace Go.Proofs.YtjbdcbamkdnjhaaGreatDoor
open Go.RowKit
set_option linter.unusedVariables false

set_option maxRecDepth 10000 in
set_option maxHeartbeats 4000000 in
theorem contact_r (B R p : Nat) (w : World) (h : Reader B w R p) (hp : p < 700000) :
    Calls Tryz.prog 60 #[.pointer (some ⟨R, 0, none⟩)] w fun e w' => ElemR w.heap.size e w' ∧ (∃ q, q ≤ p + 30 ∧ Reader B w' R q) ∧ w.grownBy w' (some R) := by
  have hRB := h.1
  have hBw := h.2.1
  have S0 := E2.fresh w (.int .i64 0) (.slice none 0 0) 25
  go_enter Tryz.func60, Tryz.ntmps60
  go_wp2_with fail
  refine (pick_r B R p 8 _ (h.alloc _) (by omega) (by omega) (by omega)).mono ?_
  rintro e w1 ⟨r, r1, rfl, h1, g1⟩
  have G1 : w.grownBy w1 (some R) := gb_pick (gb_alloc (gb_refl _ _) _) g1
  have S1 := S0.grown g1 (by simp; omega)
  have lt1 := S1.lt
  clear g1 h S0
  have hr : r = 0 ∨ r = 1 ∨ r = 2 ∨ r = 3 ∨ r = 4 ∨ r = 5 ∨ 6 ≤ r := by omega
  rcases hr with rfl | rfl | rfl | rfl | rfl | rfl | hr6
  · go_wp2_with fail
    refine (bit_r B R (p + 1) _ h1 (by omega)).mono ?_
    rintro e w2 ⟨⟨k, n, m, bn0, bn1, rfl⟩, ⟨q, hq, h2⟩, g2⟩
    have G2 : w.grownBy w2 (some R) := gb_pick G1 g2
    have S := S1.grown g2 (by simp; omega)
    have lt2 := S.lt
    have bn_k : -2000000000 ≤ n ∧ n ≤ 2000000000 := ⟨bn0, bn1⟩
    clear g2 G1 S1 h1
    obtain ⟨u1, u2, u3⟩ := elem_end (.int .i64 1) (.slice (some ⟨w2.heap.size, 0, none⟩) 1 1) (.cells #[.int .i64 k, .int .i64 n, .int .i64 m] 59) S h2 G2 hBw (Nat.le_refl _)
    obtain ⟨c0, c1, f0, f1⟩ := S
    obtain ⟨q0, q1, _, _⟩ := u1
    have ow := ops1 ((w2.setCell ⟨w.heap.size, 0, none⟩ (.int .i64 1)).setCell ⟨w.heap.size, 1, none⟩ (.slice (some ⟨w2.heap.size, 0, none⟩) 1 1)) k n m 59
    simp only [World.size_setCell] at ow
    go_wp2
    exact bodyPost_ret (v := .agg #[.int .i64 1, .slice (some ⟨w2.heap.size, 0, none⟩) 1 1]) (by simp [results, Tryz.results60, go_sem, q0, q1]) rfl ⟨⟨1, _, 1, 1, _, rfl, by omega, by omega, rfl, by omega, by omega, (by intro x hx; simp at hx; subst hx; exact bn_k), .inr ⟨_, _, rfl, by omega, ow⟩⟩, ⟨_, by omega, u2⟩, u3⟩
  · go_wp2_with fail
    refine (bit_r B R (p + 1) _ h1 (by omega)).mono ?_
    rintro e w2 ⟨⟨k, n, m, bn0, bn1, rfl⟩, ⟨q, hq, h2⟩, g2⟩
    have G2 : w.grownBy w2 (some R) := gb_pick G1 g2
    have S := S1.grown g2 (by simp; omega)
    have lt2 := S.lt
    have bn_k : -2000000000 ≤ n ∧ n ≤ 2000000000 := ⟨bn0, bn1⟩
    clear g2 G1 S1 h1
    obtain ⟨u1, u2, u3⟩ := elem_end (.int .i64 1) (.slice (some ⟨w2.heap.size, 0, none⟩) 1 1) (.cells #[.int .i64 k, .int .i64 n, .int .i64 m] 59) S h2 G2 hBw (Nat.le_refl _)
    obtain ⟨c0, c1, f0, f1⟩ := S
    obtain ⟨q0, q1, _, _⟩ := u1
    have ow := ops1 ((w2.setCell ⟨w.heap.size, 0, none⟩ (.int .i64 1)).setCell ⟨w.heap.size, 1, none⟩ (.slice (some ⟨w2.heap.size, 0, none⟩) 1 1)) k n m 59
    simp only [World.size_setCell] at ow
    go_wp2
    exact bodyPost_ret (v := .agg #[.int .i64 1, .slice (some ⟨w2.heap.size, 0, none⟩) 1 1]) (by simp [results, Tryz.results60, go_sem, q0, q1]) rfl ⟨⟨1, _, 1, 1, _, rfl, by omega, by omega, rfl, by omega, by omega, (by intro x hx; simp at hx; subst hx; exact bn_k), .inr ⟨_, _, rfl, by omega, ow⟩⟩, ⟨_, by omega, u2⟩, u3⟩
  · go_wp2_with fail
    refine (bit_r B R (p + 1) _ h1 (by omega)).mono ?_
    rintro e w2 ⟨⟨k, n, m, bn0, bn1, rfl⟩, ⟨q, hq, h2⟩, g2⟩
    have G2 : w.grownBy w2 (some R) := gb_pick G1 g2
    have S := S1.grown g2 (by simp; omega)
    have lt2 := S.lt
    have bn_k : -2000000000 ≤ n ∧ n ≤ 2000000000 := ⟨bn0, bn1⟩
    clear g2 G1 S1 h1
    obtain ⟨u1, u2, u3⟩ := elem_end (.int .i64 1) (.slice (some ⟨w2.heap.size, 0, none⟩) 1 1) (.cells #[.int .i64 k, .int .i64 n, .int .i64 m] 59) S h2 G2 hBw (Nat.le_refl _)
    obtain ⟨c0, c1, f0, f1⟩ := S
    obtain ⟨q0, q1, _, _⟩ := u1
    have ow := ops1 ((w2.setCell ⟨w.heap.size, 0, none⟩ (.int .i64 1)).setCell ⟨w.heap.size, 1, none⟩ (.slice (some ⟨w2.heap.size, 0, none⟩) 1 1)) k n m 59
    simp only [World.size_setCell] at ow
    go_wp2
    exact bodyPost_ret (v := .agg #[.int .i64 1, .slice (some ⟨w2.heap.size, 0, none⟩) 1 1]) (by simp [results, Tryz.results60, go_sem, q0, q1]) rfl ⟨⟨1, _, 1, 1, _, rfl, by omega, by omega, rfl, by omega, by omega, (by intro x hx; simp at hx; subst hx; exact bn_k), .inr ⟨_, _, rfl, by omega, ow⟩⟩, ⟨_, by omega, u2⟩, u3⟩
  · go_wp2_with fail
    refine (bit_r B R (p + 1) _ h1 (by omega)).mono ?_
    rintro e w2 ⟨⟨k, n, m, bn0, bn1, rfl⟩, ⟨q, hq, h2⟩, g2⟩
    have G2 : w.grownBy w2 (some R) := gb_pick G1 g2
    have S := S1.grown g2 (by simp; omega)
    have lt2 := S.lt
    have bn_k : -2000000000 ≤ n ∧ n ≤ 2000000000 := ⟨bn0, bn1⟩
    clear g2 G1 S1 h1
    obtain ⟨u1, u2, u3⟩ := elem_end (.int .i64 2) (.slice (some ⟨w2.heap.size, 0, none⟩) 1 1) (.cells #[.int .i64 k, .int .i64 n, .int .i64 m] 59) S h2 G2 hBw (Nat.le_refl _)
    obtain ⟨c0, c1, f0, f1⟩ := S
    obtain ⟨q0, q1, _, _⟩ := u1
    have ow := ops1 ((w2.setCell ⟨w.heap.size, 0, none⟩ (.int .i64 2)).setCell ⟨w.heap.size, 1, none⟩ (.slice (some ⟨w2.heap.size, 0, none⟩) 1 1)) k n m 59
    simp only [World.size_setCell] at ow
    go_wp2
    exact bodyPost_ret (v := .agg #[.int .i64 2, .slice (some ⟨w2.heap.size, 0, none⟩) 1 1]) (by simp [results, Tryz.results60, go_sem, q0, q1]) rfl ⟨⟨2, _, 1, 1, _, rfl, by omega, by omega, rfl, by omega, by omega, (by intro x hx; simp at hx; subst hx; exact bn_k), .inr ⟨_, _, rfl, by omega, ow⟩⟩, ⟨_, by omega, u2⟩, u3⟩
  · go_wp2_with fail
    refine (bit_r B R (p + 1) _ h1 (by omega)).mono ?_
    rintro e w2 ⟨⟨k, n, m, bn0, bn1, rfl⟩, ⟨q, hq, h2⟩, g2⟩
    have G2 : w.grownBy w2 (some R) := gb_pick G1 g2
    have S := S1.grown g2 (by simp; omega)
    have lt2 := S.lt
    have bn_k : -2000000000 ≤ n ∧ n ≤ 2000000000 := ⟨bn0, bn1⟩
    clear g2 G1 S1 h1
    obtain ⟨u1, u2, u3⟩ := elem_end (.int .i64 2) (.slice (some ⟨w2.heap.size, 0, none⟩) 1 1) (.cells #[.int .i64 k, .int .i64 n, .int .i64 m] 59) S h2 G2 hBw (Nat.le_refl _)
    obtain ⟨c0, c1, f0, f1⟩ := S
    obtain ⟨q0, q1, _, _⟩ := u1
    have ow := ops1 ((w2.setCell ⟨w.heap.size, 0, none⟩ (.int .i64 2)).setCell ⟨w.heap.size, 1, none⟩ (.slice (some ⟨w2.heap.size, 0, none⟩) 1 1)) k n m 59
    simp only [World.size_setCell] at ow
    go_wp2
    exact bodyPost_ret (v := .agg #[.int .i64 2, .slice (some ⟨w2.heap.size, 0, none⟩) 1 1]) (by simp [results, Tryz.results60, go_sem, q0, q1]) rfl ⟨⟨2, _, 1, 1, _, rfl, by omega, by omega, rfl, by omega, by omega, (by intro x hx; simp at hx; subst hx; exact bn_k), .inr ⟨_, _, rfl, by omega, ow⟩⟩, ⟨_, by omega, u2⟩, u3⟩
  · go_wp2_with fail
    refine (pick_r B R (p + 1) 2 _ h1 (by omega) (by omega) (by omega)).mono ?_
    rintro e w2 ⟨r2, r21, rfl, h2, g2⟩
    have G2 : w.grownBy w2 (some R) := gb_pick G1 g2
    have S2 := S1.grown g2 (by simp; omega)
    clear g2 G1 S1 h1
    go_wp2_with fail
    refine (bit_r B R (p + 1 + 1) _ h2 (by omega)).mono ?_
    rintro e w3 ⟨⟨k, n, m, bn0, bn1, rfl⟩, ⟨q, hq, h3⟩, g3⟩
    have G3 : w.grownBy w3 (some R) := gb_pick G2 g3
    have S3 := S2.grown g3 (by simp; omega)
    clear g3 G2 S2 h2
    go_wp2_with fail
    refine (arg_r B R q 5 _ h3 (by omega) (by omega) (by omega)).mono ?_
    rintro e w4 ⟨⟨k1, n1, m1, bn2, bn3, rfl⟩, ⟨q', hq', h4⟩, g4⟩
    have G4 : w.grownBy w4 (some R) := gb_pick G3 g4
    have S := S3.grown g4 (by simp; omega)
    have lt2 := S.lt
    have bn_k : -2000000000 ≤ n ∧ n ≤ 2000000000 := ⟨bn0, bn1⟩
    have bn_k1 : -2000000000 ≤ n1 ∧ n1 ≤ 2000000000 := ⟨bn2, bn3⟩
    clear g4 G3 S3 h3
    obtain ⟨O, hO⟩ : ∃ O : Int, (3 + (r2 : Int)) = O := ⟨_, rfl⟩
    have hO1 : 3 ≤ O ∧ O ≤ 4 := by omega
    rw [hO]
    obtain ⟨u1, u2, u3⟩ := elem_end (.int .i64 O) (.slice (some ⟨w4.heap.size, 0, none⟩) 2 2) (.cells #[.int .i64 k, .int .i64 n, .int .i64 m, .int .i64 k1, .int .i64 n1, .int .i64 m1] 59) S h4 G4 hBw (Nat.le_refl _)
    obtain ⟨c0, c1, f0, f1⟩ := S
    obtain ⟨q0, q1, _, _⟩ := u1
    have ow := ops2 ((w4.setCell ⟨w.heap.size, 0, none⟩ (.int .i64 O)).setCell ⟨w.heap.size, 1, none⟩ (.slice (some ⟨w4.heap.size, 0, none⟩) 2 2)) k n m k1 n1 m1 59
    simp only [World.size_setCell] at ow
    go_wp2
    exact bodyPost_ret (v := .agg #[.int .i64 O, .slice (some ⟨w4.heap.size, 0, none⟩) 2 2]) (by simp [results, Tryz.results60, go_sem, q0, q1]) rfl ⟨⟨O, _, 2, 2, _, rfl, by omega, by omega, rfl, by omega, by omega, (by intro x hx; simp at hx; rcases hx with rfl | rfl <;> assumption), .inr ⟨_, _, rfl, by omega, ow⟩⟩, ⟨_, by omega, u2⟩, u3⟩
  · have n0 : ((r : Int) == 0) = false := by simp; omega
    have n1' : ((r : Int) == 1) = false := by simp; omega
    have n2' : ((r : Int) == 2) = false := by simp; omega
    have n3 : ((r : Int) == 3) = false := by simp; omega
    have n4 : ((r : Int) == 4) = false := by simp; omega
    have n5 : ((r : Int) == 5) = false := by simp; omega
    go_wp2_with fail
    refine (whole_r B R (p + 1) _ h1 (by omega)).mono ?_
    rintro e w2 ⟨⟨k, n, m, bn0, bn1, rfl⟩, ⟨q2, hq2, h2⟩, g2⟩
    have G2 : w.grownBy w2 (some R) := gb_pick G1 g2
    have S2 := S1.grown g2 (by simp; omega)
    have lt2 := S2.lt
    clear g2 G1 S1 h1
    go_wp2_with fail
    refine (whole_r B R q2 _ (h2.alloc _) (by omega)).mono ?_
    rintro e w3 ⟨⟨k1, n1, m1, bn2, bn3, rfl⟩, ⟨q3, hq3, h3⟩, g3⟩
    have G3 : w.grownBy w3 (some R) := gb_pick (gb_alloc G2 _) g3
    have S3 := (S2.alloc _).grown g3 (by simp; omega)
    have A3' := (A3.fresh w2 k n m 59).grown g3 (by simp; omega)
    have lt3 := S3.lt
    have ltA := A3'.lt
    clear g3 G2 S2 h2
    go_upto_if 39 with (go_at_call 47; refine (pick_r B R q3 2 _ (h3.alloc _) (by omega) (by omega) (by omega)).mono ?_; rintro e w4 ⟨t, t1, rfl, h4, g4⟩; have G4 : w.grownBy w4 (some R) := gb_pick (gb_alloc G3 _) g4; have S4 := (S3.alloc _).grown g4 (by simp; omega); have A4 := (A3'.alloc _).grown g4 (by simp; omega); have B4 := (A3.fresh w3 k1 n1 m1 59).grown g4 (by simp; omega))
    have bn_k : -2000000000 ≤ n ∧ n ≤ 2000000000 := ⟨bn0, bn1⟩
    have bn_k1 : -2000000000 ≤ n1 ∧ n1 ≤ 2000000000 := ⟨bn2, bn3⟩
    clear g4 G3 S3 A3' h3
    go_cut [] from 40 (fun wc => ∃ (ka na ma kb nb mb : Int) (q : Nat), (-2000000000 ≤ na ∧ na ≤ 2000000000) ∧ (-2000000000 ≤ nb ∧ nb ≤ 2000000000) ∧ q ≤ p + 25 ∧ E2 wc w.heap.size (.int .i64 0) (.slice none 0 0) ∧ A3 wc w2.heap.size ka na ma ∧ A3 wc w3.heap.size kb nb mb ∧ Reader B wc R q ∧ w.grownBy wc (some R))
    case first =>
      by_cases ht : t = 0
      · subst ht
        go_wp2_with fail
        refine (real4_r B R (q3 + 1) _ h4 (by omega)).mono ?_
        rintro e w5 ⟨⟨k2, n2, m2, bn4, bn5, rfl⟩, ⟨q5, hq5, h5⟩, g5⟩
        have G5 : w.grownBy w5 (some R) := gb_pick G4 g5
        have S5 := S4.grown g5 (by simp; omega)
        have A5 := A4.grown g5 (by simp; omega)
        have B5 := B4.grown g5 (by simp; omega)
        clear g5 G4 S4 A4 B4 h4
        obtain ⟨a0, a1, a2, e0, e1, e2⟩ := id A5
        have S5' := (((S5.other w2.heap.size 0 (by omega) (.int .i64 k2)).other w2.heap.size 1 (by omega) (.int .i64 n2)).other w2.heap.size 2 (by omega) (.int .i64 m2))
        have B5' := (((B5.other w2.heap.size 0 (by omega) (.int .i64 k2)).other w2.heap.size 1 (by omega) (.int .i64 n2)).other w2.heap.size 2 (by omega) (.int .i64 m2))
        have A5' := A5.set k2 n2 m2
        have h5' := (((h5.set w2.heap.size 0 (.int .i64 k2) (by omega)).set w2.heap.size 1 (.int .i64 n2) (by omega)).set w2.heap.size 2 (.int .i64 m2) (by omega))
        have G5' : w.grownBy (((w5.setCell ⟨w2.heap.size, 0, none⟩ (.int .i64 k2)).setCell ⟨w2.heap.size, 1, none⟩ (.int .i64 n2)).setCell ⟨w2.heap.size, 2, none⟩ (.int .i64 m2)) (some R) := (gb_put (gb_put (gb_put G5 (by omega)) (by omega)) (by omega))
        go_wp2_with fail
        refine (real4_r B R q5 _ h5' (by omega)).mono ?_
        rintro e w6 ⟨⟨k3, n3, m3, bn6, bn7, rfl⟩, ⟨q6, hq6, h6⟩, g6⟩
        have G6 : w.grownBy w6 (some R) := gb_pick G5' g6
        have S6 := S5'.grown g6 (by simp; omega)
        have A6 := A5'.grown g6 (by simp; omega)
        have B6 := B5'.grown g6 (by simp; omega)
        clear g6 G5 G5' S5 S5' A5 A5' B5 B5' h5 h5' a0 a1 a2 e0 e1 e2
        obtain ⟨a0, a1, a2, e0, e1, e2⟩ := id B6
        have S6' := (((S6.other w3.heap.size 0 (by omega) (.int .i64 k3)).other w3.heap.size 1 (by omega) (.int .i64 n3)).other w3.heap.size 2 (by omega) (.int .i64 m3))
        have A6' := (((A6.other w3.heap.size 0 (by omega) (.int .i64 k3)).other w3.heap.size 1 (by omega) (.int .i64 n3)).other w3.heap.size 2 (by omega) (.int .i64 m3))
        have B6' := B6.set k3 n3 m3
        have h6' := (((h6.set w3.heap.size 0 (.int .i64 k3) (by omega)).set w3.heap.size 1 (.int .i64 n3) (by omega)).set w3.heap.size 2 (.int .i64 m3) (by omega))
        have G6' : w.grownBy (((w6.setCell ⟨w3.heap.size, 0, none⟩ (.int .i64 k3)).setCell ⟨w3.heap.size, 1, none⟩ (.int .i64 n3)).setCell ⟨w3.heap.size, 2, none⟩ (.int .i64 m3)) (some R) := (gb_put (gb_put (gb_put G6 (by omega)) (by omega)) (by omega))
        go_wp2
        go_meet
        case rel => exact ⟨k2, n2, m2, k3, n3, m3, q6, ⟨bn4, bn5⟩, ⟨bn6, bn7⟩, by omega, S6', A6', B6', h6', G6'⟩
      · have ht' : ((t : Int) == 0) = false := by simp; omega
        go_wp2
        go_meet
        case rel => exact ⟨k, n, m, k1, n1, m1, q3 + 1, bn_k, bn_k1, by omega, S4, A4, B4, h4, G4⟩
    case rest =>
      clear S4 A4 B4 h4 G4 bn_k bn_k1
      obtain ⟨ka, na, ma, kb, nb, mb, q, ba, bb, hq, Sc, Ac, Bc, hc, Gc⟩ := hcut
      have ltc := Sc.lt
      have ltca := Ac.lt
      have ltcb := Bc.lt
      go_upto_if 46 with (go_at_call 47; refine (pick_r B R q 4 _ hc (by omega) (by omega) (by omega)).mono ?_; rintro e w7 ⟨t4, t41, rfl, h7, g7⟩; have G7 : w.grownBy w7 (some R) := gb_pick Gc g7; have S7 := Sc.grown g7 (by simp; omega); have A7 := Ac.grown g7 (by simp; omega); have B7 := Bc.grown g7 (by simp; omega))
      clear g7 Gc Sc Ac Bc hc
      go_cut [] from 47 (fun wd => ∃ (ka na ma kb nb mb : Int) (q : Nat), (-2000000000 ≤ na ∧ na ≤ 2000000000) ∧ (-2000000000 ≤ nb ∧ nb ≤ 2000000000) ∧ q ≤ p + 26 ∧ E2 wd w.heap.size (.int .i64 0) (.slice none 0 0) ∧ A3 wd w2.heap.size ka na ma ∧ A3 wd w3.heap.size kb nb mb ∧ Reader B wd R q ∧ w.grownBy wd (some R))
      case first =>
        by_cases z4 : t4 = 0
        · subst z4
          obtain ⟨a0, a1, a2, _, _, _⟩ := id A7
          obtain ⟨d0, d1, d2, e0, e1, e2⟩ := id B7
          have S8 := (((S7.other w3.heap.size 0 (by omega) (.int .i64 ka)).other w3.heap.size 1 (by omega) (.int .i64 na)).other w3.heap.size 2 (by omega) (.int .i64 ma))
          have A8 := (((A7.other w3.heap.size 0 (by omega) (.int .i64 ka)).other w3.heap.size 1 (by omega) (.int .i64 na)).other w3.heap.size 2 (by omega) (.int .i64 ma))
          have B8 := B7.set ka na ma
          have h8 := (((h7.set w3.heap.size 0 (.int .i64 ka) (by omega)).set w3.heap.size 1 (.int .i64 na) (by omega)).set w3.heap.size 2 (.int .i64 ma) (by omega))
          have G8 : w.grownBy (((w7.setCell ⟨w3.heap.size, 0, none⟩ (.int .i64 ka)).setCell ⟨w3.heap.size, 1, none⟩ (.int .i64 na)).setCell ⟨w3.heap.size, 2, none⟩ (.int .i64 ma)) (some R) := (gb_put (gb_put (gb_put G7 (by omega)) (by omega)) (by omega))
          go_wp2
          go_meet
          case rel => exact ⟨ka, na, ma, ka, na, ma, q + 1, ba, ba, by omega, S8, A8, B8, h8, G8⟩
        · have z4' : ((t4 : Int) == 0) = false := by simp; omega
          go_wp2
          go_meet
          case rel => exact ⟨ka, na, ma, kb, nb, mb, q + 1, ba, bb, by omega, S7, A7, B7, h7, G7⟩
      case rest =>
        clear S7 A7 B7 h7 G7 ba bb hq ka na ma kb nb mb
        obtain ⟨ka, na, ma, kb, nb, mb, q', ba, bb, hq', S8, A8, B8, h8, G8⟩ := hcut
        have lt8 := S8.lt
        have lt8a := A8.lt
        have lt8b := B8.lt
        obtain ⟨a0, a1, a2, _, _, _⟩ := id A8
        obtain ⟨d0, d1, d2, _, _, _⟩ := id B8
        go_upto_region 18 with fail
        go_region_with (go_at_call 47; refine (pick_r B R _ 6 _ (by first | exact h8 | exact h8.drew | exact h8.alloc _ | exact (h8.alloc _).drew) (by omega) (by omega) (by omega)).mono ?_; rintro e w9 ⟨r9, r91, rfl, h9, g9⟩; have S9 : E2 w9 w.heap.size _ _ := (by first | exact S8.grown g9 (by simp; omega) | exact (S8.grown (gb_drew (gb_refl _ none)) (by simp)).grown g9 (by simp; omega) | exact (S8.alloc _).grown g9 (by simp; omega) | exact ((S8.alloc _).grown (gb_drew (gb_refl _ none)) (by simp)).grown g9 (by simp; omega)); have A9 : A3 w9 w2.heap.size ka na ma := (by first | exact A8.grown g9 (by simp; omega) | exact (A8.grown (gb_drew (gb_refl _ none)) (by simp)).grown g9 (by simp; omega) | exact (A8.alloc _).grown g9 (by simp; omega) | exact ((A8.alloc _).grown (gb_drew (gb_refl _ none)) (by simp)).grown g9 (by simp; omega)); have B9 : A3 w9 w3.heap.size kb nb mb := (by first | exact B8.grown g9 (by simp; omega) | exact (B8.grown (gb_drew (gb_refl _ none)) (by simp)).grown g9 (by simp; omega) | exact (B8.alloc _).grown g9 (by simp; omega) | exact ((B8.alloc _).grown (gb_drew (gb_refl _ none)) (by simp)).grown g9 (by simp; omega)); have G9 : w.grownBy w9 (some R) := (by first | exact gb_pick G8 g9 | exact gb_pick (gb_drew G8) g9 | exact gb_pick (gb_alloc G8 _) g9 | exact gb_pick (gb_drew (gb_alloc G8 _)) g9); obtain ⟨x0, x1, x2, _, _, _⟩ := id A9; obtain ⟨y0, y1, y2, _, _, _⟩ := id B9; obtain ⟨v0, v1, v2, v3⟩ := id S9; have lt9 := S9.lt; have lt9a := A9.lt; have lt9b := B9.lt)
        all_goals (
          have hwr : IntKind.i64.wrap (5 + (r9 : Int)) = 5 + (r9 : Int) := by rw [IntKind.wrap_i64]; omega
          simp only [hwr]
          obtain ⟨O, hO⟩ : ∃ O : Int, (5 + (r9 : Int)) = O := ⟨_, rfl⟩
          have hO1 : 5 ≤ O ∧ O ≤ 10 := by omega
          rw [hO]
          clear hwr hO a0 a1 a2 d0 d1 d2 x0 x1 x2 y0 y1 y2)
        all_goals (first
          | (obtain ⟨u1, u2, u3⟩ := elem_end (.int .i64 O) (.slice (some ⟨w9.heap.size, 0, none⟩) 2 2) (.cells #[.int .i64 ka, .int .i64 na, .int .i64 ma, .int .i64 kb, .int .i64 nb, .int .i64 mb] 59) S9 h9 G9 hBw (Nat.le_refl _)
             obtain ⟨q0, q1, _, _⟩ := u1
             have ow := ops2 ((w9.setCell ⟨w.heap.size, 0, none⟩ (.int .i64 O)).setCell ⟨w.heap.size, 1, none⟩ (.slice (some ⟨w9.heap.size, 0, none⟩) 2 2)) ka na ma kb nb mb 59
             simp only [World.size_setCell] at ow
             go_wp2
             exact bodyPost_ret (v := .agg #[.int .i64 O, .slice (some ⟨w9.heap.size, 0, none⟩) 2 2]) (by simp [results, Tryz.results60, go_sem, q0, q1]) rfl ⟨⟨O, _, 2, 2, _, rfl, by omega, by omega, rfl, by omega, by omega, (by intro x hx; simp at hx; rcases hx with rfl | rfl <;> assumption), .inr ⟨_, _, rfl, by omega, ow⟩⟩, ⟨_, by omega, u2⟩, u3⟩)
          | (obtain ⟨u1, u2, u3⟩ := elem_put (.int .i64 O) (.slice (some ⟨wc.heap.size, 0, none⟩) 2 2) S9 h9 G9 hBw (Nat.le_refl _)
             obtain ⟨q0, q1, _, _⟩ := u1
             have ow9 : Ops w9 wc.heap.size 0 [(ka, na, ma), (kb, nb, mb)] := (by first | exact (ops2 wc ka na ma kb nb mb 59).grown g9 (by simp; omega) | exact ((ops2 wc ka na ma kb nb mb 59).grown (gb_drew (gb_refl _ none)) (by simp)).grown g9 (by simp; omega))
             have ow := (ow9.other w.heap.size 0 (by omega) (.int .i64 O)).other w.heap.size 1 (by omega) (.slice (some ⟨wc.heap.size, 0, none⟩) 2 2)
             go_wp2
             exact bodyPost_ret (v := .agg #[.int .i64 O, .slice (some ⟨wc.heap.size, 0, none⟩) 2 2]) (by simp [results, Tryz.results60, go_sem, q0, q1]) rfl ⟨⟨O, _, 2, 2, _, rfl, by omega, by omega, rfl, by omega, by omega, (by intro x hx; simp at hx; rcases hx with rfl | rfl <;> assumption), .inr ⟨_, _, rfl, by omega, ow⟩⟩, ⟨_, by omega, u2⟩, u3⟩))
end Go.Proofs.YtjbdcbamkdnjhaaGreatDoor

/- The draw that spoils a contact or coil. -/
namespace Go.Proofs.YtjbdcbamkdnjhaaGreatDoor
open Go.RowKit
set_option linter.unusedVariables false

def ElemL (H L : Nat) (e : Ending) (w : World) : Prop := ∃ (op : Int) (a : Option Addr) (len cap : Nat) (xs : List Arg), e = .returned (.agg #[.int .i64 op, .slice a len cap]) ∧ -100 ≤ op ∧ op ≤ 100 ∧ len = xs.length ∧ len ≤ cap ∧ len ≤ L ∧ Bd xs ∧ Own w H a xs
theorem ElemR.l {H : Nat} {e : Ending} {w : World} (h : ElemR H e w) : ElemL H 4 e w := h

/-- The cells of operands. -/
def vals (xs : List Arg) : List Value := xs.flatMap fun x => [.int .i64 x.1, .int .i64 x.2.1, .int .i64 x.2.2]
theorem vals_len (xs : List Arg) : (vals xs).length = xs.length * 3 := by
  induction xs with
  | nil => rfl
  | cons x r ih => simp only [vals, List.flatMap_cons, List.length_append] at ih ⊢; rw [ih]; simp; omega
theorem vals_one (xs : List Arg) : ∀ u ∈ vals xs, u.oneCell' = true := by
  intro u hu
  obtain ⟨x, _, hx⟩ := List.mem_flatMap.1 hu
  simp at hx
  rcases hx with rfl | rfl | rfl <;> rfl
theorem vals_get (xs : List Arg) (j : Nat) (x : Arg) (h : xs[j]? = some x) : (vals xs)[j * 3]? = some (.int .i64 x.1) ∧ (vals xs)[j * 3 + 1]? = some (.int .i64 x.2.1) ∧ (vals xs)[j * 3 + 2]? = some (.int .i64 x.2.2) := by
  induction xs generalizing j with
  | nil => simp at h
  | cons y r ih =>
    cases j with
    | zero => simp at h; subst h; simp [vals]
    | succ j =>
      simp at h
      obtain ⟨h1, h2, h3⟩ := ih j h
      have e : vals (y :: r) = [.int .i64 y.1, .int .i64 y.2.1, .int .i64 y.2.2] ++ vals r := rfl
      rw [e]
      refine ⟨?_, ?_, ?_⟩
      · rw [List.getElem?_append_right (by simp; omega)]; rw [show (j + 1) * 3 - [Value.int .i64 y.1, .int .i64 y.2.1, .int .i64 y.2.2].length = j * 3 by simp; omega]; exact h1
      · rw [List.getElem?_append_right (by simp; omega)]; rw [show (j + 1) * 3 + 1 - [Value.int .i64 y.1, .int .i64 y.2.1, .int .i64 y.2.2].length = j * 3 + 1 by simp; omega]; exact h2
      · rw [List.getElem?_append_right (by simp; omega)]; rw [show (j + 1) * 3 + 2 - [Value.int .i64 y.1, .int .i64 y.2.1, .int .i64 y.2.2].length = j * 3 + 2 by simp; omega]; exact h3
theorem vals_app (xs ys : List Arg) : vals (xs ++ ys) = vals xs ++ vals ys := List.flatMap_append
theorem ops_vals {w : World} {b : Nat} {xs : List Arg} (h : ∀ j u, (vals xs)[j]? = some u → w.cell? ((⟨b, 0, none⟩ : Addr).add j) = some u) : Ops w b 0 xs := by
  intro j x hx
  have ad : ∀ k, (⟨b, 0, none⟩ : Addr).add k = ⟨b, 0 + k, none⟩ := fun k => by unfold Addr.add; split <;> simp_all
  obtain ⟨h1, h2, h3⟩ := vals_get xs j x hx
  have g1 := h _ _ h1; have g2 := h _ _ h2; have g3 := h _ _ h3
  rw [ad] at g1 g2 g3
  exact ⟨g1, by rw [Nat.add_assoc]; exact g2, by rw [Nat.add_assoc]; exact g3⟩
theorem vals_ops {w : World} {b o : Nat} {xs : List Arg} (h : Ops w b o xs) : ∀ j u, (vals xs)[j]? = some u → w.cell? ((⟨b, o, none⟩ : Addr).add j) = some u := by
  intro j u hu
  have ad : ∀ k, (⟨b, o, none⟩ : Addr).add k = ⟨b, o + k, none⟩ := fun k => by unfold Addr.add; split <;> simp_all
  have hj : j < xs.length * 3 := by have := (List.getElem?_eq_some_iff.1 hu).1; rwa [vals_len] at this
  obtain ⟨i, r, hr, rfl⟩ : ∃ i r, r < 3 ∧ j = i * 3 + r := ⟨j / 3, j % 3, by omega, by omega⟩
  obtain ⟨x, hx⟩ : ∃ x, xs[i]? = some x := ⟨_, List.getElem?_eq_getElem (by omega)⟩
  obtain ⟨h1, h2, h3⟩ := vals_get xs i x hx
  obtain ⟨g1, g2, g3⟩ := h i x hx
  rw [ad]
  match r, hr with
  | 0, _ => rw [Nat.add_zero] at hu ⊢; obtain rfl := Option.some.inj (h1.symm.trans hu); exact g1
  | 1, _ => obtain rfl := Option.some.inj (h2.symm.trans hu); rw [← Nat.add_assoc]; exact g2
  | 2, _ => obtain rfl := Option.some.inj (h3.symm.trans hu); rw [← Nat.add_assoc]; exact g3

theorem own_cap {w : World} {base size g n cap : Nat} {e : TypeId} {xs : List Value} (h : w.ownsRow base e size (.slice (some ⟨g, 0, none⟩) n cap) n xs) : n ≤ cap := by
  rcases h.2 with ⟨h, _⟩ | ⟨g', cap', cur, hv, _, _, h1, _, _, _⟩
  · cases h
  · cases hv; exact h1
theorem Ops.put3 {w : World} {b o k : Nat} {xs : List Arg} (h : Ops w b o xs) (hk : k < xs.length) (a n p : Int) :
    Ops (((w.setCell ⟨b, o + k * 3, none⟩ (.int .i64 a)).setCell ⟨b, o + k * 3 + 1, none⟩ (.int .i64 n)).setCell ⟨b, o + k * 3 + 2, none⟩ (.int .i64 p)) b o (xs.set k (a, n, p)) := by
  intro j x hx
  rw [List.getElem?_set] at hx
  by_cases e : k = j
  · subst e
    simp [hk] at hx
    subst hx
    obtain ⟨x0, hx0⟩ : ∃ x, xs[k]? = some x := ⟨_, List.getElem?_eq_getElem hk⟩
    obtain ⟨h1, h2, h3⟩ := h k x0 hx0
    refine ⟨?_, ?_, ?_⟩
    · rw [World.cell?_setCell_other _ _ _ _ (by simp), World.cell?_setCell_other _ _ _ _ (by simp)]; exact World.cell?_setCell_same _ _ _ h1
    · rw [World.cell?_setCell_other _ _ _ _ (by simp)]; exact World.cell?_setCell_same _ _ _ ((World.cell?_setCell_other _ _ _ _ (by simp)).trans h2)
    · exact World.cell?_setCell_same _ _ _ ((World.cell?_setCell_other _ _ _ _ (by simp)).trans ((World.cell?_setCell_other _ _ _ _ (by simp)).trans h3))
  · rw [if_neg e] at hx
    obtain ⟨h1, h2, h3⟩ := h j x hx
    refine ⟨?_, ?_, ?_⟩
    · rw [World.cell?_setCell_other _ _ _ _ (by simp), World.cell?_setCell_other _ _ _ _ (by simp), World.cell?_setCell_other _ _ _ _ (by simp)]; exact h1
    · rw [World.cell?_setCell_other _ _ _ _ (by simp), World.cell?_setCell_other _ _ _ _ (by simp), World.cell?_setCell_other _ _ _ _ (by simp)]; exact h2
    · rw [World.cell?_setCell_other _ _ _ _ (by simp), World.cell?_setCell_other _ _ _ _ (by simp), World.cell?_setCell_other _ _ _ _ (by simp)]; exact h3
theorem Bd.set {xs : List Arg} (h : Bd xs) (k : Nat) (a n p : Int) (h1 : -2000000000 ≤ n) (h2 : n ≤ 2000000000) : Bd (xs.set k (a, n, p)) := by
  intro x hx
  rcases List.mem_or_eq_of_mem_set hx with hx | rfl
  · exact h x hx
  · exact ⟨h1, h2⟩
theorem Ops.alloc {w : World} {b o : Nat} {xs : List Arg} (h : Ops w b o xs) (ob : Obj) : Ops (w.alloc ob) b o xs := h.grown (World.grownBy_alloc w ob none) (by simp)

set_option maxRecDepth 10000 in
set_option maxHeartbeats 4000000 in
theorem spoil_r (B R p : Nat) (op : Int) (b o len cap L : Nat) (xs : List Arg) (w : World) (h : Reader B w R p) (hp : p < 700000) (hlen : len = xs.length) (hl1 : 1 ≤ len) (hL : len ≤ L) (hL9 : L ≤ 9) (hcap : len ≤ cap) (ho1 : -100 ≤ op) (ho2 : op ≤ 100) (hbd : Bd xs) (hx : Ops w b o xs) :
    Calls Tryz.prog 62 #[.pointer (some ⟨R, 0, none⟩), .agg #[.int .i64 op, .slice (some ⟨b, o, none⟩) len cap]] w fun e w' => ElemL w.heap.size (L + 1) e w' ∧ (∃ q, q ≤ p + 30 ∧ Reader B w' R q) ∧ w.grownBy w' (some R) := by
  have hRB := h.1
  have hBw := h.2.1
  have bl : b < w.heap.size := hx.lt (fun e => by subst e; simp at hlen; omega)
  have hinfo : (Tryz.prog.info? 59).map (fun i => (i.zero, i.size, i.bytes)) = some (some (.agg #[.int .i64 0, .int .i64 0, .int .i64 0]), 3, 24) := by kernel_rfl
  obtain ⟨i0, hi, hzz⟩ := Option.map_eq_some_iff.1 hinfo
  simp only [Prod.mk.injEq] at hzz
  obtain ⟨hz0, hz1, hz2⟩ := hzz
  have S0 : E2 ((w.alloc (.cells #[.int .i64 op, .slice (some ⟨b, o, none⟩) len cap] 25)).alloc (.cells #[.int .i64 0, .slice none 0 0] 25)) (w.heap.size + 1) (.int .i64 0) (.slice none 0 0) := by
    have := E2.fresh (w.alloc (.cells #[.int .i64 op, .slice (some ⟨b, o, none⟩) len cap] 25)) (.int .i64 0) (.slice none 0 0) 25
    simpa using this
  have T0 : E2 ((w.alloc (.cells #[.int .i64 op, .slice (some ⟨b, o, none⟩) len cap] 25)).alloc (.cells #[.int .i64 0, .slice none 0 0] 25)) w.heap.size (.int .i64 op) (.slice (some ⟨b, o, none⟩) len cap) := (E2.fresh w _ _ 25).alloc _
  have hW : ((w.alloc (.cells #[.int .i64 op, .slice (some ⟨b, o, none⟩) len cap] 25)).alloc (.cells #[.int .i64 0, .slice none 0 0] 25)).heap.size = w.heap.size + 1 + 1 := by simp
  have own0 : (((w.alloc (.cells #[.int .i64 op, .slice (some ⟨b, o, none⟩) len cap] 25)).alloc (.cells #[.int .i64 0, .slice none 0 0] 25)).alloc (.cells #[] 59)).ownsRow (w.heap.size + 2) 59 3 (.slice (some ⟨w.heap.size + 1 + 1, 0, none⟩) 0 0) 0 [] := by
    have := World.ownsRow_made (base := w.heap.size + 2) (e := 59) (size := 3) ((w.alloc (.cells #[.int .i64 op, .slice (some ⟨b, o, none⟩) len cap] 25)).alloc (.cells #[.int .i64 0, .slice none 0 0] 25)) #[] 0 (by rw [hW]; omega) (by unfold maxLen; omega) rfl
    rwa [hW] at this
  have news0 : ∀ j u, (vals xs)[j]? = some u → (((w.alloc (.cells #[.int .i64 op, .slice (some ⟨b, o, none⟩) len cap] 25)).alloc (.cells #[.int .i64 0, .slice none 0 0] 25)).alloc (.cells #[] 59)).cell? ((⟨b, o, none⟩ : Addr).add j) = some u :=
    vals_ops (((hx.below bl ((Below.refl _ _).alloc (Nat.le_refl _) _)).below bl ((Below.refl _ _).alloc (by simp) _)).below bl ((Below.refl _ _).alloc (by simp; omega) _))
  have hvl : (vals xs).length = len * 3 := by rw [vals_len, hlen]
  have HLn : Hid (len = xs.length) := hlen
  clear hlen
  go_enter Tryz.func62, Tryz.ntmps62
  go_wp2_with (at_builtin; refine wpList_append_lies _ rfl _ _ 23 rfl (w.heap.size + 2) 59 i0 (.agg #[.int .i64 0, .int .i64 0, .int .i64 0]) 3 24 Tryz.underlying23 hi hz0 hz1 hz2 rfl (by decide) _ 0 [] rfl own0 ⟨b, o, none⟩ len cap (vals xs) rfl hvl news0 (vals_one xs) (by omega) ?c3 ?c4 ?c5 _ rfl ?_)
  case c3 => unfold maxLen; omega
  case c4 => omega
  case c5 => simp
  intro g cap1 w1 own1 g1 hat1 hlt1
  have hg2 : w.heap.size + 2 ≤ g := (own1.lt g rfl).1
  have hc1 := own_cap own1
  have G1 : w.grownBy w1 (some R) := gb_then (gb_alloc (gb_alloc (gb_alloc (gb_refl w (some R)) _) _) _) g1 (fun j hj => .inl (by simp [Value.ownBlock] at hj; omega))
  have h1 : Reader B w1 R p := (((h.alloc _).alloc _).alloc _).kept g1 (fun j hj => by simp [Value.ownBlock] at hj; omega)
  have S1 : E2 w1 (w.heap.size + 1) (.int .i64 0) (.slice none 0 0) := (S0.alloc _).grown g1 (by simp [Value.ownBlock])
  have T1 : E2 w1 w.heap.size (.int .i64 op) (.slice (some ⟨b, o, none⟩) len cap) := (T0.alloc _).grown g1 (by simp [Value.ownBlock]; omega)
  clear g1 hat1 news0 own0 S0 T0 h hx
  go_wp2_with fail
  refine (pick_r B R p 6 _ h1 (by omega) (by omega) (by omega)).mono ?_
  rintro e w2 ⟨r, r1, rfl, h2, g2⟩
  have G2 : w.grownBy w2 (some R) := gb_pick G1 g2
  have S2 := S1.grown g2 (by simp; omega)
  have T2 := T1.grown g2 (by simp; omega)
  have own2 := own1.kept g2 (.inr (by simp [Value.ownBlock]; omega))
  have P2 : Ops w2 g 0 xs := ops_vals (own2.cells rfl)
  clear g2 G1 S1 T1 own1 h1 hlt1
  have hlt2 : g < w2.heap.size := (own2.lt g rfl).2
  have hr : r = 0 ∨ r = 1 ∨ r = 2 ∨ r = 3 ∨ r = 4 ∨ r = 5 := by omega
  rcases hr with rfl | rfl | rfl | rfl | rfl | rfl
  · have hN := fun W (hW : Reader B W R (p + 1)) hx => num_r B R (p + 1) w2.heap.size [-1, 0, 1, 5, 11, 20, 21, 26, 37, 38] 10 W hW (by simp) (by simp) (by omega) (by omega) hx
    go_wp2_with fail
    refine (hN _ (h2.alloc _) (cells_row w2 [-1, 0, 1, 5, 11, 20, 21, 26, 37, 38] 3)).mono ?_
    rintro e w3 ⟨v, hv, rfl, h3, g3⟩
    have hv' : -100 ≤ v ∧ v ≤ 100 := by simp at hv; omega
    have G3 : w.grownBy w3 (some R) := gb_pick (gb_alloc G2 _) g3
    have S3 := (S2.alloc (.cells ([-1, 0, 1, 5, 11, 20, 21, 26, 37, 38].map (Value.int .i64)).toArray 3)).grown g3 (by simp; omega)
    have P3 := (P2.alloc (.cells ([-1, 0, 1, 5, 11, 20, 21, 26, 37, 38].map (Value.int .i64)).toArray 3)).grown g3 (by simp; omega)
    clear g3 G2 S2 T2 own2 P2 h2 hN hv
    obtain ⟨u1, u2, u3⟩ := elem_put (.int .i64 v) (.slice (some ⟨g, 0, none⟩) len cap1) S3 h3 G3 (by omega) (by omega)
    obtain ⟨c0, c1, f0, f1⟩ := S3
    obtain ⟨q0, q1, _, _⟩ := u1
    have P4 := (P3.other (w.heap.size + 1) 0 (by omega) (.int .i64 v)).other (w.heap.size + 1) 1 (by omega) (.slice (some ⟨g, 0, none⟩) len cap1)
    go_wp2
    exact bodyPost_ret (v := .agg #[.int .i64 v, .slice (some ⟨g, 0, none⟩) len cap1]) (by simp [results, Tryz.results62, go_sem, q0, q1]) rfl ⟨⟨v, _, len, cap1, xs, rfl, by omega, by omega, HLn, hc1, by omega, hbd, .inr ⟨_, _, rfl, by omega, P4⟩⟩, ⟨_, by omega, u2⟩, u3⟩
  · obtain ⟨d0, d1, _, _⟩ := id T2
    obtain ⟨s0, s1, s2, s3⟩ := id S2
    go_upto_region 6 with fail
    go_region_held3 (fun w' => w'.cell? ⟨w.heap.size, 0, none⟩ = some (.int .i64 op))
      (first | go_keep | exact d3 | (simpa using d3) | exact d4 | (simpa using d4))
      (first
        | (go_at_call 145; refine (any_r B R (p + 1) _ (by first | exact h2 | exact h2.drew) (by omega)).mono ?_; rintro e w3 ⟨⟨k2, n2, m2, bn2, bn3, rfl⟩, ⟨q3, hq3, h3⟩, g3⟩; have S3 : E2 w3 (w.heap.size + 1) _ _ := (by first | exact S2.grown g3 (by simp; omega) | exact (S2.grown (gb_drew (gb_refl _ none)) (by simp)).grown g3 (by simp; omega)); have T3 : E2 w3 w.heap.size _ _ := (by first | exact T2.grown g3 (by simp; omega) | exact (T2.grown (gb_drew (gb_refl _ none)) (by simp)).grown g3 (by simp; omega)); have own3 := (by first | exact own2.kept g3 (.inr (by simp [Value.ownBlock]; omega)) | exact own2.drew.kept g3 (.inr (by simp [Value.ownBlock]; omega)) : w3.ownsRow (w.heap.size + 2) 59 3 (.slice (some ⟨g, 0, none⟩) len cap1) len (vals xs)); have G3 : w.grownBy w3 (some R) := (by first | exact gb_pick G2 g3 | exact gb_pick (gb_drew G2) g3); have d3 := T3.c0; have hlt3 : g < w3.heap.size := (own3.lt g rfl).2)
        | (refine step_append_lies _ (by rfl) (.tmp 24) (.tmp 27) 23 (by rfl) (w.heap.size + 2) 59 i0 (.agg #[.int .i64 0, .int .i64 0, .int .i64 0]) 3 24 Tryz.underlying23 hi hz0 hz1 hz2 (by rfl) (by decide) (.slice (some ⟨g, 0, none⟩) len cap1) len (vals xs) (by rfl) (own3.alloc _) ⟨w3.heap.size, 0, none⟩ 1 1 (vals [(k2, n2, m2)]) (by rfl) (by rfl) (vals_ops (ops1 w3 k2 n2 m2 59)) (vals_one _) (by omega) (by unfold maxLen; omega) (by omega) (by simp; omega) _ rfl ?_; intro g4 cap4 w4 own4 gg4 hat4 hlt4; have d4 : w4.cell? ⟨w.heap.size, 0, none⟩ = some (.int .i64 op) := ((T3.alloc _).grown gg4 (by simp [Value.ownBlock]; omega)).c0; have S4 : E2 w4 (w.heap.size + 1) _ _ := (S3.alloc _).grown gg4 (by simp [Value.ownBlock]; omega); have h4 := (h3.alloc _).kept gg4 (fun j hj => by simp [Value.ownBlock] at hj; omega); have G4 : w.grownBy w4 (some R) := gb_then (gb_alloc G3 _) gg4 (fun j hj => .inl (by simp [Value.ownBlock] at hj; omega)); obtain ⟨v0, v1, v2, v3⟩ := id S4)
        | fail)
    have hg4 : w.heap.size + 2 ≤ g4 := (own4.lt g4 rfl).1
    have hc4 := own_cap own4
    have P4 : Ops w4 g4 0 (xs ++ [(k2, n2, m2)]) := ops_vals (by rw [vals_app]; exact own4.cells rfl)
    have bd4 : Bd (xs ++ [(k2, n2, m2)]) := (by
      intro x hx
      rcases List.mem_append.1 hx with hx | hx
      · exact hbd x hx
      · simp at hx; subst hx; exact ⟨bn2, bn3⟩)
    have l4 : Hid (len + 1 = (xs ++ [(k2, n2, m2)]).length) := (by have hl : len = xs.length := HLn; show len + 1 = _; rw [List.length_append, ← hl]; rfl)
    obtain ⟨ys, hys⟩ : ∃ ys, xs ++ [(k2, n2, m2)] = ys := ⟨_, rfl⟩
    rw [hys] at P4 bd4 l4
    obtain ⟨u1, u2, u3⟩ := elem_put (.int .i64 op) (.slice (some ⟨g4, 0, none⟩) (len + 1) cap4) S4 h4 G4 (by omega) (by omega)
    have PE := (P4.other (w.heap.size + 1) 0 (by omega) (.int .i64 op)).other (w.heap.size + 1) 1 (by omega) (.slice (some ⟨g4, 0, none⟩) (len + 1) cap4)
    obtain ⟨q0, q1, _, _⟩ := u1
    clear own4 own3 gg4 hat4 hys P4
    go_wp2
    exact bodyPost_ret (v := .agg #[.int .i64 op, .slice (some ⟨g4, 0, none⟩) (len + 1) cap4]) (by simp [results, Tryz.results62, go_sem, q0, q1]) rfl ⟨⟨op, _, len + 1, cap4, ys, rfl, by omega, by omega, l4, hc4, by omega, bd4, .inr ⟨_, _, rfl, by omega, PE⟩⟩, ⟨_, by omega, u2⟩, u3⟩
  · obtain ⟨u1, u2, u3⟩ := elem_put (.int .i64 op) (.slice none 0 0) S2 h2 G2 (by omega) (by omega)
    obtain ⟨c0, c1, f0, f1⟩ := S2
    obtain ⟨d0, d1, _, _⟩ := T2
    obtain ⟨q0, q1, _, _⟩ := u1
    go_wp2
    exact bodyPost_ret (v := .agg #[.int .i64 op, .slice none 0 0]) (by simp [results, Tryz.results62, go_sem, q0, q1]) rfl ⟨⟨op, _, 0, 0, [], rfl, by omega, by omega, rfl, by omega, by omega, (by intro x hx; cases hx), .inl rfl⟩, ⟨_, by omega, u2⟩, u3⟩
  · have dl : decide ((0 : Int) < (len : Int)) = true := by simp; omega
    go_wp2_with fail
    refine (pick_r B R (p + 1) len _ h2 (by omega) (by omega) (by omega)).mono ?_
    rintro e w3 ⟨t, t1, rfl, h3, g3⟩
    have G3 : w.grownBy w3 (some R) := gb_pick G2 g3
    have S3 := S2.grown g3 (by simp; omega)
    have T3 := T2.grown g3 (by simp; omega)
    have own3 := own2.kept g3 (.inr (by simp [Value.ownBlock]; omega))
    have P3 : Ops w3 g 0 xs := P2.grown g3 (by simp; omega)
    clear g3 G2 S2 T2 own2 P2 h2
    have t2 : t < len := by omega
    obtain ⟨⟨ka, na, ma⟩, hxt⟩ : ∃ x, xs[t]? = some x := ⟨_, List.getElem?_eq_getElem (by have hl : len = xs.length := HLn; omega)⟩
    have bx : -2000000000 ≤ na ∧ na ≤ 2000000000 := hbd _ (List.mem_of_getElem? hxt)
    obtain ⟨c0, c1, c2⟩ := P3 t _ hxt
    simp only [Nat.zero_add] at c0 c1 c2
    go_wp2_with fail
    refine (spoilt_r B R (p + 1 + 1) ka na ma _ h3 (by omega) bx.1 bx.2).mono ?_
    rintro e w4 ⟨⟨k', n', m', bn0', bn1', rfl⟩, ⟨q', hq', h4⟩, g4⟩
    have G4 : w.grownBy w4 (some R) := gb_pick G3 g4
    have S4 := S3.grown g4 (by simp; omega)
    have T4 := T3.grown g4 (by simp; omega)
    have own4 := own3.kept g4 (.inr (by simp [Value.ownBlock]; omega))
    have P4 : Ops w4 g 0 xs := P3.grown g4 (by simp; omega)
    clear g4 G3 S3 T3 own3 P3 h3 c0 c1 c2
    obtain ⟨c0, c1, c2⟩ := P4 t _ hxt
    simp only [Nat.zero_add] at c0 c1 c2
    have hlt4 : g < w4.heap.size := (own4.lt g rfl).2
    have F4 : ∀ j, w4.frozen? ⟨g, j, none⟩ = false := fun j => own4.frozenAt j
    have f0 : w4.frozen? ⟨g, t * 3, none⟩ = false := own4.frozenAt _
    have f1 : w4.frozen? ⟨g, t * 3 + 1, none⟩ = false := own4.frozenAt _
    have f2 : w4.frozen? ⟨g, t * 3 + 2, none⟩ = false := own4.frozenAt _
    go_wp2_with fail
    have h4' : Reader B (((w4.setCell ⟨g, t * 3, none⟩ (.int .i64 k')).setCell ⟨g, t * 3 + 1, none⟩ (.int .i64 n')).setCell ⟨g, t * 3 + 2, none⟩ (.int .i64 m')) R _ := ((h4.set g (t * 3) (.int .i64 k') (by omega)).set g (t * 3 + 1) (.int .i64 n') (by omega)).set g (t * 3 + 2) (.int .i64 m') (by omega)
    have G4' : w.grownBy (((w4.setCell ⟨g, t * 3, none⟩ (.int .i64 k')).setCell ⟨g, t * 3 + 1, none⟩ (.int .i64 n')).setCell ⟨g, t * 3 + 2, none⟩ (.int .i64 m')) (some R) := gb_put (gb_put (gb_put G4 (by omega)) (by omega)) (by omega)
    have S4' : E2 (((w4.setCell ⟨g, t * 3, none⟩ (.int .i64 k')).setCell ⟨g, t * 3 + 1, none⟩ (.int .i64 n')).setCell ⟨g, t * 3 + 2, none⟩ (.int .i64 m')) (w.heap.size + 1) (.int .i64 0) (.slice none 0 0) := ((S4.other g (t * 3) (by omega) _).other g (t * 3 + 1) (by omega) _).other g (t * 3 + 2) (by omega) _
    have T4' : E2 (((w4.setCell ⟨g, t * 3, none⟩ (.int .i64 k')).setCell ⟨g, t * 3 + 1, none⟩ (.int .i64 n')).setCell ⟨g, t * 3 + 2, none⟩ (.int .i64 m')) w.heap.size (.int .i64 op) (.slice (some ⟨b, o, none⟩) len cap) := ((T4.other g (t * 3) (by omega) _).other g (t * 3 + 1) (by omega) _).other g (t * 3 + 2) (by omega) _
    have F4' : ∀ j, (((w4.setCell ⟨g, t * 3, none⟩ (.int .i64 k')).setCell ⟨g, t * 3 + 1, none⟩ (.int .i64 n')).setCell ⟨g, t * 3 + 2, none⟩ (.int .i64 m')).frozen? ⟨g, j, none⟩ = false := fun j => by simpa using F4 j
    obtain ⟨ys, lys, bdys, P4'⟩ : ∃ zs : List Arg, Hid (len = zs.length) ∧ Bd zs ∧ Ops (((w4.setCell ⟨g, t * 3, none⟩ (.int .i64 k')).setCell ⟨g, t * 3 + 1, none⟩ (.int .i64 n')).setCell ⟨g, t * 3 + 2, none⟩ (.int .i64 m')) g 0 zs := ⟨xs.set t (k', n', m'), (by have hl : len = xs.length := HLn; show len = _; rw [List.length_set]; exact hl), hbd.set t _ _ _ (by omega) (by omega), (by have := P4.put3 (k := t) (by have hl : len = xs.length := HLn; omega) k' n' m'; simpa only [Nat.zero_add] using this)⟩
    refine (pick_r B R q' 2 _ h4' (by omega) (by omega) (by omega)).mono ?_
    rintro e w5 ⟨s, s1, rfl, h5, g5⟩
    have G5 : w.grownBy w5 (some R) := gb_pick G4' g5
    have S5 := S4'.grown g5 (by simp; omega)
    have T5 := T4'.grown g5 (by simp; omega)
    have P5 : Ops w5 g 0 ys := P4'.grown g5 (by simp; omega)
    have hlt5 : g < w5.heap.size := P5.lt (fun e => by have hl : len = ys.length := lys; rw [e] at hl; simp at hl; omega)
    have F5 : ∀ j, w5.frozen? ⟨g, j, none⟩ = false := fun j => (g5.frozen_far _ (by simp; omega) (by simp; omega)).trans (F4' j)
    clear g5 G4 S4 T4 own4 P4 h4 c0 c1 c2 f0 f1 f2 F4 h4' G4' S4' T4' P4' F4'
    by_cases hs : s = 0
    · subst hs
      go_wp2_with fail
      refine (any_r B R (q' + 1) _ h5 (by omega)).mono ?_
      rintro e w6 ⟨⟨k2, n2, m2, bn2, bn3, rfl⟩, ⟨q6, hq6, h6⟩, g6⟩
      have G6 : w.grownBy w6 (some R) := gb_pick G5 g6
      have S6 := S5.grown g6 (by simp; omega)
      have T6 := T5.grown g6 (by simp; omega)
      have P6 : Ops w6 g 0 ys := P5.grown g6 (by simp; omega)
      have F6 : ∀ j, w6.frozen? ⟨g, j, none⟩ = false := fun j => (g6.frozen_far _ (by simp; omega) (by simp; omega)).trans (F5 j)
      clear g6 G5 S5 T5 P5 F5 h5
      obtain ⟨⟨kb, nb, mb⟩, hyt⟩ : ∃ x, ys[t]? = some x := ⟨_, List.getElem?_eq_getElem (by have hl : len = ys.length := lys; omega)⟩
      obtain ⟨c0, c1, c2⟩ := P6 t _ hyt
      simp only [Nat.zero_add] at c0 c1 c2
      have f0 : w6.frozen? ⟨g, t * 3, none⟩ = false := F6 _
      have f1 : w6.frozen? ⟨g, t * 3 + 1, none⟩ = false := F6 _
      have f2 : w6.frozen? ⟨g, t * 3 + 2, none⟩ = false := F6 _
      have h6' : Reader B (((w6.setCell ⟨g, t * 3, none⟩ (.int .i64 k2)).setCell ⟨g, t * 3 + 1, none⟩ (.int .i64 n2)).setCell ⟨g, t * 3 + 2, none⟩ (.int .i64 m2)) R _ := ((h6.set g (t * 3) (.int .i64 k2) (by omega)).set g (t * 3 + 1) (.int .i64 n2) (by omega)).set g (t * 3 + 2) (.int .i64 m2) (by omega)
      have G6' : w.grownBy (((w6.setCell ⟨g, t * 3, none⟩ (.int .i64 k2)).setCell ⟨g, t * 3 + 1, none⟩ (.int .i64 n2)).setCell ⟨g, t * 3 + 2, none⟩ (.int .i64 m2)) (some R) := gb_put (gb_put (gb_put G6 (by omega)) (by omega)) (by omega)
      have S6' : E2 (((w6.setCell ⟨g, t * 3, none⟩ (.int .i64 k2)).setCell ⟨g, t * 3 + 1, none⟩ (.int .i64 n2)).setCell ⟨g, t * 3 + 2, none⟩ (.int .i64 m2)) (w.heap.size + 1) (.int .i64 0) (.slice none 0 0) := ((S6.other g (t * 3) (by omega) _).other g (t * 3 + 1) (by omega) _).other g (t * 3 + 2) (by omega) _
      have T6' : E2 (((w6.setCell ⟨g, t * 3, none⟩ (.int .i64 k2)).setCell ⟨g, t * 3 + 1, none⟩ (.int .i64 n2)).setCell ⟨g, t * 3 + 2, none⟩ (.int .i64 m2)) w.heap.size (.int .i64 op) (.slice (some ⟨b, o, none⟩) len cap) := ((T6.other g (t * 3) (by omega) _).other g (t * 3 + 1) (by omega) _).other g (t * 3 + 2) (by omega) _
      have F6' : ∀ j, (((w6.setCell ⟨g, t * 3, none⟩ (.int .i64 k2)).setCell ⟨g, t * 3 + 1, none⟩ (.int .i64 n2)).setCell ⟨g, t * 3 + 2, none⟩ (.int .i64 m2)).frozen? ⟨g, j, none⟩ = false := fun j => by simpa using F6 j
      obtain ⟨zs, lzs, bdzs, P6'⟩ : ∃ zs : List Arg, Hid (len = zs.length) ∧ Bd zs ∧ Ops (((w6.setCell ⟨g, t * 3, none⟩ (.int .i64 k2)).setCell ⟨g, t * 3 + 1, none⟩ (.int .i64 n2)).setCell ⟨g, t * 3 + 2, none⟩ (.int .i64 m2)) g 0 zs := ⟨ys.set t (k2, n2, m2), (by have hl : len = ys.length := lys; show len = _; rw [List.length_set]; exact hl), bdys.set t _ _ _ (by omega) (by omega), (by have := P6.put3 (k := t) (by have hl : len = ys.length := lys; omega) k2 n2 m2; simpa only [Nat.zero_add] using this)⟩
      clear F6 F6' P6 S6 T6 h6 G6
      obtain ⟨u1, u2, u3⟩ := elem_put (.int .i64 op) (.slice (some ⟨g, 0, none⟩) len cap1) S6' h6' G6' (by omega) (by omega)
      have PE := (P6'.other (w.heap.size + 1) 0 (by omega) (.int .i64 op)).other (w.heap.size + 1) 1 (by omega) (.slice (some ⟨g, 0, none⟩) len cap1)
      obtain ⟨s0, s1, s2, s3⟩ := S6'
      obtain ⟨d0, d1, _, _⟩ := T6'
      obtain ⟨q0, q1, _, _⟩ := u1
      go_wp2
      exact bodyPost_ret (v := .agg #[.int .i64 op, .slice (some ⟨g, 0, none⟩) len cap1]) (by simp [results, Tryz.results62, go_sem, q0, q1]) rfl ⟨⟨op, _, len, cap1, zs, rfl, by omega, by omega, lzs, hc1, by omega, bdzs, .inr ⟨_, _, rfl, by omega, PE⟩⟩, ⟨_, by omega, u2⟩, u3⟩
    · have hs' : ((s : Int) == 0) = false := by simp; omega
      obtain ⟨u1, u2, u3⟩ := elem_put (.int .i64 op) (.slice (some ⟨g, 0, none⟩) len cap1) S5 h5 G5 (by omega) (by omega)
      have PE := (P5.other (w.heap.size + 1) 0 (by omega) (.int .i64 op)).other (w.heap.size + 1) 1 (by omega) (.slice (some ⟨g, 0, none⟩) len cap1)
      obtain ⟨s0, s1, s2, s3⟩ := S5
      obtain ⟨d0, d1, _, _⟩ := T5
      obtain ⟨q0, q1, _, _⟩ := u1
      go_wp2
      exact bodyPost_ret (v := .agg #[.int .i64 op, .slice (some ⟨g, 0, none⟩) len cap1]) (by simp [results, Tryz.results62, go_sem, q0, q1]) rfl ⟨⟨op, _, len, cap1, ys, rfl, by omega, by omega, lys, hc1, by omega, bdys, .inr ⟨_, _, rfl, by omega, PE⟩⟩, ⟨_, by omega, u2⟩, u3⟩
  · have dl : decide ((0 : Int) < (len : Int)) = true := by simp; omega
    go_wp2_with fail
    refine (pick_r B R (p + 1) len _ h2 (by omega) (by omega) (by omega)).mono ?_
    rintro e w3 ⟨t, t1, rfl, h3, g3⟩
    have G3 : w.grownBy w3 (some R) := gb_pick G2 g3
    have S3 := S2.grown g3 (by simp; omega)
    have T3 := T2.grown g3 (by simp; omega)
    have own3 := own2.kept g3 (.inr (by simp [Value.ownBlock]; omega))
    have P3 : Ops w3 g 0 xs := P2.grown g3 (by simp; omega)
    clear g3 G2 S2 T2 own2 P2 h2
    have t2 : t < len := by omega
    obtain ⟨⟨ka, na, ma⟩, hxt⟩ : ∃ x, xs[t]? = some x := ⟨_, List.getElem?_eq_getElem (by have hl : len = xs.length := HLn; omega)⟩
    have bx : -2000000000 ≤ na ∧ na ≤ 2000000000 := hbd _ (List.mem_of_getElem? hxt)
    obtain ⟨c0, c1, c2⟩ := P3 t _ hxt
    simp only [Nat.zero_add] at c0 c1 c2
    go_wp2_with fail
    refine (spoilt_r B R (p + 1 + 1) ka na ma _ h3 (by omega) bx.1 bx.2).mono ?_
    rintro e w4 ⟨⟨k', n', m', bn0', bn1', rfl⟩, ⟨q', hq', h4⟩, g4⟩
    have G4 : w.grownBy w4 (some R) := gb_pick G3 g4
    have S4 := S3.grown g4 (by simp; omega)
    have T4 := T3.grown g4 (by simp; omega)
    have own4 := own3.kept g4 (.inr (by simp [Value.ownBlock]; omega))
    have P4 : Ops w4 g 0 xs := P3.grown g4 (by simp; omega)
    clear g4 G3 S3 T3 own3 P3 h3 c0 c1 c2
    obtain ⟨c0, c1, c2⟩ := P4 t _ hxt
    simp only [Nat.zero_add] at c0 c1 c2
    have hlt4 : g < w4.heap.size := (own4.lt g rfl).2
    have F4 : ∀ j, w4.frozen? ⟨g, j, none⟩ = false := fun j => own4.frozenAt j
    have f0 : w4.frozen? ⟨g, t * 3, none⟩ = false := own4.frozenAt _
    have f1 : w4.frozen? ⟨g, t * 3 + 1, none⟩ = false := own4.frozenAt _
    have f2 : w4.frozen? ⟨g, t * 3 + 2, none⟩ = false := own4.frozenAt _
    go_wp2_with fail
    have h4' : Reader B (((w4.setCell ⟨g, t * 3, none⟩ (.int .i64 k')).setCell ⟨g, t * 3 + 1, none⟩ (.int .i64 n')).setCell ⟨g, t * 3 + 2, none⟩ (.int .i64 m')) R _ := ((h4.set g (t * 3) (.int .i64 k') (by omega)).set g (t * 3 + 1) (.int .i64 n') (by omega)).set g (t * 3 + 2) (.int .i64 m') (by omega)
    have G4' : w.grownBy (((w4.setCell ⟨g, t * 3, none⟩ (.int .i64 k')).setCell ⟨g, t * 3 + 1, none⟩ (.int .i64 n')).setCell ⟨g, t * 3 + 2, none⟩ (.int .i64 m')) (some R) := gb_put (gb_put (gb_put G4 (by omega)) (by omega)) (by omega)
    have S4' : E2 (((w4.setCell ⟨g, t * 3, none⟩ (.int .i64 k')).setCell ⟨g, t * 3 + 1, none⟩ (.int .i64 n')).setCell ⟨g, t * 3 + 2, none⟩ (.int .i64 m')) (w.heap.size + 1) (.int .i64 0) (.slice none 0 0) := ((S4.other g (t * 3) (by omega) _).other g (t * 3 + 1) (by omega) _).other g (t * 3 + 2) (by omega) _
    have T4' : E2 (((w4.setCell ⟨g, t * 3, none⟩ (.int .i64 k')).setCell ⟨g, t * 3 + 1, none⟩ (.int .i64 n')).setCell ⟨g, t * 3 + 2, none⟩ (.int .i64 m')) w.heap.size (.int .i64 op) (.slice (some ⟨b, o, none⟩) len cap) := ((T4.other g (t * 3) (by omega) _).other g (t * 3 + 1) (by omega) _).other g (t * 3 + 2) (by omega) _
    have F4' : ∀ j, (((w4.setCell ⟨g, t * 3, none⟩ (.int .i64 k')).setCell ⟨g, t * 3 + 1, none⟩ (.int .i64 n')).setCell ⟨g, t * 3 + 2, none⟩ (.int .i64 m')).frozen? ⟨g, j, none⟩ = false := fun j => by simpa using F4 j
    obtain ⟨ys, lys, bdys, P4'⟩ : ∃ zs : List Arg, Hid (len = zs.length) ∧ Bd zs ∧ Ops (((w4.setCell ⟨g, t * 3, none⟩ (.int .i64 k')).setCell ⟨g, t * 3 + 1, none⟩ (.int .i64 n')).setCell ⟨g, t * 3 + 2, none⟩ (.int .i64 m')) g 0 zs := ⟨xs.set t (k', n', m'), (by have hl : len = xs.length := HLn; show len = _; rw [List.length_set]; exact hl), hbd.set t _ _ _ (by omega) (by omega), (by have := P4.put3 (k := t) (by have hl : len = xs.length := HLn; omega) k' n' m'; simpa only [Nat.zero_add] using this)⟩
    refine (pick_r B R q' 2 _ h4' (by omega) (by omega) (by omega)).mono ?_
    rintro e w5 ⟨s, s1, rfl, h5, g5⟩
    have G5 : w.grownBy w5 (some R) := gb_pick G4' g5
    have S5 := S4'.grown g5 (by simp; omega)
    have T5 := T4'.grown g5 (by simp; omega)
    have P5 : Ops w5 g 0 ys := P4'.grown g5 (by simp; omega)
    have hlt5 : g < w5.heap.size := P5.lt (fun e => by have hl : len = ys.length := lys; rw [e] at hl; simp at hl; omega)
    have F5 : ∀ j, w5.frozen? ⟨g, j, none⟩ = false := fun j => (g5.frozen_far _ (by simp; omega) (by simp; omega)).trans (F4' j)
    clear g5 G4 S4 T4 own4 P4 h4 c0 c1 c2 f0 f1 f2 F4 h4' G4' S4' T4' P4' F4'
    by_cases hs : s = 0
    · subst hs
      go_wp2_with fail
      refine (any_r B R (q' + 1) _ h5 (by omega)).mono ?_
      rintro e w6 ⟨⟨k2, n2, m2, bn2, bn3, rfl⟩, ⟨q6, hq6, h6⟩, g6⟩
      have G6 : w.grownBy w6 (some R) := gb_pick G5 g6
      have S6 := S5.grown g6 (by simp; omega)
      have T6 := T5.grown g6 (by simp; omega)
      have P6 : Ops w6 g 0 ys := P5.grown g6 (by simp; omega)
      have F6 : ∀ j, w6.frozen? ⟨g, j, none⟩ = false := fun j => (g6.frozen_far _ (by simp; omega) (by simp; omega)).trans (F5 j)
      clear g6 G5 S5 T5 P5 F5 h5
      obtain ⟨⟨kb, nb, mb⟩, hyt⟩ : ∃ x, ys[t]? = some x := ⟨_, List.getElem?_eq_getElem (by have hl : len = ys.length := lys; omega)⟩
      obtain ⟨c0, c1, c2⟩ := P6 t _ hyt
      simp only [Nat.zero_add] at c0 c1 c2
      have f0 : w6.frozen? ⟨g, t * 3, none⟩ = false := F6 _
      have f1 : w6.frozen? ⟨g, t * 3 + 1, none⟩ = false := F6 _
      have f2 : w6.frozen? ⟨g, t * 3 + 2, none⟩ = false := F6 _
      have h6' : Reader B (((w6.setCell ⟨g, t * 3, none⟩ (.int .i64 k2)).setCell ⟨g, t * 3 + 1, none⟩ (.int .i64 n2)).setCell ⟨g, t * 3 + 2, none⟩ (.int .i64 m2)) R _ := ((h6.set g (t * 3) (.int .i64 k2) (by omega)).set g (t * 3 + 1) (.int .i64 n2) (by omega)).set g (t * 3 + 2) (.int .i64 m2) (by omega)
      have G6' : w.grownBy (((w6.setCell ⟨g, t * 3, none⟩ (.int .i64 k2)).setCell ⟨g, t * 3 + 1, none⟩ (.int .i64 n2)).setCell ⟨g, t * 3 + 2, none⟩ (.int .i64 m2)) (some R) := gb_put (gb_put (gb_put G6 (by omega)) (by omega)) (by omega)
      have S6' : E2 (((w6.setCell ⟨g, t * 3, none⟩ (.int .i64 k2)).setCell ⟨g, t * 3 + 1, none⟩ (.int .i64 n2)).setCell ⟨g, t * 3 + 2, none⟩ (.int .i64 m2)) (w.heap.size + 1) (.int .i64 0) (.slice none 0 0) := ((S6.other g (t * 3) (by omega) _).other g (t * 3 + 1) (by omega) _).other g (t * 3 + 2) (by omega) _
      have T6' : E2 (((w6.setCell ⟨g, t * 3, none⟩ (.int .i64 k2)).setCell ⟨g, t * 3 + 1, none⟩ (.int .i64 n2)).setCell ⟨g, t * 3 + 2, none⟩ (.int .i64 m2)) w.heap.size (.int .i64 op) (.slice (some ⟨b, o, none⟩) len cap) := ((T6.other g (t * 3) (by omega) _).other g (t * 3 + 1) (by omega) _).other g (t * 3 + 2) (by omega) _
      have F6' : ∀ j, (((w6.setCell ⟨g, t * 3, none⟩ (.int .i64 k2)).setCell ⟨g, t * 3 + 1, none⟩ (.int .i64 n2)).setCell ⟨g, t * 3 + 2, none⟩ (.int .i64 m2)).frozen? ⟨g, j, none⟩ = false := fun j => by simpa using F6 j
      obtain ⟨zs, lzs, bdzs, P6'⟩ : ∃ zs : List Arg, Hid (len = zs.length) ∧ Bd zs ∧ Ops (((w6.setCell ⟨g, t * 3, none⟩ (.int .i64 k2)).setCell ⟨g, t * 3 + 1, none⟩ (.int .i64 n2)).setCell ⟨g, t * 3 + 2, none⟩ (.int .i64 m2)) g 0 zs := ⟨ys.set t (k2, n2, m2), (by have hl : len = ys.length := lys; show len = _; rw [List.length_set]; exact hl), bdys.set t _ _ _ (by omega) (by omega), (by have := P6.put3 (k := t) (by have hl : len = ys.length := lys; omega) k2 n2 m2; simpa only [Nat.zero_add] using this)⟩
      clear F6 F6' P6 S6 T6 h6 G6
      obtain ⟨u1, u2, u3⟩ := elem_put (.int .i64 op) (.slice (some ⟨g, 0, none⟩) len cap1) S6' h6' G6' (by omega) (by omega)
      have PE := (P6'.other (w.heap.size + 1) 0 (by omega) (.int .i64 op)).other (w.heap.size + 1) 1 (by omega) (.slice (some ⟨g, 0, none⟩) len cap1)
      obtain ⟨s0, s1, s2, s3⟩ := S6'
      obtain ⟨d0, d1, _, _⟩ := T6'
      obtain ⟨q0, q1, _, _⟩ := u1
      go_wp2
      exact bodyPost_ret (v := .agg #[.int .i64 op, .slice (some ⟨g, 0, none⟩) len cap1]) (by simp [results, Tryz.results62, go_sem, q0, q1]) rfl ⟨⟨op, _, len, cap1, zs, rfl, by omega, by omega, lzs, hc1, by omega, bdzs, .inr ⟨_, _, rfl, by omega, PE⟩⟩, ⟨_, by omega, u2⟩, u3⟩
    · have hs' : ((s : Int) == 0) = false := by simp; omega
      obtain ⟨u1, u2, u3⟩ := elem_put (.int .i64 op) (.slice (some ⟨g, 0, none⟩) len cap1) S5 h5 G5 (by omega) (by omega)
      have PE := (P5.other (w.heap.size + 1) 0 (by omega) (.int .i64 op)).other (w.heap.size + 1) 1 (by omega) (.slice (some ⟨g, 0, none⟩) len cap1)
      obtain ⟨s0, s1, s2, s3⟩ := S5
      obtain ⟨d0, d1, _, _⟩ := T5
      obtain ⟨q0, q1, _, _⟩ := u1
      go_wp2
      exact bodyPost_ret (v := .agg #[.int .i64 op, .slice (some ⟨g, 0, none⟩) len cap1]) (by simp [results, Tryz.results62, go_sem, q0, q1]) rfl ⟨⟨op, _, len, cap1, ys, rfl, by omega, by omega, lys, hc1, by omega, bdys, .inr ⟨_, _, rfl, by omega, PE⟩⟩, ⟨_, by omega, u2⟩, u3⟩
  · have dl : decide ((0 : Int) < (len : Int)) = true := by simp; omega
    go_wp2_with fail
    refine (pick_r B R (p + 1) len _ h2 (by omega) (by omega) (by omega)).mono ?_
    rintro e w3 ⟨t, t1, rfl, h3, g3⟩
    have G3 : w.grownBy w3 (some R) := gb_pick G2 g3
    have S3 := S2.grown g3 (by simp; omega)
    have T3 := T2.grown g3 (by simp; omega)
    have own3 := own2.kept g3 (.inr (by simp [Value.ownBlock]; omega))
    have P3 : Ops w3 g 0 xs := P2.grown g3 (by simp; omega)
    clear g3 G2 S2 T2 own2 P2 h2
    have t2 : t < len := by omega
    obtain ⟨⟨ka, na, ma⟩, hxt⟩ : ∃ x, xs[t]? = some x := ⟨_, List.getElem?_eq_getElem (by have hl : len = xs.length := HLn; omega)⟩
    have bx : -2000000000 ≤ na ∧ na ≤ 2000000000 := hbd _ (List.mem_of_getElem? hxt)
    obtain ⟨c0, c1, c2⟩ := P3 t _ hxt
    simp only [Nat.zero_add] at c0 c1 c2
    go_wp2_with fail
    refine (spoilt_r B R (p + 1 + 1) ka na ma _ h3 (by omega) bx.1 bx.2).mono ?_
    rintro e w4 ⟨⟨k', n', m', bn0', bn1', rfl⟩, ⟨q', hq', h4⟩, g4⟩
    have G4 : w.grownBy w4 (some R) := gb_pick G3 g4
    have S4 := S3.grown g4 (by simp; omega)
    have T4 := T3.grown g4 (by simp; omega)
    have own4 := own3.kept g4 (.inr (by simp [Value.ownBlock]; omega))
    have P4 : Ops w4 g 0 xs := P3.grown g4 (by simp; omega)
    clear g4 G3 S3 T3 own3 P3 h3 c0 c1 c2
    obtain ⟨c0, c1, c2⟩ := P4 t _ hxt
    simp only [Nat.zero_add] at c0 c1 c2
    have hlt4 : g < w4.heap.size := (own4.lt g rfl).2
    have F4 : ∀ j, w4.frozen? ⟨g, j, none⟩ = false := fun j => own4.frozenAt j
    have f0 : w4.frozen? ⟨g, t * 3, none⟩ = false := own4.frozenAt _
    have f1 : w4.frozen? ⟨g, t * 3 + 1, none⟩ = false := own4.frozenAt _
    have f2 : w4.frozen? ⟨g, t * 3 + 2, none⟩ = false := own4.frozenAt _
    go_wp2_with fail
    have h4' : Reader B (((w4.setCell ⟨g, t * 3, none⟩ (.int .i64 k')).setCell ⟨g, t * 3 + 1, none⟩ (.int .i64 n')).setCell ⟨g, t * 3 + 2, none⟩ (.int .i64 m')) R _ := ((h4.set g (t * 3) (.int .i64 k') (by omega)).set g (t * 3 + 1) (.int .i64 n') (by omega)).set g (t * 3 + 2) (.int .i64 m') (by omega)
    have G4' : w.grownBy (((w4.setCell ⟨g, t * 3, none⟩ (.int .i64 k')).setCell ⟨g, t * 3 + 1, none⟩ (.int .i64 n')).setCell ⟨g, t * 3 + 2, none⟩ (.int .i64 m')) (some R) := gb_put (gb_put (gb_put G4 (by omega)) (by omega)) (by omega)
    have S4' : E2 (((w4.setCell ⟨g, t * 3, none⟩ (.int .i64 k')).setCell ⟨g, t * 3 + 1, none⟩ (.int .i64 n')).setCell ⟨g, t * 3 + 2, none⟩ (.int .i64 m')) (w.heap.size + 1) (.int .i64 0) (.slice none 0 0) := ((S4.other g (t * 3) (by omega) _).other g (t * 3 + 1) (by omega) _).other g (t * 3 + 2) (by omega) _
    have T4' : E2 (((w4.setCell ⟨g, t * 3, none⟩ (.int .i64 k')).setCell ⟨g, t * 3 + 1, none⟩ (.int .i64 n')).setCell ⟨g, t * 3 + 2, none⟩ (.int .i64 m')) w.heap.size (.int .i64 op) (.slice (some ⟨b, o, none⟩) len cap) := ((T4.other g (t * 3) (by omega) _).other g (t * 3 + 1) (by omega) _).other g (t * 3 + 2) (by omega) _
    have F4' : ∀ j, (((w4.setCell ⟨g, t * 3, none⟩ (.int .i64 k')).setCell ⟨g, t * 3 + 1, none⟩ (.int .i64 n')).setCell ⟨g, t * 3 + 2, none⟩ (.int .i64 m')).frozen? ⟨g, j, none⟩ = false := fun j => by simpa using F4 j
    obtain ⟨ys, lys, bdys, P4'⟩ : ∃ zs : List Arg, Hid (len = zs.length) ∧ Bd zs ∧ Ops (((w4.setCell ⟨g, t * 3, none⟩ (.int .i64 k')).setCell ⟨g, t * 3 + 1, none⟩ (.int .i64 n')).setCell ⟨g, t * 3 + 2, none⟩ (.int .i64 m')) g 0 zs := ⟨xs.set t (k', n', m'), (by have hl : len = xs.length := HLn; show len = _; rw [List.length_set]; exact hl), hbd.set t _ _ _ (by omega) (by omega), (by have := P4.put3 (k := t) (by have hl : len = xs.length := HLn; omega) k' n' m'; simpa only [Nat.zero_add] using this)⟩
    refine (pick_r B R q' 2 _ h4' (by omega) (by omega) (by omega)).mono ?_
    rintro e w5 ⟨s, s1, rfl, h5, g5⟩
    have G5 : w.grownBy w5 (some R) := gb_pick G4' g5
    have S5 := S4'.grown g5 (by simp; omega)
    have T5 := T4'.grown g5 (by simp; omega)
    have P5 : Ops w5 g 0 ys := P4'.grown g5 (by simp; omega)
    have hlt5 : g < w5.heap.size := P5.lt (fun e => by have hl : len = ys.length := lys; rw [e] at hl; simp at hl; omega)
    have F5 : ∀ j, w5.frozen? ⟨g, j, none⟩ = false := fun j => (g5.frozen_far _ (by simp; omega) (by simp; omega)).trans (F4' j)
    clear g5 G4 S4 T4 own4 P4 h4 c0 c1 c2 f0 f1 f2 F4 h4' G4' S4' T4' P4' F4'
    by_cases hs : s = 0
    · subst hs
      go_wp2_with fail
      refine (any_r B R (q' + 1) _ h5 (by omega)).mono ?_
      rintro e w6 ⟨⟨k2, n2, m2, bn2, bn3, rfl⟩, ⟨q6, hq6, h6⟩, g6⟩
      have G6 : w.grownBy w6 (some R) := gb_pick G5 g6
      have S6 := S5.grown g6 (by simp; omega)
      have T6 := T5.grown g6 (by simp; omega)
      have P6 : Ops w6 g 0 ys := P5.grown g6 (by simp; omega)
      have F6 : ∀ j, w6.frozen? ⟨g, j, none⟩ = false := fun j => (g6.frozen_far _ (by simp; omega) (by simp; omega)).trans (F5 j)
      clear g6 G5 S5 T5 P5 F5 h5
      obtain ⟨⟨kb, nb, mb⟩, hyt⟩ : ∃ x, ys[t]? = some x := ⟨_, List.getElem?_eq_getElem (by have hl : len = ys.length := lys; omega)⟩
      obtain ⟨c0, c1, c2⟩ := P6 t _ hyt
      simp only [Nat.zero_add] at c0 c1 c2
      have f0 : w6.frozen? ⟨g, t * 3, none⟩ = false := F6 _
      have f1 : w6.frozen? ⟨g, t * 3 + 1, none⟩ = false := F6 _
      have f2 : w6.frozen? ⟨g, t * 3 + 2, none⟩ = false := F6 _
      have h6' : Reader B (((w6.setCell ⟨g, t * 3, none⟩ (.int .i64 k2)).setCell ⟨g, t * 3 + 1, none⟩ (.int .i64 n2)).setCell ⟨g, t * 3 + 2, none⟩ (.int .i64 m2)) R _ := ((h6.set g (t * 3) (.int .i64 k2) (by omega)).set g (t * 3 + 1) (.int .i64 n2) (by omega)).set g (t * 3 + 2) (.int .i64 m2) (by omega)
      have G6' : w.grownBy (((w6.setCell ⟨g, t * 3, none⟩ (.int .i64 k2)).setCell ⟨g, t * 3 + 1, none⟩ (.int .i64 n2)).setCell ⟨g, t * 3 + 2, none⟩ (.int .i64 m2)) (some R) := gb_put (gb_put (gb_put G6 (by omega)) (by omega)) (by omega)
      have S6' : E2 (((w6.setCell ⟨g, t * 3, none⟩ (.int .i64 k2)).setCell ⟨g, t * 3 + 1, none⟩ (.int .i64 n2)).setCell ⟨g, t * 3 + 2, none⟩ (.int .i64 m2)) (w.heap.size + 1) (.int .i64 0) (.slice none 0 0) := ((S6.other g (t * 3) (by omega) _).other g (t * 3 + 1) (by omega) _).other g (t * 3 + 2) (by omega) _
      have T6' : E2 (((w6.setCell ⟨g, t * 3, none⟩ (.int .i64 k2)).setCell ⟨g, t * 3 + 1, none⟩ (.int .i64 n2)).setCell ⟨g, t * 3 + 2, none⟩ (.int .i64 m2)) w.heap.size (.int .i64 op) (.slice (some ⟨b, o, none⟩) len cap) := ((T6.other g (t * 3) (by omega) _).other g (t * 3 + 1) (by omega) _).other g (t * 3 + 2) (by omega) _
      have F6' : ∀ j, (((w6.setCell ⟨g, t * 3, none⟩ (.int .i64 k2)).setCell ⟨g, t * 3 + 1, none⟩ (.int .i64 n2)).setCell ⟨g, t * 3 + 2, none⟩ (.int .i64 m2)).frozen? ⟨g, j, none⟩ = false := fun j => by simpa using F6 j
      obtain ⟨zs, lzs, bdzs, P6'⟩ : ∃ zs : List Arg, Hid (len = zs.length) ∧ Bd zs ∧ Ops (((w6.setCell ⟨g, t * 3, none⟩ (.int .i64 k2)).setCell ⟨g, t * 3 + 1, none⟩ (.int .i64 n2)).setCell ⟨g, t * 3 + 2, none⟩ (.int .i64 m2)) g 0 zs := ⟨ys.set t (k2, n2, m2), (by have hl : len = ys.length := lys; show len = _; rw [List.length_set]; exact hl), bdys.set t _ _ _ (by omega) (by omega), (by have := P6.put3 (k := t) (by have hl : len = ys.length := lys; omega) k2 n2 m2; simpa only [Nat.zero_add] using this)⟩
      clear F6 F6' P6 S6 T6 h6 G6
      obtain ⟨u1, u2, u3⟩ := elem_put (.int .i64 op) (.slice (some ⟨g, 0, none⟩) len cap1) S6' h6' G6' (by omega) (by omega)
      have PE := (P6'.other (w.heap.size + 1) 0 (by omega) (.int .i64 op)).other (w.heap.size + 1) 1 (by omega) (.slice (some ⟨g, 0, none⟩) len cap1)
      obtain ⟨s0, s1, s2, s3⟩ := S6'
      obtain ⟨d0, d1, _, _⟩ := T6'
      obtain ⟨q0, q1, _, _⟩ := u1
      go_wp2
      exact bodyPost_ret (v := .agg #[.int .i64 op, .slice (some ⟨g, 0, none⟩) len cap1]) (by simp [results, Tryz.results62, go_sem, q0, q1]) rfl ⟨⟨op, _, len, cap1, zs, rfl, by omega, by omega, lzs, hc1, by omega, bdzs, .inr ⟨_, _, rfl, by omega, PE⟩⟩, ⟨_, by omega, u2⟩, u3⟩
    · have hs' : ((s : Int) == 0) = false := by simp; omega
      obtain ⟨u1, u2, u3⟩ := elem_put (.int .i64 op) (.slice (some ⟨g, 0, none⟩) len cap1) S5 h5 G5 (by omega) (by omega)
      have PE := (P5.other (w.heap.size + 1) 0 (by omega) (.int .i64 op)).other (w.heap.size + 1) 1 (by omega) (.slice (some ⟨g, 0, none⟩) len cap1)
      obtain ⟨s0, s1, s2, s3⟩ := S5
      obtain ⟨d0, d1, _, _⟩ := T5
      obtain ⟨q0, q1, _, _⟩ := u1
      go_wp2
      exact bodyPost_ret (v := .agg #[.int .i64 op, .slice (some ⟨g, 0, none⟩) len cap1]) (by simp [results, Tryz.results62, go_sem, q0, q1]) rfl ⟨⟨op, _, len, cap1, ys, rfl, by omega, by omega, lys, hc1, by omega, bdys, .inr ⟨_, _, rfl, by omega, PE⟩⟩, ⟨_, by omega, u2⟩, u3⟩
end Go.Proofs.YtjbdcbamkdnjhaaGreatDoor

/- The draw that spoils, at no operand. -/
namespace Go.Proofs.YtjbdcbamkdnjhaaGreatDoor
open Go.RowKit
set_option linter.unusedVariables false

theorem stc0 (P : Program) (a : Addr) (w : World) : Sem.run P (storeCells a []) w = .ok () w := by simp [storeCells]
theorem ldc0 (P : Program) (a : Addr) (w : World) : Sem.run P (loadCells a 0) w = .ok #[] w := by rfl
theorem pur0 (P : Program) (a : Array Value) (w : World) : Sem.run P (pure a) w = .ok a w := rfl
attribute [local go_sem] stc0 ldc0 pur0

set_option maxRecDepth 10000 in
set_option maxHeartbeats 4000000 in
theorem spoil_r0 (B R p : Nat) (op : Int) (a0 : Option Addr) (cap L : Nat) (w : World) (h : Reader B w R p) (hp : p < 700000) (ho1 : -100 ≤ op) (ho2 : op ≤ 100) :
    Calls Tryz.prog 62 #[.pointer (some ⟨R, 0, none⟩), .agg #[.int .i64 op, .slice a0 0 cap]] w fun e w' => ElemL w.heap.size (L + 1) e w' ∧ (∃ q, q ≤ p + 30 ∧ Reader B w' R q) ∧ w.grownBy w' (some R) := by
  have hRB := h.1
  have hBw := h.2.1
  have hinfo : (Tryz.prog.info? 59).map (fun i => (i.zero, i.size, i.bytes)) = some (some (.agg #[.int .i64 0, .int .i64 0, .int .i64 0]), 3, 24) := by kernel_rfl
  obtain ⟨i0, hi, hzz⟩ := Option.map_eq_some_iff.1 hinfo
  simp only [Prod.mk.injEq] at hzz
  obtain ⟨hz0, hz1, hz2⟩ := hzz
  have S0 : E2 ((w.alloc (.cells #[.int .i64 op, .slice a0 0 cap] 25)).alloc (.cells #[.int .i64 0, .slice none 0 0] 25)) (w.heap.size + 1) (.int .i64 0) (.slice none 0 0) := by
    have := E2.fresh (w.alloc (.cells #[.int .i64 op, .slice a0 0 cap] 25)) (.int .i64 0) (.slice none 0 0) 25
    simpa using this
  have T0 : E2 ((w.alloc (.cells #[.int .i64 op, .slice a0 0 cap] 25)).alloc (.cells #[.int .i64 0, .slice none 0 0] 25)) w.heap.size (.int .i64 op) (.slice a0 0 cap) := (E2.fresh w _ _ 25).alloc _
  have hW : ((w.alloc (.cells #[.int .i64 op, .slice a0 0 cap] 25)).alloc (.cells #[.int .i64 0, .slice none 0 0] 25)).heap.size = w.heap.size + 1 + 1 := by simp
  have own0 : (((w.alloc (.cells #[.int .i64 op, .slice a0 0 cap] 25)).alloc (.cells #[.int .i64 0, .slice none 0 0] 25)).alloc (.cells #[] 59)).ownsRow (w.heap.size + 2) 59 3 (.slice (some ⟨w.heap.size + 1 + 1, 0, none⟩) 0 0) 0 [] := by
    have := World.ownsRow_made (base := w.heap.size + 2) (e := 59) (size := 3) ((w.alloc (.cells #[.int .i64 op, .slice a0 0 cap] 25)).alloc (.cells #[.int .i64 0, .slice none 0 0] 25)) #[] 0 (by rw [hW]; omega) (by unfold maxLen; omega) rfl
    rwa [hW] at this
  have h1 : Reader B (((w.alloc (.cells #[.int .i64 op, .slice a0 0 cap] 25)).alloc (.cells #[.int .i64 0, .slice none 0 0] 25)).alloc (.cells #[] 59)) R p := ((h.alloc _).alloc _).alloc _
  have G1 : w.grownBy (((w.alloc (.cells #[.int .i64 op, .slice a0 0 cap] 25)).alloc (.cells #[.int .i64 0, .slice none 0 0] 25)).alloc (.cells #[] 59)) (some R) := gb_alloc (gb_alloc (gb_alloc (gb_refl w (some R)) _) _) _
  have S1 : E2 (((w.alloc (.cells #[.int .i64 op, .slice a0 0 cap] 25)).alloc (.cells #[.int .i64 0, .slice none 0 0] 25)).alloc (.cells #[] 59)) (w.heap.size + 1) (.int .i64 0) (.slice none 0 0) := S0.alloc _
  have T1 : E2 (((w.alloc (.cells #[.int .i64 op, .slice a0 0 cap] 25)).alloc (.cells #[.int .i64 0, .slice none 0 0] 25)).alloc (.cells #[] 59)) w.heap.size (.int .i64 op) (.slice a0 0 cap) := T0.alloc _
  clear h S0 T0
  go_enter Tryz.func62, Tryz.ntmps62
  rcases a0 with _ | a0
  · go_wp2_with fail
    refine (pick_r B R p 6 _ h1 (by omega) (by omega) (by omega)).mono ?_
    rintro e w2 ⟨r, r1, rfl, h2, g2⟩
    have G2 : w.grownBy w2 (some R) := gb_pick G1 g2
    have S2 := S1.grown g2 (by simp; omega)
    have T2 := T1.grown g2 (by simp; omega)
    have own2 := own0.kept g2 (.inr (by simp [Value.ownBlock] <;> omega))
    clear g2 G1 S1 T1 own0 h1 hW
    have hlt2 : w.heap.size + 1 + 1 < w2.heap.size := (own2.lt _ rfl).2
    have hr : r = 0 ∨ r = 1 ∨ r = 2 ∨ r = 3 ∨ r = 4 ∨ r = 5 := by omega
    rcases hr with rfl | rfl | rfl | rfl | rfl | rfl
    · have hN := fun W (hW : Reader B W R (p + 1)) hx => num_r B R (p + 1) w2.heap.size [-1, 0, 1, 5, 11, 20, 21, 26, 37, 38] 10 W hW (by simp) (by simp) (by omega) (by omega) hx
      go_wp2_with fail
      refine (hN _ (h2.alloc _) (cells_row w2 [-1, 0, 1, 5, 11, 20, 21, 26, 37, 38] 3)).mono ?_
      rintro e w3 ⟨v, hv, rfl, h3, g3⟩
      have hv' : -100 ≤ v ∧ v ≤ 100 := by simp at hv; omega
      have G3 : w.grownBy w3 (some R) := gb_pick (gb_alloc G2 _) g3
      have S3 := (S2.alloc (.cells ([-1, 0, 1, 5, 11, 20, 21, 26, 37, 38].map (Value.int .i64)).toArray 3)).grown g3 (by simp; omega)
      clear g3 G2 S2 T2 own2 h2 hN hv
      obtain ⟨u1, u2, u3⟩ := elem_put (.int .i64 v) (.slice (some ⟨w.heap.size + 1 + 1, 0, none⟩) 0 0) S3 h3 G3 (by omega) (by omega)
      obtain ⟨c0, c1, f0, f1⟩ := S3
      obtain ⟨q0, q1, _, _⟩ := u1
      go_wp2
      exact bodyPost_ret (v := .agg #[.int .i64 v, .slice (some ⟨w.heap.size + 1 + 1, 0, none⟩) 0 0]) (by simp [results, Tryz.results62, go_sem, q0, q1]) rfl ⟨⟨v, _, 0, 0, [], rfl, by omega, by omega, rfl, by omega, by omega, (by intro x hx; cases hx), .inl rfl⟩, ⟨_, by omega, u2⟩, u3⟩
    · obtain ⟨d0, d1, _, _⟩ := id T2
      obtain ⟨s0, s1, s2, s3⟩ := id S2
      go_upto_region 6 with fail
      go_region_held3 (fun w' => w'.cell? ⟨w.heap.size, 0, none⟩ = some (.int .i64 op))
        (first | go_keep | exact d3 | (simpa using d3) | exact d4 | (simpa using d4))
        (first
          | (go_at_call 145; refine (any_r B R (p + 1) _ (by first | exact h2 | exact h2.drew) (by omega)).mono ?_; rintro e w3 ⟨⟨k2, n2, m2, bn2, bn3, rfl⟩, ⟨q3, hq3, h3⟩, g3⟩; have S3 : E2 w3 (w.heap.size + 1) _ _ := (by first | exact S2.grown g3 (by simp; omega) | exact (S2.grown (gb_drew (gb_refl _ none)) (by simp)).grown g3 (by simp; omega)); have T3 : E2 w3 w.heap.size _ _ := (by first | exact T2.grown g3 (by simp; omega) | exact (T2.grown (gb_drew (gb_refl _ none)) (by simp)).grown g3 (by simp; omega)); have own3 := (by first | exact own2.kept g3 (.inr (by simp [Value.ownBlock] <;> omega)) | exact own2.drew.kept g3 (.inr (by simp [Value.ownBlock] <;> omega)) : w3.ownsRow (w.heap.size + 2) 59 3 (.slice (some ⟨w.heap.size + 1 + 1, 0, none⟩) 0 0) 0 []); have G3 : w.grownBy w3 (some R) := (by first | exact gb_pick G2 g3 | exact gb_pick (gb_drew G2) g3); have d3 := T3.c0; have hlt3 : w.heap.size + 1 + 1 < w3.heap.size := (own3.lt _ rfl).2)
          | (refine step_append_lies _ (by rfl) (.tmp 24) (.tmp 27) 23 (by rfl) (w.heap.size + 2) 59 i0 (.agg #[.int .i64 0, .int .i64 0, .int .i64 0]) 3 24 Tryz.underlying23 hi hz0 hz1 hz2 (by rfl) (by decide) (.slice (some ⟨w.heap.size + 1 + 1, 0, none⟩) 0 0) 0 [] (by rfl) (own3.alloc _) ⟨w3.heap.size, 0, none⟩ 1 1 (vals [(k2, n2, m2)]) (by rfl) (by rfl) (vals_ops (ops1 w3 k2 n2 m2 59)) (vals_one _) (by omega) (by unfold maxLen; omega) (by omega) (by simp; omega) _ rfl ?_; intro g4 cap4 w4 own4 gg4 hat4 hlt4; have d4 : w4.cell? ⟨w.heap.size, 0, none⟩ = some (.int .i64 op) := ((T3.alloc _).grown gg4 (by simp [Value.ownBlock] <;> omega)).c0; have S4 : E2 w4 (w.heap.size + 1) _ _ := (S3.alloc _).grown gg4 (by simp [Value.ownBlock] <;> omega); have h4 := (h3.alloc _).kept gg4 (fun j hj => by simp [Value.ownBlock] at hj; omega); have G4 : w.grownBy w4 (some R) := gb_then (gb_alloc G3 _) gg4 (fun j hj => .inl (by simp [Value.ownBlock] at hj; omega)); obtain ⟨v0, v1, v2, v3⟩ := id S4)
          | fail)
      have hg4 : w.heap.size + 2 ≤ g4 := (own4.lt g4 rfl).1
      have hc4 := own_cap own4
      have P4 : Ops w4 g4 0 [(k2, n2, m2)] := ops_vals (own4.cells rfl)
      have bd4 : Bd [(k2, n2, m2)] := (by intro x hx; simp at hx; subst hx; exact ⟨bn2, bn3⟩)
      obtain ⟨u1, u2, u3⟩ := elem_put (.int .i64 op) (.slice (some ⟨g4, 0, none⟩) 1 cap4) S4 h4 G4 (by omega) (by omega)
      have PE := (P4.other (w.heap.size + 1) 0 (by omega) (.int .i64 op)).other (w.heap.size + 1) 1 (by omega) (.slice (some ⟨g4, 0, none⟩) 1 cap4)
      obtain ⟨q0, q1, _, _⟩ := u1
      clear own4 own3 gg4 hat4 P4
      go_wp2
      exact bodyPost_ret (v := .agg #[.int .i64 op, .slice (some ⟨g4, 0, none⟩) 1 cap4]) (by simp [results, Tryz.results62, go_sem, q0, q1]) rfl ⟨⟨op, _, 1, cap4, [(k2, n2, m2)], rfl, by omega, by omega, rfl, hc4, by omega, bd4, .inr ⟨_, _, rfl, by omega, PE⟩⟩, ⟨_, by omega, u2⟩, u3⟩
    · obtain ⟨u1, u2, u3⟩ := elem_put (.int .i64 op) (.slice none 0 0) S2 h2 G2 (by omega) (by omega)
      obtain ⟨c0, c1, f0, f1⟩ := S2
      obtain ⟨d0, d1, _, _⟩ := T2
      obtain ⟨q0, q1, _, _⟩ := u1
      go_wp2
      exact bodyPost_ret (v := .agg #[.int .i64 op, .slice none 0 0]) (by simp [results, Tryz.results62, go_sem, q0, q1]) rfl ⟨⟨op, _, 0, 0, [], rfl, by omega, by omega, rfl, by omega, by omega, (by intro x hx; cases hx), .inl rfl⟩, ⟨_, by omega, u2⟩, u3⟩
    · obtain ⟨u1, u2, u3⟩ := elem_put (.int .i64 op) (.slice (some ⟨w.heap.size + 1 + 1, 0, none⟩) 0 0) S2 h2 G2 (by omega) (by omega)
      obtain ⟨c0, c1, f0, f1⟩ := S2
      obtain ⟨d0, d1, _, _⟩ := T2
      obtain ⟨q0, q1, _, _⟩ := u1
      go_wp2
      exact bodyPost_ret (v := .agg #[.int .i64 op, .slice (some ⟨w.heap.size + 1 + 1, 0, none⟩) 0 0]) (by simp [results, Tryz.results62, go_sem, q0, q1]) rfl ⟨⟨op, _, 0, 0, [], rfl, by omega, by omega, rfl, by omega, by omega, (by intro x hx; cases hx), .inl rfl⟩, ⟨_, by omega, u2⟩, u3⟩
    · obtain ⟨u1, u2, u3⟩ := elem_put (.int .i64 op) (.slice (some ⟨w.heap.size + 1 + 1, 0, none⟩) 0 0) S2 h2 G2 (by omega) (by omega)
      obtain ⟨c0, c1, f0, f1⟩ := S2
      obtain ⟨d0, d1, _, _⟩ := T2
      obtain ⟨q0, q1, _, _⟩ := u1
      go_wp2
      exact bodyPost_ret (v := .agg #[.int .i64 op, .slice (some ⟨w.heap.size + 1 + 1, 0, none⟩) 0 0]) (by simp [results, Tryz.results62, go_sem, q0, q1]) rfl ⟨⟨op, _, 0, 0, [], rfl, by omega, by omega, rfl, by omega, by omega, (by intro x hx; cases hx), .inl rfl⟩, ⟨_, by omega, u2⟩, u3⟩
    · obtain ⟨u1, u2, u3⟩ := elem_put (.int .i64 op) (.slice (some ⟨w.heap.size + 1 + 1, 0, none⟩) 0 0) S2 h2 G2 (by omega) (by omega)
      obtain ⟨c0, c1, f0, f1⟩ := S2
      obtain ⟨d0, d1, _, _⟩ := T2
      obtain ⟨q0, q1, _, _⟩ := u1
      go_wp2
      exact bodyPost_ret (v := .agg #[.int .i64 op, .slice (some ⟨w.heap.size + 1 + 1, 0, none⟩) 0 0]) (by simp [results, Tryz.results62, go_sem, q0, q1]) rfl ⟨⟨op, _, 0, 0, [], rfl, by omega, by omega, rfl, by omega, by omega, (by intro x hx; cases hx), .inl rfl⟩, ⟨_, by omega, u2⟩, u3⟩
  · go_wp2_with fail
    refine (pick_r B R p 6 _ h1 (by omega) (by omega) (by omega)).mono ?_
    rintro e w2 ⟨r, r1, rfl, h2, g2⟩
    have G2 : w.grownBy w2 (some R) := gb_pick G1 g2
    have S2 := S1.grown g2 (by simp; omega)
    have T2 := T1.grown g2 (by simp; omega)
    have own2 := own0.kept g2 (.inr (by simp [Value.ownBlock] <;> omega))
    clear g2 G1 S1 T1 own0 h1 hW
    have hlt2 : w.heap.size + 1 + 1 < w2.heap.size := (own2.lt _ rfl).2
    have hr : r = 0 ∨ r = 1 ∨ r = 2 ∨ r = 3 ∨ r = 4 ∨ r = 5 := by omega
    rcases hr with rfl | rfl | rfl | rfl | rfl | rfl
    · have hN := fun W (hW : Reader B W R (p + 1)) hx => num_r B R (p + 1) w2.heap.size [-1, 0, 1, 5, 11, 20, 21, 26, 37, 38] 10 W hW (by simp) (by simp) (by omega) (by omega) hx
      go_wp2_with fail
      refine (hN _ (h2.alloc _) (cells_row w2 [-1, 0, 1, 5, 11, 20, 21, 26, 37, 38] 3)).mono ?_
      rintro e w3 ⟨v, hv, rfl, h3, g3⟩
      have hv' : -100 ≤ v ∧ v ≤ 100 := by simp at hv; omega
      have G3 : w.grownBy w3 (some R) := gb_pick (gb_alloc G2 _) g3
      have S3 := (S2.alloc (.cells ([-1, 0, 1, 5, 11, 20, 21, 26, 37, 38].map (Value.int .i64)).toArray 3)).grown g3 (by simp; omega)
      clear g3 G2 S2 T2 own2 h2 hN hv
      obtain ⟨u1, u2, u3⟩ := elem_put (.int .i64 v) (.slice (some ⟨w.heap.size + 1 + 1, 0, none⟩) 0 0) S3 h3 G3 (by omega) (by omega)
      obtain ⟨c0, c1, f0, f1⟩ := S3
      obtain ⟨q0, q1, _, _⟩ := u1
      go_wp2
      exact bodyPost_ret (v := .agg #[.int .i64 v, .slice (some ⟨w.heap.size + 1 + 1, 0, none⟩) 0 0]) (by simp [results, Tryz.results62, go_sem, q0, q1]) rfl ⟨⟨v, _, 0, 0, [], rfl, by omega, by omega, rfl, by omega, by omega, (by intro x hx; cases hx), .inl rfl⟩, ⟨_, by omega, u2⟩, u3⟩
    · obtain ⟨d0, d1, _, _⟩ := id T2
      obtain ⟨s0, s1, s2, s3⟩ := id S2
      go_upto_region 6 with fail
      go_region_held3 (fun w' => w'.cell? ⟨w.heap.size, 0, none⟩ = some (.int .i64 op))
        (first | go_keep | exact d3 | (simpa using d3) | exact d4 | (simpa using d4))
        (first
          | (go_at_call 145; refine (any_r B R (p + 1) _ (by first | exact h2 | exact h2.drew) (by omega)).mono ?_; rintro e w3 ⟨⟨k2, n2, m2, bn2, bn3, rfl⟩, ⟨q3, hq3, h3⟩, g3⟩; have S3 : E2 w3 (w.heap.size + 1) _ _ := (by first | exact S2.grown g3 (by simp; omega) | exact (S2.grown (gb_drew (gb_refl _ none)) (by simp)).grown g3 (by simp; omega)); have T3 : E2 w3 w.heap.size _ _ := (by first | exact T2.grown g3 (by simp; omega) | exact (T2.grown (gb_drew (gb_refl _ none)) (by simp)).grown g3 (by simp; omega)); have own3 := (by first | exact own2.kept g3 (.inr (by simp [Value.ownBlock] <;> omega)) | exact own2.drew.kept g3 (.inr (by simp [Value.ownBlock] <;> omega)) : w3.ownsRow (w.heap.size + 2) 59 3 (.slice (some ⟨w.heap.size + 1 + 1, 0, none⟩) 0 0) 0 []); have G3 : w.grownBy w3 (some R) := (by first | exact gb_pick G2 g3 | exact gb_pick (gb_drew G2) g3); have d3 := T3.c0; have hlt3 : w.heap.size + 1 + 1 < w3.heap.size := (own3.lt _ rfl).2)
          | (refine step_append_lies _ (by rfl) (.tmp 24) (.tmp 27) 23 (by rfl) (w.heap.size + 2) 59 i0 (.agg #[.int .i64 0, .int .i64 0, .int .i64 0]) 3 24 Tryz.underlying23 hi hz0 hz1 hz2 (by rfl) (by decide) (.slice (some ⟨w.heap.size + 1 + 1, 0, none⟩) 0 0) 0 [] (by rfl) (own3.alloc _) ⟨w3.heap.size, 0, none⟩ 1 1 (vals [(k2, n2, m2)]) (by rfl) (by rfl) (vals_ops (ops1 w3 k2 n2 m2 59)) (vals_one _) (by omega) (by unfold maxLen; omega) (by omega) (by simp; omega) _ rfl ?_; intro g4 cap4 w4 own4 gg4 hat4 hlt4; have d4 : w4.cell? ⟨w.heap.size, 0, none⟩ = some (.int .i64 op) := ((T3.alloc _).grown gg4 (by simp [Value.ownBlock] <;> omega)).c0; have S4 : E2 w4 (w.heap.size + 1) _ _ := (S3.alloc _).grown gg4 (by simp [Value.ownBlock] <;> omega); have h4 := (h3.alloc _).kept gg4 (fun j hj => by simp [Value.ownBlock] at hj; omega); have G4 : w.grownBy w4 (some R) := gb_then (gb_alloc G3 _) gg4 (fun j hj => .inl (by simp [Value.ownBlock] at hj; omega)); obtain ⟨v0, v1, v2, v3⟩ := id S4)
          | fail)
      have hg4 : w.heap.size + 2 ≤ g4 := (own4.lt g4 rfl).1
      have hc4 := own_cap own4
      have P4 : Ops w4 g4 0 [(k2, n2, m2)] := ops_vals (own4.cells rfl)
      have bd4 : Bd [(k2, n2, m2)] := (by intro x hx; simp at hx; subst hx; exact ⟨bn2, bn3⟩)
      obtain ⟨u1, u2, u3⟩ := elem_put (.int .i64 op) (.slice (some ⟨g4, 0, none⟩) 1 cap4) S4 h4 G4 (by omega) (by omega)
      have PE := (P4.other (w.heap.size + 1) 0 (by omega) (.int .i64 op)).other (w.heap.size + 1) 1 (by omega) (.slice (some ⟨g4, 0, none⟩) 1 cap4)
      obtain ⟨q0, q1, _, _⟩ := u1
      clear own4 own3 gg4 hat4 P4
      go_wp2
      exact bodyPost_ret (v := .agg #[.int .i64 op, .slice (some ⟨g4, 0, none⟩) 1 cap4]) (by simp [results, Tryz.results62, go_sem, q0, q1]) rfl ⟨⟨op, _, 1, cap4, [(k2, n2, m2)], rfl, by omega, by omega, rfl, hc4, by omega, bd4, .inr ⟨_, _, rfl, by omega, PE⟩⟩, ⟨_, by omega, u2⟩, u3⟩
    · obtain ⟨u1, u2, u3⟩ := elem_put (.int .i64 op) (.slice none 0 0) S2 h2 G2 (by omega) (by omega)
      obtain ⟨c0, c1, f0, f1⟩ := S2
      obtain ⟨d0, d1, _, _⟩ := T2
      obtain ⟨q0, q1, _, _⟩ := u1
      go_wp2
      exact bodyPost_ret (v := .agg #[.int .i64 op, .slice none 0 0]) (by simp [results, Tryz.results62, go_sem, q0, q1]) rfl ⟨⟨op, _, 0, 0, [], rfl, by omega, by omega, rfl, by omega, by omega, (by intro x hx; cases hx), .inl rfl⟩, ⟨_, by omega, u2⟩, u3⟩
    · obtain ⟨u1, u2, u3⟩ := elem_put (.int .i64 op) (.slice (some ⟨w.heap.size + 1 + 1, 0, none⟩) 0 0) S2 h2 G2 (by omega) (by omega)
      obtain ⟨c0, c1, f0, f1⟩ := S2
      obtain ⟨d0, d1, _, _⟩ := T2
      obtain ⟨q0, q1, _, _⟩ := u1
      go_wp2
      exact bodyPost_ret (v := .agg #[.int .i64 op, .slice (some ⟨w.heap.size + 1 + 1, 0, none⟩) 0 0]) (by simp [results, Tryz.results62, go_sem, q0, q1]) rfl ⟨⟨op, _, 0, 0, [], rfl, by omega, by omega, rfl, by omega, by omega, (by intro x hx; cases hx), .inl rfl⟩, ⟨_, by omega, u2⟩, u3⟩
    · obtain ⟨u1, u2, u3⟩ := elem_put (.int .i64 op) (.slice (some ⟨w.heap.size + 1 + 1, 0, none⟩) 0 0) S2 h2 G2 (by omega) (by omega)
      obtain ⟨c0, c1, f0, f1⟩ := S2
      obtain ⟨d0, d1, _, _⟩ := T2
      obtain ⟨q0, q1, _, _⟩ := u1
      go_wp2
      exact bodyPost_ret (v := .agg #[.int .i64 op, .slice (some ⟨w.heap.size + 1 + 1, 0, none⟩) 0 0]) (by simp [results, Tryz.results62, go_sem, q0, q1]) rfl ⟨⟨op, _, 0, 0, [], rfl, by omega, by omega, rfl, by omega, by omega, (by intro x hx; cases hx), .inl rfl⟩, ⟨_, by omega, u2⟩, u3⟩
    · obtain ⟨u1, u2, u3⟩ := elem_put (.int .i64 op) (.slice (some ⟨w.heap.size + 1 + 1, 0, none⟩) 0 0) S2 h2 G2 (by omega) (by omega)
      obtain ⟨c0, c1, f0, f1⟩ := S2
      obtain ⟨d0, d1, _, _⟩ := T2
      obtain ⟨q0, q1, _, _⟩ := u1
      go_wp2
      exact bodyPost_ret (v := .agg #[.int .i64 op, .slice (some ⟨w.heap.size + 1 + 1, 0, none⟩) 0 0]) (by simp [results, Tryz.results62, go_sem, q0, q1]) rfl ⟨⟨op, _, 0, 0, [], rfl, by omega, by omega, rfl, by omega, by omega, (by intro x hx; cases hx), .inl rfl⟩, ⟨_, by omega, u2⟩, u3⟩
end Go.Proofs.YtjbdcbamkdnjhaaGreatDoor

/- Spoiling whatever is drawn; a contact or coil, one in 16 spoilt. -/
namespace Go.Proofs.YtjbdcbamkdnjhaaGreatDoor
open Go.RowKit
set_option linter.unusedVariables false

theorem spoil_e (B R p : Nat) (op : Int) (a : Option Addr) (len cap L H : Nat) (xs : List Arg) (w : World) (h : Reader B w R p) (hp : p < 700000) (hlen : Hid (len = xs.length)) (hL : len ≤ L) (hL9 : L ≤ 9) (hcap : len ≤ cap) (ho1 : -100 ≤ op) (ho2 : op ≤ 100) (hbd : Bd xs) (hO : Own w H a xs) :
    Calls Tryz.prog 62 #[.pointer (some ⟨R, 0, none⟩), .agg #[.int .i64 op, .slice a len cap]] w fun e w' => ElemL w.heap.size (L + 1) e w' ∧ (∃ q, q ≤ p + 30 ∧ Reader B w' R q) ∧ w.grownBy w' (some R) := by
  have hl : len = xs.length := hlen
  by_cases h0 : xs = []
  · subst h0
    simp at hl
    subst hl
    exact spoil_r0 B R p op a cap L w h hp ho1 ho2
  · rcases hO with e | ⟨b, o, rfl, _, hx⟩
    · exact absurd e h0
    · have : 1 ≤ xs.length := by cases xs with
        | nil => exact absurd rfl h0
        | cons => simp
      exact spoil_r B R p op b o len cap L xs w h hp hl (by omega) hL hL9 hcap ho1 ho2 hbd hx
theorem own_put {w : World} {b : Nat} {a : Option Addr} {xs : List Arg} (u v : Value) (h : Own w (b + 1) a xs) : Own ((w.setCell ⟨b, 0, none⟩ u).setCell ⟨b, 1, none⟩ v) b a xs := by
  rcases h with h | ⟨c, o, h1, h2, h3⟩
  · exact .inl h
  · exact .inr ⟨c, o, h1, by omega, (h3.other b 0 (by omega) u).other b 1 (by omega) v⟩
theorem own_put2 {w : World} {b H H' : Nat} {a : Option Addr} {xs : List Arg} (u v : Value) (h : Own w H a xs) (hb : b < H) (hH : H' ≤ H) : Own ((w.setCell ⟨b, 0, none⟩ u).setCell ⟨b, 1, none⟩ v) H' a xs := by
  rcases h with h | ⟨c, o, h1, h2, h3⟩
  · exact .inl h
  · exact .inr ⟨c, o, h1, by omega, (h3.other b 0 (by omega) u).other b 1 (by omega) v⟩
theorem Own.other {w : World} {H b o : Nat} {a : Option Addr} {xs : List Arg} (h : Own w H a xs) (hb : ∀ c o', a = some ⟨c, o', none⟩ → b ≠ c) (u : Value) : Own (w.setCell ⟨b, o, none⟩ u) H a xs := by
  rcases h with h | ⟨c, o', h1, h2, h3⟩
  · exact .inl h
  · exact .inr ⟨c, o', h1, h2, h3.other b o (hb c o' h1) u⟩

set_option maxRecDepth 10000 in
set_option maxHeartbeats 4000000 in
theorem any4_r (B R p : Nat) (w : World) (h : Reader B w R p) (hp : p < 600000) :
    Calls Tryz.prog 35 #[.pointer (some ⟨R, 0, none⟩)] w fun e w' => ElemL w.heap.size 5 e w' ∧ (∃ q, q ≤ p + 200 ∧ Reader B w' R q) ∧ w.grownBy w' (some R) := by
  have hRB := h.1
  have hBw := h.2.1
  have S0 := E2.fresh w (.int .i64 0) (.slice none 0 0) 25
  go_enter Tryz.func35, Tryz.ntmps35
  go_wp2_with fail
  refine (coil_r B R p _ (h.alloc _) (by omega)).mono ?_
  rintro e w1 ⟨⟨op, a, len, cap, xs, rfl, o1, o2, l1, c1, L1, bd1, O1⟩, ⟨q1, hq1, h1⟩, g1⟩
  have G1 : w.grownBy w1 (some R) := gb_pick (gb_alloc (gb_refl _ _) _) g1
  have S1 := S0.grown g1 (by simp; omega)
  have lt1 := S1.lt
  have O1 := O1.mono (H' := w.heap.size + 1) (by simp)
  have hl1 : Hid (len = xs.length) := l1
  clear g1 h S0 l1
  go_wp2_with fail
  refine (pick_r B R q1 2 _ (h1.alloc _) (by omega) (by omega) (by omega)).mono ?_
  rintro e w2 ⟨t, t1, rfl, h2, g2⟩
  have G2 : w.grownBy w2 (some R) := gb_pick (gb_alloc G1 _) g2
  have S2 := (S1.alloc _).grown g2 (by simp; omega)
  have A2 := (E2.fresh w1 (.int .i64 op) (.slice a len cap) 25).grown g2 (by simp; omega)
  have O2 := (O1.grown (World.grownBy_alloc w1 (.cells #[.int .i64 op, .slice a len cap] 25) (some R)) (by omega)).grown g2 (by omega)
  have lt2 := A2.lt
  clear g2 G1 S1 O1 h1
  by_cases ht : t = 0
  · subst ht
    have A2' := A2
    obtain ⟨a0, a1, a2, a3⟩ := A2'
    go_wp2_with fail
    refine (contact_r B R (q1 + 1) _ h2 (by omega)).mono ?_
    rintro e w3 ⟨⟨op2, b2, len2, cap2, ys, rfl, o21, o22, l2, c2, L2, bd2, O3⟩, ⟨q3, hq3, h3⟩, g3⟩
    have G3 : w.grownBy w3 (some R) := gb_pick G2 g3
    have S3 := S2.grown g3 (by simp; omega)
    have A3' := A2.grown g3 (by simp; omega)
    have hl2 : Hid (len2 = ys.length) := l2
    clear g3 G2 S2 A2 O2 h2 l2 a0 a1 a2 a3 hl1 bd1 c1 L1 o1 o2
    have A4 := A3'.put (.int .i64 op2) (.slice b2 len2 cap2)
    have S4 := (S3.other w1.heap.size 0 (by omega) (.int .i64 op2)).other w1.heap.size 1 (by omega) (.slice b2 len2 cap2)
    have h4 := (h3.set w1.heap.size 0 (.int .i64 op2) (by omega)).set w1.heap.size 1 (.slice b2 len2 cap2) (by omega)
    have G4 : w.grownBy ((w3.setCell ⟨w1.heap.size, 0, none⟩ (.int .i64 op2)).setCell ⟨w1.heap.size, 1, none⟩ (.slice b2 len2 cap2)) (some R) := gb_put (gb_put G3 (by omega)) (by omega)
    have O4 : Own ((w3.setCell ⟨w1.heap.size, 0, none⟩ (.int .i64 op2)).setCell ⟨w1.heap.size, 1, none⟩ (.slice b2 len2 cap2)) (w.heap.size + 1) b2 ys := own_put2 (.int .i64 op2) (.slice b2 len2 cap2) O3 lt2 (by omega)
    obtain ⟨a0, a1, a2, a3⟩ := A3'
    go_wp2_with fail
    refine (pick_r B R _ 16 _ h4 (by omega) (by omega) (by omega)).mono ?_
    rintro e w5 ⟨s, s1, rfl, h5, g5⟩
    have G5 : w.grownBy w5 (some R) := gb_pick G4 g5
    have S5 := S4.grown g5 (by simp; omega)
    have A5 := A4.grown g5 (by simp; omega)
    have O5 := O4.grown g5 (by omega)
    clear g5 G4 S4 A4 O4 h4
    by_cases hs : s = 0
    · subst hs
      obtain ⟨a0, a1, a2, a3⟩ := id A5
      go_wp2_with fail
      refine (spoil_e B R _ op2 b2 len2 cap2 4 (w.heap.size + 1) ys _ h5 (by omega) hl2 (by omega) (by omega) c2 (by omega) (by omega) bd2 O5).mono ?_
      rintro e w6 ⟨⟨op3, b3, len3, cap3, zs, rfl, o31, o32, l3, c3, L3, bd3, O6⟩, ⟨q6, hq6, h6⟩, g6⟩
      have G6 : w.grownBy w6 (some R) := gb_pick G5 g6
      have lt5 := S5.lt
      have S6 := S5.grown g6 (by simp; omega)
      have O6 := O6.mono (H' := w.heap.size + 1) (by omega)
      have hl3 : Hid (len3 = zs.length) := l3
      clear l3 g6 G5 S5 A5 O5 h5 a0 a1 a2 a3
      obtain ⟨u1, u2, u3⟩ := elem_put (.int .i64 op3) (.slice b3 len3 cap3) S6 h6 G6 hBw (Nat.le_refl _)
      have OE := own_put (.int .i64 op3) (.slice b3 len3 cap3) O6
      obtain ⟨s0, s1, s2, s3⟩ := S6
      obtain ⟨q0, q1, _, _⟩ := u1
      go_wp2
      exact bodyPost_ret (v := .agg #[.int .i64 op3, .slice b3 len3 cap3]) (by simp [results, Tryz.results35, go_sem, q0, q1]) rfl ⟨⟨op3, _, len3, cap3, zs, rfl, by omega, by omega, hl3, c3, by omega, bd3, OE⟩, ⟨_, by omega, u2⟩, u3⟩
    · have hs' : ((s : Int) == 0) = false := by simp; omega
      obtain ⟨a0, a1, a2, a3⟩ := id A5
      obtain ⟨u1, u2, u3⟩ := elem_put (.int .i64 op2) (.slice b2 len2 cap2) S5 h5 G5 hBw (Nat.le_refl _)
      have OE := own_put (.int .i64 op2) (.slice b2 len2 cap2) O5
      obtain ⟨s0, s1, s2, s3⟩ := S5
      obtain ⟨q0, q1, _, _⟩ := u1
      go_wp2
      exact bodyPost_ret (v := .agg #[.int .i64 op2, .slice b2 len2 cap2]) (by simp [results, Tryz.results35, go_sem, q0, q1]) rfl ⟨⟨op2, _, len2, cap2, ys, rfl, by omega, by omega, hl2, c2, by omega, bd2, OE⟩, ⟨_, by omega, u2⟩, u3⟩
  · have ht' : ((t : Int) == 0) = false := by simp; omega
    go_wp2_with fail
    refine (pick_r B R _ 16 _ h2 (by omega) (by omega) (by omega)).mono ?_
    rintro e w3 ⟨s, s1, rfl, h3, g3⟩
    have G3 : w.grownBy w3 (some R) := gb_pick G2 g3
    have S3 := S2.grown g3 (by simp; omega)
    have A3 := A2.grown g3 (by simp; omega)
    have O3 := O2.grown g3 (by omega)
    clear g3 G2 S2 A2 O2 h2
    by_cases hs : s = 0
    · subst hs
      obtain ⟨a0, a1, a2, a3⟩ := id A3
      go_wp2_with fail
      refine (spoil_e B R _ op a len cap 4 (w.heap.size + 1) xs _ h3 (by omega) hl1 (by omega) (by omega) c1 (by omega) (by omega) bd1 O3).mono ?_
      rintro e w4 ⟨⟨op3, b3, len3, cap3, zs, rfl, o31, o32, l3, c3, L3, bd3, O4⟩, ⟨q4, hq4, h4⟩, g4⟩
      have G4 : w.grownBy w4 (some R) := gb_pick G3 g4
      have lt3 := S3.lt
      have S4 := S3.grown g4 (by simp; omega)
      have O4 := O4.mono (H' := w.heap.size + 1) (by omega)
      have hl3 : Hid (len3 = zs.length) := l3
      clear l3 g4 G3 S3 A3 O3 h3 a0 a1 a2 a3
      obtain ⟨u1, u2, u3⟩ := elem_put (.int .i64 op3) (.slice b3 len3 cap3) S4 h4 G4 hBw (Nat.le_refl _)
      have OE := own_put (.int .i64 op3) (.slice b3 len3 cap3) O4
      obtain ⟨s0, s1, s2, s3⟩ := S4
      obtain ⟨q0, q1, _, _⟩ := u1
      go_wp2
      exact bodyPost_ret (v := .agg #[.int .i64 op3, .slice b3 len3 cap3]) (by simp [results, Tryz.results35, go_sem, q0, q1]) rfl ⟨⟨op3, _, len3, cap3, zs, rfl, by omega, by omega, hl3, c3, by omega, bd3, OE⟩, ⟨_, by omega, u2⟩, u3⟩
    · have hs' : ((s : Int) == 0) = false := by simp; omega
      obtain ⟨a0, a1, a2, a3⟩ := id A3
      obtain ⟨u1, u2, u3⟩ := elem_put (.int .i64 op) (.slice a len cap) S3 h3 G3 hBw (Nat.le_refl _)
      have OE := own_put (.int .i64 op) (.slice a len cap) O3
      obtain ⟨s0, s1, s2, s3⟩ := S3
      obtain ⟨q0, q1, _, _⟩ := u1
      go_wp2
      exact bodyPost_ret (v := .agg #[.int .i64 op, .slice a len cap]) (by simp [results, Tryz.results35, go_sem, q0, q1]) rfl ⟨⟨op, _, len, cap, xs, rfl, by omega, by omega, hl1, c1, by omega, bd1, OE⟩, ⟨_, by omega, u2⟩, u3⟩
end Go.Proofs.YtjbdcbamkdnjhaaGreatDoor

/- Draws: a contact or coil; the text of one, spoilt or not. -/
namespace Go.Proofs.YtjbdcbamkdnjhaaGreatDoor
open Go.RowKit
set_option linter.unusedVariables false

set_option maxHeartbeats 2000000 in
theorem drawtext_r {a : Option Addr} {len cap blk off : Nat} {z : Nat → Int} (w : World) (h : Code0 w a len cap blk off z) :
    Calls Tryz.prog 8 #[.slice a len cap] w fun e w' => ElemL w.heap.size 5 e w' ∧ Below w.heap.size w w' := by
  go_enter Tryz.func8, Tryz.ntmps8
  go_wp2_with fail
  refine ((h.later ((Below.refl _ _).alloc (Nat.le_refl _) _)).open).mono ?_
  rintro e w1 ⟨rfl, h1, g1⟩
  simp only [World.size_alloc] at h1 g1 ⊢
  have S1 : E2 w1 w.heap.size (.int .i64 0) (.slice none 0 0) := (E2.fresh w (.int .i64 0) (.slice none 0 0) 25).later (by simpa using g1)
  have b1 : Below w.heap.size w w1 := ((Below.refl _ _).alloc (Nat.le_refl _) _).trans (g1.mono (by omega))
  clear g1
  have hRB := h1.1
  have hB1 := h1.2.1
  go_wp2_with fail
  refine (any4_r _ _ 0 _ h1 (by omega)).mono ?_
  rintro e w2 ⟨⟨op, a2, len2, cap2, xs, rfl, o1, o2, l1, c1, L1, bd1, O2⟩, ⟨q, hq, h2⟩, g2⟩
  have S2 := S1.grown g2 (by simp)
  have b2 : Below w.heap.size w w2 := b1.grown g2 (by omega) (fun j hj => by cases hj; omega)
  have O2 := O2.mono (H' := w.heap.size + 1) (by omega)
  have hl1 : Hid (len2 = xs.length) := l1
  clear g2 S1 h1 b1 l1 h2
  have u1 := S2.put (.int .i64 op) (.slice a2 len2 cap2)
  have OE := own_put (.int .i64 op) (.slice a2 len2 cap2) O2
  have BP : Hid (Below w.heap.size w ((w2.setCell ⟨w.heap.size, 0, none⟩ (.int .i64 op)).setCell ⟨w.heap.size, 1, none⟩ (.slice a2 len2 cap2))) := (b2.setCell (Nat.le_refl _) _).setCell (Nat.le_refl _) _
  obtain ⟨s0, s1, s2, s3⟩ := S2
  obtain ⟨q0, q1, _, _⟩ := u1
  go_wp2
  exact bodyPost_ret (v := .agg #[.int .i64 op, .slice a2 len2 cap2]) (by simp [results, Tryz.results8, go_sem, q0, q1]) rfl ⟨⟨op, _, len2, cap2, xs, rfl, by omega, by omega, hl1, c1, by omega, bd1, OE⟩, BP.out⟩

def texts43 : List ByteArray := [⟨#[]⟩, ⟨#[47]⟩, ⟨#[43, 88, 48]⟩, ⟨#[45, 88, 48]⟩, ⟨#[43, 88, 48, 58, 88, 49]⟩, ⟨#[47, 47, 88, 48]⟩, ⟨#[88, 48, 58, 69, 49]⟩, ⟨#[68, 49]⟩, ⟨#[69, 49]⟩, ⟨#[68, 49, 60, 82, 49]⟩, ⟨#[68, 49, 60, 68, 50, 60, 68, 51]⟩, ⟨#[68, 49, 61, 61, 68, 50]⟩, ⟨#[68, 49, 61, 60, 68, 50]⟩, ⟨#[68, 49, 62, 60, 68, 50]⟩, ⟨#[68, 49, 60]⟩, ⟨#[60, 68, 49]⟩, ⟨#[111, 117, 116, 58, 88, 48]⟩, ⟨#[111, 117, 116, 58]⟩, ⟨#[111, 117, 116]⟩, ⟨#[111, 117, 116, 58, 89, 48, 44, 89, 49]⟩, ⟨#[111, 117, 116, 58, 89, 48, 44]⟩, ⟨#[115, 101, 116, 58, 84, 49]⟩, ⟨#[116, 105, 109, 101, 114, 58, 84, 49, 44, 45, 49]⟩, ⟨#[116, 105, 109, 101, 114, 58, 84, 49]⟩, ⟨#[97, 100, 100, 58, 68, 49, 44, 68, 50]⟩, ⟨#[97, 100, 100, 58, 68, 49, 44, 68, 50, 44, 68, 51, 44, 68, 52]⟩, ⟨#[97, 100, 100, 58, 82, 49, 44, 68, 50, 44, 68, 51]⟩, ⟨#[114, 101, 109, 58, 82, 49, 44, 82, 50, 44, 82, 51]⟩, ⟨#[109, 111, 118, 101, 58, 88, 48, 44, 49]⟩, ⟨#[114, 101, 97, 108, 58, 82, 48, 44, 49, 46, 48]⟩, ⟨#[119, 104, 111, 108, 101, 58, 68, 48, 44, 49]⟩, ⟨#[45, 53, 60, 68, 49]⟩, ⟨#[45, 48, 46, 48, 61, 82, 49]⟩, ⟨#[110, 97, 110, 60, 62, 110, 97, 110]⟩, ⟨#[45, 88, 48, 58, 69, 49]⟩, ⟨#[43, 77, 54, 51, 58, 69, 51, 49]⟩, ⟨#[111, 117, 116, 32, 58, 89, 48]⟩, ⟨#[111, 117, 116, 58, 89, 48, 32]⟩, ⟨#[79, 117, 116, 58, 89, 48]⟩, ⟨#[99, 111, 117, 110, 116, 58, 67, 49, 44, 49, 46, 48]⟩, ⟨#[115, 116, 101, 112, 58, 77, 49]⟩, ⟨#[112, 117, 108, 115, 101, 58, 89, 49, 44, 69, 48]⟩, ⟨#[112, 117, 108, 115, 101, 58, 89, 49, 58, 69, 48]⟩]
def textsA : List ByteArray := [⟨#[48]⟩, ⟨#[32]⟩, ⟨#[44]⟩, ⟨#[58]⟩, ⟨#[61]⟩, ⟨#[88, 48]⟩]
def textsB : List ByteArray := [⟨#[47]⟩, ⟨#[43]⟩, ⟨#[45]⟩, ⟨#[32]⟩, ⟨#[111, 117, 116, 58]⟩]
theorem texts_small : (∀ v ∈ texts43, v.size ≤ 20) ∧ (∀ v ∈ textsA, v.size ≤ 20) ∧ (∀ v ∈ textsB, v.size ≤ 20) := by
  refine ⟨?_, ?_, ?_⟩ <;> decide +kernel
theorem rowS (w : World) (xs : List ByteArray) (t : TypeId) : ∀ j x, xs[j]? = some x → (w.alloc (.cells (xs.map Value.string).toArray t)).cell? ⟨w.heap.size, j, none⟩ = some (.string x) := by
  intro j x hj
  rw [World.cell?_alloc_at _ _ _ _ rfl]
  simp [hj]
def IsText (e : Ending) : Prop := ∃ s : ByteArray, s.size ≤ 1000 ∧ e = .returned (.string s)
theorem etx_small (op : Int) (xs : List Arg) : (etx op xs).size ≤ 400 := by
  unfold etx
  split
  · rename_i h
    rw [etl_ba, ByteArray.size_append]
    have h1 : (ahd op).size ≤ 6 := by
      rcases op_cases op with h | ⟨n, hn, rfl⟩
      · rw [(out_all op h).1]; decide
      · rcases c38 n hn with rfl | rfl | rfl | rfl | rfl | rfl | rfl | rfl | rfl | rfl | rfl | rfl | rfl | rfl | rfl | rfl | rfl | rfl | rfl | rfl | rfl | rfl | rfl | rfl | rfl | rfl | rfl | rfl | rfl | rfl | rfl | rfl | rfl | rfl | rfl | rfl | rfl | rfl
        all_goals decide
    have h2 := join_le (xs.map tl) (btw op).data.toList (by rw [List.length_map]; exact (rtk_3 h).2) (fun x hx => by
      obtain ⟨y, _, rfl⟩ := List.mem_map.1 hx
      have := txt_le y.1 y.2.1 y.2.2
      rw [Lib.size_eq] at this
      exact this) (by have := btw_le op; rw [Lib.size_eq] at this; exact this)
    have h3 : (⟨(Lib.join (xs.map tl) (btw op).data.toList).toArray⟩ : ByteArray).size = (Lib.join (xs.map tl) (btw op).data.toList).length := by simp only [ByteArray.size, List.size_toArray]
    omega
  · decide

set_option maxRecDepth 100000 in
set_option maxHeartbeats 4000000 in
theorem drawread_r {a : Option Addr} {len cap blk off : Nat} {z : Nat → Int} (w : World) (h : Code0 w a len cap blk off z) :
    Calls Tryz.prog 15 #[.slice a len cap] w fun e w' => IsText e ∧ Below w.heap.size w w' := by
  go_enter Tryz.func15, Tryz.ntmps15
  go_wp2_with fail
  refine h.open.mono ?_
  rintro e w1 ⟨rfl, h1, b1⟩
  have hB1 := h1.2.1
  go_wp2_with fail
  refine (any4_r _ _ 0 _ h1 (by omega)).mono ?_
  rintro e w2 ⟨⟨op, a2, len2, cap2, xs, rfl, o1, o2, l1, c1, L1, bd1, O2⟩, ⟨q, hq, h2⟩, g2⟩
  have b2 : Below w.heap.size w w2 := b1.grown g2 (by omega) (fun j hj => by cases hj; omega)
  have hsm := etx_small op xs
  have HX : Hid (Calls Tryz.prog 10 #[.agg #[.int .i64 op, .slice a2 len2 cap2]] w2 fun e w' => e = .returned (.string (etx op xs)) ∧ Below w2.heap.size w2 w') := spec_etext op a2 xs len2 cap2 l1 w2 O2.sl
  obtain ⟨X, HXX⟩ : ∃ X, Hid (X = etx op xs) := ⟨_, Eq.refl (etx op xs)⟩
  rw [← HXX.out] at HX hsm
  clear HXX g2 h1 b1 l1 O2
  go_wp2_with fail
  refine HX.out.mono ?_
  rintro e w3 ⟨rfl, g3⟩
  have h3 := h2.later g3
  have b3 := b2.trans (g3.mono b2.size)
  clear g3 h2 b2 HX
  go_wp2_with fail
  refine (pick_r _ _ q 9 _ h3 (by omega) (by omega) (by omega)).mono ?_
  rintro e w4 ⟨t, t1, rfl, h4, g4⟩
  have hB3 := h3.2.1
  have b4 : Below w.heap.size w w4 := b3.grown g4 (by omega) (fun j hj => by cases hj; omega)
  have hB4 := h4.2.1
  clear g4 h3 b3
  by_cases t0 : t = 0
  · subst t0
    go_wp2_with fail
    refine (of_r _ _ (q + 1) w4.heap.size texts43 43 _ (h4.alloc _) (by decide) (by decide) (by omega) (by omega) (by exact rowS w4 texts43 9)).mono ?_
    rintro e w5 ⟨v, hv, rfl, h5, g5⟩
    have hv' := texts_small.1 v hv
    have b5 : Below w.heap.size w w5 := (b4.alloc (by omega) _).grown g5 (by simp; omega) (fun j hj => by cases hj; omega)
    clear g5 b4 hv
    go_wp2
    go_ret
    exact ⟨⟨v, by omega, rfl⟩, b5⟩
  · have t0' : ((t : Int) == 0) = false := by rw [beq_eq_false_iff_ne]; omega
    by_cases t2 : t = 1
    · subst t2
      go_wp2_with fail
      refine (of_r _ _ (q + 1) w4.heap.size textsA 6 _ (h4.alloc _) (by decide) (by decide) (by omega) (by omega) (by exact rowS w4 textsA 9)).mono ?_
      rintro e w5 ⟨v, hv, rfl, h5, g5⟩
      have hv' := texts_small.2.1 v hv
      have b5 : Below w.heap.size w w5 := (b4.alloc (by omega) _).grown g5 (by simp; omega) (fun j hj => by cases hj; omega)
      clear g5 b4 hv
      go_wp2
      go_ret
      exact ⟨⟨X ++ v, by rw [ByteArray.size_append]; omega, rfl⟩, b5⟩
    · have t2' : ((t : Int) == 1) = false := by rw [beq_eq_false_iff_ne]; omega
      by_cases t3 : t = 2
      · subst t3
        go_wp2_with fail
        refine (of_r _ _ (q + 1) w4.heap.size textsB 5 _ (h4.alloc _) (by decide) (by decide) (by omega) (by omega) (by exact rowS w4 textsB 9)).mono ?_
        rintro e w5 ⟨v, hv, rfl, h5, g5⟩
        have hv' := texts_small.2.2 v hv
        have b5 : Below w.heap.size w w5 := (b4.alloc (by omega) _).grown g5 (by simp; omega) (fun j hj => by cases hj; omega)
        clear g5 b4 hv
        go_wp2
        go_ret
        exact ⟨⟨v ++ X, by rw [ByteArray.size_append]; omega, rfl⟩, b5⟩
      · have t3' : ((t : Int) == 2) = false := by rw [beq_eq_false_iff_ne]; omega
        go_wp2
        go_ret
        exact ⟨⟨X, by omega, rfl⟩, b4⟩
end Go.Proofs.YtjbdcbamkdnjhaaGreatDoor
