/- The draw of a coil. -/
import Derived.Test.YtcihplachlokiaaGreatDoorEkM
namespace Go.Proofs.YtcihplachlokiaaGreatDoor.Rr
open Go.RowKit
set_option linter.unusedVariables false

theorem ops_take32 {w : World} {b o : Nat} {x y z : Arg} (h : Ops w b o [x, y, z]) : Ops w b o [x, y] := by
  intro j a ha
  match j, ha with
  | 0, ha => exact h 0 a ha
  | 1, ha => exact h 1 a ha

set_option maxRecDepth 10000 in
set_option maxHeartbeats 8000000 in
theorem coil_r (B R p : Nat) (w : World) (h : Reader B w R p) (hp : p < 9700000) :
    Calls Tryz.prog 57 #[.pointer (some ⟨R, 0, none⟩)] w fun e w' => ElemR w.heap.size e w' ∧ (∃ q, q ≤ p + 60 ∧ Reader B w' R q) ∧ w.grownBy w' (some R) := by
  have hRB := h.1
  have hBw := h.2.1
  have S0 := E2.fresh w (.int .i64 0) (.slice none 0 0) 42
  have hN := fun W (hW : Reader B W R p) hx => num_r B R p (w.heap.size + 1) [21, 21, 21, 22, 23, 24, 25, 26, 26, 27, 28, 29, 29, 30, 31, 31, 32, 33, 34, 35, 36, 37] 22 W hW (by simp) (by simp) (by omega) (by omega) hx
  go_enter Tryz.func57, Tryz.ntmps57
  go_wp2_with fail
  refine (hN _ ((h.alloc _).alloc _) (cells_row2 w _ [21, 21, 21, 22, 23, 24, 25, 26, 26, 27, 28, 29, 29, 30, 31, 31, 32, 33, 34, 35, 36, 37] 3)).mono ?_
  rintro e w1 ⟨v, hv, rfl, h1, g1⟩
  have G1 : w.grownBy w1 (some R) := gb_pick (gb_alloc (gb_alloc (gb_refl _ _) _) _) g1
  have S1 := (S0.alloc _).grown g1 (by simp; omega)
  clear g1 h hN S0
  go_wp2_with fail
  refine (pick_r B R (p + 1) 2 _ h1 (by omega) (by omega) (by omega)).mono ?_
  rintro e w2 ⟨r2, r21, rfl, h2, g2⟩
  have G2 : w.grownBy w2 (some R) := gb_pick G1 g2
  have S2 := S1.grown g2 (by simp; omega)
  clear g2 G1 S1 h1
  go_wp2_with fail
  refine (arg_r B R (p + 1 + 1) (2 + r2) _ h2 (by omega) (by omega) (by omega)).mono ?_
  rintro e w3 ⟨⟨k, n, m, nlo, nhi, rfl⟩, ⟨q3, hq3, h3⟩, g3⟩
  have G3 : w.grownBy w3 (some R) := gb_pick G2 g3
  have S3 := S2.grown g3 (by simp; omega)
  have lt3 := S3.lt
  have bnd3 : -3000000000 ≤ n ∧ n ≤ 3000000000 := ⟨nlo, nhi⟩
  clear g3 G2 S2 h2
  go_wp2_with fail
  refine (arg_r B R q3 11 _ (h3.alloc _) (by omega) (by omega) (by omega)).mono ?_
  rintro e w4 ⟨⟨k1, n1, m1, n1lo, n1hi, rfl⟩, ⟨q4, hq4, h4⟩, g4⟩
  have G4 : w.grownBy w4 (some R) := gb_pick (gb_alloc G3 _) g4
  have S4 := (S3.alloc _).grown g4 (by simp; omega)
  have A4 := (A3.fresh w3 k n m 72).grown g4 (by simp; omega)
  have lt4 := S4.lt
  have lt4a := A4.lt
  clear g4 G3 S3 h3
  have hv17 : v = 21 ∨ v = 22 ∨ v = 23 ∨ v = 24 ∨ v = 25 ∨ v = 26 ∨ v = 27 ∨ v = 28 ∨ v = 29 ∨ v = 30 ∨ v = 31 ∨ v = 32 ∨ v = 33 ∨ v = 34 ∨ v = 35 ∨ v = 36 ∨ v = 37 := by simp at hv; omega
  go_upto_if 20 with fail
  go_cut [] from 20 (fun wc => ∃ (k1 N1 m1 : Int) (q : Nat), (-3000000000 ≤ N1 ∧ N1 ≤ 3000000000) ∧ q ≤ q4 + 1 ∧ E2 wc w.heap.size (.int .i64 0) (.slice none 0 0) ∧ A3 wc w3.heap.size k n m ∧ A3 wc w4.heap.size k1 N1 m1 ∧ Reader B wc R q ∧ w.grownBy wc (some R))
  case first =>
    by_cases hneg : n1 < 0
    · go_wp2_with fail
      refine (pick_r B R q4 9 _ (h4.alloc _) (by omega) (by omega) (by omega)).mono ?_
      rintro e w5 ⟨N1, N11, rfl, h5, g5⟩
      have G5 : w.grownBy w5 (some R) := gb_pick (gb_alloc G4 _) g5
      have S5 := (S4.alloc _).grown g5 (by simp; omega)
      have A5 := (A4.alloc _).grown g5 (by simp; omega)
      have P5 := (A3.fresh w4 k1 n1 m1 72).grown g5 (by simp; omega)
      have lt5 := P5.lt
      clear g5 G4 S4 A4 h4
      obtain ⟨d0, d1, d2, e0, e1, e2⟩ := id P5
      have S6 := S5.other w4.heap.size 1 (by omega) (.int .i64 (N1 : Int))
      have A6 := A5.other w4.heap.size 1 (by omega) (.int .i64 (N1 : Int))
      have P6 := P5.put1 (N1 : Int)
      have h6 := h5.set w4.heap.size 1 (.int .i64 (N1 : Int)) (by omega)
      have G6 : w.grownBy (w5.setCell ⟨w4.heap.size, 1, none⟩ (.int .i64 (N1 : Int))) (some R) := gb_put G5 (by omega)
      go_wp2
      go_meet
      case rel => exact ⟨k1, N1, m1, q4 + 1, by omega, Nat.le_refl _, S6, A6, P6, h6, G6⟩
    · have S6 := S4.alloc (.cells #[.int .i64 k1, .int .i64 n1, .int .i64 m1] 72)
      have A6 := A4.alloc (.cells #[.int .i64 k1, .int .i64 n1, .int .i64 m1] 72)
      have P6 := A3.fresh w4 k1 n1 m1 72
      have h6 := h4.alloc (.cells #[.int .i64 k1, .int .i64 n1, .int .i64 m1] 72)
      have G6 := gb_alloc G4 (.cells #[.int .i64 k1, .int .i64 n1, .int .i64 m1] 72)
      go_wp2
      go_meet
      case rel => exact ⟨k1, n1, m1, q4, ⟨n1lo, n1hi⟩, Nat.le_succ _, S6, A6, P6, h6, G6⟩
  case rest =>
    clear S4 A4 h4 G4
    obtain ⟨k1, N1, m1, q6, bndN, hq6, S6, A6, P6, h6, G6⟩ := hcut
    generalize wc = w6 at S6 A6 P6 h6 G6 ⊢
    have lt6 := S6.lt
    rcases hv17 with rfl | rfl | rfl | rfl | rfl | rfl | rfl | rfl | rfl | rfl | rfl | rfl | rfl | rfl | rfl | rfl | rfl
    · obtain ⟨u1, u2, u3⟩ := elem_end (.int .i64 21) (.slice (some ⟨w6.heap.size, 0, none⟩) 1 1) (.cells #[.int .i64 k, .int .i64 n, .int .i64 m] 72) S6 h6 G6 hBw (Nat.le_refl _)
      obtain ⟨c0, c1, f0, f1⟩ := S6
      obtain ⟨q0, q1, _, _⟩ := u1
      have ow := ops1 ((w6.setCell ⟨w.heap.size, 0, none⟩ (.int .i64 21)).setCell ⟨w.heap.size, 1, none⟩ (.slice (some ⟨w6.heap.size, 0, none⟩) 1 1)) k n m 72
      simp only [World.size_setCell] at ow
      obtain ⟨a0, a1, a2, _, _, _⟩ := id A6
      go_wp2
      exact bodyPost_ret (v := .agg #[.int .i64 21, .slice (some ⟨w6.heap.size, 0, none⟩) 1 1]) (by simp [results, Tryz.results57, go_sem, q0, q1]) rfl ⟨⟨21, _, 1, 1, _, rfl, by omega, by omega, rfl, by omega, by omega, (by intro x hx; simp at hx; subst hx; assumption), .inr ⟨_, _, rfl, by omega, ow⟩⟩, ⟨_, by omega, u2⟩, u3⟩
    · go_wp2_with fail
      refine (pick_r B R q6 3 _ h6 (by omega) (by omega) (by omega)).mono ?_
      rintro e w7 ⟨t, t1, rfl, h7, g7⟩
      have G7 : w.grownBy w7 (some R) := gb_pick G6 g7
      have S7 := S6.grown g7 (by simp; omega)
      clear g7 G6 S6 h6
      go_wp2_with fail
      refine (arg_r B R (q6 + 1) (2 + t) _ h7 (by omega) (by omega) (by omega)).mono ?_
      rintro e w8 ⟨⟨k2, n2, m2, n2lo, n2hi, rfl⟩, ⟨q8, hq8, h8⟩, g8⟩
      have G8 : w.grownBy w8 (some R) := gb_pick G7 g8
      have S8 := S7.grown g8 (by simp; omega)
      have lt8 := S8.lt
      have bnd8 : -3000000000 ≤ n2 ∧ n2 ≤ 3000000000 := ⟨n2lo, n2hi⟩
      clear g8 G7 S7 h7
      obtain ⟨u1, u2, u3⟩ := elem_end (.int .i64 22) (.slice (some ⟨w8.heap.size, 0, none⟩) 1 1) (.cells #[.int .i64 k2, .int .i64 n2, .int .i64 m2] 72) S8 h8 G8 hBw (Nat.le_refl _)
      obtain ⟨c0, c1, f0, f1⟩ := S8
      obtain ⟨q0, q1, _, _⟩ := u1
      have ow := ops1 ((w8.setCell ⟨w.heap.size, 0, none⟩ (.int .i64 22)).setCell ⟨w.heap.size, 1, none⟩ (.slice (some ⟨w8.heap.size, 0, none⟩) 1 1)) k2 n2 m2 72
      simp only [World.size_setCell] at ow
      go_wp2
      exact bodyPost_ret (v := .agg #[.int .i64 22, .slice (some ⟨w8.heap.size, 0, none⟩) 1 1]) (by simp [results, Tryz.results57, go_sem, q0, q1]) rfl ⟨⟨22, _, 1, 1, _, rfl, by omega, by omega, rfl, by omega, by omega, (by intro x hx; simp at hx; subst hx; assumption), .inr ⟨_, _, rfl, by omega, ow⟩⟩, ⟨_, by omega, u2⟩, u3⟩
    · have hN := fun W (hW : Reader B W R q6) hx => num_r B R q6 w6.heap.size [2, 3, 4, 7, 8] 5 W hW (by simp) (by simp) (by omega) (by omega) hx
      go_wp2_with fail
      refine (hN _ (h6.alloc _) (cells_row w6 [2, 3, 4, 7, 8] 3)).mono ?_
      rintro e w7 ⟨v7, hv7, rfl, h7, g7⟩
      have G7 : w.grownBy w7 (some R) := gb_pick (gb_alloc G6 _) g7
      have S7 := (S6.alloc _).grown g7 (by simp; omega)
      have hv7' : 1 ≤ v7 ∧ v7 ≤ 13 := by simp at hv7; omega
      clear g7 G6 S6 h6 hN
      go_wp2_with fail
      refine (arg_r B R (q6 + 1) v7 _ h7 (by omega) hv7'.1 hv7'.2).mono ?_
      rintro e w8 ⟨⟨k2, n2, m2, n2lo, n2hi, rfl⟩, ⟨q8, hq8, h8⟩, g8⟩
      have G8 : w.grownBy w8 (some R) := gb_pick G7 g8
      have S8 := S7.grown g8 (by simp; omega)
      have lt8 := S8.lt
      have bnd8 : -3000000000 ≤ n2 ∧ n2 ≤ 3000000000 := ⟨n2lo, n2hi⟩
      clear g8 G7 S7 h7
      obtain ⟨u1, u2, u3⟩ := elem_end (.int .i64 23) (.slice (some ⟨w8.heap.size, 0, none⟩) 1 1) (.cells #[.int .i64 k2, .int .i64 n2, .int .i64 m2] 72) S8 h8 G8 hBw (Nat.le_refl _)
      obtain ⟨c0, c1, f0, f1⟩ := S8
      obtain ⟨q0, q1, _, _⟩ := u1
      have ow := ops1 ((w8.setCell ⟨w.heap.size, 0, none⟩ (.int .i64 23)).setCell ⟨w.heap.size, 1, none⟩ (.slice (some ⟨w8.heap.size, 0, none⟩) 1 1)) k2 n2 m2 72
      simp only [World.size_setCell] at ow
      go_wp2
      exact bodyPost_ret (v := .agg #[.int .i64 23, .slice (some ⟨w8.heap.size, 0, none⟩) 1 1]) (by simp [results, Tryz.results57, go_sem, q0, q1]) rfl ⟨⟨23, _, 1, 1, _, rfl, by omega, by omega, rfl, by omega, by omega, (by intro x hx; simp at hx; subst hx; assumption), .inr ⟨_, _, rfl, by omega, ow⟩⟩, ⟨_, by omega, u2⟩, u3⟩
    · have lt6v := A6.lt
      obtain ⟨a0, a1, a2, _, _, _⟩ := id A6
      go_upto_region 14 with fail
      go_region_with (go_at_call 72; refine (arg_r B R q6 5 _ (by first | exact h6 | exact h6.drew) (by omega) (by omega) (by omega)).mono ?_; rintro e w7 ⟨⟨k2, n2, m2, n2lo, n2hi, rfl⟩, ⟨q7, hq7, h7⟩, g7⟩; have S7 : E2 w7 w.heap.size _ _ := (by first | exact S6.grown g7 (by simp; omega) | exact (S6.grown (gb_drew (gb_refl _ none)) (by simp)).grown g7 (by simp; omega)); have V7 : A3 w7 w3.heap.size k n m := (by first | exact A6.grown g7 (by simp; omega) | exact (A6.grown (gb_drew (gb_refl _ none)) (by simp)).grown g7 (by simp; omega)); have G7 : w.grownBy w7 (some R) := (by first | exact gb_pick G6 g7 | exact gb_pick (gb_drew G6) g7); have bnd7 : -3000000000 ≤ n2 ∧ n2 ≤ 3000000000 := ⟨n2lo, n2hi⟩; obtain ⟨x0, x1, x2, _, _, _⟩ := id V7; obtain ⟨c0, c1, f0, f1⟩ := id S7; have lt7 := S7.lt; have lt7v := V7.lt)
      all_goals (
        obtain ⟨u1, u2, u3⟩ := elem_end (.int .i64 24) (.slice (some ⟨w7.heap.size, 0, none⟩) 2 2) (.cells #[.int .i64 k, .int .i64 n, .int .i64 m, .int .i64 k2, .int .i64 n2, .int .i64 m2] 72) S7 h7 G7 hBw (Nat.le_refl _)
        obtain ⟨q0, q1, _, _⟩ := u1
        have ow := ops2 ((w7.setCell ⟨w.heap.size, 0, none⟩ (.int .i64 24)).setCell ⟨w.heap.size, 1, none⟩ (.slice (some ⟨w7.heap.size, 0, none⟩) 2 2)) k n m k2 n2 m2 72
        simp only [World.size_setCell] at ow
        go_wp2
        exact bodyPost_ret (v := .agg #[.int .i64 24, .slice (some ⟨w7.heap.size, 0, none⟩) 2 2]) (by simp [results, Tryz.results57, go_sem, q0, q1]) rfl ⟨⟨24, _, 2, 2, _, rfl, by omega, by omega, rfl, by omega, by omega, (by intro x hx; simp at hx; rcases hx with rfl | rfl <;> assumption), .inr ⟨_, _, rfl, by omega, ow⟩⟩, ⟨_, by omega, u2⟩, u3⟩)
    · go_wp2_with fail
      refine (arg_r B R q6 4 _ h6 (by omega) (by omega) (by omega)).mono ?_
      rintro e w7 ⟨⟨k2, n2, m2, n2lo, n2hi, rfl⟩, ⟨q7, hq7, h7⟩, g7⟩
      have G7 : w.grownBy w7 (some R) := gb_pick G6 g7
      have S7 := S6.grown g7 (by simp; omega)
      have lt7 := S7.lt
      have bnd7 : -3000000000 ≤ n2 ∧ n2 ≤ 3000000000 := ⟨n2lo, n2hi⟩
      clear g7 G6 S6 h6
      obtain ⟨u1, u2, u3⟩ := elem_end (.int .i64 25) (.slice (some ⟨w7.heap.size, 0, none⟩) 1 1) (.cells #[.int .i64 k2, .int .i64 n2, .int .i64 m2] 72) S7 h7 G7 hBw (Nat.le_refl _)
      obtain ⟨c0, c1, f0, f1⟩ := S7
      obtain ⟨q0, q1, _, _⟩ := u1
      have ow := ops1 ((w7.setCell ⟨w.heap.size, 0, none⟩ (.int .i64 25)).setCell ⟨w.heap.size, 1, none⟩ (.slice (some ⟨w7.heap.size, 0, none⟩) 1 1)) k2 n2 m2 72
      simp only [World.size_setCell] at ow
      go_wp2
      exact bodyPost_ret (v := .agg #[.int .i64 25, .slice (some ⟨w7.heap.size, 0, none⟩) 1 1]) (by simp [results, Tryz.results57, go_sem, q0, q1]) rfl ⟨⟨25, _, 1, 1, _, rfl, by omega, by omega, rfl, by omega, by omega, (by intro x hx; simp at hx; subst hx; assumption), .inr ⟨_, _, rfl, by omega, ow⟩⟩, ⟨_, by omega, u2⟩, u3⟩
    · have lt6v := P6.lt
      obtain ⟨a0, a1, a2, _, _, _⟩ := id P6
      go_upto_region 20 with fail
      go_region_with (go_at_call 72; refine (arg_r B R q6 7 _ (by first | exact h6 | exact h6.drew) (by omega) (by omega) (by omega)).mono ?_; rintro e w7 ⟨⟨k2, n2, m2, n2lo, n2hi, rfl⟩, ⟨q7, hq7, h7⟩, g7⟩; have S7 : E2 w7 w.heap.size _ _ := (by first | exact S6.grown g7 (by simp; omega) | exact (S6.grown (gb_drew (gb_refl _ none)) (by simp)).grown g7 (by simp; omega)); have V7 : A3 w7 w4.heap.size k1 N1 m1 := (by first | exact P6.grown g7 (by simp; omega) | exact (P6.grown (gb_drew (gb_refl _ none)) (by simp)).grown g7 (by simp; omega)); have G7 : w.grownBy w7 (some R) := (by first | exact gb_pick G6 g7 | exact gb_pick (gb_drew G6) g7); have bnd7 : -3000000000 ≤ n2 ∧ n2 ≤ 3000000000 := ⟨n2lo, n2hi⟩; obtain ⟨x0, x1, x2, _, _, _⟩ := id V7; obtain ⟨c0, c1, f0, f1⟩ := id S7; have lt7 := S7.lt; have lt7v := V7.lt)
      all_goals (
        obtain ⟨u1, u2, u3⟩ := elem_end (.int .i64 26) (.slice (some ⟨w7.heap.size, 0, none⟩) 2 2) (.cells #[.int .i64 k2, .int .i64 n2, .int .i64 m2, .int .i64 k1, .int .i64 N1, .int .i64 m1] 72) S7 h7 G7 hBw (Nat.le_refl _)
        obtain ⟨q0, q1, _, _⟩ := u1
        have ow := ops2 ((w7.setCell ⟨w.heap.size, 0, none⟩ (.int .i64 26)).setCell ⟨w.heap.size, 1, none⟩ (.slice (some ⟨w7.heap.size, 0, none⟩) 2 2)) k2 n2 m2 k1 N1 m1 72
        simp only [World.size_setCell] at ow
        go_wp2
        exact bodyPost_ret (v := .agg #[.int .i64 26, .slice (some ⟨w7.heap.size, 0, none⟩) 2 2]) (by simp [results, Tryz.results57, go_sem, q0, q1]) rfl ⟨⟨26, _, 2, 2, _, rfl, by omega, by omega, rfl, by omega, by omega, (by intro x hx; simp at hx; rcases hx with rfl | rfl <;> assumption), .inr ⟨_, _, rfl, by omega, ow⟩⟩, ⟨_, by omega, u2⟩, u3⟩)
    · have lt6v := P6.lt
      obtain ⟨a0, a1, a2, _, _, _⟩ := id P6
      go_upto_region 20 with fail
      go_region_with (go_at_call 72; refine (arg_r B R q6 7 _ (by first | exact h6 | exact h6.drew) (by omega) (by omega) (by omega)).mono ?_; rintro e w7 ⟨⟨k2, n2, m2, n2lo, n2hi, rfl⟩, ⟨q7, hq7, h7⟩, g7⟩; have S7 : E2 w7 w.heap.size _ _ := (by first | exact S6.grown g7 (by simp; omega) | exact (S6.grown (gb_drew (gb_refl _ none)) (by simp)).grown g7 (by simp; omega)); have V7 : A3 w7 w4.heap.size k1 N1 m1 := (by first | exact P6.grown g7 (by simp; omega) | exact (P6.grown (gb_drew (gb_refl _ none)) (by simp)).grown g7 (by simp; omega)); have G7 : w.grownBy w7 (some R) := (by first | exact gb_pick G6 g7 | exact gb_pick (gb_drew G6) g7); have bnd7 : -3000000000 ≤ n2 ∧ n2 ≤ 3000000000 := ⟨n2lo, n2hi⟩; obtain ⟨x0, x1, x2, _, _, _⟩ := id V7; obtain ⟨c0, c1, f0, f1⟩ := id S7; have lt7 := S7.lt; have lt7v := V7.lt)
      all_goals (
        obtain ⟨u1, u2, u3⟩ := elem_end (.int .i64 27) (.slice (some ⟨w7.heap.size, 0, none⟩) 2 2) (.cells #[.int .i64 k2, .int .i64 n2, .int .i64 m2, .int .i64 k1, .int .i64 N1, .int .i64 m1] 72) S7 h7 G7 hBw (Nat.le_refl _)
        obtain ⟨q0, q1, _, _⟩ := u1
        have ow := ops2 ((w7.setCell ⟨w.heap.size, 0, none⟩ (.int .i64 27)).setCell ⟨w.heap.size, 1, none⟩ (.slice (some ⟨w7.heap.size, 0, none⟩) 2 2)) k2 n2 m2 k1 N1 m1 72
        simp only [World.size_setCell] at ow
        go_wp2
        exact bodyPost_ret (v := .agg #[.int .i64 27, .slice (some ⟨w7.heap.size, 0, none⟩) 2 2]) (by simp [results, Tryz.results57, go_sem, q0, q1]) rfl ⟨⟨27, _, 2, 2, _, rfl, by omega, by omega, rfl, by omega, by omega, (by intro x hx; simp at hx; rcases hx with rfl | rfl <;> assumption), .inr ⟨_, _, rfl, by omega, ow⟩⟩, ⟨_, by omega, u2⟩, u3⟩)
    · have lt6v := P6.lt
      obtain ⟨a0, a1, a2, _, _, _⟩ := id P6
      go_upto_region 20 with fail
      go_region_with (go_at_call 72; refine (arg_r B R q6 7 _ (by first | exact h6 | exact h6.drew) (by omega) (by omega) (by omega)).mono ?_; rintro e w7 ⟨⟨k2, n2, m2, n2lo, n2hi, rfl⟩, ⟨q7, hq7, h7⟩, g7⟩; have S7 : E2 w7 w.heap.size _ _ := (by first | exact S6.grown g7 (by simp; omega) | exact (S6.grown (gb_drew (gb_refl _ none)) (by simp)).grown g7 (by simp; omega)); have V7 : A3 w7 w4.heap.size k1 N1 m1 := (by first | exact P6.grown g7 (by simp; omega) | exact (P6.grown (gb_drew (gb_refl _ none)) (by simp)).grown g7 (by simp; omega)); have G7 : w.grownBy w7 (some R) := (by first | exact gb_pick G6 g7 | exact gb_pick (gb_drew G6) g7); have bnd7 : -3000000000 ≤ n2 ∧ n2 ≤ 3000000000 := ⟨n2lo, n2hi⟩; obtain ⟨x0, x1, x2, _, _, _⟩ := id V7; obtain ⟨c0, c1, f0, f1⟩ := id S7; have lt7 := S7.lt; have lt7v := V7.lt)
      all_goals (
        obtain ⟨u1, u2, u3⟩ := elem_end (.int .i64 28) (.slice (some ⟨w7.heap.size, 0, none⟩) 2 2) (.cells #[.int .i64 k2, .int .i64 n2, .int .i64 m2, .int .i64 k1, .int .i64 N1, .int .i64 m1] 72) S7 h7 G7 hBw (Nat.le_refl _)
        obtain ⟨q0, q1, _, _⟩ := u1
        have ow := ops2 ((w7.setCell ⟨w.heap.size, 0, none⟩ (.int .i64 28)).setCell ⟨w.heap.size, 1, none⟩ (.slice (some ⟨w7.heap.size, 0, none⟩) 2 2)) k2 n2 m2 k1 N1 m1 72
        simp only [World.size_setCell] at ow
        go_wp2
        exact bodyPost_ret (v := .agg #[.int .i64 28, .slice (some ⟨w7.heap.size, 0, none⟩) 2 2]) (by simp [results, Tryz.results57, go_sem, q0, q1]) rfl ⟨⟨28, _, 2, 2, _, rfl, by omega, by omega, rfl, by omega, by omega, (by intro x hx; simp at hx; rcases hx with rfl | rfl <;> assumption), .inr ⟨_, _, rfl, by omega, ow⟩⟩, ⟨_, by omega, u2⟩, u3⟩)
    · have lt6v := P6.lt
      obtain ⟨a0, a1, a2, _, _, _⟩ := id P6
      go_upto_region 22 with fail
      go_region_with (go_at_call 72; refine (arg_r B R q6 8 _ (by first | exact h6 | exact h6.drew) (by omega) (by omega) (by omega)).mono ?_; rintro e w7 ⟨⟨k2, n2, m2, n2lo, n2hi, rfl⟩, ⟨q7, hq7, h7⟩, g7⟩; have S7 : E2 w7 w.heap.size _ _ := (by first | exact S6.grown g7 (by simp; omega) | exact (S6.grown (gb_drew (gb_refl _ none)) (by simp)).grown g7 (by simp; omega)); have V7 : A3 w7 w4.heap.size k1 N1 m1 := (by first | exact P6.grown g7 (by simp; omega) | exact (P6.grown (gb_drew (gb_refl _ none)) (by simp)).grown g7 (by simp; omega)); have G7 : w.grownBy w7 (some R) := (by first | exact gb_pick G6 g7 | exact gb_pick (gb_drew G6) g7); have bnd7 : -3000000000 ≤ n2 ∧ n2 ≤ 3000000000 := ⟨n2lo, n2hi⟩; obtain ⟨x0, x1, x2, _, _, _⟩ := id V7; obtain ⟨c0, c1, f0, f1⟩ := id S7; have lt7 := S7.lt; have lt7v := V7.lt)
      all_goals (
        obtain ⟨u1, u2, u3⟩ := elem_end (.int .i64 29) (.slice (some ⟨w7.heap.size, 0, none⟩) 2 2) (.cells #[.int .i64 k2, .int .i64 n2, .int .i64 m2, .int .i64 k1, .int .i64 N1, .int .i64 m1] 72) S7 h7 G7 hBw (Nat.le_refl _)
        obtain ⟨q0, q1, _, _⟩ := u1
        have ow := ops2 ((w7.setCell ⟨w.heap.size, 0, none⟩ (.int .i64 29)).setCell ⟨w.heap.size, 1, none⟩ (.slice (some ⟨w7.heap.size, 0, none⟩) 2 2)) k2 n2 m2 k1 N1 m1 72
        simp only [World.size_setCell] at ow
        go_wp2
        exact bodyPost_ret (v := .agg #[.int .i64 29, .slice (some ⟨w7.heap.size, 0, none⟩) 2 2]) (by simp [results, Tryz.results57, go_sem, q0, q1]) rfl ⟨⟨29, _, 2, 2, _, rfl, by omega, by omega, rfl, by omega, by omega, (by intro x hx; simp at hx; rcases hx with rfl | rfl <;> assumption), .inr ⟨_, _, rfl, by omega, ow⟩⟩, ⟨_, by omega, u2⟩, u3⟩)
    · go_wp2_with fail
      refine (pick_r B R q6 2 _ h6 (by omega) (by omega) (by omega)).mono ?_
      rintro e w7 ⟨t, t1, rfl, h7', g7⟩
      have G7 : w.grownBy w7 (some R) := gb_pick G6 g7
      have S7 := S6.grown g7 (by simp; omega)
      obtain ⟨q7, hq7, h7⟩ : ∃ q, q ≤ q6 + 1 ∧ Reader B w7 R q := ⟨_, Nat.le_refl _, h7'⟩
      clear g7 G6 S6 h6 h7'
      by_cases ht : t = 0
      · subst ht
        go_wp2_with fail
        refine (arg_r B R q7 9 _ h7 (by omega) (by omega) (by omega)).mono ?_
        rintro e w8 ⟨⟨k2, n2, m2, n2lo, n2hi, rfl⟩, ⟨q8, hq8, h8⟩, g8⟩
        have G8 : w.grownBy w8 (some R) := gb_pick G7 g8
        have S8 := S7.grown g8 (by simp; omega)
        have lt8 := S8.lt
        have bnd8 : -3000000000 ≤ n2 ∧ n2 ≤ 3000000000 := ⟨n2lo, n2hi⟩
        clear g8 G7 S7 h7
        go_wp2_with fail
        refine (whole_r B R q8 _ h8 (by omega)).mono ?_
        rintro e w9 ⟨⟨k3, n3, m3, n3lo, n3hi, rfl⟩, ⟨q9, hq9, h9⟩, g9⟩
        have G9 : w.grownBy w9 (some R) := gb_pick G8 g9
        have S9 := S8.grown g9 (by simp; omega)
        have lt9 := S9.lt
        have bnd9 : -3000000000 ≤ n3 ∧ n3 ≤ 3000000000 := ⟨n3lo, n3hi⟩
        clear g9 G8 S8 h8
        go_wp2_with fail
        refine (whole_r B R q9 _ h9 (by omega)).mono ?_
        rintro e w10 ⟨⟨k4, n4, m4, n4lo, n4hi, rfl⟩, ⟨q10, hq10, h10⟩, g10⟩
        have G10 : w.grownBy w10 (some R) := gb_pick G9 g10
        have S10 := S9.grown g10 (by simp; omega)
        have lt10 := S10.lt
        have bnd10 : -3000000000 ≤ n4 ∧ n4 ≤ 3000000000 := ⟨n4lo, n4hi⟩
        clear g10 G9 S9 h9
        go_wp2_with fail
        refine (spec_arity 30 _).mono ?_
        rintro e w11 ⟨rfl, rfl⟩
        rw [show arN 30 = 2 from rfl]
        obtain ⟨u1, u2, u3⟩ := elem_end (.int .i64 30) (.slice (some ⟨w10.heap.size, 0, none⟩) 2 3) (.cells #[.int .i64 k2, .int .i64 n2, .int .i64 m2, .int .i64 k3, .int .i64 n3, .int .i64 m3, .int .i64 k4, .int .i64 n4, .int .i64 m4] 72) S10 h10 G10 hBw (Nat.le_refl _)
        obtain ⟨c0, c1, f0, f1⟩ := S10
        obtain ⟨q0, q1, _, _⟩ := u1
        have ow := ops3 ((w10.setCell ⟨w.heap.size, 0, none⟩ (.int .i64 30)).setCell ⟨w.heap.size, 1, none⟩ (.slice (some ⟨w10.heap.size, 0, none⟩) 2 3)) k2 n2 m2 k3 n3 m3 k4 n4 m4 72
        simp only [World.size_setCell] at ow
        have ow := ops_take32 ow
        go_wp2
        exact bodyPost_ret (v := .agg #[.int .i64 30, .slice (some ⟨w10.heap.size, 0, none⟩) 2 3]) (by simp [results, Tryz.results57, go_sem, q0, q1]) rfl ⟨⟨30, _, 2, 3, _, rfl, by omega, by omega, rfl, by omega, by omega, (by intro x hx; simp at hx; rcases hx with rfl | rfl <;> assumption), .inr ⟨_, _, rfl, by omega, ow⟩⟩, ⟨_, by omega, u2⟩, u3⟩
      · have ht' : ((t : Int) == 0) = false := by simp; omega
        go_wp2_with fail
        refine (arg_r B R q7 10 _ h7 (by omega) (by omega) (by omega)).mono ?_
        rintro e w8 ⟨⟨k2, n2, m2, n2lo, n2hi, rfl⟩, ⟨q8, hq8, h8⟩, g8⟩
        have G8 : w.grownBy w8 (some R) := gb_pick G7 g8
        have S8 := S7.grown g8 (by simp; omega)
        have lt8 := S8.lt
        have bnd8 : -3000000000 ≤ n2 ∧ n2 ≤ 3000000000 := ⟨n2lo, n2hi⟩
        clear g8 G7 S7 h7
        go_wp2_with fail
        refine (real4_r B R q8 _ h8 (by omega)).mono ?_
        rintro e w9 ⟨⟨k3, n3, m3, n3lo, n3hi, rfl⟩, ⟨q9, hq9, h9⟩, g9⟩
        have G9 : w.grownBy w9 (some R) := gb_pick G8 g9
        have S9 := S8.grown g9 (by simp; omega)
        have lt9 := S9.lt
        have bnd9 : -3000000000 ≤ n3 ∧ n3 ≤ 3000000000 := ⟨n3lo, n3hi⟩
        clear g9 G8 S8 h8
        go_wp2_with fail
        refine (real4_r B R q9 _ h9 (by omega)).mono ?_
        rintro e w10 ⟨⟨k4, n4, m4, n4lo, n4hi, rfl⟩, ⟨q10, hq10, h10⟩, g10⟩
        have G10 : w.grownBy w10 (some R) := gb_pick G9 g10
        have S10 := S9.grown g10 (by simp; omega)
        have lt10 := S10.lt
        have bnd10 : -3000000000 ≤ n4 ∧ n4 ≤ 3000000000 := ⟨n4lo, n4hi⟩
        clear g10 G9 S9 h9
        go_wp2_with fail
        refine (spec_arity 30 _).mono ?_
        rintro e w11 ⟨rfl, rfl⟩
        rw [show arN 30 = 2 from rfl]
        obtain ⟨u1, u2, u3⟩ := elem_end (.int .i64 30) (.slice (some ⟨w10.heap.size, 0, none⟩) 2 3) (.cells #[.int .i64 k2, .int .i64 n2, .int .i64 m2, .int .i64 k3, .int .i64 n3, .int .i64 m3, .int .i64 k4, .int .i64 n4, .int .i64 m4] 72) S10 h10 G10 hBw (Nat.le_refl _)
        obtain ⟨c0, c1, f0, f1⟩ := S10
        obtain ⟨q0, q1, _, _⟩ := u1
        have ow := ops3 ((w10.setCell ⟨w.heap.size, 0, none⟩ (.int .i64 30)).setCell ⟨w.heap.size, 1, none⟩ (.slice (some ⟨w10.heap.size, 0, none⟩) 2 3)) k2 n2 m2 k3 n3 m3 k4 n4 m4 72
        simp only [World.size_setCell] at ow
        have ow := ops_take32 ow
        go_wp2
        exact bodyPost_ret (v := .agg #[.int .i64 30, .slice (some ⟨w10.heap.size, 0, none⟩) 2 3]) (by simp [results, Tryz.results57, go_sem, q0, q1]) rfl ⟨⟨30, _, 2, 3, _, rfl, by omega, by omega, rfl, by omega, by omega, (by intro x hx; simp at hx; rcases hx with rfl | rfl <;> assumption), .inr ⟨_, _, rfl, by omega, ow⟩⟩, ⟨_, by omega, u2⟩, u3⟩
    · go_wp2_with fail
      refine (pick_r B R q6 2 _ h6 (by omega) (by omega) (by omega)).mono ?_
      rintro e w7 ⟨t, t1, rfl, h7', g7⟩
      have G7 : w.grownBy w7 (some R) := gb_pick G6 g7
      have S7 := S6.grown g7 (by simp; omega)
      obtain ⟨q7, hq7, h7⟩ : ∃ q, q ≤ q6 + 1 ∧ Reader B w7 R q := ⟨_, Nat.le_refl _, h7'⟩
      clear g7 G6 S6 h6 h7'
      by_cases ht : t = 0
      · subst ht
        go_wp2_with fail
        refine (arg_r B R q7 9 _ h7 (by omega) (by omega) (by omega)).mono ?_
        rintro e w8 ⟨⟨k2, n2, m2, n2lo, n2hi, rfl⟩, ⟨q8, hq8, h8⟩, g8⟩
        have G8 : w.grownBy w8 (some R) := gb_pick G7 g8
        have S8 := S7.grown g8 (by simp; omega)
        have lt8 := S8.lt
        have bnd8 : -3000000000 ≤ n2 ∧ n2 ≤ 3000000000 := ⟨n2lo, n2hi⟩
        clear g8 G7 S7 h7
        go_wp2_with fail
        refine (whole_r B R q8 _ h8 (by omega)).mono ?_
        rintro e w9 ⟨⟨k3, n3, m3, n3lo, n3hi, rfl⟩, ⟨q9, hq9, h9⟩, g9⟩
        have G9 : w.grownBy w9 (some R) := gb_pick G8 g9
        have S9 := S8.grown g9 (by simp; omega)
        have lt9 := S9.lt
        have bnd9 : -3000000000 ≤ n3 ∧ n3 ≤ 3000000000 := ⟨n3lo, n3hi⟩
        clear g9 G8 S8 h8
        go_wp2_with fail
        refine (whole_r B R q9 _ h9 (by omega)).mono ?_
        rintro e w10 ⟨⟨k4, n4, m4, n4lo, n4hi, rfl⟩, ⟨q10, hq10, h10⟩, g10⟩
        have G10 : w.grownBy w10 (some R) := gb_pick G9 g10
        have S10 := S9.grown g10 (by simp; omega)
        have lt10 := S10.lt
        have bnd10 : -3000000000 ≤ n4 ∧ n4 ≤ 3000000000 := ⟨n4lo, n4hi⟩
        clear g10 G9 S9 h9
        go_wp2_with fail
        refine (spec_arity 31 _).mono ?_
        rintro e w11 ⟨rfl, rfl⟩
        rw [show arN 31 = 3 from rfl]
        obtain ⟨u1, u2, u3⟩ := elem_end (.int .i64 31) (.slice (some ⟨w10.heap.size, 0, none⟩) 3 3) (.cells #[.int .i64 k2, .int .i64 n2, .int .i64 m2, .int .i64 k3, .int .i64 n3, .int .i64 m3, .int .i64 k4, .int .i64 n4, .int .i64 m4] 72) S10 h10 G10 hBw (Nat.le_refl _)
        obtain ⟨c0, c1, f0, f1⟩ := S10
        obtain ⟨q0, q1, _, _⟩ := u1
        have ow := ops3 ((w10.setCell ⟨w.heap.size, 0, none⟩ (.int .i64 31)).setCell ⟨w.heap.size, 1, none⟩ (.slice (some ⟨w10.heap.size, 0, none⟩) 3 3)) k2 n2 m2 k3 n3 m3 k4 n4 m4 72
        simp only [World.size_setCell] at ow
        go_wp2
        exact bodyPost_ret (v := .agg #[.int .i64 31, .slice (some ⟨w10.heap.size, 0, none⟩) 3 3]) (by simp [results, Tryz.results57, go_sem, q0, q1]) rfl ⟨⟨31, _, 3, 3, _, rfl, by omega, by omega, rfl, by omega, by omega, (by intro x hx; simp at hx; rcases hx with rfl | rfl | rfl <;> assumption), .inr ⟨_, _, rfl, by omega, ow⟩⟩, ⟨_, by omega, u2⟩, u3⟩
      · have ht' : ((t : Int) == 0) = false := by simp; omega
        go_wp2_with fail
        refine (arg_r B R q7 10 _ h7 (by omega) (by omega) (by omega)).mono ?_
        rintro e w8 ⟨⟨k2, n2, m2, n2lo, n2hi, rfl⟩, ⟨q8, hq8, h8⟩, g8⟩
        have G8 : w.grownBy w8 (some R) := gb_pick G7 g8
        have S8 := S7.grown g8 (by simp; omega)
        have lt8 := S8.lt
        have bnd8 : -3000000000 ≤ n2 ∧ n2 ≤ 3000000000 := ⟨n2lo, n2hi⟩
        clear g8 G7 S7 h7
        go_wp2_with fail
        refine (real4_r B R q8 _ h8 (by omega)).mono ?_
        rintro e w9 ⟨⟨k3, n3, m3, n3lo, n3hi, rfl⟩, ⟨q9, hq9, h9⟩, g9⟩
        have G9 : w.grownBy w9 (some R) := gb_pick G8 g9
        have S9 := S8.grown g9 (by simp; omega)
        have lt9 := S9.lt
        have bnd9 : -3000000000 ≤ n3 ∧ n3 ≤ 3000000000 := ⟨n3lo, n3hi⟩
        clear g9 G8 S8 h8
        go_wp2_with fail
        refine (real4_r B R q9 _ h9 (by omega)).mono ?_
        rintro e w10 ⟨⟨k4, n4, m4, n4lo, n4hi, rfl⟩, ⟨q10, hq10, h10⟩, g10⟩
        have G10 : w.grownBy w10 (some R) := gb_pick G9 g10
        have S10 := S9.grown g10 (by simp; omega)
        have lt10 := S10.lt
        have bnd10 : -3000000000 ≤ n4 ∧ n4 ≤ 3000000000 := ⟨n4lo, n4hi⟩
        clear g10 G9 S9 h9
        go_wp2_with fail
        refine (spec_arity 31 _).mono ?_
        rintro e w11 ⟨rfl, rfl⟩
        rw [show arN 31 = 3 from rfl]
        obtain ⟨u1, u2, u3⟩ := elem_end (.int .i64 31) (.slice (some ⟨w10.heap.size, 0, none⟩) 3 3) (.cells #[.int .i64 k2, .int .i64 n2, .int .i64 m2, .int .i64 k3, .int .i64 n3, .int .i64 m3, .int .i64 k4, .int .i64 n4, .int .i64 m4] 72) S10 h10 G10 hBw (Nat.le_refl _)
        obtain ⟨c0, c1, f0, f1⟩ := S10
        obtain ⟨q0, q1, _, _⟩ := u1
        have ow := ops3 ((w10.setCell ⟨w.heap.size, 0, none⟩ (.int .i64 31)).setCell ⟨w.heap.size, 1, none⟩ (.slice (some ⟨w10.heap.size, 0, none⟩) 3 3)) k2 n2 m2 k3 n3 m3 k4 n4 m4 72
        simp only [World.size_setCell] at ow
        go_wp2
        exact bodyPost_ret (v := .agg #[.int .i64 31, .slice (some ⟨w10.heap.size, 0, none⟩) 3 3]) (by simp [results, Tryz.results57, go_sem, q0, q1]) rfl ⟨⟨31, _, 3, 3, _, rfl, by omega, by omega, rfl, by omega, by omega, (by intro x hx; simp at hx; rcases hx with rfl | rfl | rfl <;> assumption), .inr ⟨_, _, rfl, by omega, ow⟩⟩, ⟨_, by omega, u2⟩, u3⟩
    · go_wp2_with fail
      refine (pick_r B R q6 2 _ h6 (by omega) (by omega) (by omega)).mono ?_
      rintro e w7 ⟨t, t1, rfl, h7', g7⟩
      have G7 : w.grownBy w7 (some R) := gb_pick G6 g7
      have S7 := S6.grown g7 (by simp; omega)
      obtain ⟨q7, hq7, h7⟩ : ∃ q, q ≤ q6 + 1 ∧ Reader B w7 R q := ⟨_, Nat.le_refl _, h7'⟩
      clear g7 G6 S6 h6 h7'
      by_cases ht : t = 0
      · subst ht
        go_wp2_with fail
        refine (arg_r B R q7 9 _ h7 (by omega) (by omega) (by omega)).mono ?_
        rintro e w8 ⟨⟨k2, n2, m2, n2lo, n2hi, rfl⟩, ⟨q8, hq8, h8⟩, g8⟩
        have G8 : w.grownBy w8 (some R) := gb_pick G7 g8
        have S8 := S7.grown g8 (by simp; omega)
        have lt8 := S8.lt
        have bnd8 : -3000000000 ≤ n2 ∧ n2 ≤ 3000000000 := ⟨n2lo, n2hi⟩
        clear g8 G7 S7 h7
        go_wp2_with fail
        refine (whole_r B R q8 _ h8 (by omega)).mono ?_
        rintro e w9 ⟨⟨k3, n3, m3, n3lo, n3hi, rfl⟩, ⟨q9, hq9, h9⟩, g9⟩
        have G9 : w.grownBy w9 (some R) := gb_pick G8 g9
        have S9 := S8.grown g9 (by simp; omega)
        have lt9 := S9.lt
        have bnd9 : -3000000000 ≤ n3 ∧ n3 ≤ 3000000000 := ⟨n3lo, n3hi⟩
        clear g9 G8 S8 h8
        go_wp2_with fail
        refine (whole_r B R q9 _ h9 (by omega)).mono ?_
        rintro e w10 ⟨⟨k4, n4, m4, n4lo, n4hi, rfl⟩, ⟨q10, hq10, h10⟩, g10⟩
        have G10 : w.grownBy w10 (some R) := gb_pick G9 g10
        have S10 := S9.grown g10 (by simp; omega)
        have lt10 := S10.lt
        have bnd10 : -3000000000 ≤ n4 ∧ n4 ≤ 3000000000 := ⟨n4lo, n4hi⟩
        clear g10 G9 S9 h9
        go_wp2_with fail
        refine (spec_arity 32 _).mono ?_
        rintro e w11 ⟨rfl, rfl⟩
        rw [show arN 32 = 3 from rfl]
        obtain ⟨u1, u2, u3⟩ := elem_end (.int .i64 32) (.slice (some ⟨w10.heap.size, 0, none⟩) 3 3) (.cells #[.int .i64 k2, .int .i64 n2, .int .i64 m2, .int .i64 k3, .int .i64 n3, .int .i64 m3, .int .i64 k4, .int .i64 n4, .int .i64 m4] 72) S10 h10 G10 hBw (Nat.le_refl _)
        obtain ⟨c0, c1, f0, f1⟩ := S10
        obtain ⟨q0, q1, _, _⟩ := u1
        have ow := ops3 ((w10.setCell ⟨w.heap.size, 0, none⟩ (.int .i64 32)).setCell ⟨w.heap.size, 1, none⟩ (.slice (some ⟨w10.heap.size, 0, none⟩) 3 3)) k2 n2 m2 k3 n3 m3 k4 n4 m4 72
        simp only [World.size_setCell] at ow
        go_wp2
        exact bodyPost_ret (v := .agg #[.int .i64 32, .slice (some ⟨w10.heap.size, 0, none⟩) 3 3]) (by simp [results, Tryz.results57, go_sem, q0, q1]) rfl ⟨⟨32, _, 3, 3, _, rfl, by omega, by omega, rfl, by omega, by omega, (by intro x hx; simp at hx; rcases hx with rfl | rfl | rfl <;> assumption), .inr ⟨_, _, rfl, by omega, ow⟩⟩, ⟨_, by omega, u2⟩, u3⟩
      · have ht' : ((t : Int) == 0) = false := by simp; omega
        go_wp2_with fail
        refine (arg_r B R q7 10 _ h7 (by omega) (by omega) (by omega)).mono ?_
        rintro e w8 ⟨⟨k2, n2, m2, n2lo, n2hi, rfl⟩, ⟨q8, hq8, h8⟩, g8⟩
        have G8 : w.grownBy w8 (some R) := gb_pick G7 g8
        have S8 := S7.grown g8 (by simp; omega)
        have lt8 := S8.lt
        have bnd8 : -3000000000 ≤ n2 ∧ n2 ≤ 3000000000 := ⟨n2lo, n2hi⟩
        clear g8 G7 S7 h7
        go_wp2_with fail
        refine (real4_r B R q8 _ h8 (by omega)).mono ?_
        rintro e w9 ⟨⟨k3, n3, m3, n3lo, n3hi, rfl⟩, ⟨q9, hq9, h9⟩, g9⟩
        have G9 : w.grownBy w9 (some R) := gb_pick G8 g9
        have S9 := S8.grown g9 (by simp; omega)
        have lt9 := S9.lt
        have bnd9 : -3000000000 ≤ n3 ∧ n3 ≤ 3000000000 := ⟨n3lo, n3hi⟩
        clear g9 G8 S8 h8
        go_wp2_with fail
        refine (real4_r B R q9 _ h9 (by omega)).mono ?_
        rintro e w10 ⟨⟨k4, n4, m4, n4lo, n4hi, rfl⟩, ⟨q10, hq10, h10⟩, g10⟩
        have G10 : w.grownBy w10 (some R) := gb_pick G9 g10
        have S10 := S9.grown g10 (by simp; omega)
        have lt10 := S10.lt
        have bnd10 : -3000000000 ≤ n4 ∧ n4 ≤ 3000000000 := ⟨n4lo, n4hi⟩
        clear g10 G9 S9 h9
        go_wp2_with fail
        refine (spec_arity 32 _).mono ?_
        rintro e w11 ⟨rfl, rfl⟩
        rw [show arN 32 = 3 from rfl]
        obtain ⟨u1, u2, u3⟩ := elem_end (.int .i64 32) (.slice (some ⟨w10.heap.size, 0, none⟩) 3 3) (.cells #[.int .i64 k2, .int .i64 n2, .int .i64 m2, .int .i64 k3, .int .i64 n3, .int .i64 m3, .int .i64 k4, .int .i64 n4, .int .i64 m4] 72) S10 h10 G10 hBw (Nat.le_refl _)
        obtain ⟨c0, c1, f0, f1⟩ := S10
        obtain ⟨q0, q1, _, _⟩ := u1
        have ow := ops3 ((w10.setCell ⟨w.heap.size, 0, none⟩ (.int .i64 32)).setCell ⟨w.heap.size, 1, none⟩ (.slice (some ⟨w10.heap.size, 0, none⟩) 3 3)) k2 n2 m2 k3 n3 m3 k4 n4 m4 72
        simp only [World.size_setCell] at ow
        go_wp2
        exact bodyPost_ret (v := .agg #[.int .i64 32, .slice (some ⟨w10.heap.size, 0, none⟩) 3 3]) (by simp [results, Tryz.results57, go_sem, q0, q1]) rfl ⟨⟨32, _, 3, 3, _, rfl, by omega, by omega, rfl, by omega, by omega, (by intro x hx; simp at hx; rcases hx with rfl | rfl | rfl <;> assumption), .inr ⟨_, _, rfl, by omega, ow⟩⟩, ⟨_, by omega, u2⟩, u3⟩
    · go_wp2_with fail
      refine (pick_r B R q6 2 _ h6 (by omega) (by omega) (by omega)).mono ?_
      rintro e w7 ⟨t, t1, rfl, h7', g7⟩
      have G7 : w.grownBy w7 (some R) := gb_pick G6 g7
      have S7 := S6.grown g7 (by simp; omega)
      obtain ⟨q7, hq7, h7⟩ : ∃ q, q ≤ q6 + 1 ∧ Reader B w7 R q := ⟨_, Nat.le_refl _, h7'⟩
      clear g7 G6 S6 h6 h7'
      by_cases ht : t = 0
      · subst ht
        go_wp2_with fail
        refine (arg_r B R q7 9 _ h7 (by omega) (by omega) (by omega)).mono ?_
        rintro e w8 ⟨⟨k2, n2, m2, n2lo, n2hi, rfl⟩, ⟨q8, hq8, h8⟩, g8⟩
        have G8 : w.grownBy w8 (some R) := gb_pick G7 g8
        have S8 := S7.grown g8 (by simp; omega)
        have lt8 := S8.lt
        have bnd8 : -3000000000 ≤ n2 ∧ n2 ≤ 3000000000 := ⟨n2lo, n2hi⟩
        clear g8 G7 S7 h7
        go_wp2_with fail
        refine (whole_r B R q8 _ h8 (by omega)).mono ?_
        rintro e w9 ⟨⟨k3, n3, m3, n3lo, n3hi, rfl⟩, ⟨q9, hq9, h9⟩, g9⟩
        have G9 : w.grownBy w9 (some R) := gb_pick G8 g9
        have S9 := S8.grown g9 (by simp; omega)
        have lt9 := S9.lt
        have bnd9 : -3000000000 ≤ n3 ∧ n3 ≤ 3000000000 := ⟨n3lo, n3hi⟩
        clear g9 G8 S8 h8
        go_wp2_with fail
        refine (whole_r B R q9 _ h9 (by omega)).mono ?_
        rintro e w10 ⟨⟨k4, n4, m4, n4lo, n4hi, rfl⟩, ⟨q10, hq10, h10⟩, g10⟩
        have G10 : w.grownBy w10 (some R) := gb_pick G9 g10
        have S10 := S9.grown g10 (by simp; omega)
        have lt10 := S10.lt
        have bnd10 : -3000000000 ≤ n4 ∧ n4 ≤ 3000000000 := ⟨n4lo, n4hi⟩
        clear g10 G9 S9 h9
        go_wp2_with fail
        refine (spec_arity 33 _).mono ?_
        rintro e w11 ⟨rfl, rfl⟩
        rw [show arN 33 = 3 from rfl]
        obtain ⟨u1, u2, u3⟩ := elem_end (.int .i64 33) (.slice (some ⟨w10.heap.size, 0, none⟩) 3 3) (.cells #[.int .i64 k2, .int .i64 n2, .int .i64 m2, .int .i64 k3, .int .i64 n3, .int .i64 m3, .int .i64 k4, .int .i64 n4, .int .i64 m4] 72) S10 h10 G10 hBw (Nat.le_refl _)
        obtain ⟨c0, c1, f0, f1⟩ := S10
        obtain ⟨q0, q1, _, _⟩ := u1
        have ow := ops3 ((w10.setCell ⟨w.heap.size, 0, none⟩ (.int .i64 33)).setCell ⟨w.heap.size, 1, none⟩ (.slice (some ⟨w10.heap.size, 0, none⟩) 3 3)) k2 n2 m2 k3 n3 m3 k4 n4 m4 72
        simp only [World.size_setCell] at ow
        go_wp2
        exact bodyPost_ret (v := .agg #[.int .i64 33, .slice (some ⟨w10.heap.size, 0, none⟩) 3 3]) (by simp [results, Tryz.results57, go_sem, q0, q1]) rfl ⟨⟨33, _, 3, 3, _, rfl, by omega, by omega, rfl, by omega, by omega, (by intro x hx; simp at hx; rcases hx with rfl | rfl | rfl <;> assumption), .inr ⟨_, _, rfl, by omega, ow⟩⟩, ⟨_, by omega, u2⟩, u3⟩
      · have ht' : ((t : Int) == 0) = false := by simp; omega
        go_wp2_with fail
        refine (arg_r B R q7 10 _ h7 (by omega) (by omega) (by omega)).mono ?_
        rintro e w8 ⟨⟨k2, n2, m2, n2lo, n2hi, rfl⟩, ⟨q8, hq8, h8⟩, g8⟩
        have G8 : w.grownBy w8 (some R) := gb_pick G7 g8
        have S8 := S7.grown g8 (by simp; omega)
        have lt8 := S8.lt
        have bnd8 : -3000000000 ≤ n2 ∧ n2 ≤ 3000000000 := ⟨n2lo, n2hi⟩
        clear g8 G7 S7 h7
        go_wp2_with fail
        refine (real4_r B R q8 _ h8 (by omega)).mono ?_
        rintro e w9 ⟨⟨k3, n3, m3, n3lo, n3hi, rfl⟩, ⟨q9, hq9, h9⟩, g9⟩
        have G9 : w.grownBy w9 (some R) := gb_pick G8 g9
        have S9 := S8.grown g9 (by simp; omega)
        have lt9 := S9.lt
        have bnd9 : -3000000000 ≤ n3 ∧ n3 ≤ 3000000000 := ⟨n3lo, n3hi⟩
        clear g9 G8 S8 h8
        go_wp2_with fail
        refine (real4_r B R q9 _ h9 (by omega)).mono ?_
        rintro e w10 ⟨⟨k4, n4, m4, n4lo, n4hi, rfl⟩, ⟨q10, hq10, h10⟩, g10⟩
        have G10 : w.grownBy w10 (some R) := gb_pick G9 g10
        have S10 := S9.grown g10 (by simp; omega)
        have lt10 := S10.lt
        have bnd10 : -3000000000 ≤ n4 ∧ n4 ≤ 3000000000 := ⟨n4lo, n4hi⟩
        clear g10 G9 S9 h9
        go_wp2_with fail
        refine (spec_arity 33 _).mono ?_
        rintro e w11 ⟨rfl, rfl⟩
        rw [show arN 33 = 3 from rfl]
        obtain ⟨u1, u2, u3⟩ := elem_end (.int .i64 33) (.slice (some ⟨w10.heap.size, 0, none⟩) 3 3) (.cells #[.int .i64 k2, .int .i64 n2, .int .i64 m2, .int .i64 k3, .int .i64 n3, .int .i64 m3, .int .i64 k4, .int .i64 n4, .int .i64 m4] 72) S10 h10 G10 hBw (Nat.le_refl _)
        obtain ⟨c0, c1, f0, f1⟩ := S10
        obtain ⟨q0, q1, _, _⟩ := u1
        have ow := ops3 ((w10.setCell ⟨w.heap.size, 0, none⟩ (.int .i64 33)).setCell ⟨w.heap.size, 1, none⟩ (.slice (some ⟨w10.heap.size, 0, none⟩) 3 3)) k2 n2 m2 k3 n3 m3 k4 n4 m4 72
        simp only [World.size_setCell] at ow
        go_wp2
        exact bodyPost_ret (v := .agg #[.int .i64 33, .slice (some ⟨w10.heap.size, 0, none⟩) 3 3]) (by simp [results, Tryz.results57, go_sem, q0, q1]) rfl ⟨⟨33, _, 3, 3, _, rfl, by omega, by omega, rfl, by omega, by omega, (by intro x hx; simp at hx; rcases hx with rfl | rfl | rfl <;> assumption), .inr ⟨_, _, rfl, by omega, ow⟩⟩, ⟨_, by omega, u2⟩, u3⟩
    · go_wp2_with fail
      refine (pick_r B R q6 2 _ h6 (by omega) (by omega) (by omega)).mono ?_
      rintro e w7 ⟨t, t1, rfl, h7', g7⟩
      have G7 : w.grownBy w7 (some R) := gb_pick G6 g7
      have S7 := S6.grown g7 (by simp; omega)
      obtain ⟨q7, hq7, h7⟩ : ∃ q, q ≤ q6 + 1 ∧ Reader B w7 R q := ⟨_, Nat.le_refl _, h7'⟩
      clear g7 G6 S6 h6 h7'
      by_cases ht : t = 0
      · subst ht
        go_wp2_with fail
        refine (arg_r B R q7 9 _ h7 (by omega) (by omega) (by omega)).mono ?_
        rintro e w8 ⟨⟨k2, n2, m2, n2lo, n2hi, rfl⟩, ⟨q8, hq8, h8⟩, g8⟩
        have G8 : w.grownBy w8 (some R) := gb_pick G7 g8
        have S8 := S7.grown g8 (by simp; omega)
        have lt8 := S8.lt
        have bnd8 : -3000000000 ≤ n2 ∧ n2 ≤ 3000000000 := ⟨n2lo, n2hi⟩
        clear g8 G7 S7 h7
        go_wp2_with fail
        refine (whole_r B R q8 _ h8 (by omega)).mono ?_
        rintro e w9 ⟨⟨k3, n3, m3, n3lo, n3hi, rfl⟩, ⟨q9, hq9, h9⟩, g9⟩
        have G9 : w.grownBy w9 (some R) := gb_pick G8 g9
        have S9 := S8.grown g9 (by simp; omega)
        have lt9 := S9.lt
        have bnd9 : -3000000000 ≤ n3 ∧ n3 ≤ 3000000000 := ⟨n3lo, n3hi⟩
        clear g9 G8 S8 h8
        go_wp2_with fail
        refine (whole_r B R q9 _ h9 (by omega)).mono ?_
        rintro e w10 ⟨⟨k4, n4, m4, n4lo, n4hi, rfl⟩, ⟨q10, hq10, h10⟩, g10⟩
        have G10 : w.grownBy w10 (some R) := gb_pick G9 g10
        have S10 := S9.grown g10 (by simp; omega)
        have lt10 := S10.lt
        have bnd10 : -3000000000 ≤ n4 ∧ n4 ≤ 3000000000 := ⟨n4lo, n4hi⟩
        clear g10 G9 S9 h9
        go_wp2_with fail
        refine (spec_arity 34 _).mono ?_
        rintro e w11 ⟨rfl, rfl⟩
        rw [show arN 34 = 3 from rfl]
        obtain ⟨u1, u2, u3⟩ := elem_end (.int .i64 34) (.slice (some ⟨w10.heap.size, 0, none⟩) 3 3) (.cells #[.int .i64 k2, .int .i64 n2, .int .i64 m2, .int .i64 k3, .int .i64 n3, .int .i64 m3, .int .i64 k4, .int .i64 n4, .int .i64 m4] 72) S10 h10 G10 hBw (Nat.le_refl _)
        obtain ⟨c0, c1, f0, f1⟩ := S10
        obtain ⟨q0, q1, _, _⟩ := u1
        have ow := ops3 ((w10.setCell ⟨w.heap.size, 0, none⟩ (.int .i64 34)).setCell ⟨w.heap.size, 1, none⟩ (.slice (some ⟨w10.heap.size, 0, none⟩) 3 3)) k2 n2 m2 k3 n3 m3 k4 n4 m4 72
        simp only [World.size_setCell] at ow
        go_wp2
        exact bodyPost_ret (v := .agg #[.int .i64 34, .slice (some ⟨w10.heap.size, 0, none⟩) 3 3]) (by simp [results, Tryz.results57, go_sem, q0, q1]) rfl ⟨⟨34, _, 3, 3, _, rfl, by omega, by omega, rfl, by omega, by omega, (by intro x hx; simp at hx; rcases hx with rfl | rfl | rfl <;> assumption), .inr ⟨_, _, rfl, by omega, ow⟩⟩, ⟨_, by omega, u2⟩, u3⟩
      · have ht' : ((t : Int) == 0) = false := by simp; omega
        go_wp2_with fail
        refine (arg_r B R q7 10 _ h7 (by omega) (by omega) (by omega)).mono ?_
        rintro e w8 ⟨⟨k2, n2, m2, n2lo, n2hi, rfl⟩, ⟨q8, hq8, h8⟩, g8⟩
        have G8 : w.grownBy w8 (some R) := gb_pick G7 g8
        have S8 := S7.grown g8 (by simp; omega)
        have lt8 := S8.lt
        have bnd8 : -3000000000 ≤ n2 ∧ n2 ≤ 3000000000 := ⟨n2lo, n2hi⟩
        clear g8 G7 S7 h7
        go_wp2_with fail
        refine (real4_r B R q8 _ h8 (by omega)).mono ?_
        rintro e w9 ⟨⟨k3, n3, m3, n3lo, n3hi, rfl⟩, ⟨q9, hq9, h9⟩, g9⟩
        have G9 : w.grownBy w9 (some R) := gb_pick G8 g9
        have S9 := S8.grown g9 (by simp; omega)
        have lt9 := S9.lt
        have bnd9 : -3000000000 ≤ n3 ∧ n3 ≤ 3000000000 := ⟨n3lo, n3hi⟩
        clear g9 G8 S8 h8
        go_wp2_with fail
        refine (real4_r B R q9 _ h9 (by omega)).mono ?_
        rintro e w10 ⟨⟨k4, n4, m4, n4lo, n4hi, rfl⟩, ⟨q10, hq10, h10⟩, g10⟩
        have G10 : w.grownBy w10 (some R) := gb_pick G9 g10
        have S10 := S9.grown g10 (by simp; omega)
        have lt10 := S10.lt
        have bnd10 : -3000000000 ≤ n4 ∧ n4 ≤ 3000000000 := ⟨n4lo, n4hi⟩
        clear g10 G9 S9 h9
        go_wp2_with fail
        refine (spec_arity 34 _).mono ?_
        rintro e w11 ⟨rfl, rfl⟩
        rw [show arN 34 = 3 from rfl]
        obtain ⟨u1, u2, u3⟩ := elem_end (.int .i64 34) (.slice (some ⟨w10.heap.size, 0, none⟩) 3 3) (.cells #[.int .i64 k2, .int .i64 n2, .int .i64 m2, .int .i64 k3, .int .i64 n3, .int .i64 m3, .int .i64 k4, .int .i64 n4, .int .i64 m4] 72) S10 h10 G10 hBw (Nat.le_refl _)
        obtain ⟨c0, c1, f0, f1⟩ := S10
        obtain ⟨q0, q1, _, _⟩ := u1
        have ow := ops3 ((w10.setCell ⟨w.heap.size, 0, none⟩ (.int .i64 34)).setCell ⟨w.heap.size, 1, none⟩ (.slice (some ⟨w10.heap.size, 0, none⟩) 3 3)) k2 n2 m2 k3 n3 m3 k4 n4 m4 72
        simp only [World.size_setCell] at ow
        go_wp2
        exact bodyPost_ret (v := .agg #[.int .i64 34, .slice (some ⟨w10.heap.size, 0, none⟩) 3 3]) (by simp [results, Tryz.results57, go_sem, q0, q1]) rfl ⟨⟨34, _, 3, 3, _, rfl, by omega, by omega, rfl, by omega, by omega, (by intro x hx; simp at hx; rcases hx with rfl | rfl | rfl <;> assumption), .inr ⟨_, _, rfl, by omega, ow⟩⟩, ⟨_, by omega, u2⟩, u3⟩
    · go_wp2_with fail
      refine (arg_r B R q6 9 _ h6 (by omega) (by omega) (by omega)).mono ?_
      rintro e w7 ⟨⟨k2, n2, m2, n2lo, n2hi, rfl⟩, ⟨q7, hq7, h7⟩, g7⟩
      have G7 : w.grownBy w7 (some R) := gb_pick G6 g7
      have S7 := S6.grown g7 (by simp; omega)
      have lt7 := S7.lt
      have bnd7 : -3000000000 ≤ n2 ∧ n2 ≤ 3000000000 := ⟨n2lo, n2hi⟩
      clear g7 G6 S6 h6
      go_wp2_with fail
      refine (whole_r B R q7 _ h7 (by omega)).mono ?_
      rintro e w8 ⟨⟨k3, n3, m3, n3lo, n3hi, rfl⟩, ⟨q8, hq8, h8⟩, g8⟩
      have G8 : w.grownBy w8 (some R) := gb_pick G7 g8
      have S8 := S7.grown g8 (by simp; omega)
      have lt8 := S8.lt
      have bnd8 : -3000000000 ≤ n3 ∧ n3 ≤ 3000000000 := ⟨n3lo, n3hi⟩
      clear g8 G7 S7 h7
      go_wp2_with fail
      refine (whole_r B R q8 _ h8 (by omega)).mono ?_
      rintro e w9 ⟨⟨k4, n4, m4, n4lo, n4hi, rfl⟩, ⟨q9, hq9, h9⟩, g9⟩
      have G9 : w.grownBy w9 (some R) := gb_pick G8 g9
      have S9 := S8.grown g9 (by simp; omega)
      have lt9 := S9.lt
      have bnd9 : -3000000000 ≤ n4 ∧ n4 ≤ 3000000000 := ⟨n4lo, n4hi⟩
      clear g9 G8 S8 h8
      go_wp2_with fail
      refine (spec_arity 35 _).mono ?_
      rintro e w11 ⟨rfl, rfl⟩
      rw [show arN 35 = 3 from rfl]
      obtain ⟨u1, u2, u3⟩ := elem_end (.int .i64 35) (.slice (some ⟨w9.heap.size, 0, none⟩) 3 3) (.cells #[.int .i64 k2, .int .i64 n2, .int .i64 m2, .int .i64 k3, .int .i64 n3, .int .i64 m3, .int .i64 k4, .int .i64 n4, .int .i64 m4] 72) S9 h9 G9 hBw (Nat.le_refl _)
      obtain ⟨c0, c1, f0, f1⟩ := S9
      obtain ⟨q0, q1, _, _⟩ := u1
      have ow := ops3 ((w9.setCell ⟨w.heap.size, 0, none⟩ (.int .i64 35)).setCell ⟨w.heap.size, 1, none⟩ (.slice (some ⟨w9.heap.size, 0, none⟩) 3 3)) k2 n2 m2 k3 n3 m3 k4 n4 m4 72
      simp only [World.size_setCell] at ow
      go_wp2
      exact bodyPost_ret (v := .agg #[.int .i64 35, .slice (some ⟨w9.heap.size, 0, none⟩) 3 3]) (by simp [results, Tryz.results57, go_sem, q0, q1]) rfl ⟨⟨35, _, 3, 3, _, rfl, by omega, by omega, rfl, by omega, by omega, (by intro x hx; simp at hx; rcases hx with rfl | rfl | rfl <;> assumption), .inr ⟨_, _, rfl, by omega, ow⟩⟩, ⟨_, by omega, u2⟩, u3⟩
    · go_wp2_with fail
      refine (arg_r B R q6 10 _ h6 (by omega) (by omega) (by omega)).mono ?_
      rintro e w7 ⟨⟨k2, n2, m2, n2lo, n2hi, rfl⟩, ⟨q7, hq7, h7⟩, g7⟩
      have G7 : w.grownBy w7 (some R) := gb_pick G6 g7
      have S7 := S6.grown g7 (by simp; omega)
      have lt7 := S7.lt
      have bnd7 : -3000000000 ≤ n2 ∧ n2 ≤ 3000000000 := ⟨n2lo, n2hi⟩
      clear g7 G6 S6 h6
      go_wp2_with fail
      refine (whole_r B R q7 _ h7 (by omega)).mono ?_
      rintro e w8 ⟨⟨k3, n3, m3, n3lo, n3hi, rfl⟩, ⟨q8, hq8, h8⟩, g8⟩
      have G8 : w.grownBy w8 (some R) := gb_pick G7 g8
      have S8 := S7.grown g8 (by simp; omega)
      have lt8 := S8.lt
      have bnd8 : -3000000000 ≤ n3 ∧ n3 ≤ 3000000000 := ⟨n3lo, n3hi⟩
      clear g8 G7 S7 h7
      obtain ⟨u1, u2, u3⟩ := elem_end (.int .i64 36) (.slice (some ⟨w8.heap.size, 0, none⟩) 2 2) (.cells #[.int .i64 k2, .int .i64 n2, .int .i64 m2, .int .i64 k3, .int .i64 n3, .int .i64 m3] 72) S8 h8 G8 hBw (Nat.le_refl _)
      obtain ⟨c0, c1, f0, f1⟩ := S8
      obtain ⟨q0, q1, _, _⟩ := u1
      have ow := ops2 ((w8.setCell ⟨w.heap.size, 0, none⟩ (.int .i64 36)).setCell ⟨w.heap.size, 1, none⟩ (.slice (some ⟨w8.heap.size, 0, none⟩) 2 2)) k2 n2 m2 k3 n3 m3 72
      simp only [World.size_setCell] at ow
      go_wp2
      exact bodyPost_ret (v := .agg #[.int .i64 36, .slice (some ⟨w8.heap.size, 0, none⟩) 2 2]) (by simp [results, Tryz.results57, go_sem, q0, q1]) rfl ⟨⟨36, _, 2, 2, _, rfl, by omega, by omega, rfl, by omega, by omega, (by intro x hx; simp at hx; rcases hx with rfl | rfl <;> assumption), .inr ⟨_, _, rfl, by omega, ow⟩⟩, ⟨_, by omega, u2⟩, u3⟩
    · go_wp2_with fail
      refine (arg_r B R q6 9 _ h6 (by omega) (by omega) (by omega)).mono ?_
      rintro e w7 ⟨⟨k2, n2, m2, n2lo, n2hi, rfl⟩, ⟨q7, hq7, h7⟩, g7⟩
      have G7 : w.grownBy w7 (some R) := gb_pick G6 g7
      have S7 := S6.grown g7 (by simp; omega)
      have lt7 := S7.lt
      have bnd7 : -3000000000 ≤ n2 ∧ n2 ≤ 3000000000 := ⟨n2lo, n2hi⟩
      clear g7 G6 S6 h6
      go_wp2_with fail
      refine (real4_r B R q7 _ h7 (by omega)).mono ?_
      rintro e w8 ⟨⟨k3, n3, m3, n3lo, n3hi, rfl⟩, ⟨q8, hq8, h8⟩, g8⟩
      have G8 : w.grownBy w8 (some R) := gb_pick G7 g8
      have S8 := S7.grown g8 (by simp; omega)
      have lt8 := S8.lt
      have bnd8 : -3000000000 ≤ n3 ∧ n3 ≤ 3000000000 := ⟨n3lo, n3hi⟩
      clear g8 G7 S7 h7
      obtain ⟨u1, u2, u3⟩ := elem_end (.int .i64 37) (.slice (some ⟨w8.heap.size, 0, none⟩) 2 2) (.cells #[.int .i64 k2, .int .i64 n2, .int .i64 m2, .int .i64 k3, .int .i64 n3, .int .i64 m3] 72) S8 h8 G8 hBw (Nat.le_refl _)
      obtain ⟨c0, c1, f0, f1⟩ := S8
      obtain ⟨q0, q1, _, _⟩ := u1
      have ow := ops2 ((w8.setCell ⟨w.heap.size, 0, none⟩ (.int .i64 37)).setCell ⟨w.heap.size, 1, none⟩ (.slice (some ⟨w8.heap.size, 0, none⟩) 2 2)) k2 n2 m2 k3 n3 m3 72
      simp only [World.size_setCell] at ow
      go_wp2
      exact bodyPost_ret (v := .agg #[.int .i64 37, .slice (some ⟨w8.heap.size, 0, none⟩) 2 2]) (by simp [results, Tryz.results57, go_sem, q0, q1]) rfl ⟨⟨37, _, 2, 2, _, rfl, by omega, by omega, rfl, by omega, by omega, (by intro x hx; simp at hx; rcases hx with rfl | rfl <;> assumption), .inr ⟨_, _, rfl, by omega, ow⟩⟩, ⟨_, by omega, u2⟩, u3⟩
end Go.Proofs.YtcihplachlokiaaGreatDoor.Rr

