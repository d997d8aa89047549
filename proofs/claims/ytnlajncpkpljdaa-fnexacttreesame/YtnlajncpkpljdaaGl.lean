/- The law FnExactTreeSame. -/
import Derived.Test.YtnlajncpkpljdaaGj
import Derived.Test.YtnlajncpkpljdaaGk
namespace Go.Proofs.Ytnlajncpkpljdaa
open Go.RowKit
set_option linter.unusedVariables false

set_option maxRecDepth 10000 in
set_option maxHeartbeats 4000000 in
theorem law_same (v v' : Value) (w : World) (ha : ∃ m xs, ArmsIs w 0 m v xs) (hb : ∃ m xs, ArmsIs w 0 m v' xs) :
    Calls Try.prog 4 #[v, v'] w fun e w' => e = .returned (.bool true) ∧ Below w.heap.size w w' := by
  obtain ⟨m, xs, hx⟩ := ha
  obtain ⟨m', ys, hy⟩ := hb
  have HX : Hid (ArmsIs w 0 m v xs) := hx
  have HY : Hid (ArmsIs w 0 m' v' ys) := hy
  clear hx hy
  have LX : Hid (∀ W, Below w.heap.size w W → ArmsIs W 0 m v xs) := fun W g => armsIs_move (Keeps.of_below g 0) (Nat.le_refl _) (Nat.le_refl _) HX.out
  have LY : Hid (∀ W, Below w.heap.size w W → ArmsIs W 0 m' v' ys) := fun W g => armsIs_move (Keeps.of_below g 0) (Nat.le_refl _) (Nat.le_refl _) HY.out
  have b0 : Below w.heap.size w w := Below.refl _ _
  obtain ⟨p, Hp⟩ : ∃ p, Hid (p = xs.length + (xs.map (wA m)).sum) := ⟨_, rfl⟩
  obtain ⟨q, Hq⟩ : ∃ q, Hid (q = ys.length + (ys.map (wA m')).sum) := ⟨_, rfl⟩
  go_enter Try.func4, Try.ntmps4
  go_wp2_with fail
  refine (sz_arms m 1048576 (by omega) (by omega) v xs w 0 HX.out).mono ?_
  rintro e w1 ⟨rfl, g1⟩
  rw [← Hp.out]
  have b1 : Below w.heap.size w w1 := g1
  clear g1
  by_cases hp : (p : Int) ≤ 1048576
  case neg =>
    rw [szR_no hp]
    go_wp2
    go_ret
    exact ⟨rfl, b1⟩
  rw [szR_yes hp]
  have i1 : ¬ ((1048576 : Int) - p < 0) := by omega
  go_wp2_with fail
  refine (sz_arms m' (1048576 - p) (by omega) (by omega) v' ys w1 0 (LY.out _ b1)).mono ?_
  rintro e w2 ⟨rfl, g2⟩
  rw [← Hq.out]
  have b2 := b1.trans (g2.mono b1.size)
  clear g2
  by_cases hq : (q : Int) ≤ 1048576 - p
  case neg =>
    rw [szR_no hq]
    go_wp2
    go_ret
    exact ⟨rfl, b2⟩
  rw [szR_yes hq]
  have i2 : ¬ ((1048576 : Int) - p - q < 0) := by omega
  have HTX : Hid (∀ W, Below w.heap.size w W → Calls Try.prog 8 #[v] W fun r w' => ∃ v', r = .returned v' ∧ ArmsIs w' W.heap.size m v' xs ∧ Below W.heap.size W w') := fun W g => to_arms m v xs W 0 (LX.out W g) (by have := Hp.out; omega)
  have HTY : Hid (∀ W, Below w.heap.size w W → Calls Try.prog 8 #[v'] W fun r w' => ∃ v', r = .returned v' ∧ ArmsIs w' W.heap.size m' v' ys ∧ Below W.heap.size W w') := fun W g => to_arms m' v' ys W 0 (LY.out W g) (by have := Hq.out; omega)
  clear LX LY HX HY Hp Hq
  go_wp2_with fail
  refine (HTX.out _ b2).mono ?_
  rintro e w3 ⟨t1, rfl, k1, g3⟩
  have b3 := b2.trans (g3.mono b2.size)
  have K1 : Hid (ArmsIs w3 0 m t1 xs) := armsIs_move (Keeps.refl _ _) (Nat.zero_le _) (Nat.le_refl _) k1
  clear g3 k1 b2
  go_wp2_with fail
  refine (HTY.out _ b3).mono ?_
  rintro e w4 ⟨t2, rfl, k2, g4⟩
  have b4 := b3.trans (g4.mono b3.size)
  have K2 : Hid (ArmsIs w4 0 m' t2 ys) := armsIs_move (Keeps.refl _ _) (Nat.zero_le _) (Nat.le_refl _) k2
  have K1 : Hid (ArmsIs w4 0 m t1 xs) := armsIs_move (Keeps.of_below g4 0) (Nat.zero_le _) (Nat.le_refl _) K1.out
  clear g4 k2 b3
  go_wp2_with fail
  refine (s_arms m m' t1 t2 xs ys w4 0 0 K1.out K2.out).mono ?_
  rintro e w5 ⟨rfl, g5⟩
  have b5 := b4.trans (g5.mono b4.size)
  obtain ⟨R, HR⟩ : ∃ r, Hid (r = eqB xs ys) := ⟨_, rfl⟩
  rw [← HR.out]
  clear g5 b4 K1 K2
  go_wp2_with fail
  refine (HTX.out _ b5).mono ?_
  rintro e w6 ⟨x0, rfl, k6, g6⟩
  have b6 := b5.trans (g6.mono b5.size)
  have X6 : Hid (ArmsIs w6 0 m x0 xs) := armsIs_move (Keeps.refl _ _) (Nat.zero_le _) (Nat.le_refl _) k6
  clear g6 k6 b5
  go_wp2_with fail
  refine (HTY.out _ b6).mono ?_
  rintro e w7 ⟨x1, rfl, k7, g7⟩
  have b7 := b6.trans (g7.mono b6.size)
  have Y7 : Hid (ArmsIs w7 0 m' x1 ys) := armsIs_move (Keeps.refl _ _) (Nat.zero_le _) (Nat.le_refl _) k7
  have X7 : Hid (ArmsIs w7 0 m x0 xs) := armsIs_move (Keeps.of_below g7 0) (Nat.zero_le _) (Nat.le_refl _) X6.out
  clear g7 k7 b6 X6
  go_wp2_with fail
  refine (i_same m m' x0 x1 xs ys w7 0 0 X7.out Y7.out).mono ?_
  rintro e w8 ⟨rfl, g8⟩
  rw [← HR.out]
  have b8 := b7.trans (g8.mono b7.size)
  have Y8 : Hid (ArmsIs w8 0 m' x1 ys) := armsIs_move (Keeps.of_below g8 0) (Nat.zero_le _) (Nat.le_refl _) Y7.out
  have X8 : Hid (ArmsIs w8 0 m x0 xs) := armsIs_move (Keeps.of_below g8 0) (Nat.zero_le _) (Nat.le_refl _) X7.out
  clear g8 b7 X7 Y7
  go_wp2_with fail
  refine (HTX.out _ b8).mono ?_
  rintro e w9 ⟨x2, rfl, k9, g9⟩
  have b9 := b8.trans (g9.mono b8.size)
  have Y9 : Hid (ArmsIs w9 0 m' x1 ys) := armsIs_move (Keeps.of_below g9 0) (Nat.zero_le _) (Nat.le_refl _) Y8.out
  have X9 : Hid (ArmsIs w9 0 m x0 xs) := armsIs_move (Keeps.of_below g9 0) (Nat.zero_le _) (Nat.le_refl _) X8.out
  have Z9 : Hid (ArmsIs w9 0 m x2 xs) := armsIs_move (Keeps.refl _ _) (Nat.zero_le _) (Nat.le_refl _) k9
  clear g9 b8 X8 Y8 k9
  go_wp2_with fail
  refine (eq_arms m m x0 x2 xs xs w9 0 0 X9.out Z9.out).mono ?_
  rintro e wa ⟨rfl, ga⟩
  rw [eqB_refl]
  have ba := b9.trans (ga.mono b9.size)
  have Ya : Hid (ArmsIs wa 0 m' x1 ys) := armsIs_move (Keeps.of_below ga 0) (Nat.zero_le _) (Nat.le_refl _) Y9.out
  clear ga b9 X9 Y9 Z9
  go_wp2_with fail
  refine (HTY.out _ ba).mono ?_
  rintro e wb ⟨x3, rfl, kb, gb⟩
  have bb := ba.trans (gb.mono ba.size)
  have Yb : Hid (ArmsIs wb 0 m' x1 ys) := armsIs_move (Keeps.of_below gb 0) (Nat.zero_le _) (Nat.le_refl _) Ya.out
  have Zb : Hid (ArmsIs wb 0 m' x3 ys) := armsIs_move (Keeps.refl _ _) (Nat.zero_le _) (Nat.le_refl _) kb
  clear gb ba Ya kb
  go_wp2_with fail
  refine (eq_arms m' m' x1 x3 ys ys wb 0 0 Yb.out Zb.out).mono ?_
  rintro e wc ⟨rfl, gc⟩
  rw [eqB_refl]
  have bc := bb.trans (gc.mono bb.size)
  clear gc bb Yb Zb
  go_wp2
  go_ret
  exact ⟨rfl, bc⟩
end Go.Proofs.Ytnlajncpkpljdaa
