/- The law FnExactTreeSize. -/
import Derived.Test.YtocnhfecnhndgaaGr
import Derived.Test.YtocnhfecnhndgaaGk
namespace Go.Proofs.Ytocnhfecnhndgaa
open Go.RowKit
set_option linter.unusedVariables false

set_option maxRecDepth 10000 in
set_option maxHeartbeats 4000000 in
theorem law_size (v : Value) (w : World) (ha : ∃ m xs, ArmsIs w 0 m v xs) :
    Calls Try.prog 3 #[v] w fun e w' => e = .returned (.bool true) ∧ Below w.heap.size w w' := by
  obtain ⟨m, xs, hx⟩ := ha
  have HX : Hid (ArmsIs w 0 m v xs) := hx
  clear hx
  have LX : Hid (∀ W, Below w.heap.size w W → ArmsIs W 0 m v xs) := fun W g => armsIs_move (Keeps.of_below g 0) (Nat.le_refl _) (Nat.le_refl _) HX.out
  obtain ⟨p, Hp⟩ : ∃ p, Hid (p = xs.length + (xs.map (wA m)).sum) := ⟨_, rfl⟩
  go_enter Try.func3, Try.ntmps3
  go_wp2_with fail
  refine (sz_arms m 1048576 (by omega) (by omega) v xs w 0 HX.out).mono ?_
  rintro e w1 ⟨rfl, g1⟩
  rw [← Hp.out]
  have b1 : Below w.heap.size w w1 := g1
  clear g1
  by_cases hp : (p : Int) ≤ 1048576
  case neg =>
    rw [szR_no hp]
    go_wp2
    go_ret
    exact ⟨rfl, b1⟩
  rw [szR_yes hp]
  have i1 : ¬ ((1048576 : Int) - p < 0) := by omega
  have hpp : xs.length + (xs.map (wA m)).sum ≤ 1048576 := by have := Hp.out; omega
  have HTX : Hid (∀ W, Below w.heap.size w W → Calls Try.prog 9 #[v] W fun r w' => ∃ v', r = .returned v' ∧ ArmsIs w' W.heap.size m v' xs ∧ Below W.heap.size W w') := fun W g => to_arms m v xs W 0 (LX.out W g) hpp
  obtain ⟨sz, Hsz⟩ : ∃ s, Hid (s = szP (xs.flatMap (pArm m))) := ⟨_, rfl⟩
  have HS1 : Hid (∀ t W, ArmsIs W 0 m t xs → Calls Try.prog 8 #[t] W fun r w' => r = .returned (.int .i64 (sz : Int)) ∧ Below W.heap.size W w') := fun t W h => by rw [Hsz.out]; exact ss_arms m t xs W 0 h hpp
  have HS2 : Hid (∀ t W, ArmsIs W 0 m t xs → Calls Try.prog 10 #[t] W fun r w' => r = .returned (.int .i64 (sz : Int)) ∧ Below W.heap.size W w') := fun t W h => by
    have hle := szArms_le m xs
    have hln := szP_len (xs.flatMap (pArm m))
    rw [Hsz.out]; exact size_i m t xs W h (by omega) (by omega)
  clear LX HX Hp hpp Hsz
  go_wp2_with fail
  refine (HTX.out _ b1).mono ?_
  rintro e w3 ⟨t1, rfl, k1, g3⟩
  have b3 := b1.trans (g3.mono b1.size)
  have K1 : Hid (ArmsIs w3 0 m t1 xs) := armsIs_move (Keeps.refl _ _) (Nat.zero_le _) (Nat.le_refl _) k1
  clear g3 k1 b1
  go_wp2_with fail
  refine (HS1.out t1 w3 K1.out).mono ?_
  rintro e w5 ⟨rfl, g5⟩
  have b5 := b3.trans (g5.mono b3.size)
  clear g5 b3 K1
  go_wp2_with fail
  refine (HTX.out _ b5).mono ?_
  rintro e w6 ⟨x0, rfl, k6, g6⟩
  have b6 := b5.trans (g6.mono b5.size)
  have X6 : Hid (ArmsIs w6 0 m x0 xs) := armsIs_move (Keeps.refl _ _) (Nat.zero_le _) (Nat.le_refl _) k6
  clear g6 k6 b5
  go_wp2_with fail
  refine (HS2.out x0 w6 X6.out).mono ?_
  rintro e w8 ⟨rfl, g8⟩
  have b8 := b6.trans (g8.mono b6.size)
  have X8 : Hid (ArmsIs w8 0 m x0 xs) := armsIs_move (Keeps.of_below g8 0) (Nat.zero_le _) (Nat.le_refl _) X6.out
  clear g8 b6 X6
  go_wp2_with fail
  refine (HTX.out _ b8).mono ?_
  rintro e w9 ⟨x2, rfl, k9, g9⟩
  have b9 := b8.trans (g9.mono b8.size)
  have X9 : Hid (ArmsIs w9 0 m x0 xs) := armsIs_move (Keeps.of_below g9 0) (Nat.zero_le _) (Nat.le_refl _) X8.out
  have Z9 : Hid (ArmsIs w9 0 m x2 xs) := armsIs_move (Keeps.refl _ _) (Nat.zero_le _) (Nat.le_refl _) k9
  clear g9 b8 X8 k9
  go_wp2_with fail
  refine (eq_arms m m x0 x2 xs xs w9 0 0 X9.out Z9.out).mono ?_
  rintro e wa ⟨rfl, ga⟩
  rw [eqB_refl]
  have ba := b9.trans (ga.mono b9.size)
  clear ga b9 X9 Z9
  go_wp2
  go_ret
  exact ⟨rfl, ba⟩
end Go.Proofs.Ytocnhfecnhndgaa
