/- The law FnExactTreeUses. -/
import Derived.Test.YtocnhfecnhndgaaGw
import Derived.Test.YtocnhfecnhndgaaGk
import Derived.Deep.RegionWith
namespace Go.Proofs.Ytocnhfecnhndgaa
open Go.RowKit
set_option linter.unusedVariables false

set_option maxRecDepth 10000 in
set_option maxHeartbeats 8000000 in
theorem law_uses (v : Value) (k n p : Int) (w : World) (ha : ∃ m xs, ArmsIs w 0 m v xs) (_ : (Lit.int .i64 k).wf = true) (_ : (Lit.int .i64 n).wf = true) (_ : (Lit.int .i64 p).wf = true) :
    Calls Try.prog 5 #[v, .agg #[.int .i64 k, .int .i64 n, .int .i64 p]] w fun e w' => e = .returned (.bool true) ∧ Below w.heap.size w w' := by
  obtain ⟨m, xs, hx⟩ := ha
  have HX : Hid (ArmsIs w 0 m v xs) := hx
  clear hx
  have LX : Hid (∀ W, Below w.heap.size w W → ArmsIs W 0 m v xs) := fun W g => armsIs_move (Keeps.of_below g 0) (Nat.le_refl _) (Nat.le_refl _) HX.out
  obtain ⟨q, Hp⟩ : ∃ p, Hid (p = xs.length + (xs.map (wA m)).sum) := ⟨_, rfl⟩
  have b0 : Below w.heap.size w (w.alloc (.cells #[.int .i64 k, .int .i64 n, .int .i64 p] 31)) := (Below.refl _ _).alloc (Nat.le_refl _) _
  have K0 : Hid ((w.alloc (.cells #[.int .i64 k, .int .i64 n, .int .i64 p] 31)).heap[w.heap.size]? = some (.cells #[.int .i64 k, .int .i64 n, .int .i64 p] 31 (0, 0)) ∧ w.heap.size < (w.alloc (.cells #[.int .i64 k, .int .i64 n, .int .i64 p] 31)).heap.size) := ⟨heap_alloc_last w _, by simp⟩
  go_enter Try.func5, Try.ntmps5
  go_wp2_with fail
  refine (sz_arms m 1048576 (by omega) (by omega) v xs _ 0 (LX.out _ b0)).mono ?_
  rintro e w1 ⟨rfl, g1⟩
  rw [← Hp.out]
  have k1 : w1.heap[w.heap.size]? = some (.cells #[.int .i64 k, .int .i64 n, .int .i64 p] 31 (0, 0)) := (g1.block _ K0.out.2).trans K0.out.1
  have b1 : Below w.heap.size w w1 := b0.trans (g1.mono b0.size)
  clear g1 K0 b0
  by_cases hp : (q : Int) ≤ 1048576
  case neg =>
    rw [szR_no hp]
    go_wp2
    go_ret
    exact ⟨rfl, b1⟩
  rw [szR_yes hp]
  have i1 : ¬ ((1048576 : Int) - q < 0) := by omega
  have hpp : xs.length + (xs.map (wA m)).sum ≤ 1048576 := by have := Hp.out; omega
  have HTX : Hid (∀ W, Below w.heap.size w W → Calls Try.prog 9 #[v] W fun r w' => ∃ v', r = .returned v' ∧ ArmsIs w' W.heap.size m v' xs ∧ Below W.heap.size W w') := fun W g => to_arms m v xs W 0 (LX.out W g) hpp
  obtain ⟨us, Hus⟩ : ∃ s, Hid (s = usP (k, n, p) (xs.flatMap (pArm m))) := ⟨_, rfl⟩
  have HS1 : Hid (∀ t W, ArmsIs W 0 m t xs → Calls Try.prog 14 #[t, .agg #[.int .i64 k, .int .i64 n, .int .i64 p]] W fun r w' => r = .returned (.int .i64 (us : Int)) ∧ Below W.heap.size W w') := fun t W h => by rw [Hus.out]; exact armsUses_s k n p m t xs W 0 h hpp
  have HS2 : Hid (∀ t W, ArmsIs W 0 m t xs → Calls Try.prog 16 #[t, .agg #[.int .i64 k, .int .i64 n, .int .i64 p]] W fun r w' => r = .returned (.int .i64 (us : Int)) ∧ Below W.heap.size W w') := fun t W h => by
    have hle := szArms_le m xs
    have hln := szP_len (xs.flatMap (pArm m))
    rw [Hus.out]; exact uses_i k n p m t xs W h (by omega) (by omega)
  have HTA : Hid (∀ W, Calls Try.prog 15 #[.agg #[.int .i64 k, .int .i64 n, .int .i64 p]] W fun e w' => e = .returned (.agg #[.int .i64 k, .int .i64 n, .int .i64 p]) ∧ Below W.heap.size W w') := fun W => to_arg k n p W
  clear LX HX Hp hpp Hus
  have d0 : w1.cell? ⟨w.heap.size, 0, none⟩ = some (.int .i64 k) := (cell_of_row _ _ _ _ _ _ k1).trans rfl
  have d1 : w1.cell? ⟨w.heap.size, 1, none⟩ = some (.int .i64 n) := (cell_of_row _ _ _ _ _ _ k1).trans rfl
  have d2 : w1.cell? ⟨w.heap.size, 2, none⟩ = some (.int .i64 p) := (cell_of_row _ _ _ _ _ _ k1).trans rfl
  have K1 : Hid (w1.heap[w.heap.size]? = some (.cells #[.int .i64 k, .int .i64 n, .int .i64 p] 31 (0, 0))) := k1
  clear k1
  go_upto_region 5 with fail
  go_cut [6] from 14 (fun s wc => s = .int .i64 (us : Int) ∧ Hid (Below w.heap.size w wc) ∧ Hid (wc.heap[w.heap.size]? = some (.cells #[.int .i64 k, .int .i64 n, .int .i64 p] 31 (0, 0))))
  case first =>
    go_region_with (first
      | (go_at_call 9; refine (HTX.out _ b1.drew).mono ?_; rintro e w3 ⟨t1, rfl, kk, g3⟩; have b3 : Below w.heap.size w w3 := b1.drew.trans (g3.mono b1.drew.size); have K3 : ArmsIs w3 0 m t1 xs := armsIs_move (Keeps.refl _ _) (Nat.zero_le _) (Nat.le_refl _) kk; have e0 : w3.cell? ⟨w.heap.size, 0, none⟩ = some (.int .i64 k) := (Keeps.of_below g3 0) _ _ _ (Nat.zero_le _) (by simpa using d0); have e1 : w3.cell? ⟨w.heap.size, 1, none⟩ = some (.int .i64 n) := (Keeps.of_below g3 0) _ _ _ (Nat.zero_le _) (by simpa using d1); have e2 : w3.cell? ⟨w.heap.size, 2, none⟩ = some (.int .i64 p) := (Keeps.of_below g3 0) _ _ _ (Nat.zero_le _) (by simpa using d2); have kb3 : w3.heap[w.heap.size]? = some (.cells #[.int .i64 k, .int .i64 n, .int .i64 p] 31 (0, 0)) := (g3.block _ (Array.getElem?_eq_some_iff.1 K1.out).1).trans K1.out; clear g3 kk)
      | (go_at_call 15; refine (HTA.out _).mono ?_; rintro e w4 ⟨rfl, g4⟩; have b4 : Below w.heap.size w w4 := b3.trans (g4.mono b3.size); have K4 : ArmsIs w4 0 m t1 xs := armsIs_move (Keeps.of_below g4 0) (Nat.zero_le _) (Nat.le_refl _) K3; have kb4 : w4.heap[w.heap.size]? = some (.cells #[.int .i64 k, .int .i64 n, .int .i64 p] 31 (0, 0)) := (g4.block _ (Array.getElem?_eq_some_iff.1 kb3).1).trans kb3; clear g4)
      | (go_at_call 14; refine (HS1.out t1 _ K4).mono ?_; rintro e w5 ⟨rfl, g5⟩; have b5 : Below w.heap.size w w5 := b4.trans (g5.mono b4.size); have kb5 : w5.heap[w.heap.size]? = some (.cells #[.int .i64 k, .int .i64 n, .int .i64 p] 31 (0, 0)) := (g5.block _ (Array.getElem?_eq_some_iff.1 kb4).1).trans kb4; clear g5))
    all_goals (go_wp2_with fail; go_meet; exact ⟨rfl, b5, kb5⟩)
  case rest =>
    clear d0 d1 d2 K1 b1
    obtain ⟨rfl, HB5, HK5⟩ := hcut
    go_wp2_with fail
    refine (HTX.out _ HB5.out).mono ?_
    rintro e w6 ⟨x0, rfl, k6, g6⟩
    have b6 := HB5.out.trans (g6.mono HB5.out.size)
    have kb6 : w6.heap[w.heap.size]? = some (.cells #[.int .i64 k, .int .i64 n, .int .i64 p] 31 (0, 0)) := (g6.block _ (Array.getElem?_eq_some_iff.1 HK5.out).1).trans HK5.out
    have X6 : Hid (ArmsIs w6 0 m x0 xs) := armsIs_move (Keeps.refl _ _) (Nat.zero_le _) (Nat.le_refl _) k6
    have d0 : w6.cell? ⟨w.heap.size, 0, none⟩ = some (.int .i64 k) := (cell_of_row _ _ _ _ _ _ kb6).trans rfl
    have d1 : w6.cell? ⟨w.heap.size, 1, none⟩ = some (.int .i64 n) := (cell_of_row _ _ _ _ _ _ kb6).trans rfl
    have d2 : w6.cell? ⟨w.heap.size, 2, none⟩ = some (.int .i64 p) := (cell_of_row _ _ _ _ _ _ kb6).trans rfl
    clear g6 k6 kb6 HB5 HK5
    go_wp2_with fail
    refine (HTA.out _).mono ?_
    rintro e w7 ⟨rfl, g7⟩
    have b7 := b6.trans (g7.mono b6.size)
    have X7 : Hid (ArmsIs w7 0 m x0 xs) := armsIs_move (Keeps.of_below g7 0) (Nat.zero_le _) (Nat.le_refl _) X6.out
    clear g7 b6 X6 d0 d1 d2
    go_wp2_with fail
    refine (HS2.out x0 w7 X7.out).mono ?_
    rintro e w8 ⟨rfl, g8⟩
    have b8 := b7.trans (g8.mono b7.size)
    have X8 : Hid (ArmsIs w8 0 m x0 xs) := armsIs_move (Keeps.of_below g8 0) (Nat.zero_le _) (Nat.le_refl _) X7.out
    clear g8 b7 X7
    go_wp2_with fail
    refine (HTX.out _ b8).mono ?_
    rintro e w9 ⟨x2, rfl, k9, g9⟩
    have b9 := b8.trans (g9.mono b8.size)
    have X9 : Hid (ArmsIs w9 0 m x0 xs) := armsIs_move (Keeps.of_below g9 0) (Nat.zero_le _) (Nat.le_refl _) X8.out
    have Z9 : Hid (ArmsIs w9 0 m x2 xs) := armsIs_move (Keeps.refl _ _) (Nat.zero_le _) (Nat.le_refl _) k9
    clear g9 b8 X8 k9
    go_wp2_with fail
    refine (eq_arms m m x0 x2 xs xs w9 0 0 X9.out Z9.out).mono ?_
    rintro e wa ⟨rfl, ga⟩
    rw [eqB_refl]
    have ba := b9.trans (ga.mono b9.size)
    clear ga b9 X9 Z9
    go_wp2
    go_ret
    exact ⟨rfl, ba⟩
end Go.Proofs.Ytocnhfecnhndgaa
