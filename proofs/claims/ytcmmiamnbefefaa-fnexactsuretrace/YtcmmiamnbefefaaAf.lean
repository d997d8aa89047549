/- The law FnExactSurePeak. -/
import Derived.Test.YtcmmiamnbefefaaAe
import Derived.Test.YtcmmiamnbefefaaZb
namespace Go.Proofs.Ytcmmiamnbefefaa
open Go.RowKit
set_option linter.unusedVariables false

set_option maxHeartbeats 2000000 in
theorem eq_state (x0 x1 y0 y1 : Int) (w : World) : Calls Try.prog 19 #[.agg #[.int .i64 x0, .int .i64 x1], .agg #[.int .i64 y0, .int .i64 y1]] w fun r w' => r = .returned (.bool (decide (x0 = y0) && decide (x1 = y1))) ∧ Below w.heap.size w w' := by
  have b0 : ∀ A B, Below w.heap.size w ((w.alloc A).alloc B) := fun A B => ((Below.refl _ _).alloc (Nat.le_refl _) _).alloc (by simp) _
  by_cases h0 : x0 = y0
  · subst h0
    by_cases h1 : x1 = y1
    · subst h1
      rw [show (decide (x0 = x0) && decide (x1 = x1)) = true by simp]
      go_enter Try.func19, Try.ntmps19
      go_wp2
      go_ret
      exact ⟨rfl, b0 _ _⟩
    · have n1 : (x1 != y1) = true := by simp [h1]
      rw [show (decide (x0 = x0) && decide (x1 = y1)) = false by simp [h1]]
      go_enter Try.func19, Try.ntmps19
      go_wp2
      go_ret
      exact ⟨rfl, b0 _ _⟩
  · have n1 : (x0 != y0) = true := by simp [h0]
    rw [show (decide (x0 = y0) && decide (x1 = y1)) = false by simp [h0]]
    go_enter Try.func19, Try.ntmps19
    go_wp2
    go_ret
    exact ⟨rfl, b0 _ _⟩

set_option maxRecDepth 10000 in
set_option maxHeartbeats 4000000 in
theorem law_peak (v : Value) (w : World) (ha : ∃ xs, InstsIs w 0 v xs) :
    Calls Try.prog 5 #[v] w fun e w' => e = .returned (.bool true) ∧ Below w.heap.size w w' := by
  obtain ⟨xs, hx⟩ := ha
  have HX : Hid (InstsIs w 0 v xs) := hx
  clear hx
  have LX : Hid (∀ W, Below w.heap.size w W → InstsIs W 0 v xs) := fun W g => instsIs_move (Keeps.of_below g 0) (Nat.le_refl _) HX.out
  have b0 : Below w.heap.size w w := Below.refl _ _
  obtain ⟨p, Hp⟩ : ∃ p, Hid (p = xs.length + (xs.map wI).sum) := ⟨_, rfl⟩
  go_enter Try.func5, Try.ntmps5
  go_wp2_with fail
  refine (sz_insts 1048576 (by omega) (by omega) v xs w 0 HX.out).mono ?_
  rintro e w1 ⟨rfl, g1⟩
  rw [← Hp.out]
  have b1 : Below w.heap.size w w1 := g1
  clear g1
  by_cases hp : (p : Int) ≤ 1048576
  case neg =>
    rw [szR_no hp]
    go_wp2
    go_ret
    exact ⟨rfl, b1⟩
  rw [szR_yes hp]
  have i1 : ¬ ((1048576 : Int) - p < 0) := by omega
  have hlen : xs.length ≤ 1048576 := by have := Hp.out; omega
  have HTX : Hid (∀ W, Below w.heap.size w W → Calls Try.prog 11 #[v] W fun r w' => ∃ v', r = .returned v' ∧ InstsIs w' W.heap.size v' xs ∧ Below W.heap.size W w') := fun W g => to_insts v xs W 0 (LX.out W g) (by have := Hp.out; omega)
  have HPS : Hid (∀ W v lo, InstsIs W lo v xs → Calls Try.prog 18 #[v] W fun e w' => PeakR xs W e w') := fun W v lo h => peak_s v xs W lo h hlen
  have HPI : Hid (∀ W v lo, InstsIs W lo v xs → Calls Try.prog 7 #[v] W fun e w' => PeakR xs W e w') := fun W v lo h => peak_i v xs W lo h hlen
  clear LX HX Hp hlen
  go_wp2_with fail
  refine (HTX.out _ b1).mono ?_
  rintro e w3 ⟨t1, rfl, k1, g3⟩
  have b3 := b1.trans (g3.mono b1.size)
  have K1 : Hid (InstsIs w3 0 t1 xs) := instsIs_move (Keeps.refl _ _) (Nat.zero_le _) k1
  clear g3 k1 b1
  go_wp2_with fail
  refine (HPS.out _ _ _ K1.out).mono ?_
  rintro e w4 ⟨rfl, g4⟩
  obtain ⟨B, HB⟩ : ∃ q, Hid (q = pkB xs (trN xs)) := ⟨_, rfl⟩
  obtain ⟨F, HF⟩ : ∃ q, Hid (q = pkF xs (trN xs)) := ⟨_, rfl⟩
  rw [← HB.out, ← HF.out]
  have b4 := b3.trans (g4.mono b3.size)
  have b5 : Below w.heap.size w (w4.alloc (.cells #[.int .i64 B, .int .i64 F] 26)) := b4.alloc b4.size _
  have c4 : (w4.alloc (.cells #[.int .i64 B, .int .i64 F] 26)).heap[w4.heap.size]? = some (.cells #[.int .i64 B, .int .i64 F] 26 (0, 0)) := heap_alloc_last w4 _
  have HC4 : Hid ((w4.alloc (.cells #[.int .i64 B, .int .i64 F] 26)).heap[w4.heap.size]? = some (.cells #[.int .i64 B, .int .i64 F] 26 (0, 0))) := c4
  clear g4 K1 b3 b4 c4
  go_wp2_with fail
  refine (HTX.out _ b5).mono ?_
  rintro e w6 ⟨x0, rfl, k6, g6⟩
  have b6 := b5.trans (g6.mono b5.size)
  have X6 : Hid (InstsIs w6 0 x0 xs) := instsIs_move (Keeps.refl _ _) (Nat.zero_le _) k6
  have c6 : w6.heap[w4.heap.size]? = some (.cells #[.int .i64 B, .int .i64 F] 26 (0, 0)) := (g6.block _ (Array.getElem?_eq_some_iff.1 HC4.out).1).trans HC4.out
  have HC6 : Hid (w6.heap[w4.heap.size]? = some (.cells #[.int .i64 B, .int .i64 F] 26 (0, 0))) := c6
  clear g6 k6 b5 HC4 c6
  go_wp2_with fail
  refine (HPI.out _ _ _ X6.out).mono ?_
  rintro e w7 ⟨rfl, g7⟩
  rw [← HB.out, ← HF.out]
  have b7 := b6.trans (g7.mono b6.size)
  have X7 : Hid (InstsIs w7 0 x0 xs) := instsIs_move (Keeps.of_below g7 0) (Nat.zero_le _) X6.out
  have c7 : w7.heap[w4.heap.size]? = some (.cells #[.int .i64 B, .int .i64 F] 26 (0, 0)) := (g7.block _ (Array.getElem?_eq_some_iff.1 HC6.out).1).trans HC6.out
  have b8 : Below w.heap.size w (w7.alloc (.cells #[.int .i64 B, .int .i64 F] 26)) := b7.alloc b7.size _
  have c8 : (w7.alloc (.cells #[.int .i64 B, .int .i64 F] 26)).heap[w4.heap.size]? = some (.cells #[.int .i64 B, .int .i64 F] 26 (0, 0)) := (heap_alloc_old _ _ (h := (Array.getElem?_eq_some_iff.1 c7).1)).trans c7
  have c9 : (w7.alloc (.cells #[.int .i64 B, .int .i64 F] 26)).heap[w7.heap.size]? = some (.cells #[.int .i64 B, .int .i64 F] 26 (0, 0)) := heap_alloc_last w7 _
  have HL1 : Hid ((loadVar 26 ⟨w4.heap.size, 0, none⟩).run Try.prog (w7.alloc (.cells #[.int .i64 B, .int .i64 F] 26)) = .ok (.agg #[.int .i64 B, .int .i64 F]) (w7.alloc (.cells #[.int .i64 B, .int .i64 F] 26))) := load_all c8 _ _ Try.underlying26 rfl (by kernel_rfl)
  have HL2 : Hid ((loadVar 26 ⟨w7.heap.size, 0, none⟩).run Try.prog (w7.alloc (.cells #[.int .i64 B, .int .i64 F] 26)) = .ok (.agg #[.int .i64 B, .int .i64 F]) (w7.alloc (.cells #[.int .i64 B, .int .i64 F] 26))) := load_all c9 _ _ Try.underlying26 rfl (by kernel_rfl)
  have X8 : Hid (InstsIs (w7.alloc (.cells #[.int .i64 B, .int .i64 F] 26)) 0 x0 xs) := instsIs_move (Keeps.of_below ((Below.refl _ _).alloc (Nat.le_refl _) _) 0) (Nat.zero_le _) X7.out
  clear g7 b6 b7 X6 X7 HC6 c7 c8 c9
  go_wp2_with (first | (refine wpL_load rfl 26 _ rfl _ _ rfl _ HL2.out ?_) | (refine wpL_load rfl 26 _ rfl _ _ rfl _ HL1.out ?_) | fail)
  refine (eq_state B F B F _).mono ?_
  rintro e w9 ⟨rfl, g9⟩
  rw [show (decide (B = B) && decide (F = F)) = true by simp]
  have b9 := b8.trans (g9.mono b8.size)
  have X9 : Hid (InstsIs w9 0 x0 xs) := instsIs_move (Keeps.of_below g9 0) (Nat.zero_le _) X8.out
  clear g9 b8 X8 HL1 HL2
  go_wp2_with fail
  refine (HTX.out _ b9).mono ?_
  rintro e wa ⟨x2, rfl, ka, ga⟩
  have ba := b9.trans (ga.mono b9.size)
  have Xa : Hid (InstsIs wa 0 x0 xs) := instsIs_move (Keeps.of_below ga 0) (Nat.zero_le _) X9.out
  have Za : Hid (InstsIs wa 0 x2 xs) := instsIs_move (Keeps.refl _ _) (Nat.zero_le _) ka
  clear ga b9 X9 ka
  go_wp2_with fail
  refine (eq_insts x0 x2 xs xs wa 0 0 Xa.out Za.out).mono ?_
  rintro e wb ⟨rfl, gb⟩
  rw [eqB_refl]
  have bb := ba.trans (gb.mono ba.size)
  clear gb ba Xa Za
  go_wp2
  go_ret
  exact ⟨rfl, bb⟩
end Go.Proofs.Ytcmmiamnbefefaa
