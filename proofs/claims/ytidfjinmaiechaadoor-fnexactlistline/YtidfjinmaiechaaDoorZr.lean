/- The law FnExactListLine. -/
import Derived.Test.YtidfjinmaiechaaDoorZl
namespace Go.Proofs.YtidfjinmaiechaaDoor
open Go.RowKit Go.Shelf
set_option linter.unusedVariables false

set_option maxRecDepth 10000 in
set_option maxHeartbeats 4000000 in
theorem law_line_run (c op : Int) (r : ByteArray) (a : Option Addr) (xs : List ArgT) (len cap : Nat) (w : World) (hb20 : len ≤ 1048576) (hx : ArgsIs w 0 (.slice a len cap) xs)
    (HZ : Hid (∀ W, ArgsIs W 0 (.slice a len cap) xs → Calls Tryd.prog 8 #[.agg #[.int .i64 c, .int .i64 op, .slice a len cap], .int .i64 1048576] W fun e w' => e = .returned (.int .i64 (1048576 - (len : Int))) ∧ Below W.heap.size W w'))
    (HT : Hid (∀ W, ArgsIs W 0 (.slice a len cap) xs → Calls Tryd.prog 10 #[.agg #[.int .i64 c, .int .i64 op, .slice a len cap]] W fun e w' => ∃ a' cap', e = .returned (.agg #[.int .i64 c, .int .i64 op, .slice a' len cap']) ∧ ArgsIs w' 0 (.slice a' len cap') xs ∧ Below W.heap.size W w'))
    (HS : Hid (∀ W a' cap', ArgsIs W 0 (.slice a' len cap') xs → Calls Tryd.prog 13 #[.agg #[.int .i64 c, .int .i64 op, .slice a' len cap']] W fun e w' => e = .returned (.string r) ∧ Below W.heap.size W w'))
    (HI : Hid (∀ W a' cap', Below w.heap.size w W → ArgsIs W 0 (.slice a' len cap') xs → Calls Tryd.prog 14 #[.agg #[.int .i64 c, .int .i64 op, .slice a' len cap']] W fun e w' => e = .returned (.string r) ∧ Below W.heap.size W w'))
    (HE : Hid (∀ W a1 c1 a2 c2, ArgsIs W 0 (.slice a1 len c1) xs → ArgsIs W 0 (.slice a2 len c2) xs → Calls Tryd.prog 12 #[.agg #[.int .i64 c, .int .i64 op, .slice a1 len c1], .agg #[.int .i64 c, .int .i64 op, .slice a2 len c2]] W fun e w' => e = .returned (.bool true) ∧ Below W.heap.size W w')) :
    Calls Tryd.prog 5 #[.agg #[.int .i64 c, .int .i64 op, .slice a len cap]] w fun e w' => e = .returned (.bool true) ∧ Below w.heap.size w w' := by
  have h1 : ¬ (1048576 - (len : Int) < 0) := by omega
  have hcmp : (r.toList == r.toList) = true := beq_self_eq_true _
  generalize 1048576 - (len : Int) = L at HZ h1
  have HX : Hid (ArgsIs w 0 (.slice a len cap) xs) := hx
  clear hx
  have mv : ∀ W W' a' cap', Below W.heap.size W W' → ArgsIs W 0 (.slice a' len cap') xs → ArgsIs W' 0 (.slice a' len cap') xs := fun W W' a' cap' g h => argsIs_move (Keeps.of_below g 0) (Nat.le_refl _) h
  have HM : Hid (∀ W W' a' cap', Below W.heap.size W W' → ArgsIs W 0 (.slice a' len cap') xs → ArgsIs W' 0 (.slice a' len cap') xs) := mv
  clear mv
  have bA : Below w.heap.size w (w.alloc (.cells #[.int .i64 c, .int .i64 op, .slice a len cap] 28)) := (Below.refl _ _).alloc (Nat.le_refl _) _
  have p0 : (w.alloc (.cells #[.int .i64 c, .int .i64 op, .slice a len cap] 28)).cell? ⟨w.heap.size, 0, none⟩ = some (.int .i64 c) := by simp
  have p1 : (w.alloc (.cells #[.int .i64 c, .int .i64 op, .slice a len cap] 28)).cell? ⟨w.heap.size, 1, none⟩ = some (.int .i64 op) := by simp
  have p2 : (w.alloc (.cells #[.int .i64 c, .int .i64 op, .slice a len cap] 28)).cell? ⟨w.heap.size, 2, none⟩ = some (.slice a len cap) := by simp
  go_enter Tryd.func5, Tryd.ntmps5
  go_wp2_with fail
  refine (HZ.out _ (HM.out _ _ _ _ bA HX.out)).mono ?_
  rintro e w1 ⟨rfl, g1⟩
  have q0 := cell_later g1 p0
  have q1 := cell_later g1 p1
  have q2 := cell_later g1 p2
  go_wp2_with fail
  refine (HT.out _ (HM.out _ _ _ _ (bA.trans (g1.mono bA.size)) HX.out)).mono ?_
  rintro e w2 ⟨a2, k2, rfl, o2, g2⟩
  have D2 := g1.trans (g2.mono g1.size)
  have O2 : Hid (ArgsIs w2 0 (.slice a2 len k2) xs) := o2
  clear g2 q0 q1 q2 o2
  go_wp2_with fail
  refine (HS.out _ _ _ O2.out).mono ?_
  rintro e w3 ⟨rfl, g3⟩
  have D3 := D2.trans (g3.mono D2.size)
  have q0 := cell_later D3 p0
  have q1 := cell_later D3 p1
  have q2 := cell_later D3 p2
  clear g3 D2 g1 O2
  go_wp2_with fail
  refine (HT.out _ (HM.out _ _ _ _ (bA.trans (D3.mono bA.size)) HX.out)).mono ?_
  rintro e w4 ⟨a4, k4, rfl, o4, g4⟩
  have O4 : Hid (ArgsIs w4 0 (.slice a4 len k4) xs) := o4
  have D4 := D3.trans (g4.mono D3.size)
  have b4 : Below w.heap.size w w4 := bA.trans (D4.mono bA.size)
  have lt4 : w.heap.size < w4.heap.size := World.block_lt_of_cell? _ _ (cell_later D4 p0)
  clear g4 D3 q0 q1 q2 o4
  have aL : Below w4.heap.size w4 (w4.alloc (.cells #[.int .i64 c, .int .i64 op, .slice a4 len k4] 35)) := (Below.refl _ _).alloc (Nat.le_refl _) _
  have x0 : (w4.alloc (.cells #[.int .i64 c, .int .i64 op, .slice a4 len k4] 35)).cell? ⟨w4.heap.size, 0, none⟩ = some (.int .i64 c) := by simp
  have x1 : (w4.alloc (.cells #[.int .i64 c, .int .i64 op, .slice a4 len k4] 35)).cell? ⟨w4.heap.size, 1, none⟩ = some (.int .i64 op) := by simp
  have x2 : (w4.alloc (.cells #[.int .i64 c, .int .i64 op, .slice a4 len k4] 35)).cell? ⟨w4.heap.size, 2, none⟩ = some (.slice a4 len k4) := by simp
  have D4' := D4.trans (aL.mono D4.size)
  go_wp2_with fail
  refine (HI.out _ _ _ (b4.trans (aL.mono b4.size)) (HM.out _ _ _ _ aL O4.out)).mono ?_
  rintro e w5 ⟨rfl, g5⟩
  have D5 := D4'.trans (g5.mono D4'.size)
  have O5 : Hid (ArgsIs w5 0 (.slice a4 len k4) xs) := HM.out _ _ _ _ g5 (HM.out _ _ _ _ aL O4.out)
  have b5 : Below w.heap.size w w5 := bA.trans (D5.mono bA.size)
  have q0 := cell_later D5 p0
  have q1 := cell_later D5 p1
  have q2 := cell_later D5 p2
  have y0 := cell_later g5 x0
  have y1 := cell_later g5 x1
  have y2 := cell_later g5 x2
  have S5 : Hid (ArgsIs w5 0 (.slice a len cap) xs) := HM.out _ _ _ _ b5 HX.out
  clear g5 D4 D4' aL x0 x1 x2 b4 O4 p0 p1 p2
  go_upto_region 10 with fail
  go_region_with (first
    | (go_at_call 10; refine (HT.out _ (by first | exact S5.out | exact HM.out _ _ _ _ (Below.refl _ _).drew S5.out)).mono ?_; rintro e w6 ⟨a6, k6, rfl, o6, g6⟩; have G6 : Below w5.heap.size w5 w6 := (by first | exact g6 | exact ((Below.refl _ _).drew.trans (g6.mono (Nat.le_refl _)))); have O6 : Hid (ArgsIs w6 0 (.slice a6 len k6) xs) := o6; have O7 : Hid (ArgsIs w6 0 (.slice a4 len k4) xs) := HM.out _ _ _ _ G6 O5.out; clear o6; have z0 := cell_later G6 y0; have z1 := cell_later G6 y1; have z2 := cell_later G6 y2; have b6 := b5.trans (G6.mono b5.size))
    | (go_at_call 12; refine (HE.out _ _ _ _ _ O7.out O6.out).mono ?_; rintro e w7 ⟨rfl, g7⟩; have b7 := b6.trans (g7.mono b6.size)))
  all_goals (go_wp2; go_ret; exact ⟨rfl, b7⟩)

set_option maxHeartbeats 1000000 in
theorem law_line_far (c op : Int) (a : Option Addr) (len cap : Nat) (w : World)
    (HZ : Hid (∀ W, Below w.heap.size w W → Calls Tryd.prog 8 #[.agg #[.int .i64 c, .int .i64 op, .slice a len cap], .int .i64 1048576] W fun e w' => e = .returned (.int .i64 (-1)) ∧ Below W.heap.size W w')) :
    Calls Tryd.prog 5 #[.agg #[.int .i64 c, .int .i64 op, .slice a len cap]] w fun e w' => e = .returned (.bool true) ∧ Below w.heap.size w w' := by
  have bA : Below w.heap.size w (w.alloc (.cells #[.int .i64 c, .int .i64 op, .slice a len cap] 28)) := (Below.refl _ _).alloc (Nat.le_refl _) _
  go_enter Tryd.func5, Tryd.ntmps5
  go_wp2_with fail
  refine (HZ.out _ bA).mono ?_
  rintro e w1 ⟨rfl, g1⟩
  have b1 := bA.trans (g1.mono bA.size)
  clear g1
  go_wp2
  go_ret
  exact ⟨rfl, b1⟩

theorem walk_line (cs : Array Value) (w : World) (hin : ∃ t, InstIs w 0 t cs.toList) (hP : PT w) (hL : LT w) (hK : KT w) (hW : WT w) :
    Calls Tryd.prog 5 #[.agg cs] w fun e w' => e = .returned (.bool true) ∧ Below w.heap.size w w' := by
  obtain ⟨⟨c, op, xs⟩, v, hcs, hv⟩ := hin
  obtain ⟨a, cap, rfl, hl, _⟩ := id hv
  obtain rfl : cs = #[.int .i64 c, .int .i64 op, .slice a xs.length cap] := by cases cs; simpa using hcs
  simp only [] at hv hl
  have ez : ∀ W, ArgsIs W 0 (.slice a xs.length cap) xs → Calls Tryd.prog 8 #[.agg #[.int .i64 c, .int .i64 op, .slice a xs.length cap], .int .i64 1048576] W fun e w' => e = .returned (.int .i64 (szR 1048576 xs.length)) ∧ Below W.heap.size W w' := fun W h => sz_inst 1048576 (by omega) (by omega) ⟨c, op, xs⟩ _ W 0 ⟨_, rfl, h⟩
  by_cases hb : xs.length ≤ 1048576
  · refine law_line_run c op (lineT c op xs) a xs xs.length cap w hb hv (fun W h => ?_) (fun W h => ?_) (fun W a' k' h => line_s c op a' xs _ k' (sl_of h).1 W (sl_of h).2) (fun W a' k' g h => line_i c op a' xs _ k' (sl_of h).1 W ((⟨hK, hP, hW⟩ : Tabs w).later g) (hL.later g) (sl_of h).2) (fun W a1 c1 a2 c2 h h' => ?_)
    · have := ez W h
      rwa [szR_yes (by omega)] at this
    · refine (to_inst ⟨c, op, xs⟩ _ W 0 ⟨_, rfl, h⟩ hb).mono fun e w' ⟨ds, he, _, _, ⟨v1, hd, hv1⟩, g⟩ => ?_
      obtain ⟨a1, k1, rfl, _, _⟩ := id hv1
      exact ⟨a1, k1, by rw [he, hd], argsIs_move (Keeps.refl _ _) (Nat.zero_le _) hv1, g⟩
    · have := eq_inst ⟨c, op, xs⟩ ⟨c, op, xs⟩ _ _ W 0 0 ⟨_, rfl, h⟩ ⟨_, rfl, h'⟩
      rwa [eqB_refl] at this
  · refine law_line_far c op a xs.length cap w (fun W g => ?_)
    have := ez W (argsIs_move (Keeps.of_below g 0) (Nat.le_refl _) hv)
    rwa [szR_no (by omega)] at this
end Go.Proofs.YtidfjinmaiechaaDoor
