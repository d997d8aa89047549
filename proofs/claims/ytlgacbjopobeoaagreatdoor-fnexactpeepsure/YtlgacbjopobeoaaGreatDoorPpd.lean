/- The law FnExactPeepSure. -/
import Derived.Test.YtlgacbjopobeoaaGreatDoorPpaM
import Derived.Test.YtlgacbjopobeoaaGreatDoorElM
namespace Go.Proofs.YtlgacbjopobeoaaGreatDoor
open Go.RowKit Go.Shelf
set_option linter.unusedVariables false

set_option maxRecDepth 10000 in
set_option maxHeartbeats 2000000 in
theorem psure_law (op : Int) (r : Int) (a : Option Addr) (xs : List Arg) (len cap : Nat) (w : World) (hb20 : len ≤ 1048576) (hx : Sl w a xs)
    (HZ : Hid (∀ W, Calls Tryz.prog 39 #[.agg #[.int .i64 op, .slice a len cap], .int .i64 1048576] W fun e w' => e = .returned (.int .i64 (1048576 - (len : Int))) ∧ Below W.heap.size W w'))
    (HT : Hid (∀ W, Sl W a xs → Calls Tryz.prog 40 #[.agg #[.int .i64 op, .slice a len cap]] W fun e w' => ∃ B, W.heap.size ≤ B ∧ e = .returned (.agg #[.int .i64 op, .slice (some ⟨B, 0, none⟩) len len]) ∧ Ops w' B 0 xs ∧ Below W.heap.size W w'))
    (HS : Hid (∀ W B, Ops W B 0 xs → Calls Tryz.prog 33 #[.agg #[.int .i64 op, .slice (some ⟨B, 0, none⟩) len len]] W fun e w' => e = .returned (.int .i64 r) ∧ Below W.heap.size W w'))
    (HI : Hid (∀ W B, Below w.heap.size w W → Ops W B 0 xs → Calls Tryz.prog 32 #[.agg #[.int .i64 op, .slice (some ⟨B, 0, none⟩) len len]] W fun e w' => e = .returned (.int .i64 r) ∧ Below W.heap.size W w'))
    (HE : Hid (∀ W B B', Ops W B 0 xs → Ops W B' 0 xs → Calls Tryz.prog 41 #[.agg #[.int .i64 op, .slice (some ⟨B, 0, none⟩) len len], .agg #[.int .i64 op, .slice (some ⟨B', 0, none⟩) len len]] W fun e w' => e = .returned (.bool true) ∧ Below W.heap.size W w')) :
    Calls Tryz.prog 8 #[.agg #[.int .i64 op, .slice a len cap]] w fun e w' => e = .returned (.bool true) ∧ Below w.heap.size w w' := by
  have h1 : ¬ (1048576 - (len : Int) < 0) := by omega
  generalize 1048576 - (len : Int) = L at HZ h1
  have bA : Below w.heap.size w (w.alloc (.cells #[.int .i64 op, .slice a len cap] 82)) := (Below.refl _ _).alloc (Nat.le_refl _) _
  have p0 : (w.alloc (.cells #[.int .i64 op, .slice a len cap] 82)).cell? ⟨w.heap.size, 0, none⟩ = some (.int .i64 op) := by simp
  have p1 : (w.alloc (.cells #[.int .i64 op, .slice a len cap] 82)).cell? ⟨w.heap.size, 1, none⟩ = some (.slice a len cap) := by simp
  go_enter Tryz.func8, Tryz.ntmps8
  go_wp2_with fail
  refine (HZ.out _).mono ?_
  rintro e w1 ⟨rfl, g1⟩
  have q0 := cell_later g1 p0
  have q1 := cell_later g1 p1
  go_wp2_with fail
  refine (HT.out _ ((hx.alloc _).later g1)).mono ?_
  rintro e w2 ⟨B2, l2, rfl, o2, g2⟩
  have D2 := g1.trans (g2.mono g1.size)
  clear g2 q0 q1
  go_wp2_with fail
  refine (HS.out _ _ o2).mono ?_
  rintro e w3 ⟨rfl, g3⟩
  have D3 := D2.trans (g3.mono D2.size)
  have q0 := cell_later D3 p0
  have q1 := cell_later D3 p1
  clear g3 D2 g1
  go_wp2_with fail
  refine (HT.out _ ((hx.alloc _).later D3)).mono ?_
  rintro e w4 ⟨B4, l4, rfl, o4, g4⟩
  have D4 := D3.trans (g4.mono D3.size)
  have b4 : Below w.heap.size w w4 := bA.trans (D4.mono bA.size)
  have lt4 : w.heap.size < w4.heap.size := World.block_lt_of_cell? _ _ (cell_later D4 p0)
  clear g4 D3 q0 q1
  have aL : Below w4.heap.size w4 (w4.alloc (.cells #[.int .i64 op, .slice (some ⟨B4, 0, none⟩) len len] 64)) := (Below.refl _ _).alloc (Nat.le_refl _) _
  have x0 : (w4.alloc (.cells #[.int .i64 op, .slice (some ⟨B4, 0, none⟩) len len] 64)).cell? ⟨w4.heap.size, 0, none⟩ = some (.int .i64 op) := by simp
  have x1 : (w4.alloc (.cells #[.int .i64 op, .slice (some ⟨B4, 0, none⟩) len len] 64)).cell? ⟨w4.heap.size, 1, none⟩ = some (.slice (some ⟨B4, 0, none⟩) len len) := by simp
  have D4' := D4.trans (aL.mono D4.size)
  go_wp2_with fail
  refine (HI.out _ _ (b4.trans (aL.mono b4.size)) (o4.later aL)).mono ?_
  rintro e w5 ⟨rfl, g5⟩
  have D5 := D4'.trans (g5.mono D4'.size)
  have o5 := (o4.later aL).later g5
  have b5 : Below w.heap.size w w5 := bA.trans (D5.mono bA.size)
  have q0 := cell_later D5 p0
  have q1 := cell_later D5 p1
  have y0 := cell_later g5 x0
  have y1 := cell_later g5 x1
  have s5 : Sl w5 a xs := (hx.alloc _).later D5
  clear g5 D4 D4' aL x0 x1 b4 o4 p0 p1
  go_upto_region 10 with fail
  go_region_with (first
    | (go_at_call 40; refine (HT.out _ (by first | exact s5 | exact s5.later (Below.refl _ _).drew)).mono ?_; rintro e w6 ⟨B6, l6, rfl, o6, g6⟩; have o7 : Ops w6 B4 0 xs := (by first | exact o5.later g6 | exact o5.later ((Below.refl _ _).drew.trans (g6.mono (Nat.le_refl _)))); have z0 : w6.cell? ⟨w4.heap.size, 0, none⟩ = some (.int .i64 op) := (by first | exact cell_later g6 y0 | exact cell_later ((Below.refl _ _).drew.trans (g6.mono (Nat.le_refl _))) y0); have z1 : w6.cell? ⟨w4.heap.size, 1, none⟩ = some (.slice (some ⟨B4, 0, none⟩) len len) := (by first | exact cell_later g6 y1 | exact cell_later ((Below.refl _ _).drew.trans (g6.mono (Nat.le_refl _))) y1); have b6 : Below w.heap.size w w6 := (by first | exact b5.trans (g6.mono b5.size) | exact b5.trans (((Below.refl _ _).drew.trans (g6.mono (Nat.le_refl _))).mono b5.size)))
    | (go_at_call 41; refine (HE.out _ _ _ (by assumption) (by assumption)).mono ?_; rintro e w7 ⟨rfl, g7⟩; have b7 := b6.trans (g7.mono b6.size)))
  all_goals (go_wp2; go_ret; exact ⟨rfl, b7⟩)

set_option maxHeartbeats 1000000 in
theorem psure_far (op : Int) (a : Option Addr) (len cap : Nat) (w : World)
    (HZ : Hid (∀ W, Calls Tryz.prog 39 #[.agg #[.int .i64 op, .slice a len cap], .int .i64 1048576] W fun e w' => e = .returned (.int .i64 (-1)) ∧ Below W.heap.size W w')) :
    Calls Tryz.prog 8 #[.agg #[.int .i64 op, .slice a len cap]] w fun e w' => e = .returned (.bool true) ∧ Below w.heap.size w w' := by
  have bA : Below w.heap.size w (w.alloc (.cells #[.int .i64 op, .slice a len cap] 82)) := (Below.refl _ _).alloc (Nat.le_refl _) _
  go_enter Tryz.func8, Tryz.ntmps8
  go_wp2_with fail
  refine (HZ.out _).mono ?_
  rintro e w1 ⟨rfl, g1⟩
  have b1 := bA.trans (g1.mono bA.size)
  clear g1
  go_wp2
  go_ret
  exact ⟨rfl, b1⟩

theorem walk_psure (op : Int) (a : Option Addr) (len cap : Nat) (xs : List Arg) (w : World) (hw : (Lit.int .i64 op).wf = true) (hin : len = xs.length ∧ len ≤ 9223372036854775807 ∧ Sl w a xs) (hT : KT w) :
    Calls Tryz.prog 8 #[.agg #[.int .i64 op, .slice a len cap]] w fun e w' => e = .returned (.bool true) ∧ Below w.heap.size w w' := by
  obtain ⟨hlen, hmax, hx⟩ := hin
  by_cases hb : len ≤ 1048576
  · exact psure_law op (sureV op xs) a xs len cap w hb hx (fun W => by have := sz_r op a len cap W hmax; rwa [if_pos hb] at this) (fun W h => to_elemE op a xs len cap hlen hb W h)
      (fun W B h => psure_s op (some ⟨B, 0, none⟩) len len xs W hlen (.inr ⟨B, 0, rfl, h⟩)) (fun W B hW h => psure_i op (some ⟨B, 0, none⟩) len len xs W (hT.later hW) hlen (.inr ⟨B, 0, rfl, h⟩))
      (fun W B B' h h' => eq_r op (some ⟨B, 0, none⟩) (some ⟨B', 0, none⟩) xs len len len hlen hb W (.inr ⟨B, 0, rfl, h⟩) (.inr ⟨B', 0, rfl, h'⟩))
  · exact psure_far op a len cap w (fun W => by have := sz_r op a len cap W hmax; rwa [if_neg hb] at this)

end Go.Proofs.YtlgacbjopobeoaaGreatDoor
