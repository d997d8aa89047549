/- Draws of what is reckoned of whole numbers. -/
import Derived.Test.YtpjpjndichpfaaaS
namespace Go.Proofs.Ytpjpjndichpfaaa
open Go.RowKit
set_option linter.unusedVariables false

set_option maxHeartbeats 1000000 in
theorem draw_wcalc {w : World} {a : Option Addr} {len cap blk off : Nat} {z : Nat → Int} (h : Code0 w a len cap blk off z) :
    Calls Try.prog 10 #[.slice a len cap] w fun e w' => ∃ op x y, e = .returned (.tuple #[.int .i64 op, .int .i16 x, .int .i16 y]) ∧ Two op x y ∧ Below w.heap.size w w' := by
  go_enter Try.func10, Try.ntmps10
  go_wp2_with fail
  refine (h.open).mono ?_
  rintro e w1 ⟨rfl, h1, g1⟩
  clear h
  go_wp2_with fail
  refine (op_r _ _ _ _ h1 (by omega)).mono ?_
  rintro e w2 ⟨op, rfl, bo, ⟨q2, hq2, h2⟩, g2⟩
  clear h1 bo
  go_wp2_with fail
  refine (whole_r _ _ _ _ h2 (by omega)).mono ?_
  rintro e w3 ⟨x, rfl, bx, ⟨q3, hq3, h3⟩, g3⟩
  clear h2
  have HX : Hid (-32768 ≤ x ∧ x ≤ 32767) := bx
  clear bx
  go_wp2_with fail
  refine (pick_r _ _ _ 3 _ h3 (by omega) (by omega) (by omega)).mono ?_
  rintro e w4 ⟨r, r1, rfl, h4, g4⟩
  clear h3
  have G4 : Hid (w1.grownBy w4 (some w.heap.size)) := gb_pick (gb_pick g2 g3) g4
  clear g2 g3 g4
  by_cases hr : r = 0
  · subst hr
    go_wp2_with fail
    refine (pick_r _ _ _ 9 _ h4 (by omega) (by omega) (by omega)).mono ?_
    rintro e w5 ⟨r5, r6, rfl, h5, g5⟩
    go_wp2
    refine bodyPost_ret (v := .tuple #[.int .i64 op, .int .i16 x, .int .i16 ((r5 : Int) - 4)]) (by simp [results, Try.results10, go_sem]) rfl ⟨op, x, _, rfl, ⟨HX.out, by omega⟩, gb_open g1 (gb_pick G4.out g5)⟩
  · have hr' : ((r : Int) == 0) = false := by simp [hr]
    go_wp2_with fail
    refine (whole_r _ _ _ _ h4 (by omega)).mono ?_
    rintro e w5 ⟨y, rfl, by_, ⟨q5, hq5, h5⟩, g5⟩
    have HY : Hid (-32768 ≤ y ∧ y ≤ 32767) := by_
    clear by_
    go_wp2
    refine bodyPost_ret (v := .tuple #[.int .i64 op, .int .i16 x, .int .i16 y]) (by simp [results, Try.results10, go_sem]) rfl ⟨op, x, y, rfl, ⟨HX.out, HY.out⟩, gb_open g1 (gb_pick G4.out g5)⟩

end Go.Proofs.Ytpjpjndichpfaaa
