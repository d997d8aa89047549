/- Draws of whole numbers and tests. -/
import Derived.Test.YtpjpjndichpfaaaDoorR
namespace Go.Proofs.YtpjpjndichpfaaaDoor
open Go.RowKit
set_option linter.unusedVariables false

set_option maxHeartbeats 1000000 in
theorem op_r (B R p : Nat) (w : World) (h : Reader B w R p) (hp : p < 900000) :
    Calls Tryd.prog 38 #[.pointer (some ⟨R, 0, none⟩)] w fun e w' => ∃ v : Int, e = .returned (.int .i64 v) ∧ (-9 ≤ v ∧ v ≤ 99) ∧ (∃ q, q ≤ p + 4 ∧ Reader B w' R q) ∧ w.grownBy w' (some R) := by
  have hRB := h.1
  have hBw := h.2.1
  go_enter Tryd.func38, Tryd.ntmps38
  go_wp2_with fail
  refine (pick_r B R p 16 _ h (by omega) (by omega) (by omega)).mono ?_
  rintro e w1 ⟨r, r1, rfl, h1, g1⟩
  by_cases hr : r = 0
  · subst hr
    have hs1 := g1.size
    go_wp2_with fail
    refine (num_r B R (p + 1) w1.heap.size [-1, 0, 7, 8, 99] 5 _ (h1.alloc _) (by decide) (by decide) (by omega) (by omega) (by exact cells_row w1 [-1, 0, 7, 8, 99] 3)).mono ?_
    rintro e w2 ⟨v, hv, rfl, h2, g2⟩
    have bv : -9 ≤ v ∧ v ≤ 99 := by simp at hv; omega
    have G2 : w.grownBy w2 (some R) := gb_pick (gb_alloc g1 _) g2
    clear hv g1 g2 h1
    go_wp2
    go_ret
    exact ⟨v, rfl, bv, ⟨_, by omega, h2⟩, G2⟩
  · have hr' : ((r : Int) == 0) = false := by simp [hr]
    go_wp2_with fail
    refine (pick_r B R (p + 1) 6 _ h1 (by omega) (by omega) (by omega)).mono ?_
    rintro e w2 ⟨r2, r3, rfl, h2, g2⟩
    have G2 : w.grownBy w2 (some R) := gb_pick g1 g2
    clear g1 g2 h1
    go_wp2
    go_ret
    exact ⟨_, rfl, by omega, ⟨_, by omega, h2⟩, G2⟩

set_option maxHeartbeats 1000000 in
theorem whole_r (B R p : Nat) (w : World) (h : Reader B w R p) (hp : p < 900000) :
    Calls Tryd.prog 39 #[.pointer (some ⟨R, 0, none⟩)] w fun e w' => ∃ v : Int, e = .returned (.int .i16 v) ∧ (-32768 ≤ v ∧ v ≤ 32767) ∧ (∃ q, q ≤ p + 4 ∧ Reader B w' R q) ∧ w.grownBy w' (some R) := by
  have hRB := h.1
  have hBw := h.2.1
  go_enter Tryd.func39, Tryd.ntmps39
  go_wp2_with fail
  refine (pick_r B R p 4 _ h (by omega) (by omega) (by omega)).mono ?_
  rintro e w1 ⟨r, r1, rfl, h1, g1⟩
  by_cases hr : r = 0
  · subst hr
    have hs1 := g1.size
    go_wp2_with fail
    refine (num_r B R (p + 1) w1.heap.size [32767, -32768, 0, -1, 1, 32766, -32767, 181, 182, -182] 10 _ (h1.alloc _) (by decide) (by decide) (by omega) (by omega) (by exact cells_row w1 [32767, -32768, 0, -1, 1, 32766, -32767, 181, 182, -182] 3)).mono ?_
    rintro e w2 ⟨v, hv, rfl, h2, g2⟩
    have bv : -32768 ≤ v ∧ v ≤ 32767 := by simp at hv; omega
    obtain ⟨b1, b2⟩ := bv
    have G2 : w.grownBy w2 (some R) := gb_pick (gb_alloc g1 _) g2
    clear hv g1 g2 h1
    go_wp2
    go_ret
    exact ⟨v, rfl, ⟨b1, b2⟩, ⟨_, by omega, h2⟩, G2⟩
  · have hr' : ((r : Int) == 0) = false := by simp [hr]
    go_wp2_with fail
    refine (pick_r B R (p + 1) 65536 _ h1 (by omega) (by omega) (by omega)).mono ?_
    rintro e w2 ⟨r2, r3, rfl, h2, g2⟩
    have G2 : w.grownBy w2 (some R) := gb_pick g1 g2
    clear g1 g2 h1
    go_wp2
    go_ret
    exact ⟨_, rfl, by omega, ⟨_, by omega, h2⟩, G2⟩

theorem gb_open {w w1 w' : World} (g0 : Below w.heap.size w w1) (g : w1.grownBy w' (some w.heap.size)) : Below w.heap.size w w' :=
  g0.grown g g0.size (fun k hk => by cases hk; exact Nat.le_refl _)

/-- Two whole numbers. -/
def Two (op a b : Int) : Prop := (-32768 ≤ a ∧ a ≤ 32767) ∧ (-32768 ≤ b ∧ b ≤ 32767)

set_option maxHeartbeats 1000000 in
theorem draw_wcmp {w : World} {a : Option Addr} {len cap blk off : Nat} {z : Nat → Int} (h : Code0 w a len cap blk off z) :
    Calls Tryd.prog 13 #[.slice a len cap] w fun e w' => ∃ op x y, e = .returned (.tuple #[.int .i64 op, .int .i16 x, .int .i16 y]) ∧ Two op x y ∧ Below w.heap.size w w' := by
  go_enter Tryd.func13, Tryd.ntmps13
  go_wp2_with fail
  refine (h.open).mono ?_
  rintro e w1 ⟨rfl, h1, g1⟩
  clear h
  go_wp2_with fail
  refine (op_r _ _ _ _ h1 (by omega)).mono ?_
  rintro e w2 ⟨op, rfl, bo, ⟨q2, hq2, h2⟩, g2⟩
  clear h1 bo
  go_wp2_with fail
  refine (whole_r _ _ _ _ h2 (by omega)).mono ?_
  rintro e w3 ⟨x, rfl, bx, ⟨q3, hq3, h3⟩, g3⟩
  clear h2
  have HX : Hid (-32768 ≤ x ∧ x ≤ 32767) := bx
  clear bx
  go_wp2_with fail
  refine (pick_r _ _ _ 3 _ h3 (by omega) (by omega) (by omega)).mono ?_
  rintro e w4 ⟨r, r1, rfl, h4, g4⟩
  clear h3
  have G4 : Hid (w1.grownBy w4 (some w.heap.size)) := gb_pick (gb_pick g2 g3) g4
  clear g2 g3 g4
  by_cases hr : r = 0
  · subst hr
    go_wp2
    refine bodyPost_ret (v := .tuple #[.int .i64 op, .int .i16 x, .int .i16 x]) (by simp [results, Tryd.results13, go_sem]) rfl ⟨op, x, x, rfl, ⟨HX.out, HX.out⟩, gb_open g1 G4.out⟩
  · have hr' : ((r : Int) == 0) = false := by simp [hr]
    go_wp2_with fail
    refine (whole_r _ _ _ _ h4 (by omega)).mono ?_
    rintro e w5 ⟨y, rfl, by_, ⟨q5, hq5, h5⟩, g5⟩
    have HY : Hid (-32768 ≤ y ∧ y ≤ 32767) := by_
    clear by_
    go_wp2
    refine bodyPost_ret (v := .tuple #[.int .i64 op, .int .i16 x, .int .i16 y]) (by simp [results, Tryd.results13, go_sem]) rfl ⟨op, x, y, rfl, ⟨HX.out, HY.out⟩, gb_open g1 (gb_pick G4.out g5)⟩
end Go.Proofs.YtpjpjndichpfaaaDoor
