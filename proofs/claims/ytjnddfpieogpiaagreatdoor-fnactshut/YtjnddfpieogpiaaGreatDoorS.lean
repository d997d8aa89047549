/- Draws of whole numbers and tests. -/
import Derived.Test.YtjnddfpieogpiaaGreatDoorR
namespace Go.Proofs.YtjnddfpieogpiaaGreatDoor.Rr
open Go.RowKit
set_option linter.unusedVariables false

set_option maxHeartbeats 1000000 in
theorem whole_r (B R p : Nat) (w : World) (h : Reader B w R p) (hp : p < 900000) :
    Calls Tryz.prog 68 #[.pointer (some ⟨R, 0, none⟩)] w fun e w' => ∃ v : Int, e = .returned (.int .i16 v) ∧ (-32768 ≤ v ∧ v ≤ 32767) ∧ (∃ q, q ≤ p + 4 ∧ Reader B w' R q) ∧ w.grownBy w' (some R) := by
  have hRB := h.1
  have hBw := h.2.1
  go_enter Tryz.func68, Tryz.ntmps68
  go_wp2_with fail
  refine (pick_r B R p 4 _ h (by omega) (by omega) (by omega)).mono ?_
  rintro e w1 ⟨r, r1, rfl, h1, g1⟩
  by_cases hr : r = 0
  · subst hr
    have hs1 := g1.size
    go_wp2_with fail
    refine (num_r B R (p + 1) w1.heap.size [32767, -32768, 0, -1, 1, 32766, -32767, 181, 182, -182] 10 _ (h1.alloc _) (by decide) (by decide) (by omega) (by omega) (by exact cells_row w1 [32767, -32768, 0, -1, 1, 32766, -32767, 181, 182, -182] 3)).mono ?_
    rintro e w2 ⟨v, hv, rfl, h2, g2⟩
    have bv : -32768 ≤ v ∧ v ≤ 32767 := by simp at hv; omega
    obtain ⟨b1, b2⟩ := bv
    have G2 : w.grownBy w2 (some R) := gb_pick (gb_alloc g1 _) g2
    clear hv g1 g2 h1
    go_wp2
    go_ret
    exact ⟨v, rfl, ⟨b1, b2⟩, ⟨_, by omega, h2⟩, G2⟩
  · have hr' : ((r : Int) == 0) = false := by simp [hr]
    go_wp2_with fail
    refine (pick_r B R (p + 1) 65536 _ h1 (by omega) (by omega) (by omega)).mono ?_
    rintro e w2 ⟨r2, r3, rfl, h2, g2⟩
    have G2 : w.grownBy w2 (some R) := gb_pick g1 g2
    clear g1 g2 h1
    go_wp2
    go_ret
    exact ⟨_, rfl, by omega, ⟨_, by omega, h2⟩, G2⟩

/-- Two whole numbers. -/
def Two (op a b : Int) : Prop := (-32768 ≤ a ∧ a ≤ 32767) ∧ (-32768 ≤ b ∧ b ≤ 32767)

end Go.Proofs.YtjnddfpieogpiaaGreatDoor.Rr
