/- The draw of an operand at a bound of its field, or beyond. -/
import Derived.Test.YtcihplachlokiaaGreatDoorRM
namespace Go.Proofs.YtcihplachlokiaaGreatDoor.Rr
open Go.RowKit
set_option linter.unusedVariables false

/-- Some operand. -/
def AnyArg (e : Ending) : Prop := ∃ k n m : Int, (-3000000000 ≤ n ∧ n ≤ 3000000000) ∧ e = .returned (.agg #[.int .i64 k, .int .i64 n, .int .i64 m])
set_option maxRecDepth 10000 in
set_option maxHeartbeats 4000000 in
theorem darg_r (B R p : Nat) (w : World) (h : Reader B w R p) (hp : p < 9900000) :
    Calls Tryz.prog 36 #[.pointer (some ⟨R, 0, none⟩)] w fun e w' => AnyArg e ∧ (∃ q, q ≤ p + 3 ∧ Reader B w' R q) ∧ w.grownBy w' (some R) := by
  have hRB := h.1
  have hBw := h.2.1
  go_enter Tryz.func36, Tryz.ntmps36
  go_wp2_with fail
  refine (pick_r B R p 8 _ (h.alloc _) (by omega) (by omega) (by omega)).mono ?_
  rintro e w1 ⟨t, t1, rfl, h1, g1⟩
  have G1 : w.grownBy w1 (some R) := gb_pick (gb_alloc (gb_refl _ _) _) g1
  have s1 : A3 w1 w.heap.size 0 0 0 := (A3.fresh w 0 0 0 72).grown g1 (by simp; omega)
  have hl1 := s1.lt
  have hB1 := h1.2.1
  clear g1 h
  by_cases t0 : t = 0
  · subst t0
    go_wp2_with fail
    refine (num_r B R (p + 1) w1.heap.size [-2147483648, 2147483647, 0, -1, 2147483648, -2147483649] 6 _ (h1.alloc _) (by decide) (by decide) (by omega) (by omega) (by exact cells_row w1 [-2147483648, 2147483647, 0, -1, 2147483648, -2147483649] 3)).mono ?_
    rintro e w2 ⟨v, hv, rfl, h2, g2⟩
    have b_v : -3000000000 ≤ v ∧ v ≤ 3000000000 := by simp at hv; omega
    have G2 : w.grownBy w2 (some R) := gb_pick (gb_alloc G1 _) g2
    have s2 : A3 w2 w.heap.size 0 0 0 := (s1.alloc _).grown g2 (by simp; omega)
    have hl2 := s2.lt
    have hB2 := h2.2.1
    clear g2 hv G1 s1 h1
    go_wp2_with fail
    refine (num_r B R (p + 1 + 1) w2.heap.size [0, 7, 255, 255, 256, -1] 6 _ (h2.alloc _) (by decide) (by decide) (by omega) (by omega) (by exact cells_row w2 [0, 7, 255, 255, 256, -1] 3)).mono ?_
    rintro e w3 ⟨m, hm, rfl, h3, g3⟩
    have b_m : -3000000000 ≤ m ∧ m ≤ 3000000000 := by simp at hm; omega
    have G3 : w.grownBy w3 (some R) := gb_pick (gb_alloc G2 _) g3
    have s3 : A3 w3 w.heap.size 0 0 0 := (s2.alloc _).grown g3 (by simp; omega)
    clear g3 hm G2 s2 h2
    obtain ⟨u1, u2, u3⟩ := put_end 12 v m s3 h3 G3 hBw (Nat.le_refl _)
    obtain ⟨c0, c1, c2, f0, f1, f2⟩ := s3
    obtain ⟨q0, q1, q2, _, _, _⟩ := u1
    go_wp2
    exact bodyPost_ret (v := .agg #[.int .i64 12, .int .i64 v, .int .i64 m]) (by simp [results, Tryz.results36, go_sem, q0, q1, q2]) rfl ⟨⟨_, _, _, ⟨by omega, by omega⟩, rfl⟩, ⟨_, by omega, u2⟩, u3⟩
  by_cases t1 : t = 1
  · subst t1
    go_wp2_with fail
    refine (num_r B R (p + 1) w1.heap.size [-32768, 32767, -1, 255, 256, 32768, -32769] 7 _ (h1.alloc _) (by decide) (by decide) (by omega) (by omega) (by exact cells_row w1 [-32768, 32767, -1, 255, 256, 32768, -32769] 3)).mono ?_
    rintro e w2 ⟨v, hv, rfl, h2, g2⟩
    have b_v : -3000000000 ≤ v ∧ v ≤ 3000000000 := by simp at hv; omega
    have G2 : w.grownBy w2 (some R) := gb_pick (gb_alloc G1 _) g2
    have s2 : A3 w2 w.heap.size 0 0 0 := (s1.alloc _).grown g2 (by simp; omega)
    clear g2 hv G1 s1 h1
    obtain ⟨u1, u2, u3⟩ := put_end 11 v 0 s2 h2 G2 hBw (Nat.le_refl _)
    obtain ⟨c0, c1, c2, f0, f1, f2⟩ := s2
    obtain ⟨q0, q1, q2, _, _, _⟩ := u1
    go_wp2
    exact bodyPost_ret (v := .agg #[.int .i64 11, .int .i64 v, .int .i64 0]) (by simp [results, Tryz.results36, go_sem, q0, q1, q2]) rfl ⟨⟨_, _, _, ⟨by omega, by omega⟩, rfl⟩, ⟨_, by omega, u2⟩, u3⟩
  by_cases t2 : t = 2
  · subst t2
    go_wp2_with fail
    refine (num_r B R (p + 1) w1.heap.size [0, 255, 256, 4] 4 _ (h1.alloc _) (by decide) (by decide) (by omega) (by omega) (by exact cells_row w1 [0, 255, 256, 4] 3)).mono ?_
    rintro e w2 ⟨v, hv, rfl, h2, g2⟩
    have b_v : -3000000000 ≤ v ∧ v ≤ 3000000000 := by simp at hv; omega
    have G2 : w.grownBy w2 (some R) := gb_pick (gb_alloc G1 _) g2
    have s2 : A3 w2 w.heap.size 0 0 0 := (s1.alloc _).grown g2 (by simp; omega)
    clear g2 hv G1 s1 h1
    obtain ⟨u1, u2, u3⟩ := put_end 13 v 0 s2 h2 G2 hBw (Nat.le_refl _)
    obtain ⟨c0, c1, c2, f0, f1, f2⟩ := s2
    obtain ⟨q0, q1, q2, _, _, _⟩ := u1
    go_wp2
    exact bodyPost_ret (v := .agg #[.int .i64 13, .int .i64 v, .int .i64 0]) (by simp [results, Tryz.results36, go_sem, q0, q1, q2]) rfl ⟨⟨_, _, _, ⟨by omega, by omega⟩, rfl⟩, ⟨_, by omega, u2⟩, u3⟩
  by_cases t3 : t = 3
  · subst t3
    go_wp2_with fail
    refine (num_r B R (p + 1) w1.heap.size [0, 1, 10, 13, 14, 255] 6 _ (h1.alloc _) (by decide) (by decide) (by omega) (by omega) (by exact cells_row w1 [0, 1, 10, 13, 14, 255] 3)).mono ?_
    rintro e w2 ⟨v, hv, rfl, h2, g2⟩
    have b_v : -3000000000 ≤ v ∧ v ≤ 3000000000 := by simp at hv; omega
    have G2 : w.grownBy w2 (some R) := gb_pick (gb_alloc G1 _) g2
    have s2 : A3 w2 w.heap.size 0 0 0 := (s1.alloc _).grown g2 (by simp; omega)
    clear g2 hv G1 s1 h1
    obtain ⟨u1, u2, u3⟩ := put_end v 7 0 s2 h2 G2 hBw (Nat.le_refl _)
    obtain ⟨c0, c1, c2, f0, f1, f2⟩ := s2
    obtain ⟨q0, q1, q2, _, _, _⟩ := u1
    go_wp2
    exact bodyPost_ret (v := .agg #[.int .i64 v, .int .i64 7, .int .i64 0]) (by simp [results, Tryz.results36, go_sem, q0, q1, q2]) rfl ⟨⟨_, _, _, ⟨by omega, by omega⟩, rfl⟩, ⟨_, by omega, u2⟩, u3⟩
  have j0 : ((t : Int) == 0) = false := by simp; omega
  have j1 : ((t : Int) == 1) = false := by simp; omega
  have j2 : ((t : Int) == 2) = false := by simp; omega
  have j3 : ((t : Int) == 3) = false := by simp; omega
  have n0 : ¬ (t : Int) = 0 := by omega
  have n1 : ¬ (t : Int) = 1 := by omega
  have n2 : ¬ (t : Int) = 2 := by omega
  have n3 : ¬ (t : Int) = 3 := by omega
  go_wp2_with fail
  refine (pick_r B R (p + 1) 10 _ h1 (by omega) (by omega) (by omega)).mono ?_
  rintro e w2 ⟨d, d1, rfl, h2, g2⟩
  have G2 : w.grownBy w2 (some R) := gb_pick G1 g2
  have s2 : A3 w2 w.heap.size 0 0 0 := s1.grown g2 (by simp; omega)
  have hl2 := s2.lt
  have hB2 := h2.2.1
  clear g2 G1 s1 h1
  go_wp2_with fail
  refine (num_r B R (p + 1 + 1) w2.heap.size [0, 255, 64, 100, 256, -1] 6 _ (h2.alloc _) (by decide) (by decide) (by omega) (by omega) (by exact cells_row w2 [0, 255, 64, 100, 256, -1] 3)).mono ?_
  rintro e w3 ⟨m, hm, rfl, h3, g3⟩
  have b_m : -3000000000 ≤ m ∧ m ≤ 3000000000 := by simp at hm; omega
  have G3 : w.grownBy w3 (some R) := gb_pick (gb_alloc G2 _) g3
  have s3 : A3 w3 w.heap.size 0 0 0 := (s2.alloc _).grown g3 (by simp; omega)
  clear g3 hm G2 s2 h2
  obtain ⟨u1, u2, u3⟩ := put_end (1 + d) m 0 s3 h3 G3 hBw (Nat.le_refl _)
  obtain ⟨c0, c1, c2, f0, f1, f2⟩ := s3
  obtain ⟨q0, q1, q2, _, _, _⟩ := u1
  go_wp2
  exact bodyPost_ret (v := .agg #[.int .i64 (1 + d), .int .i64 m, .int .i64 0]) (by simp [results, Tryz.results36, go_sem, q0, q1, q2]) rfl ⟨⟨_, _, _, ⟨by omega, by omega⟩, rfl⟩, ⟨_, by omega, u2⟩, u3⟩
end Go.Proofs.YtcihplachlokiaaGreatDoor.Rr
