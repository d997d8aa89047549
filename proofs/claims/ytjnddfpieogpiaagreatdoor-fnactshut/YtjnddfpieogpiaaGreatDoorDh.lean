/- The specification's draws of operands: some operand, whatever the code. -/
import Derived.Test.YtjnddfpieogpiaaGreatDoorR
import Derived.Test.YtjnddfpieogpiaaGreatDoorDe
namespace Go.Proofs.YtjnddfpieogpiaaGreatDoor
open Go.RowKit
set_option linter.unusedVariables false

def IsArg (e : Ending) : Prop := ∃ k n p : Int, -2000000000 ≤ n ∧ n ≤ 2000000000 ∧ e = .returned (.agg #[.int .i64 k, .int .i64 n, .int .i64 p])

/-- An operand in a block of its own. -/
structure A3 (w : World) (bl : Nat) (k n p : Int) : Prop where
  c0 : w.cell? ⟨bl, 0, none⟩ = some (.int .i64 k)
  c1 : w.cell? ⟨bl, 1, none⟩ = some (.int .i64 n)
  c2 : w.cell? ⟨bl, 2, none⟩ = some (.int .i64 p)
  f0 : w.frozen? ⟨bl, 0, none⟩ = false
  f1 : w.frozen? ⟨bl, 1, none⟩ = false
  f2 : w.frozen? ⟨bl, 2, none⟩ = false

theorem A3.fresh (w : World) (k n p : Int) (t : TypeId) : A3 (w.alloc (.cells #[.int .i64 k, .int .i64 n, .int .i64 p] t)) w.heap.size k n p := ⟨by simp, by simp, by simp, by simp, by simp, by simp⟩
theorem A3.lt {w : World} {bl : Nat} {k n p : Int} (h : A3 w bl k n p) : bl < w.heap.size := World.block_lt_of_cell? _ _ h.c0
theorem A3.grown {w w' : World} {bl : Nat} {k n p : Int} {row : Option Nat} (h : A3 w bl k n p) (g : w.grownBy w' row) (hne : some bl ≠ row) : A3 w' bl k n p :=
  ⟨(g.cell_far _ h.lt hne).trans h.c0, (g.cell_far _ h.lt hne).trans h.c1, (g.cell_far _ h.lt hne).trans h.c2, (g.frozen_far _ h.lt hne).trans h.f0, (g.frozen_far _ h.lt hne).trans h.f1, (g.frozen_far _ h.lt hne).trans h.f2⟩
theorem A3.later {w w' : World} {bl : Nat} {k n p : Int} (h : A3 w bl k n p) (g : Below w.heap.size w w') : A3 w' bl k n p := h.grown (gb_below g) (by simp)
theorem A3.alloc {w : World} {bl : Nat} {k n p : Int} (h : A3 w bl k n p) (o : Obj) : A3 (w.alloc o) bl k n p := h.grown (World.grownBy_alloc w o none) (by simp)
theorem A3.put0 {w : World} {bl : Nat} {k n p : Int} (h : A3 w bl k n p) (k' : Int) : A3 (w.setCell ⟨bl, 0, none⟩ (.int .i64 k')) bl k' n p :=
  ⟨World.cell?_setCell_same _ _ _ h.c0, (World.cell?_setCell_other _ _ _ _ (by simp)).trans h.c1, (World.cell?_setCell_other _ _ _ _ (by simp)).trans h.c2, by simpa using h.f0, by simpa using h.f1, by simpa using h.f2⟩
theorem A3.put1 {w : World} {bl : Nat} {k n p : Int} (h : A3 w bl k n p) (n' : Int) : A3 (w.setCell ⟨bl, 1, none⟩ (.int .i64 n')) bl k n' p :=
  ⟨(World.cell?_setCell_other _ _ _ _ (by simp)).trans h.c0, World.cell?_setCell_same _ _ _ h.c1, (World.cell?_setCell_other _ _ _ _ (by simp)).trans h.c2, by simpa using h.f0, by simpa using h.f1, by simpa using h.f2⟩
theorem A3.put2 {w : World} {bl : Nat} {k n p : Int} (h : A3 w bl k n p) (p' : Int) : A3 (w.setCell ⟨bl, 2, none⟩ (.int .i64 p')) bl k n p' :=
  ⟨(World.cell?_setCell_other _ _ _ _ (by simp)).trans h.c0, (World.cell?_setCell_other _ _ _ _ (by simp)).trans h.c1, World.cell?_setCell_same _ _ _ h.c2, by simpa using h.f0, by simpa using h.f1, by simpa using h.f2⟩
theorem A3.set {w : World} {bl : Nat} {k n p : Int} (h : A3 w bl k n p) (k' n' p' : Int) : A3 (((w.setCell ⟨bl, 0, none⟩ (.int .i64 k')).setCell ⟨bl, 1, none⟩ (.int .i64 n')).setCell ⟨bl, 2, none⟩ (.int .i64 p')) bl k' n' p' := ((h.put0 k').put1 n').put2 p'
theorem A3.other {w : World} {bl : Nat} {k n p : Int} (h : A3 w bl k n p) (bl' o : Nat) (hne : bl' ≠ bl) (u : Value) : A3 (w.setCell ⟨bl', o, none⟩ u) bl k n p :=
  ⟨(World.cell?_setCell_other _ _ _ _ (by simp)).trans h.c0, (World.cell?_setCell_other _ _ _ _ (by simp)).trans h.c1, (World.cell?_setCell_other _ _ _ _ (by simp)).trans h.c2, by simpa using h.f0, by simpa using h.f1, by simpa using h.f2⟩

theorem cells_row2 (w : World) (o : Obj) (xs : List Int) (t : TypeId) : ∀ j x, xs[j]? = some x → ((w.alloc o).alloc (.cells (xs.map (Value.int .i64)).toArray t)).cell? ⟨w.heap.size + 1, j, none⟩ = some (.int .i64 x) := by
  have h := cells_row (w.alloc o) xs t
  rwa [World.size_alloc] at h

/-- The end of a draw: the answer stands in its block. -/
theorem put_end {B R q bl : Nat} {w W : World} {k0 n0 p0 : Int} (k n p : Int) (hS : A3 W bl k0 n0 p0) (hR : Reader B W R q) (hG : w.grownBy W (some R)) (hB : B ≤ bl) (hb : w.heap.size ≤ bl) :
    A3 (((W.setCell ⟨bl, 0, none⟩ (.int .i64 k)).setCell ⟨bl, 1, none⟩ (.int .i64 n)).setCell ⟨bl, 2, none⟩ (.int .i64 p)) bl k n p ∧
    Reader B (((W.setCell ⟨bl, 0, none⟩ (.int .i64 k)).setCell ⟨bl, 1, none⟩ (.int .i64 n)).setCell ⟨bl, 2, none⟩ (.int .i64 p)) R q ∧
    w.grownBy (((W.setCell ⟨bl, 0, none⟩ (.int .i64 k)).setCell ⟨bl, 1, none⟩ (.int .i64 n)).setCell ⟨bl, 2, none⟩ (.int .i64 p)) (some R) :=
  ⟨hS.set k n p, ((hR.set _ _ _ hB).set _ _ _ hB).set _ _ _ hB, gb_put (gb_put (gb_put hG hb) hb) hb⟩

set_option maxHeartbeats 1000000 in
theorem arg_int (B R p : Nat) (w : World) (h : Reader B w R p) (hp : p < 900000) :
    Calls Tryz.prog 100 #[.pointer (some ⟨R, 0, none⟩), .int .i64 11] w fun e w' => IsArg e ∧ (∃ q, q ≤ p + 4 ∧ Reader B w' R q) ∧ w.grownBy w' (some R) := by
  have hRB := h.1
  have hBw := h.2.1
  go_enter Tryz.func100, Tryz.ntmps100
  go_wp2_with fail
  refine (num_r B R p (w.heap.size + 1) [0, 1, 2, 3, 5, -1, -7, 10, 100, 32767, -32768, 1000] 12 _ ((h.alloc _).alloc _) (by decide) (by decide) (by omega) (by omega) (by exact cells_row2 w _ [0, 1, 2, 3, 5, -1, -7, 10, 100, 32767, -32768, 1000] 3)).mono ?_
  rintro e w1 ⟨v, hv, rfl, h1, g1⟩
  have bv : -2000000000 ≤ v ∧ v ≤ 2000000000 := by simp at hv; omega
  have G1 : w.grownBy w1 (some R) := gb_pick (gb_alloc (gb_alloc (gb_refl _ _) _) _) g1
  have s1 : A3 w1 w.heap.size 0 0 0 := ((A3.fresh w 0 0 0 54).alloc _).grown g1 (by simp; omega)
  obtain ⟨t1, t2, t3⟩ := put_end 11 v 0 s1 h1 G1 hBw (Nat.le_refl _)
  clear g1 hv
  obtain ⟨c0, c1, c2, f0, f1, f2⟩ := s1
  obtain ⟨q0, q1, q2, _, _, _⟩ := t1
  go_wp2
  exact bodyPost_ret (v := .agg #[.int .i64 11, .int .i64 v, .int .i64 0]) (by simp [results, Tryz.results100, go_sem, q0, q1, q2]) rfl ⟨⟨_, _, _, by omega, by omega, rfl⟩, ⟨_, by omega, t2⟩, t3⟩

set_option maxHeartbeats 1000000 in
theorem arg_dec (B R p : Nat) (w : World) (h : Reader B w R p) (hp : p < 900000) :
    Calls Tryz.prog 100 #[.pointer (some ⟨R, 0, none⟩), .int .i64 12] w fun e w' => IsArg e ∧ (∃ q, q ≤ p + 4 ∧ Reader B w' R q) ∧ w.grownBy w' (some R) := by
  have hRB := h.1
  have hBw := h.2.1
  go_enter Tryz.func100, Tryz.ntmps100
  go_wp2_with fail
  refine (num_r B R p (w.heap.size + 1) [0, 1, 5, -5, 25, -15, 999999999, -999999999, 3, 1001, 7] 11 _ ((h.alloc _).alloc _) (by decide) (by decide) (by omega) (by omega) (by exact cells_row2 w _ [0, 1, 5, -5, 25, -15, 999999999, -999999999, 3, 1001, 7] 3)).mono ?_
  rintro e w1 ⟨v, hv, rfl, h1, g1⟩
  have bv : -2000000000 ≤ v ∧ v ≤ 2000000000 := by simp at hv; omega
  have G1 : w.grownBy w1 (some R) := gb_pick (gb_alloc (gb_alloc (gb_refl _ _) _) _) g1
  have s1 : A3 w1 w.heap.size 0 0 0 := ((A3.fresh w 0 0 0 54).alloc _).grown g1 (by simp; omega)
  clear g1 hv
  go_wp2_with fail
  refine (pick_r B R (p + 1) 6 _ h1 (by omega) (by omega) (by omega)).mono ?_
  rintro e w2 ⟨r, r1, rfl, h2, g2⟩
  have G2 : w.grownBy w2 (some R) := gb_pick G1 g2
  have s2 : A3 w2 w.heap.size 0 0 0 := s1.grown g2 (by simp; omega)
  clear g2 G1 s1 h1
  obtain ⟨m, HM⟩ : ∃ m, Hid (m = v.tmod 10) := ⟨_, rfl⟩
  by_cases hm : m = 0
  · obtain ⟨t1, t2, t3⟩ := put_end 12 v 1 s2 h2 G2 hBw (Nat.le_refl _)
    obtain ⟨c0, c1, c2, f0, f1, f2⟩ := s2
    obtain ⟨q0, q1, q2, _, _, _⟩ := t1
    have hm' : v.tmod 10 = 0 := by rw [← HM.out]; exact hm
    have hm2 : (v.tmod 10 == 0) = true := by rw [hm']; rfl
    clear HM
    go_wp2
    exact bodyPost_ret (v := .agg #[.int .i64 12, .int .i64 v, .int .i64 1]) (by simp [results, Tryz.results100, go_sem, q0, q1, q2]) rfl ⟨⟨_, _, _, by omega, by omega, rfl⟩, ⟨_, by omega, t2⟩, t3⟩
  · obtain ⟨t1, t2, t3⟩ := put_end 12 v (1 + r) s2 h2 G2 hBw (Nat.le_refl _)
    obtain ⟨c0, c1, c2, f0, f1, f2⟩ := s2
    obtain ⟨q0, q1, q2, _, _, _⟩ := t1
    have hm2 : (v.tmod 10 == 0) = false := by rw [← HM.out]; simp [hm]
    clear HM
    go_wp2
    exact bodyPost_ret (v := .agg #[.int .i64 12, .int .i64 v, .int .i64 (1 + r)]) (by simp [results, Tryz.results100, go_sem, q0, q1, q2]) rfl ⟨⟨_, _, _, by omega, by omega, rfl⟩, ⟨_, by omega, t2⟩, t3⟩

set_option maxHeartbeats 1000000 in
theorem arg_word (B R p : Nat) (w : World) (h : Reader B w R p) (hp : p < 900000) :
    Calls Tryz.prog 100 #[.pointer (some ⟨R, 0, none⟩), .int .i64 13] w fun e w' => IsArg e ∧ (∃ q, q ≤ p + 4 ∧ Reader B w' R q) ∧ w.grownBy w' (some R) := by
  have hRB := h.1
  have hBw := h.2.1
  go_enter Tryz.func100, Tryz.ntmps100
  go_wp2_with fail
  refine (pick_r B R p 4 _ (h.alloc _) (by omega) (by omega) (by omega)).mono ?_
  rintro e w1 ⟨v, hv, rfl, h1, g1⟩
  have G1 : w.grownBy w1 (some R) := gb_pick (gb_alloc (gb_refl _ _) _) g1
  have s1 : A3 w1 w.heap.size 0 0 0 := (A3.fresh w 0 0 0 54).grown g1 (by simp; omega)
  obtain ⟨t1, t2, t3⟩ := put_end 13 v 0 s1 h1 G1 hBw (Nat.le_refl _)
  clear g1
  obtain ⟨c0, c1, c2, f0, f1, f2⟩ := s1
  obtain ⟨q0, q1, q2, _, _, _⟩ := t1
  go_wp2
  exact bodyPost_ret (v := .agg #[.int .i64 13, .int .i64 v, .int .i64 0]) (by simp [results, Tryz.results100, go_sem, q0, q1, q2]) rfl ⟨⟨_, _, _, by omega, by omega, rfl⟩, ⟨_, by omega, t2⟩, t3⟩

theorem kS_in (k : Int) (k1 : 1 ≤ k) (k2 : k ≤ 10) : 5 ≤ kS k ∧ kS k ≤ 64 := by
  rcases k_cases k with h | rfl | rfl | rfl | rfl | rfl | rfl | rfl | rfl | rfl | rfl
  · omega
  all_goals decide

set_option maxHeartbeats 2000000 in
theorem arg_dev (B R p : Nat) (k : Int) (w : World) (h : Reader B w R p) (hp : p < 900000) (k1 : 1 ≤ k) (k2 : k ≤ 10) :
    Calls Tryz.prog 100 #[.pointer (some ⟨R, 0, none⟩), .int .i64 k] w fun e w' => IsArg e ∧ (∃ q, q ≤ p + 4 ∧ Reader B w' R q) ∧ w.grownBy w' (some R) := by
  have hRB := h.1
  have hBw := h.2.1
  have hz := kS_in k k1 k2
  have HS : Hid (∀ W : World, Calls Tryz.prog 110 #[.int .i64 k] W fun e w' => e = .returned (.int .i64 (kS k)) ∧ w' = W) := fun W => spec_size k W
  obtain ⟨z, HZ⟩ : ∃ z, Hid (z = kS k) := ⟨_, rfl⟩
  rw [← HZ.out] at HS hz
  clear HZ
  have e1 : (k == 11) = false := by simp; omega
  have e2 : (k == 12) = false := by simp; omega
  have e3 : (k == 13) = false := by simp; omega
  go_enter Tryz.func100, Tryz.ntmps100
  go_wp2_with fail
  refine (pick_r B R p 4 _ (h.alloc _) (by omega) (by omega) (by omega)).mono ?_
  rintro e w1 ⟨v, hv, rfl, h1, g1⟩
  have G1 : w.grownBy w1 (some R) := gb_pick (gb_alloc (gb_refl _ _) _) g1
  have s1 : A3 w1 w.heap.size 0 0 0 := (A3.fresh w 0 0 0 54).grown g1 (by simp; omega)
  clear g1
  go_wp2_with fail
  refine (pick_r B R (p + 1) 6 _ h1 (by omega) (by omega) (by omega)).mono ?_
  rintro e w2 ⟨r, r1, rfl, h2, g2⟩
  have G2 : w.grownBy w2 (some R) := gb_pick G1 g2
  have s2 : A3 w2 w.heap.size 0 0 0 := s1.grown g2 (by simp; omega)
  clear g2 G1 s1 h1
  by_cases hr : r = 0
  · subst hr
    go_wp2_with fail
    refine (HS.out _).mono ?_
    rintro e w2b ⟨rfl, rfl⟩
    go_wp2_with fail
    refine (pick_r B R (p + 1 + 1) z _ h2 (by omega) (by omega) (by omega)).mono ?_
    rintro e w3 ⟨u, u1, rfl, h3, g3⟩
    have G3 : w.grownBy w3 (some R) := gb_pick G2 g3
    have s3 : A3 w3 w.heap.size 0 0 0 := s2.grown g3 (by simp; omega)
    clear g3 G2 s2 h2
    go_wp2_with fail
    refine (HS.out _).mono ?_
    rintro e w3b ⟨rfl, rfl⟩
    obtain ⟨t1, t2, t3⟩ := put_end k u 0 s3 h3 G3 hBw (Nat.le_refl _)
    obtain ⟨c0, c1, c2, f0, f1, f2⟩ := s3
    obtain ⟨q0, q1, q2, _, _, _⟩ := t1
    go_wp2
    exact bodyPost_ret (v := .agg #[.int .i64 k, .int .i64 u, .int .i64 0]) (by simp [results, Tryz.results100, go_sem, q0, q1, q2]) rfl ⟨⟨_, _, _, by omega, by omega, rfl⟩, ⟨_, by omega, t2⟩, t3⟩
  · have hr' : ((r : Int) == 0) = false := by simp; omega
    go_wp2_with fail
    refine (HS.out _).mono ?_
    rintro e w2b ⟨rfl, rfl⟩
    obtain ⟨t1, t2, t3⟩ := put_end k v 0 s2 h2 G2 hBw (Nat.le_refl _)
    obtain ⟨c0, c1, c2, f0, f1, f2⟩ := s2
    obtain ⟨q0, q1, q2, _, _, _⟩ := t1
    go_wp2
    exact bodyPost_ret (v := .agg #[.int .i64 k, .int .i64 v, .int .i64 0]) (by simp [results, Tryz.results100, go_sem, q0, q1, q2]) rfl ⟨⟨_, _, _, by omega, by omega, rfl⟩, ⟨_, by omega, t2⟩, t3⟩

theorem arg_r (B R p : Nat) (k : Int) (w : World) (h : Reader B w R p) (hp : p < 900000) (k1 : 1 ≤ k) (k2 : k ≤ 13) :
    Calls Tryz.prog 100 #[.pointer (some ⟨R, 0, none⟩), .int .i64 k] w fun e w' => IsArg e ∧ (∃ q, q ≤ p + 4 ∧ Reader B w' R q) ∧ w.grownBy w' (some R) := by
  by_cases e1 : k = 11
  · subst e1; exact arg_int B R p w h hp
  by_cases e2 : k = 12
  · subst e2; exact arg_dec B R p w h hp
  by_cases e3 : k = 13
  · subst e3; exact arg_word B R p w h hp
  exact arg_dev B R p k w h hp k1 (by omega)
end Go.Proofs.YtjnddfpieogpiaaGreatDoor
