/- The specification's draws of operands, spoilt ones too. -/
import Derived.Test.YtcihplachlokiaaDoorDaM
import Derived.Deep.RegionWith
import Derived.Lib.QuietBelow
import Derived.Deep.Cut
namespace Go.Proofs.YtcihplachlokiaaDoor.Rr
open Go.RowKit
set_option linter.unusedVariables false

/-- The answer's three cells out of the argument's, at the end of l2Spoilt. -/
theorem spoilt_end {B R q b : Nat} {w W : World} {k n p k0 n0 p0 : Int} (hA : A3 W b k n p) (hS : A3 W (b + 1) k0 n0 p0) (hR : Reader B W R q) (hG : w.grownBy W (some R)) (hB : B ≤ b) (hb : w.heap.size ≤ b) :
    A3 (((W.setCell ⟨b + 1, 0, none⟩ (.int .i64 k)).setCell ⟨b + 1, 1, none⟩ (.int .i64 n)).setCell ⟨b + 1, 2, none⟩ (.int .i64 p)) (b + 1) k n p ∧
    Reader B (((W.setCell ⟨b + 1, 0, none⟩ (.int .i64 k)).setCell ⟨b + 1, 1, none⟩ (.int .i64 n)).setCell ⟨b + 1, 2, none⟩ (.int .i64 p)) R q ∧
    w.grownBy (((W.setCell ⟨b + 1, 0, none⟩ (.int .i64 k)).setCell ⟨b + 1, 1, none⟩ (.int .i64 n)).setCell ⟨b + 1, 2, none⟩ (.int .i64 p)) (some R) :=
  put_end k n p hS hR hG (by omega) (by omega)

set_option maxHeartbeats 4000000 in
theorem spoilt_r (B R p : Nat) (k n m : Int) (w : World) (h : Reader B w R p) (hp : p < 9900000) (bn0 : -2000000000 ≤ n) (bn1 : n ≤ 2000000000) :
    Calls Tryd.prog 100 #[.pointer (some ⟨R, 0, none⟩), .agg #[.int .i64 k, .int .i64 n, .int .i64 m]] w fun e w' => IsArg e ∧ (∃ q, q ≤ p + 2 ∧ Reader B w' R q) ∧ w.grownBy w' (some R) := by
  have hRB := h.1
  have hBw := h.2.1
  have hzz : 0 ≤ kS k ∧ kS k ≤ 64 := by
    by_cases hk : 1 ≤ k ∧ k ≤ 10
    · have := kS_in k hk.1 hk.2
      omega
    · rw [kS_out k (by omega)]; omega
  have HS : Hid (∀ W : World, Calls Tryd.prog 101 #[.int .i64 k] W fun e w' => e = .returned (.int .i64 (kS k)) ∧ w' = W) := fun W => spec_size k W
  obtain ⟨z, HZ⟩ : ∃ z, Hid (z = kS k) := ⟨_, rfl⟩
  rw [← HZ.out] at HS hzz
  clear HZ
  obtain ⟨hz0, hz⟩ := hzz
  go_enter Tryd.func100, Tryd.ntmps100
  go_wp2_with fail
  refine (pick_r B R p 6 _ ((h.alloc _).alloc _) (by omega) (by omega) (by omega)).mono ?_
  rintro e w1 ⟨r6, r61, rfl, h1, g1⟩
  have G1 : w.grownBy w1 (some R) := gb_pick (gb_alloc (gb_alloc (gb_refl _ _) _) _) g1
  have a1 : A3 w1 w.heap.size k n m := ((A3.fresh w k n m 87).alloc _).grown g1 (by simp; omega)
  have s1 : A3 w1 (w.heap.size + 1) 0 0 0 := by
    have := (A3.fresh (w.alloc (.cells #[.int .i64 k, .int .i64 n, .int .i64 m] 87)) 0 0 0 87).grown g1 (by simp; omega)
    simpa using this
  clear g1 h
  have h6 : r6 = 0 ∨ r6 = 1 ∨ r6 = 2 ∨ r6 = 3 ∨ r6 = 4 ∨ r6 = 5 := by omega
  rcases h6 with rfl | rfl | rfl | rfl | rfl | rfl
  · go_wp2_with fail
    refine (pick_r B R (p + 1) 16 _ h1 (by omega) (by omega) (by omega)).mono ?_
    rintro e w2 ⟨r, r1, rfl, h2, g2⟩
    have G2 : w.grownBy w2 (some R) := gb_pick G1 g2
    have a2 : A3 w2 w.heap.size k n m := a1.grown g2 (by simp; omega)
    have s2 : A3 w2 (w.heap.size + 1) 0 0 0 := s1.grown g2 (by simp; omega)
    clear g2 G1 a1 s1 h1
    have a3 := a2.put0 ((r : Int) - 1)
    have s3 := s2.other w.heap.size 0 (by omega) (.int .i64 ((r : Int) - 1))
    obtain ⟨t1, t2, t3⟩ := spoilt_end a3 s3 (h2.set _ _ _ hBw) (gb_put G2 (Nat.le_refl _)) hBw (Nat.le_refl _)
    obtain ⟨c0, c1, c2, f0, f1, f2⟩ := a2
    obtain ⟨d0, d1, d2, u0, u1, u2⟩ := a3
    obtain ⟨e0, e1, e2, v0, v1, v2⟩ := s3
    obtain ⟨q0, q1, q2, _, _, _⟩ := t1
    go_wp2
    exact bodyPost_ret (v := .agg #[.int .i64 ((r : Int) - 1), .int .i64 n, .int .i64 m]) (by simp [results, Tryd.results100, go_sem, q0, q1, q2]) rfl ⟨⟨_, _, _, by omega, by omega, rfl⟩, ⟨_, by omega, t2⟩, t3⟩
  · go_wp2_with fail
    have z1 : w.heap.size + 2 ≤ w1.heap.size := s1.lt
    refine (num_r B R (p + 1) w1.heap.size [-1, 4, 5, 15, 16, 31, 32, 63, 64, 255, 32768, -32769, 1000000000, -1000000000, 20, 10] 16 _ (h1.alloc _) (by decide) (by decide) (by omega) (by omega) (by exact cells_row w1 [-1, 4, 5, 15, 16, 31, 32, 63, 64, 255, 32768, -32769, 1000000000, -1000000000, 20, 10] 3)).mono ?_
    rintro e w2 ⟨v, hv, rfl, h2, g2⟩
    have bv : -2000000000 ≤ v ∧ v ≤ 2000000000 := by simp at hv; omega
    have G2 : w.grownBy w2 (some R) := gb_pick (gb_alloc G1 _) g2
    have a2 : A3 w2 w.heap.size k n m := (a1.alloc _).grown g2 (by simp; omega)
    have s2 : A3 w2 (w.heap.size + 1) 0 0 0 := (s1.alloc _).grown g2 (by simp; omega)
    clear g2 G1 a1 s1 h1 hv z1
    have a3 := a2.put1 v
    have s3 := s2.other w.heap.size 1 (by omega) (.int .i64 v)
    obtain ⟨t1, t2, t3⟩ := spoilt_end a3 s3 (h2.set _ _ _ hBw) (gb_put G2 (Nat.le_refl _)) hBw (Nat.le_refl _)
    obtain ⟨c0, c1, c2, f0, f1, f2⟩ := a2
    obtain ⟨d0, d1, d2, u0, u1, u2⟩ := a3
    obtain ⟨e0, e1, e2, v0, v1, v2⟩ := s3
    obtain ⟨q0, q1, q2, _, _, _⟩ := t1
    go_wp2
    exact bodyPost_ret (v := .agg #[.int .i64 k, .int .i64 v, .int .i64 m]) (by simp [results, Tryd.results100, go_sem, q0, q1, q2]) rfl ⟨⟨_, _, _, by omega, by omega, rfl⟩, ⟨_, by omega, t2⟩, t3⟩
  · go_wp2_with fail
    have z1 : w.heap.size + 2 ≤ w1.heap.size := s1.lt
    refine (num_r B R (p + 1) w1.heap.size [-1, 0, 1, 6, 7] 5 _ (h1.alloc _) (by decide) (by decide) (by omega) (by omega) (by exact cells_row w1 [-1, 0, 1, 6, 7] 3)).mono ?_
    rintro e w2 ⟨v, hv, rfl, h2, g2⟩
    have bv : -2000000000 ≤ v ∧ v ≤ 2000000000 := by simp at hv; omega
    have G2 : w.grownBy w2 (some R) := gb_pick (gb_alloc G1 _) g2
    have a2 : A3 w2 w.heap.size k n m := (a1.alloc _).grown g2 (by simp; omega)
    have s2 : A3 w2 (w.heap.size + 1) 0 0 0 := (s1.alloc _).grown g2 (by simp; omega)
    clear g2 G1 a1 s1 h1 hv z1
    have a3 := a2.put2 v
    have s3 := s2.other w.heap.size 2 (by omega) (.int .i64 v)
    obtain ⟨t1, t2, t3⟩ := spoilt_end a3 s3 (h2.set _ _ _ hBw) (gb_put G2 (Nat.le_refl _)) hBw (Nat.le_refl _)
    obtain ⟨c0, c1, c2, f0, f1, f2⟩ := a2
    obtain ⟨d0, d1, d2, u0, u1, u2⟩ := a3
    obtain ⟨e0, e1, e2, v0, v1, v2⟩ := s3
    obtain ⟨q0, q1, q2, _, _, _⟩ := t1
    go_wp2
    exact bodyPost_ret (v := .agg #[.int .i64 k, .int .i64 n, .int .i64 v]) (by simp [results, Tryd.results100, go_sem, q0, q1, q2]) rfl ⟨⟨_, _, _, by omega, by omega, rfl⟩, ⟨_, by omega, t2⟩, t3⟩
  · have a2 := a1
    have s2 := s1
    have h2 := h1
    have G2 := G1
    obtain ⟨x0, x1, x2, y0, y1, y2⟩ := a1
    go_wp2_with fail
    refine (HS.out _).mono ?_
    rintro e w2 ⟨rfl, rfl⟩
    clear x0 x1 x2 y0 y1 y2 G1 s1 h1
    have a3 := a2.put1 z
    have s3 := s2.other w.heap.size 1 (by omega) (.int .i64 z)
    obtain ⟨t1, t2, t3⟩ := spoilt_end a3 s3 (h2.set _ _ _ hBw) (gb_put G2 (Nat.le_refl _)) hBw (Nat.le_refl _)
    obtain ⟨c0, c1, c2, f0, f1, f2⟩ := a2
    obtain ⟨d0, d1, d2, u0, u1, u2⟩ := a3
    obtain ⟨e0, e1, e2, v0, v1, v2⟩ := s3
    obtain ⟨q0, q1, q2, _, _, _⟩ := t1
    go_wp2
    exact bodyPost_ret (v := .agg #[.int .i64 k, .int .i64 z, .int .i64 m]) (by simp [results, Tryd.results100, go_sem, q0, q1, q2]) rfl ⟨⟨_, _, _, by omega, by omega, rfl⟩, ⟨_, by omega, t2⟩, t3⟩
  · have a2 := a1
    have s2 := s1
    have h2 := h1
    have G2 := G1
    obtain ⟨x0, x1, x2, y0, y1, y2⟩ := a1
    go_wp2_with fail
    refine (HS.out _).mono ?_
    rintro e w2 ⟨rfl, rfl⟩
    clear x0 x1 x2 y0 y1 y2 G1 s1 h1
    have a3 := a2.put1 (z - 1)
    have s3 := s2.other w.heap.size 1 (by omega) (.int .i64 (z - 1))
    obtain ⟨t1, t2, t3⟩ := spoilt_end a3 s3 (h2.set _ _ _ hBw) (gb_put G2 (Nat.le_refl _)) hBw (Nat.le_refl _)
    obtain ⟨c0, c1, c2, f0, f1, f2⟩ := a2
    obtain ⟨d0, d1, d2, u0, u1, u2⟩ := a3
    obtain ⟨e0, e1, e2, v0, v1, v2⟩ := s3
    obtain ⟨q0, q1, q2, _, _, _⟩ := t1
    go_wp2
    exact bodyPost_ret (v := .agg #[.int .i64 k, .int .i64 (z - 1), .int .i64 m]) (by simp [results, Tryd.results100, go_sem, q0, q1, q2]) rfl ⟨⟨_, _, _, by omega, by omega, rfl⟩, ⟨_, by omega, t2⟩, t3⟩
  · have a2 := a1
    have s2 := s1
    have h2 := h1
    have G2 := G1
    clear a1 s1 h1 G1
    have a3 := a2.put1 (-n)
    have s3 := s2.other w.heap.size 1 (by omega) (.int .i64 (-n))
    obtain ⟨t1, t2, t3⟩ := spoilt_end a3 s3 (h2.set _ _ _ hBw) (gb_put G2 (Nat.le_refl _)) hBw (Nat.le_refl _)
    obtain ⟨c0, c1, c2, f0, f1, f2⟩ := a2
    obtain ⟨d0, d1, d2, u0, u1, u2⟩ := a3
    obtain ⟨e0, e1, e2, v0, v1, v2⟩ := s3
    obtain ⟨q0, q1, q2, _, _, _⟩ := t1
    go_wp2
    exact bodyPost_ret (v := .agg #[.int .i64 k, .int .i64 (-n), .int .i64 m]) (by simp [results, Tryd.results100, go_sem, q0, q1, q2]) rfl ⟨⟨_, _, _, by omega, by omega, rfl⟩, ⟨_, by omega, t2⟩, t3⟩

set_option maxHeartbeats 2000000 in
theorem any_r (B R p : Nat) (w : World) (h : Reader B w R p) (hp : p < 9800000) :
    Calls Tryd.prog 99 #[.pointer (some ⟨R, 0, none⟩)] w fun e w' => IsArg e ∧ (∃ q, q ≤ p + 10 ∧ Reader B w' R q) ∧ w.grownBy w' (some R) := by
  have hRB := h.1
  have hBw := h.2.1
  go_enter Tryd.func99, Tryd.ntmps99
  go_wp2_with fail
  refine (pick_r B R p 13 _ (h.alloc _) (by omega) (by omega) (by omega)).mono ?_
  rintro e w1 ⟨r, r1, rfl, h1, g1⟩
  have G1 : w.grownBy w1 (some R) := gb_pick (gb_alloc (gb_refl _ _) _) g1
  have s1 : A3 w1 w.heap.size 0 0 0 := (A3.fresh w 0 0 0 87).grown g1 (by simp; omega)
  clear g1 h
  go_wp2_with fail
  refine (arg_r B R (p + 1) (1 + r) _ h1 (by omega) (by omega) (by omega)).mono ?_
  rintro e w2 ⟨⟨k, n, m, bn0, bn1, rfl⟩, ⟨q, hq, h2⟩, g2⟩
  have G2 : w.grownBy w2 (some R) := gb_pick G1 g2
  have s2 : A3 w2 w.heap.size 0 0 0 := s1.grown g2 (by simp; omega)
  have z2 : w.heap.size < w2.heap.size := s2.lt
  clear g2 G1 s1 h1 r1
  go_wp2_with fail
  refine (pick_r B R q 20 _ (h2.alloc _) (by omega) (by omega) (by omega)).mono ?_
  rintro e w3 ⟨t, t1, rfl, h3, g3⟩
  have G3 : w.grownBy w3 (some R) := gb_pick (gb_alloc G2 _) g3
  have s3 : A3 w3 w.heap.size 0 0 0 := (s2.alloc _).grown g3 (by simp; omega)
  have a3 : A3 w3 w2.heap.size k n m := (A3.fresh w2 k n m 87).grown g3 (by simp; omega)
  clear g3 G2 s2 h2
  by_cases ht : t = 0
  · subst ht
    have a3' := a3
    obtain ⟨c0, c1, c2, f0, f1, f2⟩ := a3
    go_wp2_with fail
    refine (spoilt_r B R (q + 1) k n m _ h3 (by omega) bn0 bn1).mono ?_
    rintro e w4 ⟨⟨k', n', m', bn0', bn1', rfl⟩, ⟨q', hq', h4⟩, g4⟩
    have G4 : w.grownBy w4 (some R) := gb_pick G3 g4
    have s4 : A3 w4 w.heap.size 0 0 0 := s3.grown g4 (by simp; omega)
    clear g4 G3 s3 h3 c0 c1 c2 f0 f1 f2 a3'
    obtain ⟨t1, t2, t3⟩ := put_end k' n' m' s4 h4 G4 hBw (Nat.le_refl _)
    obtain ⟨c0, c1, c2, f0, f1, f2⟩ := s4
    obtain ⟨q0, q1, q2, _, _, _⟩ := t1
    go_wp2
    exact bodyPost_ret (v := .agg #[.int .i64 k', .int .i64 n', .int .i64 m']) (by simp [results, Tryd.results99, go_sem, q0, q1, q2]) rfl ⟨⟨_, _, _, bn0', bn1', rfl⟩, ⟨_, by omega, t2⟩, t3⟩
  · have ht' : ((t : Int) == 0) = false := by simp; omega
    obtain ⟨u1, u2, u3⟩ := put_end k n m s3 h3 G3 hBw (Nat.le_refl _)
    obtain ⟨d0, d1, d2, e0, e1, e2⟩ := a3
    obtain ⟨c0, c1, c2, f0, f1, f2⟩ := s3
    obtain ⟨q0, q1, q2, _, _, _⟩ := u1
    go_wp2
    exact bodyPost_ret (v := .agg #[.int .i64 k, .int .i64 n, .int .i64 m]) (by simp [results, Tryd.results99, go_sem, q0, q1, q2]) rfl ⟨⟨_, _, _, bn0, bn1, rfl⟩, ⟨_, by omega, u2⟩, u3⟩

end Go.Proofs.YtcihplachlokiaaDoor.Rr
/- Operands in the memory, one behind the other. -/
namespace Go.Proofs.YtcihplachlokiaaDoor.Rr
open Go.RowKit Go.Shelf
set_option linter.unusedVariables false

abbrev Arg := Int × Int × Int
/-- The operands of a list lie in the memory, one behind the other. -/
def Ops (w : World) (b o : Nat) (xs : List Arg) : Prop :=
  ∀ j x, xs[j]? = some x → w.cell? ⟨b, o + j * 3, none⟩ = some (.int .i64 x.1) ∧ w.cell? ⟨b, o + j * 3 + 1, none⟩ = some (.int .i64 x.2.1) ∧ w.cell? ⟨b, o + j * 3 + 2, none⟩ = some (.int .i64 x.2.2)
theorem Ops.below {w w' : World} {b o : Nat} {xs : List Arg} (h : Ops w b o xs) {B : Nat} (hB : b < B) (g : Below B w w') : Ops w' b o xs := fun j x hx => by
  have := h j x hx
  refine ⟨?_, ?_, ?_⟩
  · exact (g.cell (p := ⟨b, o + j * 3, none⟩) hB).trans this.1
  · exact (g.cell (p := ⟨b, o + j * 3 + 1, none⟩) hB).trans this.2.1
  · exact (g.cell (p := ⟨b, o + j * 3 + 2, none⟩) hB).trans this.2.2
theorem Ops.lt {w : World} {b o : Nat} {xs : List Arg} (h : Ops w b o xs) (hne : xs ≠ []) : b < w.heap.size := by
  match xs, hne with
  | x :: _, _ => exact World.block_lt_of_cell? _ _ (h 0 x rfl).1
theorem Ops.later {w w' : World} {b o : Nat} {xs : List Arg} (h : Ops w b o xs) (g : Below w.heap.size w w') : Ops w' b o xs := by
  match xs, h with
  | [], _ => intro j x hx; simp at hx
  | x :: r, h => exact h.below (h.lt (by simp)) g

/-- A slice of operands: an empty one, or one that lies in the memory. -/
def Sl (w : World) (a : Option Addr) (xs : List Arg) : Prop := xs = [] ∨ ∃ b o, a = some ⟨b, o, none⟩ ∧ Ops w b o xs
theorem Sl.later {w w' : World} {a : Option Addr} {xs : List Arg} (h : Sl w a xs) (g : Below w.heap.size w w') : Sl w' a xs := by
  rcases h with h | ⟨b, o, h1, h2⟩
  · exact .inl h
  · exact .inr ⟨b, o, h1, h2.later g⟩
theorem Sl.alloc {w : World} {a : Option Addr} {xs : List Arg} (h : Sl w a xs) (o : Obj) : Sl (w.alloc o) a xs := h.later ((Below.refl _ _).alloc (Nat.le_refl _) _)

end Go.Proofs.YtcihplachlokiaaDoor.Rr
