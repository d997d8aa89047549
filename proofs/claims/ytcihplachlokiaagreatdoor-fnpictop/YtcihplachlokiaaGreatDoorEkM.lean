/- What the draws of elements stand on, on a seat that reads no elements. -/
import Derived.Test.YtcihplachlokiaaGreatDoorRM
import Derived.Test.YtcihplachlokiaaGreatDoorEc
import Derived.Deep.RegionWith
/- Draws: operands of a sort, contacts. -/
namespace Go.Proofs.YtcihplachlokiaaGreatDoor.Rr
open Go.RowKit
set_option linter.unusedVariables false

/-- A contact or coil in a block of its own. -/
structure E2 (w : World) (bl : Nat) (u v : Value) : Prop where
  c0 : w.cell? ⟨bl, 0, none⟩ = some u
  c1 : w.cell? ⟨bl, 1, none⟩ = some v
  f0 : w.frozen? ⟨bl, 0, none⟩ = false
  f1 : w.frozen? ⟨bl, 1, none⟩ = false
theorem E2.fresh (w : World) (u v : Value) (t : TypeId) : E2 (w.alloc (.cells #[u, v] t)) w.heap.size u v := ⟨by simp, by simp, by simp, by simp⟩
theorem E2.lt {w : World} {bl : Nat} {u v : Value} (h : E2 w bl u v) : bl < w.heap.size := World.block_lt_of_cell? _ _ h.c0
theorem E2.grown {w w' : World} {bl : Nat} {u v : Value} {row : Option Nat} (h : E2 w bl u v) (g : w.grownBy w' row) (hne : some bl ≠ row) : E2 w' bl u v :=
  ⟨(g.cell_far _ h.lt hne).trans h.c0, (g.cell_far _ h.lt hne).trans h.c1, (g.frozen_far _ h.lt hne).trans h.f0, (g.frozen_far _ h.lt hne).trans h.f1⟩
theorem E2.later {w w' : World} {bl : Nat} {u v : Value} (h : E2 w bl u v) (g : Below w.heap.size w w') : E2 w' bl u v := h.grown (gb_below g) (by simp)
theorem E2.alloc {w : World} {bl : Nat} {u v : Value} (h : E2 w bl u v) (o : Obj) : E2 (w.alloc o) bl u v := h.grown (World.grownBy_alloc w o none) (by simp)
theorem E2.other {w : World} {bl : Nat} {u v : Value} (h : E2 w bl u v) (bl' o : Nat) (hne : bl' ≠ bl) (x : Value) : E2 (w.setCell ⟨bl', o, none⟩ x) bl u v :=
  ⟨(World.cell?_setCell_other _ _ _ _ (by simp)).trans h.c0, (World.cell?_setCell_other _ _ _ _ (by simp)).trans h.c1, by simpa using h.f0, by simpa using h.f1⟩
theorem E2.put {w : World} {bl : Nat} {u v : Value} (h : E2 w bl u v) (u' v' : Value) : E2 ((w.setCell ⟨bl, 0, none⟩ u').setCell ⟨bl, 1, none⟩ v') bl u' v' :=
  ⟨(World.cell?_setCell_other _ _ _ _ (by simp)).trans (World.cell?_setCell_same _ _ _ h.c0), World.cell?_setCell_same _ _ _ ((World.cell?_setCell_other _ _ _ _ (by simp)).trans h.c1), by simpa using h.f0, by simpa using h.f1⟩

/-- Operands in memory of the call's own. -/
def Own (w : World) (H : Nat) (a : Option Addr) (xs : List Arg) : Prop := xs = [] ∨ ∃ b o, a = some ⟨b, o, none⟩ ∧ H ≤ b ∧ Ops w b o xs
theorem Own.sl {w : World} {H : Nat} {a : Option Addr} {xs : List Arg} (h : Own w H a xs) : Sl w a xs := by
  rcases h with h | ⟨b, o, h1, _, h2⟩
  · exact .inl h
  · exact .inr ⟨b, o, h1, h2⟩
theorem Ops.grown {w w' : World} {b o : Nat} {xs : List Arg} {row : Option Nat} (h : Ops w b o xs) (g : w.grownBy w' row) (hne : some b ≠ row) : Ops w' b o xs := fun j x hx => by
  obtain ⟨h1, h2, h3⟩ := h j x hx
  exact ⟨(g.cell_far _ (World.block_lt_of_cell? _ _ h1) hne).trans h1, (g.cell_far _ (World.block_lt_of_cell? _ _ h2) hne).trans h2, (g.cell_far _ (World.block_lt_of_cell? _ _ h3) hne).trans h3⟩
theorem Own.grown {w w' : World} {H R : Nat} {a : Option Addr} {xs : List Arg} (h : Own w H a xs) (g : w.grownBy w' (some R)) (hR : R < H) : Own w' H a xs := by
  rcases h with h | ⟨b, o, h1, h2, h3⟩
  · exact .inl h
  · exact .inr ⟨b, o, h1, h2, h3.grown g (by simp; omega)⟩
theorem Own.later {w w' : World} {H : Nat} {a : Option Addr} {xs : List Arg} (h : Own w H a xs) (g : Below w.heap.size w w') : Own w' H a xs := by
  rcases h with h | ⟨b, o, h1, h2, h3⟩
  · exact .inl h
  · exact .inr ⟨b, o, h1, h2, h3.later g⟩
theorem Own.mono {w : World} {H H' : Nat} {a : Option Addr} {xs : List Arg} (h : Own w H a xs) (hH : H' ≤ H) : Own w H' a xs := by
  rcases h with h | ⟨b, o, h1, h2, h3⟩
  · exact .inl h
  · exact .inr ⟨b, o, h1, Nat.le_trans hH h2, h3⟩

def Bd (xs : List Arg) : Prop := ∀ x ∈ xs, -3000000000 ≤ x.2.1 ∧ x.2.1 ≤ 3000000000
/-- What a draw of a contact or coil gives. -/
def ElemR (H : Nat) (e : Ending) (w : World) : Prop := ∃ (op : Int) (a : Option Addr) (len cap : Nat) (xs : List Arg), e = .returned (.agg #[.int .i64 op, .slice a len cap]) ∧ -100 ≤ op ∧ op ≤ 100 ∧ len = xs.length ∧ len ≤ cap ∧ (len ≤ 4 ∧ 1 ≤ len) ∧ Bd xs ∧ Own w H a xs

theorem ops1 (W : World) (k n p : Int) (t : TypeId) : Ops (W.alloc (.cells #[.int .i64 k, .int .i64 n, .int .i64 p] t)) W.heap.size 0 [(k, n, p)] := by
  intro j x hx
  match j, hx with
  | 0, hx => obtain rfl := Option.some.inj hx; exact ⟨by simp, by simp, by simp⟩
theorem ops2 (W : World) (k n p k1 n1 p1 : Int) (t : TypeId) : Ops (W.alloc (.cells #[.int .i64 k, .int .i64 n, .int .i64 p, .int .i64 k1, .int .i64 n1, .int .i64 p1] t)) W.heap.size 0 [(k, n, p), (k1, n1, p1)] := by
  intro j x hx
  match j, hx with
  | 0, hx => obtain rfl := Option.some.inj hx; exact ⟨by simp, by simp, by simp⟩
  | 1, hx => obtain rfl := Option.some.inj hx; exact ⟨by simp, by simp, by simp⟩
theorem ops3 (W : World) (k n p k1 n1 p1 k2 n2 p2 : Int) (t : TypeId) : Ops (W.alloc (.cells #[.int .i64 k, .int .i64 n, .int .i64 p, .int .i64 k1, .int .i64 n1, .int .i64 p1, .int .i64 k2, .int .i64 n2, .int .i64 p2] t)) W.heap.size 0 [(k, n, p), (k1, n1, p1), (k2, n2, p2)] := by
  intro j x hx
  match j, hx with
  | 0, hx => obtain rfl := Option.some.inj hx; exact ⟨by simp, by simp, by simp⟩
  | 1, hx => obtain rfl := Option.some.inj hx; exact ⟨by simp, by simp, by simp⟩
  | 2, hx => obtain rfl := Option.some.inj hx; exact ⟨by simp, by simp, by simp⟩

theorem elem_put {B R q bl : Nat} {w W : World} {u v : Value} (u' v' : Value) (hS : E2 W bl u v) (hR : Reader B W R q) (hG : w.grownBy W (some R)) (hB : B ≤ bl) (hb : w.heap.size ≤ bl) :
    E2 ((W.setCell ⟨bl, 0, none⟩ u').setCell ⟨bl, 1, none⟩ v') bl u' v' ∧ Reader B ((W.setCell ⟨bl, 0, none⟩ u').setCell ⟨bl, 1, none⟩ v') R q ∧ w.grownBy ((W.setCell ⟨bl, 0, none⟩ u').setCell ⟨bl, 1, none⟩ v') (some R) :=
  ⟨hS.put u' v', (hR.set _ _ _ hB).set _ _ _ hB, gb_put (gb_put hG hb) hb⟩
theorem Ops.other {w : World} {b o : Nat} {xs : List Arg} (h : Ops w b o xs) (b' o' : Nat) (hne : b' ≠ b) (v : Value) : Ops (w.setCell ⟨b', o', none⟩ v) b o xs := fun j x hx => by
  have := h j x hx
  refine ⟨?_, ?_, ?_⟩
  · exact (World.cell?_setCell_other _ _ _ _ (by simp)).trans this.1
  · exact (World.cell?_setCell_other _ _ _ _ (by simp)).trans this.2.1
  · exact (World.cell?_setCell_other _ _ _ _ (by simp)).trans this.2.2

/-- The end of a draw: the answer is put, its operands lie in a new block. -/
theorem elem_end {B R q bl : Nat} {w W : World} {u v : Value} (u' v' : Value) (o : Obj) (hS : E2 W bl u v) (hR : Reader B W R q) (hG : w.grownBy W (some R)) (hB : B ≤ bl) (hb : w.heap.size ≤ bl) :
    E2 (((W.setCell ⟨bl, 0, none⟩ u').setCell ⟨bl, 1, none⟩ v').alloc o) bl u' v' ∧ Reader B (((W.setCell ⟨bl, 0, none⟩ u').setCell ⟨bl, 1, none⟩ v').alloc o) R q ∧ w.grownBy (((W.setCell ⟨bl, 0, none⟩ u').setCell ⟨bl, 1, none⟩ v').alloc o) (some R) :=
  ⟨(hS.put u' v').alloc o, ((hR.set _ _ _ hB).set _ _ _ hB).alloc o, gb_alloc (gb_put (gb_put hG hb) hb) o⟩

set_option maxHeartbeats 1000000 in
theorem bit_r (B R p : Nat) (w : World) (h : Reader B w R p) (hp : p < 9800000) :
    Calls Tryz.prog 71 #[.pointer (some ⟨R, 0, none⟩)] w fun e w' => IsArg e ∧ (∃ q, q ≤ p + 5 ∧ Reader B w' R q) ∧ w.grownBy w' (some R) := by
  have hRB := h.1
  have hBw := h.2.1
  have hN := fun W (hW : Reader B W R p) hx => num_r B R p (w.heap.size + 1) [1, 1, 2, 3, 3, 4, 6, 7, 8] 9 W hW (by simp) (by simp) (by omega) (by omega) hx
  go_enter Tryz.func71, Tryz.ntmps71
  go_wp2_with fail
  refine (hN _ ((h.alloc _).alloc _) (cells_row2 w _ [1, 1, 2, 3, 3, 4, 6, 7, 8] 3)).mono ?_
  rintro e w1 ⟨v, hv, rfl, h1, g1⟩
  have G1 : w.grownBy w1 (some R) := gb_pick (gb_alloc (gb_alloc (gb_refl _ _) _) _) g1
  have s1 : A3 w1 w.heap.size 0 0 0 := ((A3.fresh w 0 0 0 72).alloc _).grown g1 (by simp; omega)
  have hv1 : 1 ≤ v ∧ v ≤ 13 := by simp at hv; omega
  clear g1 h hN
  go_wp2_with fail
  refine (arg_r B R (p + 1) v _ h1 (by omega) hv1.1 hv1.2).mono ?_
  rintro e w2 ⟨⟨k, n, m, bn0, bn1, rfl⟩, ⟨q, hq, h2⟩, g2⟩
  have G2 : w.grownBy w2 (some R) := gb_pick G1 g2
  have s2 : A3 w2 w.heap.size 0 0 0 := s1.grown g2 (by simp; omega)
  clear g2 G1 s1 h1 hv hv1
  obtain ⟨u1, u2, u3⟩ := put_end k n m s2 h2 G2 hBw (Nat.le_refl _)
  obtain ⟨c0, c1, c2, f0, f1, f2⟩ := s2
  obtain ⟨q0, q1, q2, _, _, _⟩ := u1
  go_wp2
  exact bodyPost_ret (v := .agg #[.int .i64 k, .int .i64 n, .int .i64 m]) (by simp [results, Tryz.results71, go_sem, q0, q1, q2]) rfl ⟨⟨_, _, _, bn0, bn1, rfl⟩, ⟨_, by omega, u2⟩, u3⟩

set_option maxHeartbeats 1000000 in
theorem whole_r (B R p : Nat) (w : World) (h : Reader B w R p) (hp : p < 9800000) :
    Calls Tryz.prog 73 #[.pointer (some ⟨R, 0, none⟩)] w fun e w' => IsArg e ∧ (∃ q, q ≤ p + 5 ∧ Reader B w' R q) ∧ w.grownBy w' (some R) := by
  have hRB := h.1
  have hBw := h.2.1
  have hN := fun W (hW : Reader B W R p) hx => num_r B R p (w.heap.size + 1) [9, 9, 9, 11, 11, 7, 8] 7 W hW (by simp) (by simp) (by omega) (by omega) hx
  go_enter Tryz.func73, Tryz.ntmps73
  go_wp2_with fail
  refine (hN _ ((h.alloc _).alloc _) (cells_row2 w _ [9, 9, 9, 11, 11, 7, 8] 3)).mono ?_
  rintro e w1 ⟨v, hv, rfl, h1, g1⟩
  have G1 : w.grownBy w1 (some R) := gb_pick (gb_alloc (gb_alloc (gb_refl _ _) _) _) g1
  have s1 : A3 w1 w.heap.size 0 0 0 := ((A3.fresh w 0 0 0 72).alloc _).grown g1 (by simp; omega)
  have hv1 : 1 ≤ v ∧ v ≤ 13 := by simp at hv; omega
  clear g1 h hN
  go_wp2_with fail
  refine (arg_r B R (p + 1) v _ h1 (by omega) hv1.1 hv1.2).mono ?_
  rintro e w2 ⟨⟨k, n, m, bn0, bn1, rfl⟩, ⟨q, hq, h2⟩, g2⟩
  have G2 : w.grownBy w2 (some R) := gb_pick G1 g2
  have s2 : A3 w2 w.heap.size 0 0 0 := s1.grown g2 (by simp; omega)
  clear g2 G1 s1 h1 hv hv1
  obtain ⟨u1, u2, u3⟩ := put_end k n m s2 h2 G2 hBw (Nat.le_refl _)
  obtain ⟨c0, c1, c2, f0, f1, f2⟩ := s2
  obtain ⟨q0, q1, q2, _, _, _⟩ := u1
  go_wp2
  exact bodyPost_ret (v := .agg #[.int .i64 k, .int .i64 n, .int .i64 m]) (by simp [results, Tryz.results73, go_sem, q0, q1, q2]) rfl ⟨⟨_, _, _, bn0, bn1, rfl⟩, ⟨_, by omega, u2⟩, u3⟩

set_option maxHeartbeats 1000000 in
theorem real4_r (B R p : Nat) (w : World) (h : Reader B w R p) (hp : p < 9800000) :
    Calls Tryz.prog 74 #[.pointer (some ⟨R, 0, none⟩)] w fun e w' => IsArg e ∧ (∃ q, q ≤ p + 5 ∧ Reader B w' R q) ∧ w.grownBy w' (some R) := by
  have hRB := h.1
  have hBw := h.2.1
  have hN := fun W (hW : Reader B W R p) hx => num_r B R p (w.heap.size + 1) [10, 10, 10, 12, 13] 5 W hW (by simp) (by simp) (by omega) (by omega) hx
  go_enter Tryz.func74, Tryz.ntmps74
  go_wp2_with fail
  refine (hN _ ((h.alloc _).alloc _) (cells_row2 w _ [10, 10, 10, 12, 13] 3)).mono ?_
  rintro e w1 ⟨v, hv, rfl, h1, g1⟩
  have G1 : w.grownBy w1 (some R) := gb_pick (gb_alloc (gb_alloc (gb_refl _ _) _) _) g1
  have s1 : A3 w1 w.heap.size 0 0 0 := ((A3.fresh w 0 0 0 72).alloc _).grown g1 (by simp; omega)
  have hv1 : 1 ≤ v ∧ v ≤ 13 := by simp at hv; omega
  clear g1 h hN
  go_wp2_with fail
  refine (arg_r B R (p + 1) v _ h1 (by omega) hv1.1 hv1.2).mono ?_
  rintro e w2 ⟨⟨k, n, m, bn0, bn1, rfl⟩, ⟨q, hq, h2⟩, g2⟩
  have G2 : w.grownBy w2 (some R) := gb_pick G1 g2
  have s2 : A3 w2 w.heap.size 0 0 0 := s1.grown g2 (by simp; omega)
  clear g2 G1 s1 h1 hv hv1
  obtain ⟨u1, u2, u3⟩ := put_end k n m s2 h2 G2 hBw (Nat.le_refl _)
  obtain ⟨c0, c1, c2, f0, f1, f2⟩ := s2
  obtain ⟨q0, q1, q2, _, _, _⟩ := u1
  go_wp2
  exact bodyPost_ret (v := .agg #[.int .i64 k, .int .i64 n, .int .i64 m]) (by simp [results, Tryz.results74, go_sem, q0, q1, q2]) rfl ⟨⟨_, _, _, bn0, bn1, rfl⟩, ⟨_, by omega, u2⟩, u3⟩
end Go.Proofs.YtcihplachlokiaaGreatDoor.Rr

/- The draw of a contact. -/
namespace Go.Proofs.YtcihplachlokiaaGreatDoor.Rr
open Go.RowKit
set_option linter.unusedVariables false

set_option maxRecDepth 10000 in
set_option maxHeartbeats 4000000 in
theorem contact_r (B R p : Nat) (w : World) (h : Reader B w R p) (hp : p < 9700000) :
    Calls Tryz.prog 56 #[.pointer (some ⟨R, 0, none⟩)] w fun e w' => ElemR w.heap.size e w' ∧ (∃ q, q ≤ p + 30 ∧ Reader B w' R q) ∧ w.grownBy w' (some R) := by
  have hRB := h.1
  have hBw := h.2.1
  have S0 := E2.fresh w (.int .i64 0) (.slice none 0 0) 42
  go_enter Tryz.func56, Tryz.ntmps56
  go_wp2_with fail
  refine (pick_r B R p 8 _ (h.alloc _) (by omega) (by omega) (by omega)).mono ?_
  rintro e w1 ⟨r, r1, rfl, h1, g1⟩
  have G1 : w.grownBy w1 (some R) := gb_pick (gb_alloc (gb_refl _ _) _) g1
  have S1 := S0.grown g1 (by simp; omega)
  have lt1 := S1.lt
  clear g1 h S0
  have hr : r = 0 ∨ r = 1 ∨ r = 2 ∨ r = 3 ∨ r = 4 ∨ r = 5 ∨ 6 ≤ r := by omega
  rcases hr with rfl | rfl | rfl | rfl | rfl | rfl | hr6
  · go_wp2_with fail
    refine (bit_r B R (p + 1) _ h1 (by omega)).mono ?_
    rintro e w2 ⟨⟨k, n, m, bn0, bn1, rfl⟩, ⟨q, hq, h2⟩, g2⟩
    have G2 : w.grownBy w2 (some R) := gb_pick G1 g2
    have S := S1.grown g2 (by simp; omega)
    have lt2 := S.lt
    have bn_k : -3000000000 ≤ n ∧ n ≤ 3000000000 := ⟨bn0, bn1⟩
    clear g2 G1 S1 h1
    obtain ⟨u1, u2, u3⟩ := elem_end (.int .i64 1) (.slice (some ⟨w2.heap.size, 0, none⟩) 1 1) (.cells #[.int .i64 k, .int .i64 n, .int .i64 m] 72) S h2 G2 hBw (Nat.le_refl _)
    obtain ⟨c0, c1, f0, f1⟩ := S
    obtain ⟨q0, q1, _, _⟩ := u1
    have ow := ops1 ((w2.setCell ⟨w.heap.size, 0, none⟩ (.int .i64 1)).setCell ⟨w.heap.size, 1, none⟩ (.slice (some ⟨w2.heap.size, 0, none⟩) 1 1)) k n m 72
    simp only [World.size_setCell] at ow
    go_wp2
    exact bodyPost_ret (v := .agg #[.int .i64 1, .slice (some ⟨w2.heap.size, 0, none⟩) 1 1]) (by simp [results, Tryz.results56, go_sem, q0, q1]) rfl ⟨⟨1, _, 1, 1, _, rfl, by omega, by omega, rfl, by omega, by omega, (by intro x hx; simp at hx; subst hx; exact bn_k), .inr ⟨_, _, rfl, by omega, ow⟩⟩, ⟨_, by omega, u2⟩, u3⟩
  · go_wp2_with fail
    refine (bit_r B R (p + 1) _ h1 (by omega)).mono ?_
    rintro e w2 ⟨⟨k, n, m, bn0, bn1, rfl⟩, ⟨q, hq, h2⟩, g2⟩
    have G2 : w.grownBy w2 (some R) := gb_pick G1 g2
    have S := S1.grown g2 (by simp; omega)
    have lt2 := S.lt
    have bn_k : -3000000000 ≤ n ∧ n ≤ 3000000000 := ⟨bn0, bn1⟩
    clear g2 G1 S1 h1
    obtain ⟨u1, u2, u3⟩ := elem_end (.int .i64 1) (.slice (some ⟨w2.heap.size, 0, none⟩) 1 1) (.cells #[.int .i64 k, .int .i64 n, .int .i64 m] 72) S h2 G2 hBw (Nat.le_refl _)
    obtain ⟨c0, c1, f0, f1⟩ := S
    obtain ⟨q0, q1, _, _⟩ := u1
    have ow := ops1 ((w2.setCell ⟨w.heap.size, 0, none⟩ (.int .i64 1)).setCell ⟨w.heap.size, 1, none⟩ (.slice (some ⟨w2.heap.size, 0, none⟩) 1 1)) k n m 72
    simp only [World.size_setCell] at ow
    go_wp2
    exact bodyPost_ret (v := .agg #[.int .i64 1, .slice (some ⟨w2.heap.size, 0, none⟩) 1 1]) (by simp [results, Tryz.results56, go_sem, q0, q1]) rfl ⟨⟨1, _, 1, 1, _, rfl, by omega, by omega, rfl, by omega, by omega, (by intro x hx; simp at hx; subst hx; exact bn_k), .inr ⟨_, _, rfl, by omega, ow⟩⟩, ⟨_, by omega, u2⟩, u3⟩
  · go_wp2_with fail
    refine (bit_r B R (p + 1) _ h1 (by omega)).mono ?_
    rintro e w2 ⟨⟨k, n, m, bn0, bn1, rfl⟩, ⟨q, hq, h2⟩, g2⟩
    have G2 : w.grownBy w2 (some R) := gb_pick G1 g2
    have S := S1.grown g2 (by simp; omega)
    have lt2 := S.lt
    have bn_k : -3000000000 ≤ n ∧ n ≤ 3000000000 := ⟨bn0, bn1⟩
    clear g2 G1 S1 h1
    obtain ⟨u1, u2, u3⟩ := elem_end (.int .i64 1) (.slice (some ⟨w2.heap.size, 0, none⟩) 1 1) (.cells #[.int .i64 k, .int .i64 n, .int .i64 m] 72) S h2 G2 hBw (Nat.le_refl _)
    obtain ⟨c0, c1, f0, f1⟩ := S
    obtain ⟨q0, q1, _, _⟩ := u1
    have ow := ops1 ((w2.setCell ⟨w.heap.size, 0, none⟩ (.int .i64 1)).setCell ⟨w.heap.size, 1, none⟩ (.slice (some ⟨w2.heap.size, 0, none⟩) 1 1)) k n m 72
    simp only [World.size_setCell] at ow
    go_wp2
    exact bodyPost_ret (v := .agg #[.int .i64 1, .slice (some ⟨w2.heap.size, 0, none⟩) 1 1]) (by simp [results, Tryz.results56, go_sem, q0, q1]) rfl ⟨⟨1, _, 1, 1, _, rfl, by omega, by omega, rfl, by omega, by omega, (by intro x hx; simp at hx; subst hx; exact bn_k), .inr ⟨_, _, rfl, by omega, ow⟩⟩, ⟨_, by omega, u2⟩, u3⟩
  · go_wp2_with fail
    refine (bit_r B R (p + 1) _ h1 (by omega)).mono ?_
    rintro e w2 ⟨⟨k, n, m, bn0, bn1, rfl⟩, ⟨q, hq, h2⟩, g2⟩
    have G2 : w.grownBy w2 (some R) := gb_pick G1 g2
    have S := S1.grown g2 (by simp; omega)
    have lt2 := S.lt
    have bn_k : -3000000000 ≤ n ∧ n ≤ 3000000000 := ⟨bn0, bn1⟩
    clear g2 G1 S1 h1
    obtain ⟨u1, u2, u3⟩ := elem_end (.int .i64 2) (.slice (some ⟨w2.heap.size, 0, none⟩) 1 1) (.cells #[.int .i64 k, .int .i64 n, .int .i64 m] 72) S h2 G2 hBw (Nat.le_refl _)
    obtain ⟨c0, c1, f0, f1⟩ := S
    obtain ⟨q0, q1, _, _⟩ := u1
    have ow := ops1 ((w2.setCell ⟨w.heap.size, 0, none⟩ (.int .i64 2)).setCell ⟨w.heap.size, 1, none⟩ (.slice (some ⟨w2.heap.size, 0, none⟩) 1 1)) k n m 72
    simp only [World.size_setCell] at ow
    go_wp2
    exact bodyPost_ret (v := .agg #[.int .i64 2, .slice (some ⟨w2.heap.size, 0, none⟩) 1 1]) (by simp [results, Tryz.results56, go_sem, q0, q1]) rfl ⟨⟨2, _, 1, 1, _, rfl, by omega, by omega, rfl, by omega, by omega, (by intro x hx; simp at hx; subst hx; exact bn_k), .inr ⟨_, _, rfl, by omega, ow⟩⟩, ⟨_, by omega, u2⟩, u3⟩
  · go_wp2_with fail
    refine (bit_r B R (p + 1) _ h1 (by omega)).mono ?_
    rintro e w2 ⟨⟨k, n, m, bn0, bn1, rfl⟩, ⟨q, hq, h2⟩, g2⟩
    have G2 : w.grownBy w2 (some R) := gb_pick G1 g2
    have S := S1.grown g2 (by simp; omega)
    have lt2 := S.lt
    have bn_k : -3000000000 ≤ n ∧ n ≤ 3000000000 := ⟨bn0, bn1⟩
    clear g2 G1 S1 h1
    obtain ⟨u1, u2, u3⟩ := elem_end (.int .i64 2) (.slice (some ⟨w2.heap.size, 0, none⟩) 1 1) (.cells #[.int .i64 k, .int .i64 n, .int .i64 m] 72) S h2 G2 hBw (Nat.le_refl _)
    obtain ⟨c0, c1, f0, f1⟩ := S
    obtain ⟨q0, q1, _, _⟩ := u1
    have ow := ops1 ((w2.setCell ⟨w.heap.size, 0, none⟩ (.int .i64 2)).setCell ⟨w.heap.size, 1, none⟩ (.slice (some ⟨w2.heap.size, 0, none⟩) 1 1)) k n m 72
    simp only [World.size_setCell] at ow
    go_wp2
    exact bodyPost_ret (v := .agg #[.int .i64 2, .slice (some ⟨w2.heap.size, 0, none⟩) 1 1]) (by simp [results, Tryz.results56, go_sem, q0, q1]) rfl ⟨⟨2, _, 1, 1, _, rfl, by omega, by omega, rfl, by omega, by omega, (by intro x hx; simp at hx; subst hx; exact bn_k), .inr ⟨_, _, rfl, by omega, ow⟩⟩, ⟨_, by omega, u2⟩, u3⟩
  · go_wp2_with fail
    refine (pick_r B R (p + 1) 2 _ h1 (by omega) (by omega) (by omega)).mono ?_
    rintro e w2 ⟨r2, r21, rfl, h2, g2⟩
    have G2 : w.grownBy w2 (some R) := gb_pick G1 g2
    have S2 := S1.grown g2 (by simp; omega)
    clear g2 G1 S1 h1
    go_wp2_with fail
    refine (bit_r B R (p + 1 + 1) _ h2 (by omega)).mono ?_
    rintro e w3 ⟨⟨k, n, m, bn0, bn1, rfl⟩, ⟨q, hq, h3⟩, g3⟩
    have G3 : w.grownBy w3 (some R) := gb_pick G2 g3
    have S3 := S2.grown g3 (by simp; omega)
    clear g3 G2 S2 h2
    go_wp2_with fail
    refine (arg_r B R q 5 _ h3 (by omega) (by omega) (by omega)).mono ?_
    rintro e w4 ⟨⟨k1, n1, m1, bn2, bn3, rfl⟩, ⟨q', hq', h4⟩, g4⟩
    have G4 : w.grownBy w4 (some R) := gb_pick G3 g4
    have S := S3.grown g4 (by simp; omega)
    have lt2 := S.lt
    have bn_k : -3000000000 ≤ n ∧ n ≤ 3000000000 := ⟨bn0, bn1⟩
    have bn_k1 : -3000000000 ≤ n1 ∧ n1 ≤ 3000000000 := ⟨bn2, bn3⟩
    clear g4 G3 S3 h3
    obtain ⟨O, hO⟩ : ∃ O : Int, (3 + (r2 : Int)) = O := ⟨_, rfl⟩
    have hO1 : 3 ≤ O ∧ O ≤ 4 := by omega
    rw [hO]
    obtain ⟨u1, u2, u3⟩ := elem_end (.int .i64 O) (.slice (some ⟨w4.heap.size, 0, none⟩) 2 2) (.cells #[.int .i64 k, .int .i64 n, .int .i64 m, .int .i64 k1, .int .i64 n1, .int .i64 m1] 72) S h4 G4 hBw (Nat.le_refl _)
    obtain ⟨c0, c1, f0, f1⟩ := S
    obtain ⟨q0, q1, _, _⟩ := u1
    have ow := ops2 ((w4.setCell ⟨w.heap.size, 0, none⟩ (.int .i64 O)).setCell ⟨w.heap.size, 1, none⟩ (.slice (some ⟨w4.heap.size, 0, none⟩) 2 2)) k n m k1 n1 m1 72
    simp only [World.size_setCell] at ow
    go_wp2
    exact bodyPost_ret (v := .agg #[.int .i64 O, .slice (some ⟨w4.heap.size, 0, none⟩) 2 2]) (by simp [results, Tryz.results56, go_sem, q0, q1]) rfl ⟨⟨O, _, 2, 2, _, rfl, by omega, by omega, rfl, by omega, by omega, (by intro x hx; simp at hx; rcases hx with rfl | rfl <;> assumption), .inr ⟨_, _, rfl, by omega, ow⟩⟩, ⟨_, by omega, u2⟩, u3⟩
  · have n0 : ((r : Int) == 0) = false := by simp; omega
    have n1' : ((r : Int) == 1) = false := by simp; omega
    have n2' : ((r : Int) == 2) = false := by simp; omega
    have n3 : ((r : Int) == 3) = false := by simp; omega
    have n4 : ((r : Int) == 4) = false := by simp; omega
    have n5 : ((r : Int) == 5) = false := by simp; omega
    go_wp2_with fail
    refine (whole_r B R (p + 1) _ h1 (by omega)).mono ?_
    rintro e w2 ⟨⟨k, n, m, bn0, bn1, rfl⟩, ⟨q2, hq2, h2⟩, g2⟩
    have G2 : w.grownBy w2 (some R) := gb_pick G1 g2
    have S2 := S1.grown g2 (by simp; omega)
    have lt2 := S2.lt
    clear g2 G1 S1 h1
    go_wp2_with fail
    refine (whole_r B R q2 _ (h2.alloc _) (by omega)).mono ?_
    rintro e w3 ⟨⟨k1, n1, m1, bn2, bn3, rfl⟩, ⟨q3, hq3, h3⟩, g3⟩
    have G3 : w.grownBy w3 (some R) := gb_pick (gb_alloc G2 _) g3
    have S3 := (S2.alloc _).grown g3 (by simp; omega)
    have A3' := (A3.fresh w2 k n m 72).grown g3 (by simp; omega)
    have lt3 := S3.lt
    have ltA := A3'.lt
    clear g3 G2 S2 h2
    go_upto_if 39 with (go_at_call 13; refine (pick_r B R q3 2 _ (h3.alloc _) (by omega) (by omega) (by omega)).mono ?_; rintro e w4 ⟨t, t1, rfl, h4, g4⟩; have G4 : w.grownBy w4 (some R) := gb_pick (gb_alloc G3 _) g4; have S4 := (S3.alloc _).grown g4 (by simp; omega); have A4 := (A3'.alloc _).grown g4 (by simp; omega); have B4 := (A3.fresh w3 k1 n1 m1 72).grown g4 (by simp; omega))
    have bn_k : -3000000000 ≤ n ∧ n ≤ 3000000000 := ⟨bn0, bn1⟩
    have bn_k1 : -3000000000 ≤ n1 ∧ n1 ≤ 3000000000 := ⟨bn2, bn3⟩
    clear g4 G3 S3 A3' h3
    go_cut [] from 40 (fun wc => ∃ (ka na ma kb nb mb : Int) (q : Nat), (-3000000000 ≤ na ∧ na ≤ 3000000000) ∧ (-3000000000 ≤ nb ∧ nb ≤ 3000000000) ∧ q ≤ p + 25 ∧ E2 wc w.heap.size (.int .i64 0) (.slice none 0 0) ∧ A3 wc w2.heap.size ka na ma ∧ A3 wc w3.heap.size kb nb mb ∧ Reader B wc R q ∧ w.grownBy wc (some R))
    case first =>
      by_cases ht : t = 0
      · subst ht
        go_wp2_with fail
        refine (real4_r B R (q3 + 1) _ h4 (by omega)).mono ?_
        rintro e w5 ⟨⟨k2, n2, m2, bn4, bn5, rfl⟩, ⟨q5, hq5, h5⟩, g5⟩
        have G5 : w.grownBy w5 (some R) := gb_pick G4 g5
        have S5 := S4.grown g5 (by simp; omega)
        have A5 := A4.grown g5 (by simp; omega)
        have B5 := B4.grown g5 (by simp; omega)
        clear g5 G4 S4 A4 B4 h4
        obtain ⟨a0, a1, a2, e0, e1, e2⟩ := id A5
        have S5' := (((S5.other w2.heap.size 0 (by omega) (.int .i64 k2)).other w2.heap.size 1 (by omega) (.int .i64 n2)).other w2.heap.size 2 (by omega) (.int .i64 m2))
        have B5' := (((B5.other w2.heap.size 0 (by omega) (.int .i64 k2)).other w2.heap.size 1 (by omega) (.int .i64 n2)).other w2.heap.size 2 (by omega) (.int .i64 m2))
        have A5' := A5.set k2 n2 m2
        have h5' := (((h5.set w2.heap.size 0 (.int .i64 k2) (by omega)).set w2.heap.size 1 (.int .i64 n2) (by omega)).set w2.heap.size 2 (.int .i64 m2) (by omega))
        have G5' : w.grownBy (((w5.setCell ⟨w2.heap.size, 0, none⟩ (.int .i64 k2)).setCell ⟨w2.heap.size, 1, none⟩ (.int .i64 n2)).setCell ⟨w2.heap.size, 2, none⟩ (.int .i64 m2)) (some R) := (gb_put (gb_put (gb_put G5 (by omega)) (by omega)) (by omega))
        go_wp2_with fail
        refine (real4_r B R q5 _ h5' (by omega)).mono ?_
        rintro e w6 ⟨⟨k3, n3, m3, bn6, bn7, rfl⟩, ⟨q6, hq6, h6⟩, g6⟩
        have G6 : w.grownBy w6 (some R) := gb_pick G5' g6
        have S6 := S5'.grown g6 (by simp; omega)
        have A6 := A5'.grown g6 (by simp; omega)
        have B6 := B5'.grown g6 (by simp; omega)
        clear g6 G5 G5' S5 S5' A5 A5' B5 B5' h5 h5' a0 a1 a2 e0 e1 e2
        obtain ⟨a0, a1, a2, e0, e1, e2⟩ := id B6
        have S6' := (((S6.other w3.heap.size 0 (by omega) (.int .i64 k3)).other w3.heap.size 1 (by omega) (.int .i64 n3)).other w3.heap.size 2 (by omega) (.int .i64 m3))
        have A6' := (((A6.other w3.heap.size 0 (by omega) (.int .i64 k3)).other w3.heap.size 1 (by omega) (.int .i64 n3)).other w3.heap.size 2 (by omega) (.int .i64 m3))
        have B6' := B6.set k3 n3 m3
        have h6' := (((h6.set w3.heap.size 0 (.int .i64 k3) (by omega)).set w3.heap.size 1 (.int .i64 n3) (by omega)).set w3.heap.size 2 (.int .i64 m3) (by omega))
        have G6' : w.grownBy (((w6.setCell ⟨w3.heap.size, 0, none⟩ (.int .i64 k3)).setCell ⟨w3.heap.size, 1, none⟩ (.int .i64 n3)).setCell ⟨w3.heap.size, 2, none⟩ (.int .i64 m3)) (some R) := (gb_put (gb_put (gb_put G6 (by omega)) (by omega)) (by omega))
        go_wp2
        go_meet
        case rel => exact ⟨k2, n2, m2, k3, n3, m3, q6, ⟨bn4, bn5⟩, ⟨bn6, bn7⟩, by omega, S6', A6', B6', h6', G6'⟩
      · have ht' : ((t : Int) == 0) = false := by simp; omega
        go_wp2
        go_meet
        case rel => exact ⟨k, n, m, k1, n1, m1, q3 + 1, bn_k, bn_k1, by omega, S4, A4, B4, h4, G4⟩
    case rest =>
      clear S4 A4 B4 h4 G4 bn_k bn_k1
      obtain ⟨ka, na, ma, kb, nb, mb, q, ba, bb, hq, Sc, Ac, Bc, hc, Gc⟩ := hcut
      have ltc := Sc.lt
      have ltca := Ac.lt
      have ltcb := Bc.lt
      go_upto_if 46 with (go_at_call 13; refine (pick_r B R q 4 _ hc (by omega) (by omega) (by omega)).mono ?_; rintro e w7 ⟨t4, t41, rfl, h7, g7⟩; have G7 : w.grownBy w7 (some R) := gb_pick Gc g7; have S7 := Sc.grown g7 (by simp; omega); have A7 := Ac.grown g7 (by simp; omega); have B7 := Bc.grown g7 (by simp; omega))
      clear g7 Gc Sc Ac Bc hc
      go_cut [] from 47 (fun wd => ∃ (ka na ma kb nb mb : Int) (q : Nat), (-3000000000 ≤ na ∧ na ≤ 3000000000) ∧ (-3000000000 ≤ nb ∧ nb ≤ 3000000000) ∧ q ≤ p + 26 ∧ E2 wd w.heap.size (.int .i64 0) (.slice none 0 0) ∧ A3 wd w2.heap.size ka na ma ∧ A3 wd w3.heap.size kb nb mb ∧ Reader B wd R q ∧ w.grownBy wd (some R))
      case first =>
        by_cases z4 : t4 = 0
        · subst z4
          obtain ⟨a0, a1, a2, _, _, _⟩ := id A7
          obtain ⟨d0, d1, d2, e0, e1, e2⟩ := id B7
          have S8 := (((S7.other w3.heap.size 0 (by omega) (.int .i64 ka)).other w3.heap.size 1 (by omega) (.int .i64 na)).other w3.heap.size 2 (by omega) (.int .i64 ma))
          have A8 := (((A7.other w3.heap.size 0 (by omega) (.int .i64 ka)).other w3.heap.size 1 (by omega) (.int .i64 na)).other w3.heap.size 2 (by omega) (.int .i64 ma))
          have B8 := B7.set ka na ma
          have h8 := (((h7.set w3.heap.size 0 (.int .i64 ka) (by omega)).set w3.heap.size 1 (.int .i64 na) (by omega)).set w3.heap.size 2 (.int .i64 ma) (by omega))
          have G8 : w.grownBy (((w7.setCell ⟨w3.heap.size, 0, none⟩ (.int .i64 ka)).setCell ⟨w3.heap.size, 1, none⟩ (.int .i64 na)).setCell ⟨w3.heap.size, 2, none⟩ (.int .i64 ma)) (some R) := (gb_put (gb_put (gb_put G7 (by omega)) (by omega)) (by omega))
          go_wp2
          go_meet
          case rel => exact ⟨ka, na, ma, ka, na, ma, q + 1, ba, ba, by omega, S8, A8, B8, h8, G8⟩
        · have z4' : ((t4 : Int) == 0) = false := by simp; omega
          go_wp2
          go_meet
          case rel => exact ⟨ka, na, ma, kb, nb, mb, q + 1, ba, bb, by omega, S7, A7, B7, h7, G7⟩
      case rest =>
        clear S7 A7 B7 h7 G7 ba bb hq ka na ma kb nb mb
        obtain ⟨ka, na, ma, kb, nb, mb, q', ba, bb, hq', S8, A8, B8, h8, G8⟩ := hcut
        have lt8 := S8.lt
        have lt8a := A8.lt
        have lt8b := B8.lt
        obtain ⟨a0, a1, a2, _, _, _⟩ := id A8
        obtain ⟨d0, d1, d2, _, _, _⟩ := id B8
        go_upto_region 18 with fail
        go_region_with (go_at_call 13; refine (pick_r B R _ 6 _ (by first | exact h8 | exact h8.drew | exact h8.alloc _ | exact (h8.alloc _).drew) (by omega) (by omega) (by omega)).mono ?_; rintro e w9 ⟨r9, r91, rfl, h9, g9⟩; have S9 : E2 w9 w.heap.size _ _ := (by first | exact S8.grown g9 (by simp; omega) | exact (S8.grown (gb_drew (gb_refl _ none)) (by simp)).grown g9 (by simp; omega) | exact (S8.alloc _).grown g9 (by simp; omega) | exact ((S8.alloc _).grown (gb_drew (gb_refl _ none)) (by simp)).grown g9 (by simp; omega)); have A9 : A3 w9 w2.heap.size ka na ma := (by first | exact A8.grown g9 (by simp; omega) | exact (A8.grown (gb_drew (gb_refl _ none)) (by simp)).grown g9 (by simp; omega) | exact (A8.alloc _).grown g9 (by simp; omega) | exact ((A8.alloc _).grown (gb_drew (gb_refl _ none)) (by simp)).grown g9 (by simp; omega)); have B9 : A3 w9 w3.heap.size kb nb mb := (by first | exact B8.grown g9 (by simp; omega) | exact (B8.grown (gb_drew (gb_refl _ none)) (by simp)).grown g9 (by simp; omega) | exact (B8.alloc _).grown g9 (by simp; omega) | exact ((B8.alloc _).grown (gb_drew (gb_refl _ none)) (by simp)).grown g9 (by simp; omega)); have G9 : w.grownBy w9 (some R) := (by first | exact gb_pick G8 g9 | exact gb_pick (gb_drew G8) g9 | exact gb_pick (gb_alloc G8 _) g9 | exact gb_pick (gb_drew (gb_alloc G8 _)) g9); obtain ⟨x0, x1, x2, _, _, _⟩ := id A9; obtain ⟨y0, y1, y2, _, _, _⟩ := id B9; obtain ⟨v0, v1, v2, v3⟩ := id S9; have lt9 := S9.lt; have lt9a := A9.lt; have lt9b := B9.lt)
        all_goals (
          have hwr : IntKind.i64.wrap (5 + (r9 : Int)) = 5 + (r9 : Int) := by rw [IntKind.wrap_i64]; omega
          simp only [hwr]
          obtain ⟨O, hO⟩ : ∃ O : Int, (5 + (r9 : Int)) = O := ⟨_, rfl⟩
          have hO1 : 5 ≤ O ∧ O ≤ 10 := by omega
          rw [hO]
          clear hwr hO a0 a1 a2 d0 d1 d2 x0 x1 x2 y0 y1 y2)
        all_goals (first
          | (obtain ⟨u1, u2, u3⟩ := elem_end (.int .i64 O) (.slice (some ⟨w9.heap.size, 0, none⟩) 2 2) (.cells #[.int .i64 ka, .int .i64 na, .int .i64 ma, .int .i64 kb, .int .i64 nb, .int .i64 mb] 72) S9 h9 G9 hBw (Nat.le_refl _)
             obtain ⟨q0, q1, _, _⟩ := u1
             have ow := ops2 ((w9.setCell ⟨w.heap.size, 0, none⟩ (.int .i64 O)).setCell ⟨w.heap.size, 1, none⟩ (.slice (some ⟨w9.heap.size, 0, none⟩) 2 2)) ka na ma kb nb mb 72
             simp only [World.size_setCell] at ow
             go_wp2
             exact bodyPost_ret (v := .agg #[.int .i64 O, .slice (some ⟨w9.heap.size, 0, none⟩) 2 2]) (by simp [results, Tryz.results56, go_sem, q0, q1]) rfl ⟨⟨O, _, 2, 2, _, rfl, by omega, by omega, rfl, by omega, by omega, (by intro x hx; simp at hx; rcases hx with rfl | rfl <;> assumption), .inr ⟨_, _, rfl, by omega, ow⟩⟩, ⟨_, by omega, u2⟩, u3⟩)
          | (obtain ⟨u1, u2, u3⟩ := elem_put (.int .i64 O) (.slice (some ⟨wc.heap.size, 0, none⟩) 2 2) S9 h9 G9 hBw (Nat.le_refl _)
             obtain ⟨q0, q1, _, _⟩ := u1
             have ow9 : Ops w9 wc.heap.size 0 [(ka, na, ma), (kb, nb, mb)] := (by first | exact (ops2 wc ka na ma kb nb mb 72).grown g9 (by simp; omega) | exact ((ops2 wc ka na ma kb nb mb 72).grown (gb_drew (gb_refl _ none)) (by simp)).grown g9 (by simp; omega))
             have ow := (ow9.other w.heap.size 0 (by omega) (.int .i64 O)).other w.heap.size 1 (by omega) (.slice (some ⟨wc.heap.size, 0, none⟩) 2 2)
             go_wp2
             exact bodyPost_ret (v := .agg #[.int .i64 O, .slice (some ⟨wc.heap.size, 0, none⟩) 2 2]) (by simp [results, Tryz.results56, go_sem, q0, q1]) rfl ⟨⟨O, _, 2, 2, _, rfl, by omega, by omega, rfl, by omega, by omega, (by intro x hx; simp at hx; rcases hx with rfl | rfl <;> assumption), .inr ⟨_, _, rfl, by omega, ow⟩⟩, ⟨_, by omega, u2⟩, u3⟩))
end Go.Proofs.YtcihplachlokiaaGreatDoor.Rr

