/- Draws: operands of a sort, contacts. -/
import Derived.Test.YthjbgjfihfkpcaaDoorEk
import Derived.Test.YthjbgjfihfkpcaaDoorRM
import Derived.Deep.RegionWith
namespace Go.Proofs.YthjbgjfihfkpcaaDoor
open Go.RowKit
set_option linter.unusedVariables false

/-- A contact or coil in a block of its own. -/
structure E2 (w : World) (bl : Nat) (u v : Value) : Prop where
  c0 : w.cell? ⟨bl, 0, none⟩ = some u
  c1 : w.cell? ⟨bl, 1, none⟩ = some v
  f0 : w.frozen? ⟨bl, 0, none⟩ = false
  f1 : w.frozen? ⟨bl, 1, none⟩ = false
theorem E2.fresh (w : World) (u v : Value) (t : TypeId) : E2 (w.alloc (.cells #[u, v] t)) w.heap.size u v := ⟨by simp, by simp, by simp, by simp⟩
theorem E2.lt {w : World} {bl : Nat} {u v : Value} (h : E2 w bl u v) : bl < w.heap.size := World.block_lt_of_cell? _ _ h.c0
theorem E2.grown {w w' : World} {bl : Nat} {u v : Value} {row : Option Nat} (h : E2 w bl u v) (g : w.grownBy w' row) (hne : some bl ≠ row) : E2 w' bl u v :=
  ⟨(g.cell_far _ h.lt hne).trans h.c0, (g.cell_far _ h.lt hne).trans h.c1, (g.frozen_far _ h.lt hne).trans h.f0, (g.frozen_far _ h.lt hne).trans h.f1⟩
theorem E2.later {w w' : World} {bl : Nat} {u v : Value} (h : E2 w bl u v) (g : Below w.heap.size w w') : E2 w' bl u v := h.grown (gb_below g) (by simp)
theorem E2.alloc {w : World} {bl : Nat} {u v : Value} (h : E2 w bl u v) (o : Obj) : E2 (w.alloc o) bl u v := h.grown (World.grownBy_alloc w o none) (by simp)
theorem E2.other {w : World} {bl : Nat} {u v : Value} (h : E2 w bl u v) (bl' o : Nat) (hne : bl' ≠ bl) (x : Value) : E2 (w.setCell ⟨bl', o, none⟩ x) bl u v :=
  ⟨(World.cell?_setCell_other _ _ _ _ (by simp)).trans h.c0, (World.cell?_setCell_other _ _ _ _ (by simp)).trans h.c1, by simpa using h.f0, by simpa using h.f1⟩
theorem E2.put {w : World} {bl : Nat} {u v : Value} (h : E2 w bl u v) (u' v' : Value) : E2 ((w.setCell ⟨bl, 0, none⟩ u').setCell ⟨bl, 1, none⟩ v') bl u' v' :=
  ⟨(World.cell?_setCell_other _ _ _ _ (by simp)).trans (World.cell?_setCell_same _ _ _ h.c0), World.cell?_setCell_same _ _ _ ((World.cell?_setCell_other _ _ _ _ (by simp)).trans h.c1), by simpa using h.f0, by simpa using h.f1⟩

/-- Operands in memory of the call's own. -/
def Own (w : World) (H : Nat) (a : Option Addr) (xs : List Arg) : Prop := xs = [] ∨ ∃ b o, a = some ⟨b, o, none⟩ ∧ H ≤ b ∧ Ops w b o xs
theorem Own.sl {w : World} {H : Nat} {a : Option Addr} {xs : List Arg} (h : Own w H a xs) : Sl w a xs := by
  rcases h with h | ⟨b, o, h1, _, h2⟩
  · exact .inl h
  · exact .inr ⟨b, o, h1, h2⟩
theorem Ops.grown {w w' : World} {b o : Nat} {xs : List Arg} {row : Option Nat} (h : Ops w b o xs) (g : w.grownBy w' row) (hne : some b ≠ row) : Ops w' b o xs := fun j x hx => by
  obtain ⟨h1, h2, h3⟩ := h j x hx
  exact ⟨(g.cell_far _ (World.block_lt_of_cell? _ _ h1) hne).trans h1, (g.cell_far _ (World.block_lt_of_cell? _ _ h2) hne).trans h2, (g.cell_far _ (World.block_lt_of_cell? _ _ h3) hne).trans h3⟩
theorem Own.grown {w w' : World} {H R : Nat} {a : Option Addr} {xs : List Arg} (h : Own w H a xs) (g : w.grownBy w' (some R)) (hR : R < H) : Own w' H a xs := by
  rcases h with h | ⟨b, o, h1, h2, h3⟩
  · exact .inl h
  · exact .inr ⟨b, o, h1, h2, h3.grown g (by simp; omega)⟩
theorem Own.later {w w' : World} {H : Nat} {a : Option Addr} {xs : List Arg} (h : Own w H a xs) (g : Below w.heap.size w w') : Own w' H a xs := by
  rcases h with h | ⟨b, o, h1, h2, h3⟩
  · exact .inl h
  · exact .inr ⟨b, o, h1, h2, h3.later g⟩
theorem Own.mono {w : World} {H H' : Nat} {a : Option Addr} {xs : List Arg} (h : Own w H a xs) (hH : H' ≤ H) : Own w H' a xs := by
  rcases h with h | ⟨b, o, h1, h2, h3⟩
  · exact .inl h
  · exact .inr ⟨b, o, h1, Nat.le_trans hH h2, h3⟩

def Bd (xs : List Arg) : Prop := ∀ x ∈ xs, -2000000000 ≤ x.2.1 ∧ x.2.1 ≤ 2000000000
/-- What a draw of a contact or coil gives. -/
def ElemR (H : Nat) (e : Ending) (w : World) : Prop := ∃ (op : Int) (a : Option Addr) (len cap : Nat) (xs : List Arg), e = .returned (.agg #[.int .i64 op, .slice a len cap]) ∧ -100 ≤ op ∧ op ≤ 100 ∧ len = xs.length ∧ len ≤ cap ∧ len ≤ 4 ∧ Bd xs ∧ Own w H a xs

theorem ops1 (W : World) (k n p : Int) (t : TypeId) : Ops (W.alloc (.cells #[.int .i64 k, .int .i64 n, .int .i64 p] t)) W.heap.size 0 [(k, n, p)] := by
  intro j x hx
  match j, hx with
  | 0, hx => obtain rfl := Option.some.inj hx; exact ⟨by simp, by simp, by simp⟩
theorem ops2 (W : World) (k n p k1 n1 p1 : Int) (t : TypeId) : Ops (W.alloc (.cells #[.int .i64 k, .int .i64 n, .int .i64 p, .int .i64 k1, .int .i64 n1, .int .i64 p1] t)) W.heap.size 0 [(k, n, p), (k1, n1, p1)] := by
  intro j x hx
  match j, hx with
  | 0, hx => obtain rfl := Option.some.inj hx; exact ⟨by simp, by simp, by simp⟩
  | 1, hx => obtain rfl := Option.some.inj hx; exact ⟨by simp, by simp, by simp⟩
theorem ops3 (W : World) (k n p k1 n1 p1 k2 n2 p2 : Int) (t : TypeId) : Ops (W.alloc (.cells #[.int .i64 k, .int .i64 n, .int .i64 p, .int .i64 k1, .int .i64 n1, .int .i64 p1, .int .i64 k2, .int .i64 n2, .int .i64 p2] t)) W.heap.size 0 [(k, n, p), (k1, n1, p1), (k2, n2, p2)] := by
  intro j x hx
  match j, hx with
  | 0, hx => obtain rfl := Option.some.inj hx; exact ⟨by simp, by simp, by simp⟩
  | 1, hx => obtain rfl := Option.some.inj hx; exact ⟨by simp, by simp, by simp⟩
  | 2, hx => obtain rfl := Option.some.inj hx; exact ⟨by simp, by simp, by simp⟩

theorem elem_put {B R q bl : Nat} {w W : World} {u v : Value} (u' v' : Value) (hS : E2 W bl u v) (hR : Reader B W R q) (hG : w.grownBy W (some R)) (hB : B ≤ bl) (hb : w.heap.size ≤ bl) :
    E2 ((W.setCell ⟨bl, 0, none⟩ u').setCell ⟨bl, 1, none⟩ v') bl u' v' ∧ Reader B ((W.setCell ⟨bl, 0, none⟩ u').setCell ⟨bl, 1, none⟩ v') R q ∧ w.grownBy ((W.setCell ⟨bl, 0, none⟩ u').setCell ⟨bl, 1, none⟩ v') (some R) :=
  ⟨hS.put u' v', (hR.set _ _ _ hB).set _ _ _ hB, gb_put (gb_put hG hb) hb⟩
theorem Ops.other {w : World} {b o : Nat} {xs : List Arg} (h : Ops w b o xs) (b' o' : Nat) (hne : b' ≠ b) (v : Value) : Ops (w.setCell ⟨b', o', none⟩ v) b o xs := fun j x hx => by
  have := h j x hx
  refine ⟨?_, ?_, ?_⟩
  · exact (World.cell?_setCell_other _ _ _ _ (by simp)).trans this.1
  · exact (World.cell?_setCell_other _ _ _ _ (by simp)).trans this.2.1
  · exact (World.cell?_setCell_other _ _ _ _ (by simp)).trans this.2.2

/-- The end of a draw: the answer is put, its operands lie in a new block. -/
theorem elem_end {B R q bl : Nat} {w W : World} {u v : Value} (u' v' : Value) (o : Obj) (hS : E2 W bl u v) (hR : Reader B W R q) (hG : w.grownBy W (some R)) (hB : B ≤ bl) (hb : w.heap.size ≤ bl) :
    E2 (((W.setCell ⟨bl, 0, none⟩ u').setCell ⟨bl, 1, none⟩ v').alloc o) bl u' v' ∧ Reader B (((W.setCell ⟨bl, 0, none⟩ u').setCell ⟨bl, 1, none⟩ v').alloc o) R q ∧ w.grownBy (((W.setCell ⟨bl, 0, none⟩ u').setCell ⟨bl, 1, none⟩ v').alloc o) (some R) :=
  ⟨(hS.put u' v').alloc o, ((hR.set _ _ _ hB).set _ _ _ hB).alloc o, gb_alloc (gb_put (gb_put hG hb) hb) o⟩

set_option maxHeartbeats 1000000 in
theorem bit_r (B R p : Nat) (w : World) (h : Reader B w R p) (hp : p < 800000) :
    Calls Tryd.prog 49 #[.pointer (some ⟨R, 0, none⟩)] w fun e w' => IsArg e ∧ (∃ q, q ≤ p + 5 ∧ Reader B w' R q) ∧ w.grownBy w' (some R) := by
  have hRB := h.1
  have hBw := h.2.1
  have hN := fun W (hW : Reader B W R p) hx => num_r B R p (w.heap.size + 1) [1, 1, 2, 3, 3, 4, 6, 7, 8] 9 W hW (by simp) (by simp) (by omega) (by omega) hx
  go_enter Tryd.func49, Tryd.ntmps49
  go_wp2_with fail
  refine (hN _ ((h.alloc _).alloc _) (cells_row2 w _ [1, 1, 2, 3, 3, 4, 6, 7, 8] 3)).mono ?_
  rintro e w1 ⟨v, hv, rfl, h1, g1⟩
  have G1 : w.grownBy w1 (some R) := gb_pick (gb_alloc (gb_alloc (gb_refl _ _) _) _) g1
  have s1 : A3 w1 w.heap.size 0 0 0 := ((A3.fresh w 0 0 0 52).alloc _).grown g1 (by simp; omega)
  have hv1 : 1 ≤ v ∧ v ≤ 13 := by simp at hv; omega
  clear g1 h hN
  go_wp2_with fail
  refine (arg_r B R (p + 1) v _ h1 (by omega) hv1.1 hv1.2).mono ?_
  rintro e w2 ⟨⟨k, n, m, bn0, bn1, rfl⟩, ⟨q, hq, h2⟩, g2⟩
  have G2 : w.grownBy w2 (some R) := gb_pick G1 g2
  have s2 : A3 w2 w.heap.size 0 0 0 := s1.grown g2 (by simp; omega)
  clear g2 G1 s1 h1 hv hv1
  obtain ⟨u1, u2, u3⟩ := put_end k n m s2 h2 G2 hBw (Nat.le_refl _)
  obtain ⟨c0, c1, c2, f0, f1, f2⟩ := s2
  obtain ⟨q0, q1, q2, _, _, _⟩ := u1
  go_wp2
  exact bodyPost_ret (v := .agg #[.int .i64 k, .int .i64 n, .int .i64 m]) (by simp [results, Tryd.results49, go_sem, q0, q1, q2]) rfl ⟨⟨_, _, _, bn0, bn1, rfl⟩, ⟨_, by omega, u2⟩, u3⟩

set_option maxHeartbeats 1000000 in
theorem whole_r (B R p : Nat) (w : World) (h : Reader B w R p) (hp : p < 800000) :
    Calls Tryd.prog 51 #[.pointer (some ⟨R, 0, none⟩)] w fun e w' => IsArg e ∧ (∃ q, q ≤ p + 5 ∧ Reader B w' R q) ∧ w.grownBy w' (some R) := by
  have hRB := h.1
  have hBw := h.2.1
  have hN := fun W (hW : Reader B W R p) hx => num_r B R p (w.heap.size + 1) [9, 9, 9, 11, 11, 7, 8] 7 W hW (by simp) (by simp) (by omega) (by omega) hx
  go_enter Tryd.func51, Tryd.ntmps51
  go_wp2_with fail
  refine (hN _ ((h.alloc _).alloc _) (cells_row2 w _ [9, 9, 9, 11, 11, 7, 8] 3)).mono ?_
  rintro e w1 ⟨v, hv, rfl, h1, g1⟩
  have G1 : w.grownBy w1 (some R) := gb_pick (gb_alloc (gb_alloc (gb_refl _ _) _) _) g1
  have s1 : A3 w1 w.heap.size 0 0 0 := ((A3.fresh w 0 0 0 52).alloc _).grown g1 (by simp; omega)
  have hv1 : 1 ≤ v ∧ v ≤ 13 := by simp at hv; omega
  clear g1 h hN
  go_wp2_with fail
  refine (arg_r B R (p + 1) v _ h1 (by omega) hv1.1 hv1.2).mono ?_
  rintro e w2 ⟨⟨k, n, m, bn0, bn1, rfl⟩, ⟨q, hq, h2⟩, g2⟩
  have G2 : w.grownBy w2 (some R) := gb_pick G1 g2
  have s2 : A3 w2 w.heap.size 0 0 0 := s1.grown g2 (by simp; omega)
  clear g2 G1 s1 h1 hv hv1
  obtain ⟨u1, u2, u3⟩ := put_end k n m s2 h2 G2 hBw (Nat.le_refl _)
  obtain ⟨c0, c1, c2, f0, f1, f2⟩ := s2
  obtain ⟨q0, q1, q2, _, _, _⟩ := u1
  go_wp2
  exact bodyPost_ret (v := .agg #[.int .i64 k, .int .i64 n, .int .i64 m]) (by simp [results, Tryd.results51, go_sem, q0, q1, q2]) rfl ⟨⟨_, _, _, bn0, bn1, rfl⟩, ⟨_, by omega, u2⟩, u3⟩

set_option maxHeartbeats 1000000 in
theorem real4_r (B R p : Nat) (w : World) (h : Reader B w R p) (hp : p < 800000) :
    Calls Tryd.prog 52 #[.pointer (some ⟨R, 0, none⟩)] w fun e w' => IsArg e ∧ (∃ q, q ≤ p + 5 ∧ Reader B w' R q) ∧ w.grownBy w' (some R) := by
  have hRB := h.1
  have hBw := h.2.1
  have hN := fun W (hW : Reader B W R p) hx => num_r B R p (w.heap.size + 1) [10, 10, 10, 12, 13] 5 W hW (by simp) (by simp) (by omega) (by omega) hx
  go_enter Tryd.func52, Tryd.ntmps52
  go_wp2_with fail
  refine (hN _ ((h.alloc _).alloc _) (cells_row2 w _ [10, 10, 10, 12, 13] 3)).mono ?_
  rintro e w1 ⟨v, hv, rfl, h1, g1⟩
  have G1 : w.grownBy w1 (some R) := gb_pick (gb_alloc (gb_alloc (gb_refl _ _) _) _) g1
  have s1 : A3 w1 w.heap.size 0 0 0 := ((A3.fresh w 0 0 0 52).alloc _).grown g1 (by simp; omega)
  have hv1 : 1 ≤ v ∧ v ≤ 13 := by simp at hv; omega
  clear g1 h hN
  go_wp2_with fail
  refine (arg_r B R (p + 1) v _ h1 (by omega) hv1.1 hv1.2).mono ?_
  rintro e w2 ⟨⟨k, n, m, bn0, bn1, rfl⟩, ⟨q, hq, h2⟩, g2⟩
  have G2 : w.grownBy w2 (some R) := gb_pick G1 g2
  have s2 : A3 w2 w.heap.size 0 0 0 := s1.grown g2 (by simp; omega)
  clear g2 G1 s1 h1 hv hv1
  obtain ⟨u1, u2, u3⟩ := put_end k n m s2 h2 G2 hBw (Nat.le_refl _)
  obtain ⟨c0, c1, c2, f0, f1, f2⟩ := s2
  obtain ⟨q0, q1, q2, _, _, _⟩ := u1
  go_wp2
  exact bodyPost_ret (v := .agg #[.int .i64 k, .int .i64 n, .int .i64 m]) (by simp [results, Tryd.results52, go_sem, q0, q1, q2]) rfl ⟨⟨_, _, _, bn0, bn1, rfl⟩, ⟨_, by omega, u2⟩, u3⟩
end Go.Proofs.YthjbgjfihfkpcaaDoor

