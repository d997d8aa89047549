/- Draws: operands of a sort, contacts. -/
import Derived.Test.YtidfjinmaiechaaGreatDoorEk
import Derived.Test.YtidfjinmaiechaaGreatDoorRM
import Derived.Deep.RegionWith
namespace Go.Proofs.YtidfjinmaiechaaGreatDoor
open Go.RowKit
set_option linter.unusedVariables false

/-- A contact or coil in a block of its own. -/
structure E2 (w : World) (bl : Nat) (u v : Value) : Prop where
  c0 : w.cell? ⟨bl, 0, none⟩ = some u
  c1 : w.cell? ⟨bl, 1, none⟩ = some v
  f0 : w.frozen? ⟨bl, 0, none⟩ = false
  f1 : w.frozen? ⟨bl, 1, none⟩ = false
theorem E2.fresh (w : World) (u v : Value) (t : TypeId) : E2 (w.alloc (.cells #[u, v] t)) w.heap.size u v := ⟨by simp, by simp, by simp, by simp⟩
theorem E2.lt {w : World} {bl : Nat} {u v : Value} (h : E2 w bl u v) : bl < w.heap.size := World.block_lt_of_cell? _ _ h.c0
theorem E2.grown {w w' : World} {bl : Nat} {u v : Value} {row : Option Nat} (h : E2 w bl u v) (g : w.grownBy w' row) (hne : some bl ≠ row) : E2 w' bl u v :=
  ⟨(g.cell_far _ h.lt hne).trans h.c0, (g.cell_far _ h.lt hne).trans h.c1, (g.frozen_far _ h.lt hne).trans h.f0, (g.frozen_far _ h.lt hne).trans h.f1⟩
theorem E2.later {w w' : World} {bl : Nat} {u v : Value} (h : E2 w bl u v) (g : Below w.heap.size w w') : E2 w' bl u v := h.grown (gb_below g) (by simp)
theorem E2.alloc {w : World} {bl : Nat} {u v : Value} (h : E2 w bl u v) (o : Obj) : E2 (w.alloc o) bl u v := h.grown (World.grownBy_alloc w o none) (by simp)
theorem E2.other {w : World} {bl : Nat} {u v : Value} (h : E2 w bl u v) (bl' o : Nat) (hne : bl' ≠ bl) (x : Value) : E2 (w.setCell ⟨bl', o, none⟩ x) bl u v :=
  ⟨(World.cell?_setCell_other _ _ _ _ (by simp)).trans h.c0, (World.cell?_setCell_other _ _ _ _ (by simp)).trans h.c1, by simpa using h.f0, by simpa using h.f1⟩
theorem E2.put {w : World} {bl : Nat} {u v : Value} (h : E2 w bl u v) (u' v' : Value) : E2 ((w.setCell ⟨bl, 0, none⟩ u').setCell ⟨bl, 1, none⟩ v') bl u' v' :=
  ⟨(World.cell?_setCell_other _ _ _ _ (by simp)).trans (World.cell?_setCell_same _ _ _ h.c0), World.cell?_setCell_same _ _ _ ((World.cell?_setCell_other _ _ _ _ (by simp)).trans h.c1), by simpa using h.f0, by simpa using h.f1⟩

/-- Operands in memory of the call's own. -/
def Own (w : World) (H : Nat) (a : Option Addr) (xs : List Arg) : Prop := xs = [] ∨ ∃ b o, a = some ⟨b, o, none⟩ ∧ H ≤ b ∧ Ops w b o xs
theorem Own.sl {w : World} {H : Nat} {a : Option Addr} {xs : List Arg} (h : Own w H a xs) : Sl w a xs := by
  rcases h with h | ⟨b, o, h1, _, h2⟩
  · exact .inl h
  · exact .inr ⟨b, o, h1, h2⟩
theorem Ops.grown {w w' : World} {b o : Nat} {xs : List Arg} {row : Option Nat} (h : Ops w b o xs) (g : w.grownBy w' row) (hne : some b ≠ row) : Ops w' b o xs := fun j x hx => by
  obtain ⟨h1, h2, h3⟩ := h j x hx
  exact ⟨(g.cell_far _ (World.block_lt_of_cell? _ _ h1) hne).trans h1, (g.cell_far _ (World.block_lt_of_cell? _ _ h2) hne).trans h2, (g.cell_far _ (World.block_lt_of_cell? _ _ h3) hne).trans h3⟩
theorem Own.grown {w w' : World} {H R : Nat} {a : Option Addr} {xs : List Arg} (h : Own w H a xs) (g : w.grownBy w' (some R)) (hR : R < H) : Own w' H a xs := by
  rcases h with h | ⟨b, o, h1, h2, h3⟩
  · exact .inl h
  · exact .inr ⟨b, o, h1, h2, h3.grown g (by simp; omega)⟩
theorem Own.later {w w' : World} {H : Nat} {a : Option Addr} {xs : List Arg} (h : Own w H a xs) (g : Below w.heap.size w w') : Own w' H a xs := by
  rcases h with h | ⟨b, o, h1, h2, h3⟩
  · exact .inl h
  · exact .inr ⟨b, o, h1, h2, h3.later g⟩
theorem Own.mono {w : World} {H H' : Nat} {a : Option Addr} {xs : List Arg} (h : Own w H a xs) (hH : H' ≤ H) : Own w H' a xs := by
  rcases h with h | ⟨b, o, h1, h2, h3⟩
  · exact .inl h
  · exact .inr ⟨b, o, h1, Nat.le_trans hH h2, h3⟩

def Bd (xs : List Arg) : Prop := ∀ x ∈ xs, -2000000000 ≤ x.2.1 ∧ x.2.1 ≤ 2000000000
/-- What a draw of a contact or coil gives. -/
def ElemR (H : Nat) (e : Ending) (w : World) : Prop := ∃ (op : Int) (a : Option Addr) (len cap : Nat) (xs : List Arg), e = .returned (.agg #[.int .i64 op, .slice a len cap]) ∧ -100 ≤ op ∧ op ≤ 100 ∧ len = xs.length ∧ len ≤ cap ∧ len ≤ 4 ∧ Bd xs ∧ Own w H a xs

theorem ops1 (W : World) (k n p : Int) (t : TypeId) : Ops (W.alloc (.cells #[.int .i64 k, .int .i64 n, .int .i64 p] t)) W.heap.size 0 [(k, n, p)] := by
  intro j x hx
  match j, hx with
  | 0, hx => obtain rfl := Option.some.inj hx; exact ⟨by simp, by simp, by simp⟩
theorem ops2 (W : World) (k n p k1 n1 p1 : Int) (t : TypeId) : Ops (W.alloc (.cells #[.int .i64 k, .int .i64 n, .int .i64 p, .int .i64 k1, .int .i64 n1, .int .i64 p1] t)) W.heap.size 0 [(k, n, p), (k1, n1, p1)] := by
  intro j x hx
  match j, hx with
  | 0, hx => obtain rfl := Option.some.inj hx; exact ⟨by simp, by simp, by simp⟩
  | 1, hx => obtain rfl := Option.some.inj hx; exact ⟨by simp, by simp, by simp⟩
theorem ops3 (W : World) (k n p k1 n1 p1 k2 n2 p2 : Int) (t : TypeId) : Ops (W.alloc (.cells #[.int .i64 k, .int .i64 n, .int .i64 p, .int .i64 k1, .int .i64 n1, .int .i64 p1, .int .i64 k2, .int .i64 n2, .int .i64 p2] t)) W.heap.size 0 [(k, n, p), (k1, n1, p1), (k2, n2, p2)] := by
  intro j x hx
  match j, hx with
  | 0, hx => obtain rfl := Option.some.inj hx; exact ⟨by simp, by simp, by simp⟩
  | 1, hx => obtain rfl := Option.some.inj hx; exact ⟨by simp, by simp, by simp⟩
  | 2, hx => obtain rfl := Option.some.inj hx; exact ⟨by simp, by simp, by simp⟩

theorem Ops.other {w : World} {b o : Nat} {xs : List Arg} (h : Ops w b o xs) (b' o' : Nat) (hne : b' ≠ b) (v : Value) : Ops (w.setCell ⟨b', o', none⟩ v) b o xs := fun j x hx => by
  have := h j x hx
  refine ⟨?_, ?_, ?_⟩
  · exact (World.cell?_setCell_other _ _ _ _ (by simp)).trans this.1
  · exact (World.cell?_setCell_other _ _ _ _ (by simp)).trans this.2.1
  · exact (World.cell?_setCell_other _ _ _ _ (by simp)).trans this.2.2

end Go.Proofs.YtidfjinmaiechaaGreatDoor

