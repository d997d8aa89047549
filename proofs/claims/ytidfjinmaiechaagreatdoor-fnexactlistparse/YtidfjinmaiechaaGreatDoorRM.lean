/- The specification's reader of codes: numbers and texts out of a code, whatever the code. Made by wip/tools/gen_reader.py. -/
import Derived.Test.YtidfjinmaiechaaGreatDoorDaM
import Derived.Deep.Light
import Derived.Deep.AppendLies
import Derived.WalkSpells
import Derived.Maps.Range
import Derived.Maps.AppendAt
namespace Go.Proofs.YtidfjinmaiechaaGreatDoor
open Go.RowKit
set_option linter.unusedVariables false

theorem gb_set {w w' : World} {b : Nat} (h : w.grownBy w' (some b)) (o : Nat) (v : Value) : w.grownBy (w'.setCell ⟨b, o, none⟩ v) (some b) :=
  ⟨h.os, h.tape, h.output, by simpa using h.size, fun k hk hne => (Below.heap_setCell w' ⟨b, o, none⟩ v k (fun e => hne (by simp [e]))).trans (h.block k hk hne)⟩
theorem gb_drew {w w' : World} {row : Option Nat} (h : w.grownBy w' row) : w.grownBy w'.drew row := ⟨h.os, h.tape, h.output, h.size, h.block⟩
theorem gb_drewN {w w' : World} {row : Option Nat} (h : w.grownBy w' row) (n : Nat) : w.grownBy (w'.drewN n) row := ⟨h.os, h.tape, h.output, h.size, h.block⟩
theorem gb_refl (w : World) (row : Option Nat) : w.grownBy w row := ⟨rfl, rfl, rfl, Nat.le_refl _, fun _ _ _ => rfl⟩
theorem gb_below {w w' : World} (h : Below w.heap.size w w') : w.grownBy w' none := ⟨h.os, h.tape, h.output, h.size, fun k hk _ => h.block k hk⟩
theorem gb_then {a b c : World} {R : Nat} {row : Option Nat} (h : a.grownBy b (some R)) (k : b.grownBy c row) (hr : ∀ j, row = some j → a.heap.size ≤ j ∨ j = R) : a.grownBy c (some R) :=
  h.andThen k (fun j hj => (hr j hj).imp_right (fun e => by rw [e]))
theorem gb_below' {a b c : World} {R : Nat} (h : a.grownBy b (some R)) (k : Below b.heap.size b c) : a.grownBy c (some R) := gb_then h (gb_below k) (fun j hj => by cases hj)
theorem gb_alloc {a b : World} {R : Nat} (h : a.grownBy b (some R)) (o : Obj) : a.grownBy (b.alloc o) (some R) := gb_then h (World.grownBy_alloc b o none) (fun j hj => by cases hj)
theorem gb_pick {a b c : World} {R : Nat} (h : a.grownBy b (some R)) (k : b.grownBy c (some R)) : a.grownBy c (some R) := gb_then h k (fun j hj => .inr (by cases hj; rfl))
theorem gb_put {a b : World} {R bl o : Nat} {u : Value} (h : a.grownBy b (some R)) (hb : a.heap.size ≤ bl) : a.grownBy (b.setCell ⟨bl, o, none⟩ u) (some R) := gb_then h (gb_set (gb_refl b (some bl)) o u) (fun j hj => .inl (by cases hj; exact hb))
theorem cells_row (w : World) (xs : List Int) (t : TypeId) : ∀ j x, xs[j]? = some x → (w.alloc (.cells (xs.map (Value.int .i64)).toArray t)).cell? ⟨w.heap.size, j, none⟩ = some (.int .i64 x) := by
  intro j x hj
  rw [World.cell?_alloc_at _ _ _ _ rfl]
  simp [hj]
end Go.Proofs.YtidfjinmaiechaaGreatDoor
/- The specification's draws of operands: some operand, whatever the code. -/
namespace Go.Proofs.YtidfjinmaiechaaGreatDoor
open Go.RowKit
set_option linter.unusedVariables false

def IsArg (e : Ending) : Prop := ∃ k n p : Int, -2000000000 ≤ n ∧ n ≤ 2000000000 ∧ e = .returned (.agg #[.int .i64 k, .int .i64 n, .int .i64 p])

/-- An operand in a block of its own. -/
structure A3 (w : World) (bl : Nat) (k n p : Int) : Prop where
  c0 : w.cell? ⟨bl, 0, none⟩ = some (.int .i64 k)
  c1 : w.cell? ⟨bl, 1, none⟩ = some (.int .i64 n)
  c2 : w.cell? ⟨bl, 2, none⟩ = some (.int .i64 p)
  f0 : w.frozen? ⟨bl, 0, none⟩ = false
  f1 : w.frozen? ⟨bl, 1, none⟩ = false
  f2 : w.frozen? ⟨bl, 2, none⟩ = false

theorem A3.fresh (w : World) (k n p : Int) (t : TypeId) : A3 (w.alloc (.cells #[.int .i64 k, .int .i64 n, .int .i64 p] t)) w.heap.size k n p := ⟨by simp, by simp, by simp, by simp, by simp, by simp⟩
theorem A3.lt {w : World} {bl : Nat} {k n p : Int} (h : A3 w bl k n p) : bl < w.heap.size := World.block_lt_of_cell? _ _ h.c0
theorem A3.grown {w w' : World} {bl : Nat} {k n p : Int} {row : Option Nat} (h : A3 w bl k n p) (g : w.grownBy w' row) (hne : some bl ≠ row) : A3 w' bl k n p :=
  ⟨(g.cell_far _ h.lt hne).trans h.c0, (g.cell_far _ h.lt hne).trans h.c1, (g.cell_far _ h.lt hne).trans h.c2, (g.frozen_far _ h.lt hne).trans h.f0, (g.frozen_far _ h.lt hne).trans h.f1, (g.frozen_far _ h.lt hne).trans h.f2⟩
theorem A3.later {w w' : World} {bl : Nat} {k n p : Int} (h : A3 w bl k n p) (g : Below w.heap.size w w') : A3 w' bl k n p := h.grown (gb_below g) (by simp)
theorem A3.alloc {w : World} {bl : Nat} {k n p : Int} (h : A3 w bl k n p) (o : Obj) : A3 (w.alloc o) bl k n p := h.grown (World.grownBy_alloc w o none) (by simp)
theorem A3.put0 {w : World} {bl : Nat} {k n p : Int} (h : A3 w bl k n p) (k' : Int) : A3 (w.setCell ⟨bl, 0, none⟩ (.int .i64 k')) bl k' n p :=
  ⟨World.cell?_setCell_same _ _ _ h.c0, (World.cell?_setCell_other _ _ _ _ (by simp)).trans h.c1, (World.cell?_setCell_other _ _ _ _ (by simp)).trans h.c2, by simpa using h.f0, by simpa using h.f1, by simpa using h.f2⟩
theorem A3.put1 {w : World} {bl : Nat} {k n p : Int} (h : A3 w bl k n p) (n' : Int) : A3 (w.setCell ⟨bl, 1, none⟩ (.int .i64 n')) bl k n' p :=
  ⟨(World.cell?_setCell_other _ _ _ _ (by simp)).trans h.c0, World.cell?_setCell_same _ _ _ h.c1, (World.cell?_setCell_other _ _ _ _ (by simp)).trans h.c2, by simpa using h.f0, by simpa using h.f1, by simpa using h.f2⟩
theorem A3.put2 {w : World} {bl : Nat} {k n p : Int} (h : A3 w bl k n p) (p' : Int) : A3 (w.setCell ⟨bl, 2, none⟩ (.int .i64 p')) bl k n p' :=
  ⟨(World.cell?_setCell_other _ _ _ _ (by simp)).trans h.c0, (World.cell?_setCell_other _ _ _ _ (by simp)).trans h.c1, World.cell?_setCell_same _ _ _ h.c2, by simpa using h.f0, by simpa using h.f1, by simpa using h.f2⟩
theorem A3.set {w : World} {bl : Nat} {k n p : Int} (h : A3 w bl k n p) (k' n' p' : Int) : A3 (((w.setCell ⟨bl, 0, none⟩ (.int .i64 k')).setCell ⟨bl, 1, none⟩ (.int .i64 n')).setCell ⟨bl, 2, none⟩ (.int .i64 p')) bl k' n' p' := ((h.put0 k').put1 n').put2 p'
theorem A3.other {w : World} {bl : Nat} {k n p : Int} (h : A3 w bl k n p) (bl' o : Nat) (hne : bl' ≠ bl) (u : Value) : A3 (w.setCell ⟨bl', o, none⟩ u) bl k n p :=
  ⟨(World.cell?_setCell_other _ _ _ _ (by simp)).trans h.c0, (World.cell?_setCell_other _ _ _ _ (by simp)).trans h.c1, (World.cell?_setCell_other _ _ _ _ (by simp)).trans h.c2, by simpa using h.f0, by simpa using h.f1, by simpa using h.f2⟩

theorem cells_row2 (w : World) (o : Obj) (xs : List Int) (t : TypeId) : ∀ j x, xs[j]? = some x → ((w.alloc o).alloc (.cells (xs.map (Value.int .i64)).toArray t)).cell? ⟨w.heap.size + 1, j, none⟩ = some (.int .i64 x) := by
  have h := cells_row (w.alloc o) xs t
  rwa [World.size_alloc] at h

theorem kS_in (k : Int) (k1 : 1 ≤ k) (k2 : k ≤ 10) : 5 ≤ kS k ∧ kS k ≤ 64 := by
  rcases k_cases k with h | rfl | rfl | rfl | rfl | rfl | rfl | rfl | rfl | rfl | rfl
  · omega
  all_goals decide

end Go.Proofs.YtidfjinmaiechaaGreatDoor
