/- Rows of bytes: the laws' toByteS, eqByteS. -/
import Derived.Test.YtcihplachlokiaaGreatDoorRows
import Derived.WalkKit
import Derived.ProofKit
import Derived.Handy
import Derived.WalkLawsBesides
import Derived.Deep.QuietTactic
import Derived.BigQuiet
import Derived.WalkSpells
import Derived.Deep.AppendLies
import Derived.Deep.RegionLaw
import Derived.Deep.OwnRows
import Derived.Deep.WholeRow
import Derived.Laws.BitsAllLaws
namespace Go.Proofs.YtcihplachlokiaaGreatDoor
open Go.RowKit
set_option linter.unusedVariables false

/-- A row of n bytes at block g, one's own. -/
structure By (w : World) (g n : Nat) (f : Nat → Nat) : Prop where
  cell : ∀ j, j < n → w.cell? ⟨g, j, none⟩ = some (.int .u8 (f j))
  frz : ∀ o, w.frozen? ⟨g, o, none⟩ = false
  lt : g < w.heap.size
theorem By.later {w w' : World} {g n B : Nat} {f : Nat → Nat} (h : By w g n f) (b : Below B w w') (hg : g < B) : By w' g n f :=
  ⟨fun j hj => (b.cell hg).trans (h.cell j hj), fun o => (b.frozen hg).trans (h.frz o), Nat.lt_of_lt_of_le h.lt b.size⟩
theorem By.kept {w w' : World} {g n : Nat} {f : Nat → Nat} {row : Option Nat} (h : By w g n f) (b : w.grownBy w' row) (hne : some g ≠ row) : By w' g n f :=
  ⟨fun j hj => (b.cell_far _ h.lt hne).trans (h.cell j hj), fun o => (b.frozen_far _ h.lt hne).trans (h.frz o), Nat.lt_of_lt_of_le h.lt b.size⟩
theorem By.set {w : World} {g n : Nat} {f : Nat → Nat} (h : By w g n f) (i : Nat) (hi : i < n) (y : Nat) : By (w.setCell ⟨g, i, none⟩ (.int .u8 y)) g n (fun j => if j = i then y else f j) := by
  refine ⟨fun j hj => ?_, fun o => by simpa using h.frz o, by simpa using h.lt⟩
  by_cases e : j = i
  · subst e
    simp only [if_true]
    exact World.cell?_setCell_same _ _ _ (h.cell j hj)
  · simp only [e, if_false]
    exact (World.cell?_setCell_other _ _ _ _ (by simp)).trans (h.cell j hj)
theorem By.congr {w : World} {g n : Nat} {f f' : Nat → Nat} (h : By w g n f) (e : ∀ j, j < n → f j = f' j) : By w g n f' :=
  ⟨fun j hj => by rw [← e j hj]; exact h.cell j hj, h.frz, h.lt⟩
theorem By.made (w : World) (n : Nat) : By (w.alloc (.cells (madeCells #[.int .u8 0] n) 5)) w.heap.size n (fun _ => 0) := by
  refine ⟨fun j hj => ?_, fun o => ?_, by simp⟩
  · rw [cell_of_row _ _ _ _ _ _ (heap_alloc_last _ _)]
    simp [madeCells, hj, Nat.mod_one]
  · rw [World.frozen?, heap_alloc_last]; simp

/-- Bytes at a slice. -/
def Bt (w : World) (a : Option Addr) (n : Nat) (f : Nat → Nat) : Prop :=
  n = 0 ∨ ∃ g o, a = some ⟨g, o, none⟩ ∧ g < w.heap.size ∧ ∀ j, j < n → w.cell? ⟨g, o + j, none⟩ = some (.int .u8 (f j))
theorem Bt.later {w w' : World} {a : Option Addr} {n B : Nat} {f : Nat → Nat} (h : Bt w a n f) (b : Below B w w') (hB : w.heap.size ≤ B) : Bt w' a n f := by
  rcases h with h | ⟨g, o, h1, h2, h3⟩
  · exact .inl h
  · exact .inr ⟨g, o, h1, Nat.lt_of_lt_of_le h2 b.size, fun j hj => (b.cell (by show g < B; omega)).trans (h3 j hj)⟩
theorem By.bt {w : World} {g n : Nat} {f : Nat → Nat} (h : By w g n f) : Bt w (some ⟨g, 0, none⟩) n f :=
  .inr ⟨g, 0, rfl, h.lt, fun j hj => by rw [Nat.zero_add]; exact h.cell j hj⟩
theorem Bt.take {w : World} {a : Option Addr} {n m : Nat} {f : Nat → Nat} (h : Bt w a n f) (hm : m ≤ n) : Bt w a m f := by
  rcases h with h | ⟨g, o, h1, h2, h3⟩
  · exact .inl (by omega)
  · exact .inr ⟨g, o, h1, h2, fun j hj => h3 j (by omega)⟩
theorem Bt.congr {w : World} {a : Option Addr} {n : Nat} {f f' : Nat → Nat} (h : Bt w a n f) (e : ∀ j, j < n → f j = f' j) : Bt w a n f' := by
  rcases h with h | ⟨g, o, h1, h2, h3⟩
  · exact .inl h
  · exact .inr ⟨g, o, h1, h2, fun j hj => by rw [← e j hj]; exact h3 j hj⟩

theorem infoU8 : (Tryz.prog.info? 5).map (fun i => (i.zero, i.size, i.bytes)) = some (some (.int .u8 0), 1, 1) := by kernel_rfl
theorem bel_set {w w' : World} {B : Nat} (h : Below B w w') {g : Nat} (hg : B ≤ g) (o : Nat) (v : Value) : Below B w (w'.setCell ⟨g, o, none⟩ v) := h.setCell (p := ⟨g, o, none⟩) hg _

end Go.Proofs.YtcihplachlokiaaGreatDoor
/- An owned answer of bytes: marks. -/
namespace Go.Proofs.YtcihplachlokiaaGreatDoor
open Go.RowKit
set_option linter.unusedVariables false

/-- Bytes at a slice of one's own: nil, or a row in memory made from `base` on. -/
def Ob (w : World) (base : Nat) (a : Option Addr) (n : Nat) (f : Nat → Nat) : Prop := (a = none ∧ n = 0) ∨ ∃ g, a = some ⟨g, 0, none⟩ ∧ base ≤ g ∧ By w g n f
theorem Ob.bt {w : World} {base : Nat} {a : Option Addr} {n : Nat} {f : Nat → Nat} (h : Ob w base a n f) : Bt w a n f := by
  rcases h with ⟨_, h⟩ | ⟨g, rfl, _, h⟩
  · exact .inl h
  · exact h.bt
theorem Ob.later {w w' : World} {base : Nat} {a : Option Addr} {n : Nat} {f : Nat → Nat} (h : Ob w base a n f) (b : Below w.heap.size w w') : Ob w' base a n f := by
  rcases h with h | ⟨g, h1, h2, h3⟩
  · exact .inl h
  · exact .inr ⟨g, h1, h2, h3.later b h3.lt⟩
theorem Ob.base {w : World} {base b' : Nat} {a : Option Addr} {n : Nat} {f : Nat → Nat} (h : Ob w base a n f) (hb : b' ≤ base) : Ob w b' a n f := by
  rcases h with h | ⟨g, h1, h2, h3⟩
  · exact .inl h
  · exact .inr ⟨g, h1, by omega, h3⟩
theorem gb_refl18 (w : World) (g : Option Nat) : w.grownBy w g := ⟨rfl, rfl, rfl, Nat.le_refl _, fun _ _ _ => rfl⟩
theorem gb_set18 {w w' : World} {g : Nat} (h : w.grownBy w' (some g)) (o : Nat) (v : Value) : w.grownBy (w'.setCell ⟨g, o, none⟩ v) (some g) :=
  ⟨h.os, h.tape, h.output, by simpa using h.size, fun k hk hne => (Below.heap_setCell _ _ _ k (fun e => hne (by rw [e]))).trans (h.block k hk hne)⟩
/-- What was marked is one row; all else stands. -/
theorem Ob.grown {w w' : World} {base lo : Nat} {a a' : Option Addr} {n m c : Nat} {f : Nat → Nat} (h : Ob w base a n f) (hlt : ∀ g, a = some ⟨g, 0, none⟩ → g < lo) (b : w.grownBy w' (Value.slice a' m c).ownBlock) (hg : ∀ g, (Value.slice a' m c).ownBlock = some g → lo ≤ g) : Ob w' base a n f := by
  rcases h with h | ⟨g, h1, h2, h3⟩
  · exact .inl h
  · refine .inr ⟨g, h1, h2, h3.kept b fun e => ?_⟩
    have := hg g e.symm
    have := hlt g h1
    omega

def mk8 (j : Nat) : Nat := (1 + j) % 256
theorem mk8_wrap (k : Nat) : IntKind.u8.wrap (1 + (k : Int)) = (mk8 k : Nat) := by rw [IntKind.wrap_u8']; unfold mk8; omega

end Go.Proofs.YtcihplachlokiaaGreatDoor
