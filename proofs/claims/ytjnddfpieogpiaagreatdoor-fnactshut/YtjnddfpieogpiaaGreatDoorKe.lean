/- Operands in the memory, one behind the other. -/
import Derived.Test.YtjnddfpieogpiaaGreatDoorDj
import Derived.Test.YtjnddfpieogpiaaGreatDoorDe
import Derived.Deep.RegionWith
import Derived.Lib.QuietBelow
import Derived.Deep.Cut
namespace Go.Proofs.YtjnddfpieogpiaaGreatDoor.Ee
open Go.RowKit Go.Shelf
set_option linter.unusedVariables false

abbrev Arg := Int × Int × Int
/-- The operands of a list lie in the memory, one behind the other. -/
def Ops (w : World) (b o : Nat) (xs : List Arg) : Prop :=
  ∀ j x, xs[j]? = some x → w.cell? ⟨b, o + j * 3, none⟩ = some (.int .i64 x.1) ∧ w.cell? ⟨b, o + j * 3 + 1, none⟩ = some (.int .i64 x.2.1) ∧ w.cell? ⟨b, o + j * 3 + 2, none⟩ = some (.int .i64 x.2.2)
theorem Ops.below {w w' : World} {b o : Nat} {xs : List Arg} (h : Ops w b o xs) {B : Nat} (hB : b < B) (g : Below B w w') : Ops w' b o xs := fun j x hx => by
  have := h j x hx
  refine ⟨?_, ?_, ?_⟩
  · exact (g.cell (p := ⟨b, o + j * 3, none⟩) hB).trans this.1
  · exact (g.cell (p := ⟨b, o + j * 3 + 1, none⟩) hB).trans this.2.1
  · exact (g.cell (p := ⟨b, o + j * 3 + 2, none⟩) hB).trans this.2.2
theorem Ops.lt {w : World} {b o : Nat} {xs : List Arg} (h : Ops w b o xs) (hne : xs ≠ []) : b < w.heap.size := by
  match xs, hne with
  | x :: _, _ => exact World.block_lt_of_cell? _ _ (h 0 x rfl).1
theorem Ops.later {w w' : World} {b o : Nat} {xs : List Arg} (h : Ops w b o xs) (g : Below w.heap.size w w') : Ops w' b o xs := by
  match xs, h with
  | [], _ => intro j x hx; simp at hx
  | x :: r, h => exact h.below (h.lt (by simp)) g

/-- A slice of operands: an empty one, or one that lies in the memory. -/
def Sl (w : World) (a : Option Addr) (xs : List Arg) : Prop := xs = [] ∨ ∃ b o, a = some ⟨b, o, none⟩ ∧ Ops w b o xs
theorem Sl.later {w w' : World} {a : Option Addr} {xs : List Arg} (h : Sl w a xs) (g : Below w.heap.size w w') : Sl w' a xs := by
  rcases h with h | ⟨b, o, h1, h2⟩
  · exact .inl h
  · exact .inr ⟨b, o, h1, h2.later g⟩
theorem Sl.alloc {w : World} {a : Option Addr} {xs : List Arg} (h : Sl w a xs) (o : Obj) : Sl (w.alloc o) a xs := h.later ((Below.refl _ _).alloc (Nat.le_refl _) _)

end Go.Proofs.YtjnddfpieogpiaaGreatDoor.Ee
