/- The specification's l4Args: operands read between signs. -/
import Derived.Test.YtndfmgbdfcggmaaGreatDoorHaM
namespace Go.Proofs.YtndfmgbdfcggmaaGreatDoor
open Go.RowKit
set_option linter.unusedVariables false

def opv (x : Int × Int × Int) : List Value := [.int .i64 x.1, .int .i64 x.2.1, .int .i64 x.2.2]
def opsL (xs : List (Int × Int × Int)) : List Value := (xs.map opv).flatten
/-- Operands gathered: a row of one's own. -/
def OpsOwn (W : World) (base g cap : Nat) (xs : List (Int × Int × Int)) : Prop := W.ownsRow base 76 3 (.slice (some ⟨g, 0, none⟩) xs.length cap) xs.length (opsL xs)
theorem OpsOwn.later {W W' : World} {base g cap : Nat} {xs : List (Int × Int × Int)} (h : OpsOwn W base g cap xs) (b : Below W.heap.size W W') : OpsOwn W' base g cap xs := owns_later h b
theorem OpsOwn.base {W : World} {base base' g cap : Nat} {xs : List (Int × Int × Int)} (h : OpsOwn W base g cap xs) (hb : base' ≤ base) : OpsOwn W base' g cap xs := by
  obtain ⟨h1, h2 | ⟨g', cap', cur, hv, hb', hh, h3⟩⟩ := h
  · exact ⟨h1, .inl h2⟩
  · exact ⟨h1, .inr ⟨g', cap', cur, hv, by omega, hh, h3⟩⟩
theorem new_three (W : World) (x y z : Value) : ∀ (q : Nat) (u : Value), [x, y, z][q]? = some u → (W.alloc (.cells #[x, y, z] 76)).cell? ((⟨W.heap.size, 0, none⟩ : Addr).add q) = some u := by
  intro q u h
  have hq : q < 3 := by have := (List.getElem?_eq_some_iff.1 h).1; simpa using this
  rcases (by omega : q = 0 ∨ q = 1 ∨ q = 2) with rfl | rfl | rfl <;> (simp at h; subst h; simp [Addr.add])
end Go.Proofs.YtndfmgbdfcggmaaGreatDoor
