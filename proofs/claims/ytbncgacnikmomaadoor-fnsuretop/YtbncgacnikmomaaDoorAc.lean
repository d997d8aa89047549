/- SureTrace of the specification. -/
import Derived.Test.YtbncgacnikmomaaDoorZaM
namespace Go.Proofs.YtbncgacnikmomaaDoor
open Go.RowKit
set_option linter.unusedVariables false

theorem TrIs.later {W W' : World} {base : Nat} {v : Value} {xs : List InstT} {n : Nat} (h : TrIs W base v xs n) (g : Below W.heap.size W W') : TrIs W' base v xs n := by
  refine ⟨h.1, ?_⟩
  rcases h.2 with h | ⟨g1, cap, cur, e1, e2, e3, e4⟩
  · exact .inl h
  · exact .inr ⟨g1, cap, cur, e1, e2, (g.block _ (Array.getElem?_eq_some_iff.1 e3).1).trans e3, e4⟩
theorem TrIs.beside {W : World} {base g cp b : Nat} {xs : List InstT} {n : Nat} (h : TrIs W base (.slice (some ⟨g, 0, none⟩) n cp) xs n) (D : Array Value) (hne : g ≠ b) : TrIs (W.setRow b D) base (.slice (some ⟨g, 0, none⟩) n cp) xs n := by
  refine ⟨h.1, ?_⟩
  rcases h.2 with ⟨h, _⟩ | ⟨g1, cap, cur, e1, e2, e3, e4⟩
  · cases h
  · have hg : g1 = g := by
      cases e1; rfl
    exact .inr ⟨g1, cap, cur, e1, e2, row_beside e3 _ (fun e => hne (by omega)) _, e4⟩

end Go.Proofs.YtbncgacnikmomaaDoor
