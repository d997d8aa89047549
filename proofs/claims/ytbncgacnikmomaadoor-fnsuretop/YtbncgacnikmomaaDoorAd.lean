/- SurePeak: as mathematics, and both ways. -/
import Derived.Test.YtbncgacnikmomaaDoorAc
namespace Go.Proofs.YtbncgacnikmomaaDoor
open Go.RowKit
set_option linter.unusedVariables false

def pkB (xs : List InstT) : Nat → Int
  | 0 => 0
  | n + 1 => max (pkB xs n) (htB xs (n + 1))
def pkF (xs : List InstT) : Nat → Int
  | 0 => 0
  | n + 1 => max (pkF xs n) (htF xs (n + 1))
def PeakR (xs : List InstT) (w : World) (e : Ending) (w' : World) : Prop := e = .returned (.agg #[.int .i64 (pkB xs (trN xs)), .int .i64 (pkF xs (trN xs))]) ∧ Below w.heap.size w w'
theorem TrIs.form {W : World} {base : Nat} {v : Value} {xs : List InstT} {n : Nat} (h : TrIs W base v xs n) : ∃ a cp, v = .slice a n cp ∧ ∀ j, j < n → ∃ g, a = some ⟨g, 0, none⟩ ∧ base ≤ g := by
  rcases h.2 with ⟨rfl, rfl⟩ | ⟨g, cap, cur, rfl, hb, _⟩
  · exact ⟨none, 0, rfl, fun j hj => by omega⟩
  · exact ⟨_, cap, rfl, fun j hj => ⟨g, rfl, hb⟩⟩
theorem TrIs.cell {W : World} {base g cp : Nat} {xs : List InstT} {n j : Nat} (h : TrIs W base (.slice (some ⟨g, 0, none⟩) n cp) xs n) (hj : j < n) : W.cell? ⟨g, j * 2, none⟩ = some (.int .i64 (htB xs (j + 1))) ∧ W.cell? ⟨g, j * 2 + 1, none⟩ = some (.int .i64 (htF xs (j + 1))) := by
  have h1 := trV_at xs n j hj
  exact ⟨(World.ownsRow.cellAt h _ (by omega)).trans h1.1, (World.ownsRow.cellAt h _ (by omega)).trans h1.2⟩
theorem TrIs.load {W : World} {base g cp : Nat} {xs : List InstT} {n j : Nat} (h : TrIs W base (.slice (some ⟨g, 0, none⟩) n cp) xs n) (hj : j < n) : (loadVar 44 ⟨g, j * 2, none⟩).run Tryd.prog W = .ok (.agg #[.int .i64 (htB xs (j + 1)), .int .i64 (htF xs (j + 1))]) W := by
  have h1 := h.cell hj
  refine run_loadVar_mid W g (j * 2) 44 [.int .i64 (htB xs (j + 1)), .int .i64 (htF xs (j + 1))] _ (fun i c hi => ?_) Tryd.underlying44 rfl (by kernel_rfl)
  match i with
  | 0 => simp at hi; subst hi; exact h1.1
  | 1 => simp at hi; subst hi; exact h1.2
  | i + 2 => simp at hi

end Go.Proofs.YtbncgacnikmomaaDoor
