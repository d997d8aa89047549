/- A list's copy marked: what it touches. -/
import Derived.Test.YtcihplachlokiaaDoorCa
namespace Go.Proofs.YtcihplachlokiaaDoor
open Go.RowKit
set_option linter.unusedVariables false

/-- Whole numbers have been written over whole numbers, in blocks from 'lo' on and ahead of 'hi'. -/
structure WMk (lo hi : Nat) (w w' : World) : Prop where
  os : w'.os = w.os
  tape : w'.tape = w.tape
  output : w'.output = w.output
  size : w.heap.size ≤ w'.heap.size
  out : ∀ j, j < w.heap.size → (j < lo ∨ hi ≤ j) → w'.heap[j]? = w.heap[j]?
  cell : ∀ (b o : Nat) (v : Value), w.cell? ⟨b, o, none⟩ = some v → (∀ k u, v ≠ .int k u) → w'.cell? ⟨b, o, none⟩ = some v
  num : ∀ (b o : Nat) (u : Int), w.cell? ⟨b, o, none⟩ = some (.int .i64 u) → ∃ u', w'.cell? ⟨b, o, none⟩ = some (.int .i64 u')
  soft : ∀ (b : Nat), (∃ C t, w.heap[b]? = some (.cells C t (0, 0))) → ∃ C t, w'.heap[b]? = some (.cells C t (0, 0))
theorem WMk.refl (lo hi : Nat) (w : World) : WMk lo hi w w := ⟨rfl, rfl, rfl, Nat.le_refl _, fun _ _ _ => rfl, fun _ _ _ h _ => h, fun _ _ u h => ⟨u, h⟩, fun _ h => h⟩
theorem WMk.trans {lo hi : Nat} {w w' w'' : World} (h : WMk lo hi w w') (h' : WMk lo hi w' w'') : WMk lo hi w w'' :=
  ⟨h'.os.trans h.os, h'.tape.trans h.tape, h'.output.trans h.output, Nat.le_trans h.size h'.size, fun j h1 hj => (h'.out j (Nat.lt_of_lt_of_le h1 h.size) hj).trans (h.out j h1 hj), fun b o v h1 h2 => h'.cell b o v (h.cell b o v h1 h2) h2, fun b o u h1 => by
    obtain ⟨u', h2⟩ := h.num b o u h1
    exact h'.num b o u' h2, fun b h1 => h'.soft b (h.soft b h1)⟩
theorem WMk.of_below (lo hi : Nat) {w w' : World} (g : Below w.heap.size w w') : WMk lo hi w w' :=
  ⟨g.os, g.tape, g.output, g.size, fun j h1 _ => g.block j h1, fun b o v h _ => (Keeps.of_below g 0) b o v (Nat.zero_le _) h, fun b o u h => ⟨u, (Keeps.of_below g 0) b o _ (Nat.zero_le _) h⟩, fun b h => by
    obtain ⟨C, t, k⟩ := h
    exact ⟨C, t, (g.block _ (Array.getElem?_eq_some_iff.1 k).1).trans k⟩⟩
theorem WMk.below {lo hi B : Nat} {a w w' : World} (h : Below B a w) (g : WMk lo hi w w') (hb : B ≤ lo) (hs : B ≤ w.heap.size) : Below B a w' :=
  ⟨g.os.trans h.os, g.tape.trans h.tape, g.output.trans h.output, Nat.le_trans h.size g.size, fun j hj => (g.out j (by omega) (.inl (by omega))).trans (h.block j hj)⟩
theorem cells_of_cell {w : World} {b o : Nat} {C : Array Value} {t : TypeId} {v : Value} (h : w.heap[b]? = some (.cells C t (0, 0))) (hc : w.cell? ⟨b, o, none⟩ = some v) : o < C.size := by
  rw [cell_of_row _ _ _ _ _ _ h] at hc
  exact (Array.getElem?_eq_some_iff.1 hc).1
/-- A number over a number. -/
theorem WMk.put {lo hi : Nat} {w : World} {b o : Nat} {u : Int} (hc : w.cell? ⟨b, o, none⟩ = some (.int .i64 u)) (hs : ∃ C t, w.heap[b]? = some (.cells C t (0, 0))) (hl : lo ≤ b) (hh : b < hi) (x : Int) : WMk lo hi w (w.setCell ⟨b, o, none⟩ (.int .i64 x)) := by
  obtain ⟨C, t, h⟩ := hs
  have h2 := row_put h o (.int .i64 x)
  have ho := cells_of_cell h hc
  have hcell : ∀ (b' o' : Nat), (w.setCell ⟨b, o, none⟩ (.int .i64 x)).cell? ⟨b', o', none⟩ = if b' = b ∧ o' = o then some (.int .i64 x) else w.cell? ⟨b', o', none⟩ := fun b' o' => by
    by_cases e : b' = b
    · subst e
      rw [cell_of_row _ _ _ _ _ _ h2, cell_of_row _ _ _ _ _ _ h]
      by_cases e2 : o' = o
      · subst e2
        rw [if_pos ⟨rfl, rfl⟩]
        simp [ho]
      · rw [if_neg (fun q => e2 q.2)]
        rw [Array.getElem?_setIfInBounds_ne (fun q => e2 q.symm)]
    · rw [if_neg (fun q => e q.1)]
      exact World.cell?_setCell_other _ _ _ _ (by simp)
  refine ⟨rfl, rfl, rfl, ?_, ?_, ?_, ?_, ?_⟩
  · simp [World.setCell]
  · intro j _ hj
    by_cases e : j = b
    · subst e; omega
    · simp only [World.setCell]
      simp only [Array.getElem?_modify]
      rw [if_neg (fun q : b = j => e q.symm)]
  · intro b' o' v hv hn
    rw [hcell]
    split
    · next e =>
      obtain ⟨rfl, rfl⟩ := e
      rw [hc] at hv
      exact absurd (Option.some.inj hv).symm (hn _ _)
    · exact hv
  · intro b' o' u' hu
    rw [hcell]
    split
    · exact ⟨x, rfl⟩
    · exact ⟨u', hu⟩
  · intro b' hb'
    by_cases e : b = b'
    · subst e; exact ⟨_, t, h2⟩
    · obtain ⟨C', t', k⟩ := hb'
      exact ⟨C', t', row_other k b o e _⟩
end Go.Proofs.YtcihplachlokiaaDoor
