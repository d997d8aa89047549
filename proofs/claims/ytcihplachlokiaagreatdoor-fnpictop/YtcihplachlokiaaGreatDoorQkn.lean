/- The law FnExactPicMake. -/
import Derived.Test.YtcihplachlokiaaGreatDoorQkm
import Derived.Test.YtcihplachlokiaaGreatDoorZaM
namespace Go.Proofs.YtcihplachlokiaaGreatDoor
open Go.RowKit Go.Shelf
set_option linter.unusedVariables false
set_option linter.unusedSimpArgs false

theorem pf_zero {xs : List InstT} (h : (pfT xs).1 = 0) : xs.length ≤ 1000 ∧ ∀ x ∈ xs, wrT x = 0 := by
  unfold pfT at h
  by_cases hb : 1000 < xs.length
  · rw [if_pos hb] at h; simp at h
  · rw [if_neg hb] at h
    exact ⟨by omega, fw_zero xs 0 h⟩
def ansL (xs : List InstT) : List Nat := if (pfT xs).1 = 0 then imgL xs else []
theorem ansL_len (xs : List InstT) : (ansL xs).length ≤ 1048576 := by
  unfold ansL
  by_cases h : (pfT xs).1 = 0
  · rw [if_pos h]
    obtain ⟨h1, h2⟩ := pf_zero h
    have h3 := bodL_len xs h2
    unfold imgL hdL
    simp only [List.length_append, nbL_len, List.length_cons, List.length_nil]
    omega
  · rw [if_neg h]; simp
theorem mkR_u {xs : List InstT} {W : World} {e : Ending} {w' : World} {N : Nat} {f : Nat → Nat} {F1 F2 : Int} (hN : N = (ansL xs).length) (hf : f = atL (ansL xs)) (h1 : F1 = (pfT xs).1) (h2 : F2 = ((pfT xs).2 : Nat)) (h : MkR xs W e w') :
    ∃ (a : Option Addr) (c : Nat), e = .returned (.tuple #[.slice a N c, .agg #[.int .i64 F1, .int .i64 F2]]) ∧ Ob w' W.heap.size a N f ∧ Below W.heap.size W w' := by
  obtain ⟨v, rfl, ho, hb⟩ := h
  obtain ⟨a, c, rfl, ho'⟩ := owL_ob ho
  subst hN hf h1 h2
  exact ⟨a, c, rfl, ho', hb⟩

/-- An answer: its bytes, its fault's box. -/
def PA (B base : Nat) (F1 F2 : Int) (a : Option Addr) (N : Nat) (f : Nat → Nat) (W : World) : Prop := Ob W base a N f ∧ W.heap[B]? = some (.cells #[.int .i64 F1, .int .i64 F2] 26 (0, 0))
theorem PA.later {B base : Nat} {F1 F2 : Int} {a : Option Addr} {N : Nat} {f : Nat → Nat} {W W' : World} (h : PA B base F1 F2 a N f W) (g : Below W.heap.size W W') : PA B base F1 F2 a N f W' :=
  ⟨h.1.later g, (g.block _ (Array.getElem?_eq_some_iff.1 h.2).1).trans h.2⟩
theorem PA.cells {B base : Nat} {F1 F2 : Int} {a : Option Addr} {N : Nat} {f : Nat → Nat} {W : World} (h : PA B base F1 F2 a N f W) : W.cell? ⟨B, 0, none⟩ = some (.int .i64 F1) ∧ W.cell? ⟨B, 1, none⟩ = some (.int .i64 F2) ∧ B < W.heap.size :=
  ⟨(cell_of_row _ _ _ _ _ _ h.2).trans rfl, (cell_of_row _ _ _ _ _ _ h.2).trans rfl, (Array.getElem?_eq_some_iff.1 h.2).1⟩
theorem Ob.same {W W' : World} {base : Nat} {a : Option Addr} {N : Nat} {f : Nat → Nat} (h : Ob W base a N f) (hs : ∀ g, a = some ⟨g, 0, none⟩ → W'.heap[g]? = W.heap[g]?) : Ob W' base a N f := by
  rcases h with h | ⟨g, h1, h2, h3⟩
  · exact .inl h
  · have e := hs g h1
    refine .inr ⟨g, h1, h2, ⟨fun j hj => ?_, fun o => ?_, ?_⟩⟩
    · rw [← h3.cell j hj]; simp only [World.cell?, e]
    · rw [← h3.frz o]; simp only [World.frozen?, e]
    · have h4 := h3.lt
      have : (W'.heap[g]?).isSome = true := by rw [e, Array.getElem?_eq_getElem h4]; rfl
      exact (Array.getElem?_eq_some_iff.1 (Option.eq_some_of_isSome this)).1
theorem PA.same {B base : Nat} {F1 F2 : Int} {a : Option Addr} {N : Nat} {f : Nat → Nat} {W W' : World} (h : PA B base F1 F2 a N f W) (hs : ∀ g, (a = some ⟨g, 0, none⟩ ∨ g = B) → W'.heap[g]? = W.heap[g]?) : PA B base F1 F2 a N f W' :=
  ⟨h.1.same fun g hg => hs g (.inl hg), (hs B (.inr rfl)).trans h.2⟩
theorem ob_lt {W : World} {base : Nat} {a : Option Addr} {N : Nat} {f : Nat → Nat} (h : Ob W base a N f) : ∀ g, a = some ⟨g, 0, none⟩ → base ≤ g ∧ g < W.heap.size := fun g hg => by
  rcases h with ⟨h, _⟩ | ⟨g', h1, h2, h3⟩
  · rw [h] at hg; cases hg
  · rw [h1] at hg; cases hg; exact ⟨h2, h3.lt⟩

end Go.Proofs.YtcihplachlokiaaGreatDoor
