/- Stores as arguments: the laws' copies of them, compared, marked. -/
import Derived.Test.YtfhdpafaamkipaaPcj
import Derived.Test.YtfhdpafaamkipaaHma
namespace Go.Proofs.Ytfhdpafaamkipaa
open Go.RowKit
set_option linter.unusedVariables false
set_option linter.unusedSimpArgs false

/-- A slot, as the program holds it. -/
def slV (m t : Nat) (a : Option Addr) (n c : Nat) : Value := .agg #[.int .u8 m, .int .u8 t, .slice a n c]
theorem By.other {w : World} {g n b : Nat} {f : Nat → Nat} (h : By w g n f) (hb : b ≠ g) (o : Nat) (v : Value) : By (w.setCell ⟨b, o, none⟩ v) g n f :=
  ⟨fun j hj => (World.cell?_setCell_other _ _ _ _ (by simp [hb])).trans (h.cell j hj), fun o' => by simpa using h.frz o', by simpa using h.lt⟩
set_option maxRecDepth 10000 in
set_option maxHeartbeats 2000000 in
theorem to_slot (m t : Nat) (a : Option Addr) (n c : Nat) (f : Nat → Nat) (w : World) (hn : n ≤ 1048576) (h : Bt w a n f) :
    Calls Try.prog 58 #[.agg #[.int .u8 m, .int .u8 t, .slice a n c]] w fun e w' => ∃ g, e = .returned (.agg #[.int .u8 m, .int .u8 t, .slice (some ⟨g, 0, none⟩) n n]) ∧ w.heap.size ≤ g ∧ By w' g n f ∧ Below w.heap.size w w' := by
  have HT : Hid (∀ W, Below w.heap.size w W → Calls Try.prog 38 #[.slice a n c] W fun e w' => e = .returned (.slice (some ⟨W.heap.size, 0, none⟩) n n) ∧ By w' W.heap.size n f ∧ Below W.heap.size W w') := fun W g => to_bytes a n c f W hn (h.later g (Nat.le_refl _))
  clear h
  go_enter Try.func58, Try.ntmps58
  go_wp2_with fail
  have k0 := heap_alloc_last ((w.alloc (.cells #[.int .u8 m, .int .u8 t, .slice a n c] 43)).alloc (.cells #[.int .u8 0, .int .u8 0, .slice none 0 0] 24)) (.cells #[.int .u8 m, .int .u8 t, .slice none 0 0] 24)
  have k1 : (((w.alloc (.cells #[.int .u8 m, .int .u8 t, .slice a n c] 43)).alloc (.cells #[.int .u8 0, .int .u8 0, .slice none 0 0] 24)).alloc (.cells #[.int .u8 m, .int .u8 t, .slice none 0 0] 24)).heap[w.heap.size + 1]? = some (.cells #[.int .u8 0, .int .u8 0, .slice none 0 0] 24 (0, 0)) := by
    have h := heap_alloc_last (w.alloc (.cells #[.int .u8 m, .int .u8 t, .slice a n c] 43)) (.cells #[.int .u8 0, .int .u8 0, .slice none 0 0] 24)
    simp only [World.size_alloc] at h
    exact (Below.heap_alloc _ _ _ (by simp)).trans h
  have b0 : Below w.heap.size w (((w.alloc (.cells #[.int .u8 m, .int .u8 t, .slice a n c] 43)).alloc (.cells #[.int .u8 0, .int .u8 0, .slice none 0 0] 24)).alloc (.cells #[.int .u8 m, .int .u8 t, .slice none 0 0] 24)) := (((Below.refl _ _).alloc (Nat.le_refl _) _).alloc (by simp) _).alloc (by simp; omega) _
  have hz : (((w.alloc (.cells #[.int .u8 m, .int .u8 t, .slice a n c] 43)).alloc (.cells #[.int .u8 0, .int .u8 0, .slice none 0 0] 24)).alloc (.cells #[.int .u8 m, .int .u8 t, .slice none 0 0] 24)).heap.size = w.heap.size + 3 := by simp
  have hz2 : ((w.alloc (.cells #[.int .u8 m, .int .u8 t, .slice a n c] 43)).alloc (.cells #[.int .u8 0, .int .u8 0, .slice none 0 0] 24)).heap.size = w.heap.size + 1 + 1 := by simp
  rw [hz2] at k0
  generalize (((w.alloc (.cells #[.int .u8 m, .int .u8 t, .slice a n c] 43)).alloc (.cells #[.int .u8 0, .int .u8 0, .slice none 0 0] 24)).alloc (.cells #[.int .u8 m, .int .u8 t, .slice none 0 0] 24)) = W0 at k0 k1 b0 hz ⊢
  refine (HT.out W0 b0).mono ?_
  rintro e w1 ⟨rfl, hBy, g1⟩
  rw [hz] at hBy ⊢
  have k2 : w1.heap[w.heap.size + 1 + 1]? = some (.cells #[.int .u8 m, .int .u8 t, .slice none 0 0] 24 (0, 0)) := (g1.block _ (by omega)).trans k0
  have k3 : w1.heap[w.heap.size + 1]? = some (.cells #[.int .u8 0, .int .u8 0, .slice none 0 0] 24 (0, 0)) := (g1.block _ (by omega)).trans k1
  have c0 : w1.cell? ⟨w.heap.size + 1 + 1, 0, none⟩ = some (.int .u8 m) := (cell_of_row _ _ _ _ _ _ k2).trans rfl
  have c1 : w1.cell? ⟨w.heap.size + 1 + 1, 1, none⟩ = some (.int .u8 t) := (cell_of_row _ _ _ _ _ _ k2).trans rfl
  have c2 : w1.cell? ⟨w.heap.size + 1 + 1, 2, none⟩ = some (.slice none 0 0) := (cell_of_row _ _ _ _ _ _ k2).trans rfl
  have f2 : ∀ o, w1.frozen? ⟨w.heap.size + 1 + 1, o, none⟩ = false := fun o => by simp [World.frozen?, k2]
  have d0 : w1.cell? ⟨w.heap.size + 1, 0, none⟩ = some (.int .u8 0) := (cell_of_row _ _ _ _ _ _ k3).trans rfl
  have d1 : w1.cell? ⟨w.heap.size + 1, 1, none⟩ = some (.int .u8 0) := (cell_of_row _ _ _ _ _ _ k3).trans rfl
  have d2 : w1.cell? ⟨w.heap.size + 1, 2, none⟩ = some (.slice none 0 0) := (cell_of_row _ _ _ _ _ _ k3).trans rfl
  have f3 : ∀ o, w1.frozen? ⟨w.heap.size + 1, o, none⟩ = false := fun o => by simp [World.frozen?, k3]
  have b1 : Below w.heap.size w w1 := b0.trans (g1.mono b0.size)
  have hBY : Hid (By w1 (w.heap.size + 3) n f) := hBy
  have hB1 : Hid (Below w.heap.size w w1) := b1
  clear g1 k0 k1 b0 hz hz2 hBy b1 k2 k3
  go_wp2
  refine bodyPost_ret (v := .agg #[.int .u8 m, .int .u8 t, .slice (some ⟨w.heap.size + 3, 0, none⟩) n n]) (by simp [results, Try.results58, go_sem, c0, c1, c2, d0, d1, d2]) rfl ⟨w.heap.size + 3, rfl, by omega, ?_, ?_⟩
  · exact (((hBY.out.other (by omega) _ _).other (by omega) _ _).other (by omega) _ _).other (by omega) _ _
  · exact bel_set (bel_set (bel_set (bel_set hB1.out (by omega) _ _) (by omega) _ _) (by omega) _ _) (by omega) _ _
end Go.Proofs.Ytfhdpafaamkipaa
