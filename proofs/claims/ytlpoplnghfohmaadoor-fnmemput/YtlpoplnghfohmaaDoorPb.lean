/- The sort of a contact or coil: steps and edges. -/
import Derived.Test.YtlpoplnghfohmaaDoorPa
namespace Go.Proofs.YtlpoplnghfohmaaDoor
open Go.RowKit
set_option linter.unusedVariables false

set_option maxRecDepth 10000 in
set_option maxHeartbeats 1000000 in
theorem driven25 (n : Int) (w : World) : Calls Tryd.prog 59 #[.int .i64 25, .agg #[.int .i64 4, .int .i64 n, .int .i64 0, .int .i64 0, .int .i64 0, .int .i64 0, .int .i64 0, .int .i64 0, .int .i64 0]] w fun e w' => e = .returned (.iface 124 (.agg #[.int .i64 4, .int .i64 n, .int .i64 0, .int .i64 0, .int .i64 0, .int .i64 0, .int .i64 0, .int .i64 0, .int .i64 0])) ∧ Below w.heap.size w w' := by
  go_enter Tryd.func59, Tryd.ntmps59
  go_wp2
  go_ret
  exact ⟨rfl, (Below.refl _ _).alloc (Nat.le_refl _) _⟩


set_option maxRecDepth 10000 in
set_option maxHeartbeats 1000000 in
theorem sort25 (n : Int) (b : Nat) (t : TypeId) (w : World) (hb : w.heap[b]? = some (.cells #[.int .i64 4, .int .i64 n, .int .i64 0] t (0, 0))) :
    Calls Tryd.prog 41 #[.agg #[.int .i64 25, .slice (some ⟨b, 0, none⟩) 1 1]] w fun e w' => e = .returned (.iface 114 (.agg #[.iface 124 (.agg #[.int .i64 4, .int .i64 n, .int .i64 0, .int .i64 0, .int .i64 0, .int .i64 0, .int .i64 0, .int .i64 0, .int .i64 0])])) ∧ Below w.heap.size w w' := by
  have HB : Hid (w.heap[b]? = some (.cells #[.int .i64 4, .int .i64 n, .int .i64 0] t (0, 0))) := hb
  have HL : Hid (b < w.heap.size) := (Array.getElem?_eq_some_iff.1 hb).1
  clear hb
  go_enter Tryd.func41, Tryd.ntmps41
  go_wp2_with fail
  refine (argsof1 25 b 4 n 0 t _ ((heap_alloc_old w _ HL.out).trans HB.out)).mono ?_
  rintro e w1 ⟨rfl, g1⟩
  have b1 : Below w.heap.size w w1 := ((Below.refl _ _).alloc (Nat.le_refl _) _).trans (g1.mono (by simp))
  have y0 : w1.cell? ⟨w.heap.size, 0, none⟩ = some (.int .i64 25) := by rw [g1.cell (by simp)]; exact (cell_of_row _ _ _ _ _ _ (heap_alloc_last w _)).trans rfl
  have l1 : w.heap.size < w1.heap.size := by have := g1.size; simp at this; omega
  have n1 : w.heap.size ≠ w1.heap.size := by omega
  clear g1
  go_wp2_with fail
  refine (driven25 n _).mono ?_
  rintro e w2 ⟨rfl, g2⟩
  have b2 : Below w.heap.size w w2 := (b1.alloc b1.size _).trans (g2.mono (by have := b1.size; simp; omega))
  clear g2 b1
  go_wp2
  go_ret
  exact ⟨rfl, b2⟩


set_option maxRecDepth 10000 in
set_option maxHeartbeats 1000000 in
theorem sort3 (k0 n0 m0 k1 n1 m1 : Int) (b : Nat) (t : TypeId) (w : World) (hb : w.heap[b]? = some (.cells #[.int .i64 k0, .int .i64 n0, .int .i64 m0, .int .i64 k1, .int .i64 n1, .int .i64 m1] t (0, 0))) :
    Calls Tryd.prog 41 #[.agg #[.int .i64 3, .slice (some ⟨b, 0, none⟩) 2 2]] w fun e w' => e = .returned (.iface 103 (.agg #[.int .i64 k0, .int .i64 n0, .int .i64 m0, .int .i64 k1, .int .i64 n1, .int .i64 m1, .int .i64 0, .int .i64 0, .int .i64 0, .bool true])) ∧ Below w.heap.size w w' := by
  have HB : Hid (w.heap[b]? = some (.cells #[.int .i64 k0, .int .i64 n0, .int .i64 m0, .int .i64 k1, .int .i64 n1, .int .i64 m1] t (0, 0))) := hb
  have HL : Hid (b < w.heap.size) := (Array.getElem?_eq_some_iff.1 hb).1
  clear hb
  go_enter Tryd.func41, Tryd.ntmps41
  go_wp2_with fail
  refine (argsof2 3 b k0 n0 m0 k1 n1 m1 t _ ((heap_alloc_old w _ HL.out).trans HB.out)).mono ?_
  rintro e w1 ⟨rfl, g1⟩
  have b1 : Below w.heap.size w w1 := ((Below.refl _ _).alloc (Nat.le_refl _) _).trans (g1.mono (by simp))
  have y0 : w1.cell? ⟨w.heap.size, 0, none⟩ = some (.int .i64 3) := by rw [g1.cell (by simp)]; exact (cell_of_row _ _ _ _ _ _ (heap_alloc_last w _)).trans rfl
  have l1 : w.heap.size < w1.heap.size := by have := g1.size; simp at this; omega
  have n1 : w.heap.size ≠ w1.heap.size := by omega
  clear g1
  go_wp2
  go_ret
  exact ⟨rfl, b1.alloc b1.size _⟩


set_option maxRecDepth 10000 in
set_option maxHeartbeats 1000000 in
theorem sort4 (k0 n0 m0 k1 n1 m1 : Int) (b : Nat) (t : TypeId) (w : World) (hb : w.heap[b]? = some (.cells #[.int .i64 k0, .int .i64 n0, .int .i64 m0, .int .i64 k1, .int .i64 n1, .int .i64 m1] t (0, 0))) :
    Calls Tryd.prog 41 #[.agg #[.int .i64 4, .slice (some ⟨b, 0, none⟩) 2 2]] w fun e w' => e = .returned (.iface 103 (.agg #[.int .i64 k0, .int .i64 n0, .int .i64 m0, .int .i64 k1, .int .i64 n1, .int .i64 m1, .int .i64 0, .int .i64 0, .int .i64 0, .bool false])) ∧ Below w.heap.size w w' := by
  have HB : Hid (w.heap[b]? = some (.cells #[.int .i64 k0, .int .i64 n0, .int .i64 m0, .int .i64 k1, .int .i64 n1, .int .i64 m1] t (0, 0))) := hb
  have HL : Hid (b < w.heap.size) := (Array.getElem?_eq_some_iff.1 hb).1
  clear hb
  go_enter Tryd.func41, Tryd.ntmps41
  go_wp2_with fail
  refine (argsof2 4 b k0 n0 m0 k1 n1 m1 t _ ((heap_alloc_old w _ HL.out).trans HB.out)).mono ?_
  rintro e w1 ⟨rfl, g1⟩
  have b1 : Below w.heap.size w w1 := ((Below.refl _ _).alloc (Nat.le_refl _) _).trans (g1.mono (by simp))
  have y0 : w1.cell? ⟨w.heap.size, 0, none⟩ = some (.int .i64 4) := by rw [g1.cell (by simp)]; exact (cell_of_row _ _ _ _ _ _ (heap_alloc_last w _)).trans rfl
  have l1 : w.heap.size < w1.heap.size := by have := g1.size; simp at this; omega
  have n1 : w.heap.size ≠ w1.heap.size := by omega
  clear g1
  go_wp2
  go_ret
  exact ⟨rfl, b1.alloc b1.size _⟩

end Go.Proofs.YtlpoplnghfohmaaDoor
