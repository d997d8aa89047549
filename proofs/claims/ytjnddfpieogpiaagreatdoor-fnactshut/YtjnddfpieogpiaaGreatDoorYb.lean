/- The sort of a contact or coil; its test. -/
import Derived.Test.YtjnddfpieogpiaaGreatDoorYa
namespace Go.Proofs.YtjnddfpieogpiaaGreatDoor
open Go.RowKit Rr Ee
set_option linter.unusedVariables false


set_option maxRecDepth 10000 in
set_option maxHeartbeats 1000000 in
theorem sort_1 (a : Option Addr) (len cap : Nat) (x0 x1 x2 x3 x4 x5 x6 x7 x8 : Int) (w : World) (HA : Hid (∀ W, Below w.heap.size w W → Calls Tryz.prog 105 #[.agg #[.int .i64 1, .slice a len cap]] W fun e w' => e = .returned (.agg #[.int .i64 x0, .int .i64 x1, .int .i64 x2, .int .i64 x3, .int .i64 x4, .int .i64 x5, .int .i64 x6, .int .i64 x7, .int .i64 x8]) ∧ Below W.heap.size W w')) :
    Calls Tryz.prog 39 #[.agg #[.int .i64 1, .slice a len cap]] w fun e w' => e = .returned (.iface 145 (.agg #[.int .i64 x0, .int .i64 x1, .int .i64 x2, .int .i64 x3, .int .i64 x4, .int .i64 x5, .int .i64 x6, .int .i64 x7, .int .i64 x8, .bool true])) ∧ Below w.heap.size w w' := by
  go_enter Tryz.func39, Tryz.ntmps39
  go_wp2_with fail
  refine (HA.out _ ((Below.refl _ _).alloc (Nat.le_refl _) _)).mono ?_
  rintro e w1 ⟨rfl, g1⟩
  have b1 : Below w.heap.size w w1 := ((Below.refl _ _).alloc (Nat.le_refl _) _).trans (g1.mono (by simp))
  have y0 : w1.cell? ⟨w.heap.size, 0, none⟩ = some (.int .i64 1) := by rw [g1.cell (by simp)]; exact (cell_of_row _ _ _ _ _ _ (heap_alloc_last w _)).trans rfl
  have l1 : w.heap.size < w1.heap.size := by have := g1.size; simp at this; omega
  have n1 : w.heap.size ≠ w1.heap.size := by omega
  clear g1
  go_wp2
  go_ret
  exact ⟨rfl, b1.alloc b1.size _⟩


set_option maxRecDepth 10000 in
set_option maxHeartbeats 1000000 in
theorem sort_2 (a : Option Addr) (len cap : Nat) (x0 x1 x2 x3 x4 x5 x6 x7 x8 : Int) (w : World) (HA : Hid (∀ W, Below w.heap.size w W → Calls Tryz.prog 105 #[.agg #[.int .i64 2, .slice a len cap]] W fun e w' => e = .returned (.agg #[.int .i64 x0, .int .i64 x1, .int .i64 x2, .int .i64 x3, .int .i64 x4, .int .i64 x5, .int .i64 x6, .int .i64 x7, .int .i64 x8]) ∧ Below W.heap.size W w')) :
    Calls Tryz.prog 39 #[.agg #[.int .i64 2, .slice a len cap]] w fun e w' => e = .returned (.iface 145 (.agg #[.int .i64 x0, .int .i64 x1, .int .i64 x2, .int .i64 x3, .int .i64 x4, .int .i64 x5, .int .i64 x6, .int .i64 x7, .int .i64 x8, .bool false])) ∧ Below w.heap.size w w' := by
  go_enter Tryz.func39, Tryz.ntmps39
  go_wp2_with fail
  refine (HA.out _ ((Below.refl _ _).alloc (Nat.le_refl _) _)).mono ?_
  rintro e w1 ⟨rfl, g1⟩
  have b1 : Below w.heap.size w w1 := ((Below.refl _ _).alloc (Nat.le_refl _) _).trans (g1.mono (by simp))
  have y0 : w1.cell? ⟨w.heap.size, 0, none⟩ = some (.int .i64 2) := by rw [g1.cell (by simp)]; exact (cell_of_row _ _ _ _ _ _ (heap_alloc_last w _)).trans rfl
  have l1 : w.heap.size < w1.heap.size := by have := g1.size; simp at this; omega
  have n1 : w.heap.size ≠ w1.heap.size := by omega
  clear g1
  go_wp2
  go_ret
  exact ⟨rfl, b1.alloc b1.size _⟩


set_option maxRecDepth 10000 in
set_option maxHeartbeats 1000000 in
theorem sort_3 (a : Option Addr) (len cap : Nat) (x0 x1 x2 x3 x4 x5 x6 x7 x8 : Int) (w : World) (HA : Hid (∀ W, Below w.heap.size w W → Calls Tryz.prog 105 #[.agg #[.int .i64 3, .slice a len cap]] W fun e w' => e = .returned (.agg #[.int .i64 x0, .int .i64 x1, .int .i64 x2, .int .i64 x3, .int .i64 x4, .int .i64 x5, .int .i64 x6, .int .i64 x7, .int .i64 x8]) ∧ Below W.heap.size W w')) :
    Calls Tryz.prog 39 #[.agg #[.int .i64 3, .slice a len cap]] w fun e w' => e = .returned (.iface 146 (.agg #[.int .i64 x0, .int .i64 x1, .int .i64 x2, .int .i64 x3, .int .i64 x4, .int .i64 x5, .int .i64 x6, .int .i64 x7, .int .i64 x8, .bool true])) ∧ Below w.heap.size w w' := by
  go_enter Tryz.func39, Tryz.ntmps39
  go_wp2_with fail
  refine (HA.out _ ((Below.refl _ _).alloc (Nat.le_refl _) _)).mono ?_
  rintro e w1 ⟨rfl, g1⟩
  have b1 : Below w.heap.size w w1 := ((Below.refl _ _).alloc (Nat.le_refl _) _).trans (g1.mono (by simp))
  have y0 : w1.cell? ⟨w.heap.size, 0, none⟩ = some (.int .i64 3) := by rw [g1.cell (by simp)]; exact (cell_of_row _ _ _ _ _ _ (heap_alloc_last w _)).trans rfl
  have l1 : w.heap.size < w1.heap.size := by have := g1.size; simp at this; omega
  have n1 : w.heap.size ≠ w1.heap.size := by omega
  clear g1
  go_wp2
  go_ret
  exact ⟨rfl, b1.alloc b1.size _⟩


set_option maxRecDepth 10000 in
set_option maxHeartbeats 1000000 in
theorem sort_4 (a : Option Addr) (len cap : Nat) (x0 x1 x2 x3 x4 x5 x6 x7 x8 : Int) (w : World) (HA : Hid (∀ W, Below w.heap.size w W → Calls Tryz.prog 105 #[.agg #[.int .i64 4, .slice a len cap]] W fun e w' => e = .returned (.agg #[.int .i64 x0, .int .i64 x1, .int .i64 x2, .int .i64 x3, .int .i64 x4, .int .i64 x5, .int .i64 x6, .int .i64 x7, .int .i64 x8]) ∧ Below W.heap.size W w')) :
    Calls Tryz.prog 39 #[.agg #[.int .i64 4, .slice a len cap]] w fun e w' => e = .returned (.iface 146 (.agg #[.int .i64 x0, .int .i64 x1, .int .i64 x2, .int .i64 x3, .int .i64 x4, .int .i64 x5, .int .i64 x6, .int .i64 x7, .int .i64 x8, .bool false])) ∧ Below w.heap.size w w' := by
  go_enter Tryz.func39, Tryz.ntmps39
  go_wp2_with fail
  refine (HA.out _ ((Below.refl _ _).alloc (Nat.le_refl _) _)).mono ?_
  rintro e w1 ⟨rfl, g1⟩
  have b1 : Below w.heap.size w w1 := ((Below.refl _ _).alloc (Nat.le_refl _) _).trans (g1.mono (by simp))
  have y0 : w1.cell? ⟨w.heap.size, 0, none⟩ = some (.int .i64 4) := by rw [g1.cell (by simp)]; exact (cell_of_row _ _ _ _ _ _ (heap_alloc_last w _)).trans rfl
  have l1 : w.heap.size < w1.heap.size := by have := g1.size; simp at this; omega
  have n1 : w.heap.size ≠ w1.heap.size := by omega
  clear g1
  go_wp2
  go_ret
  exact ⟨rfl, b1.alloc b1.size _⟩


set_option maxRecDepth 10000 in
set_option maxHeartbeats 1000000 in
theorem sort_5 (a : Option Addr) (len cap : Nat) (x0 x1 x2 x3 x4 x5 x6 x7 x8 : Int) (w : World) (HA : Hid (∀ W, Below w.heap.size w W → Calls Tryz.prog 105 #[.agg #[.int .i64 5, .slice a len cap]] W fun e w' => e = .returned (.agg #[.int .i64 x0, .int .i64 x1, .int .i64 x2, .int .i64 x3, .int .i64 x4, .int .i64 x5, .int .i64 x6, .int .i64 x7, .int .i64 x8]) ∧ Below W.heap.size W w')) :
    Calls Tryz.prog 39 #[.agg #[.int .i64 5, .slice a len cap]] w fun e w' => e = .returned (.iface 148 (.agg #[.int .i64 x0, .int .i64 x1, .int .i64 x2, .int .i64 x3, .int .i64 x4, .int .i64 x5, .int .i64 x6, .int .i64 x7, .int .i64 x8, .int .i64 1])) ∧ Below w.heap.size w w' := by
  go_enter Tryz.func39, Tryz.ntmps39
  go_wp2_with fail
  refine (HA.out _ ((Below.refl _ _).alloc (Nat.le_refl _) _)).mono ?_
  rintro e w1 ⟨rfl, g1⟩
  have b1 : Below w.heap.size w w1 := ((Below.refl _ _).alloc (Nat.le_refl _) _).trans (g1.mono (by simp))
  have y0 : w1.cell? ⟨w.heap.size, 0, none⟩ = some (.int .i64 5) := by rw [g1.cell (by simp)]; exact (cell_of_row _ _ _ _ _ _ (heap_alloc_last w _)).trans rfl
  have l1 : w.heap.size < w1.heap.size := by have := g1.size; simp at this; omega
  have n1 : w.heap.size ≠ w1.heap.size := by omega
  clear g1
  go_wp2
  go_ret
  exact ⟨rfl, b1.alloc b1.size _⟩


set_option maxRecDepth 10000 in
set_option maxHeartbeats 1000000 in
theorem sort_6 (a : Option Addr) (len cap : Nat) (x0 x1 x2 x3 x4 x5 x6 x7 x8 : Int) (w : World) (HA : Hid (∀ W, Below w.heap.size w W → Calls Tryz.prog 105 #[.agg #[.int .i64 6, .slice a len cap]] W fun e w' => e = .returned (.agg #[.int .i64 x0, .int .i64 x1, .int .i64 x2, .int .i64 x3, .int .i64 x4, .int .i64 x5, .int .i64 x6, .int .i64 x7, .int .i64 x8]) ∧ Below W.heap.size W w')) :
    Calls Tryz.prog 39 #[.agg #[.int .i64 6, .slice a len cap]] w fun e w' => e = .returned (.iface 148 (.agg #[.int .i64 x0, .int .i64 x1, .int .i64 x2, .int .i64 x3, .int .i64 x4, .int .i64 x5, .int .i64 x6, .int .i64 x7, .int .i64 x8, .int .i64 2])) ∧ Below w.heap.size w w' := by
  go_enter Tryz.func39, Tryz.ntmps39
  go_wp2_with fail
  refine (HA.out _ ((Below.refl _ _).alloc (Nat.le_refl _) _)).mono ?_
  rintro e w1 ⟨rfl, g1⟩
  have b1 : Below w.heap.size w w1 := ((Below.refl _ _).alloc (Nat.le_refl _) _).trans (g1.mono (by simp))
  have y0 : w1.cell? ⟨w.heap.size, 0, none⟩ = some (.int .i64 6) := by rw [g1.cell (by simp)]; exact (cell_of_row _ _ _ _ _ _ (heap_alloc_last w _)).trans rfl
  have l1 : w.heap.size < w1.heap.size := by have := g1.size; simp at this; omega
  have n1 : w.heap.size ≠ w1.heap.size := by omega
  clear g1
  go_wp2
  go_ret
  exact ⟨rfl, b1.alloc b1.size _⟩


set_option maxRecDepth 10000 in
set_option maxHeartbeats 1000000 in
theorem sort_7 (a : Option Addr) (len cap : Nat) (x0 x1 x2 x3 x4 x5 x6 x7 x8 : Int) (w : World) (HA : Hid (∀ W, Below w.heap.size w W → Calls Tryz.prog 105 #[.agg #[.int .i64 7, .slice a len cap]] W fun e w' => e = .returned (.agg #[.int .i64 x0, .int .i64 x1, .int .i64 x2, .int .i64 x3, .int .i64 x4, .int .i64 x5, .int .i64 x6, .int .i64 x7, .int .i64 x8]) ∧ Below W.heap.size W w')) :
    Calls Tryz.prog 39 #[.agg #[.int .i64 7, .slice a len cap]] w fun e w' => e = .returned (.iface 148 (.agg #[.int .i64 x0, .int .i64 x1, .int .i64 x2, .int .i64 x3, .int .i64 x4, .int .i64 x5, .int .i64 x6, .int .i64 x7, .int .i64 x8, .int .i64 3])) ∧ Below w.heap.size w w' := by
  go_enter Tryz.func39, Tryz.ntmps39
  go_wp2_with fail
  refine (HA.out _ ((Below.refl _ _).alloc (Nat.le_refl _) _)).mono ?_
  rintro e w1 ⟨rfl, g1⟩
  have b1 : Below w.heap.size w w1 := ((Below.refl _ _).alloc (Nat.le_refl _) _).trans (g1.mono (by simp))
  have y0 : w1.cell? ⟨w.heap.size, 0, none⟩ = some (.int .i64 7) := by rw [g1.cell (by simp)]; exact (cell_of_row _ _ _ _ _ _ (heap_alloc_last w _)).trans rfl
  have l1 : w.heap.size < w1.heap.size := by have := g1.size; simp at this; omega
  have n1 : w.heap.size ≠ w1.heap.size := by omega
  clear g1
  go_wp2
  go_ret
  exact ⟨rfl, b1.alloc b1.size _⟩


set_option maxRecDepth 10000 in
set_option maxHeartbeats 1000000 in
theorem sort_8 (a : Option Addr) (len cap : Nat) (x0 x1 x2 x3 x4 x5 x6 x7 x8 : Int) (w : World) (HA : Hid (∀ W, Below w.heap.size w W → Calls Tryz.prog 105 #[.agg #[.int .i64 8, .slice a len cap]] W fun e w' => e = .returned (.agg #[.int .i64 x0, .int .i64 x1, .int .i64 x2, .int .i64 x3, .int .i64 x4, .int .i64 x5, .int .i64 x6, .int .i64 x7, .int .i64 x8]) ∧ Below W.heap.size W w')) :
    Calls Tryz.prog 39 #[.agg #[.int .i64 8, .slice a len cap]] w fun e w' => e = .returned (.iface 148 (.agg #[.int .i64 x0, .int .i64 x1, .int .i64 x2, .int .i64 x3, .int .i64 x4, .int .i64 x5, .int .i64 x6, .int .i64 x7, .int .i64 x8, .int .i64 4])) ∧ Below w.heap.size w w' := by
  go_enter Tryz.func39, Tryz.ntmps39
  go_wp2_with fail
  refine (HA.out _ ((Below.refl _ _).alloc (Nat.le_refl _) _)).mono ?_
  rintro e w1 ⟨rfl, g1⟩
  have b1 : Below w.heap.size w w1 := ((Below.refl _ _).alloc (Nat.le_refl _) _).trans (g1.mono (by simp))
  have y0 : w1.cell? ⟨w.heap.size, 0, none⟩ = some (.int .i64 8) := by rw [g1.cell (by simp)]; exact (cell_of_row _ _ _ _ _ _ (heap_alloc_last w _)).trans rfl
  have l1 : w.heap.size < w1.heap.size := by have := g1.size; simp at this; omega
  have n1 : w.heap.size ≠ w1.heap.size := by omega
  clear g1
  go_wp2
  go_ret
  exact ⟨rfl, b1.alloc b1.size _⟩


set_option maxRecDepth 10000 in
set_option maxHeartbeats 1000000 in
theorem sort_9 (a : Option Addr) (len cap : Nat) (x0 x1 x2 x3 x4 x5 x6 x7 x8 : Int) (w : World) (HA : Hid (∀ W, Below w.heap.size w W → Calls Tryz.prog 105 #[.agg #[.int .i64 9, .slice a len cap]] W fun e w' => e = .returned (.agg #[.int .i64 x0, .int .i64 x1, .int .i64 x2, .int .i64 x3, .int .i64 x4, .int .i64 x5, .int .i64 x6, .int .i64 x7, .int .i64 x8]) ∧ Below W.heap.size W w')) :
    Calls Tryz.prog 39 #[.agg #[.int .i64 9, .slice a len cap]] w fun e w' => e = .returned (.iface 148 (.agg #[.int .i64 x0, .int .i64 x1, .int .i64 x2, .int .i64 x3, .int .i64 x4, .int .i64 x5, .int .i64 x6, .int .i64 x7, .int .i64 x8, .int .i64 5])) ∧ Below w.heap.size w w' := by
  go_enter Tryz.func39, Tryz.ntmps39
  go_wp2_with fail
  refine (HA.out _ ((Below.refl _ _).alloc (Nat.le_refl _) _)).mono ?_
  rintro e w1 ⟨rfl, g1⟩
  have b1 : Below w.heap.size w w1 := ((Below.refl _ _).alloc (Nat.le_refl _) _).trans (g1.mono (by simp))
  have y0 : w1.cell? ⟨w.heap.size, 0, none⟩ = some (.int .i64 9) := by rw [g1.cell (by simp)]; exact (cell_of_row _ _ _ _ _ _ (heap_alloc_last w _)).trans rfl
  have l1 : w.heap.size < w1.heap.size := by have := g1.size; simp at this; omega
  have n1 : w.heap.size ≠ w1.heap.size := by omega
  clear g1
  go_wp2
  go_ret
  exact ⟨rfl, b1.alloc b1.size _⟩


set_option maxRecDepth 10000 in
set_option maxHeartbeats 1000000 in
theorem sort_10 (a : Option Addr) (len cap : Nat) (x0 x1 x2 x3 x4 x5 x6 x7 x8 : Int) (w : World) (HA : Hid (∀ W, Below w.heap.size w W → Calls Tryz.prog 105 #[.agg #[.int .i64 10, .slice a len cap]] W fun e w' => e = .returned (.agg #[.int .i64 x0, .int .i64 x1, .int .i64 x2, .int .i64 x3, .int .i64 x4, .int .i64 x5, .int .i64 x6, .int .i64 x7, .int .i64 x8]) ∧ Below W.heap.size W w')) :
    Calls Tryz.prog 39 #[.agg #[.int .i64 10, .slice a len cap]] w fun e w' => e = .returned (.iface 148 (.agg #[.int .i64 x0, .int .i64 x1, .int .i64 x2, .int .i64 x3, .int .i64 x4, .int .i64 x5, .int .i64 x6, .int .i64 x7, .int .i64 x8, .int .i64 6])) ∧ Below w.heap.size w w' := by
  go_enter Tryz.func39, Tryz.ntmps39
  go_wp2_with fail
  refine (HA.out _ ((Below.refl _ _).alloc (Nat.le_refl _) _)).mono ?_
  rintro e w1 ⟨rfl, g1⟩
  have b1 : Below w.heap.size w w1 := ((Below.refl _ _).alloc (Nat.le_refl _) _).trans (g1.mono (by simp))
  have y0 : w1.cell? ⟨w.heap.size, 0, none⟩ = some (.int .i64 10) := by rw [g1.cell (by simp)]; exact (cell_of_row _ _ _ _ _ _ (heap_alloc_last w _)).trans rfl
  have l1 : w.heap.size < w1.heap.size := by have := g1.size; simp at this; omega
  have n1 : w.heap.size ≠ w1.heap.size := by omega
  clear g1
  go_wp2
  go_ret
  exact ⟨rfl, b1.alloc b1.size _⟩


set_option maxRecDepth 10000 in
set_option maxHeartbeats 1000000 in
theorem sort_21 (a : Option Addr) (len cap : Nat) (x0 x1 x2 x3 x4 x5 x6 x7 x8 : Int) (w : World) (HA : Hid (∀ W, Below w.heap.size w W → Calls Tryz.prog 105 #[.agg #[.int .i64 21, .slice a len cap]] W fun e w' => e = .returned (.agg #[.int .i64 x0, .int .i64 x1, .int .i64 x2, .int .i64 x3, .int .i64 x4, .int .i64 x5, .int .i64 x6, .int .i64 x7, .int .i64 x8]) ∧ Below W.heap.size W w')) :
    Calls Tryz.prog 39 #[.agg #[.int .i64 21, .slice a len cap]] w fun e w' => e = .returned (.iface 150 (.agg #[.int .i64 x0, .int .i64 x1, .int .i64 x2, .int .i64 x3, .int .i64 x4, .int .i64 x5, .int .i64 x6, .int .i64 x7, .int .i64 x8])) ∧ Below w.heap.size w w' := by
  go_enter Tryz.func39, Tryz.ntmps39
  go_wp2_with fail
  refine (HA.out _ ((Below.refl _ _).alloc (Nat.le_refl _) _)).mono ?_
  rintro e w1 ⟨rfl, g1⟩
  have b1 : Below w.heap.size w w1 := ((Below.refl _ _).alloc (Nat.le_refl _) _).trans (g1.mono (by simp))
  have y0 : w1.cell? ⟨w.heap.size, 0, none⟩ = some (.int .i64 21) := by rw [g1.cell (by simp)]; exact (cell_of_row _ _ _ _ _ _ (heap_alloc_last w _)).trans rfl
  have l1 : w.heap.size < w1.heap.size := by have := g1.size; simp at this; omega
  have n1 : w.heap.size ≠ w1.heap.size := by omega
  clear g1
  go_wp2
  go_ret
  exact ⟨rfl, b1.alloc b1.size _⟩


set_option maxRecDepth 10000 in
set_option maxHeartbeats 1000000 in
theorem sort_24 (a : Option Addr) (len cap : Nat) (x0 x1 x2 x3 x4 x5 x6 x7 x8 : Int) (w : World) (HA : Hid (∀ W, Below w.heap.size w W → Calls Tryz.prog 105 #[.agg #[.int .i64 24, .slice a len cap]] W fun e w' => e = .returned (.agg #[.int .i64 x0, .int .i64 x1, .int .i64 x2, .int .i64 x3, .int .i64 x4, .int .i64 x5, .int .i64 x6, .int .i64 x7, .int .i64 x8]) ∧ Below W.heap.size W w')) :
    Calls Tryz.prog 39 #[.agg #[.int .i64 24, .slice a len cap]] w fun e w' => e = .returned (.iface 151 (.agg #[.int .i64 x0, .int .i64 x1, .int .i64 x2, .int .i64 x3, .int .i64 x4, .int .i64 x5, .int .i64 x6, .int .i64 x7, .int .i64 x8])) ∧ Below w.heap.size w w' := by
  go_enter Tryz.func39, Tryz.ntmps39
  go_wp2_with fail
  refine (HA.out _ ((Below.refl _ _).alloc (Nat.le_refl _) _)).mono ?_
  rintro e w1 ⟨rfl, g1⟩
  have b1 : Below w.heap.size w w1 := ((Below.refl _ _).alloc (Nat.le_refl _) _).trans (g1.mono (by simp))
  have y0 : w1.cell? ⟨w.heap.size, 0, none⟩ = some (.int .i64 24) := by rw [g1.cell (by simp)]; exact (cell_of_row _ _ _ _ _ _ (heap_alloc_last w _)).trans rfl
  have l1 : w.heap.size < w1.heap.size := by have := g1.size; simp at this; omega
  have n1 : w.heap.size ≠ w1.heap.size := by omega
  clear g1
  go_wp2
  go_ret
  exact ⟨rfl, b1.alloc b1.size _⟩


set_option maxRecDepth 10000 in
set_option maxHeartbeats 1000000 in
theorem sort_26 (a : Option Addr) (len cap : Nat) (x0 x1 x2 x3 x4 x5 x6 x7 x8 : Int) (w : World) (HA : Hid (∀ W, Below w.heap.size w W → Calls Tryz.prog 105 #[.agg #[.int .i64 26, .slice a len cap]] W fun e w' => e = .returned (.agg #[.int .i64 x0, .int .i64 x1, .int .i64 x2, .int .i64 x3, .int .i64 x4, .int .i64 x5, .int .i64 x6, .int .i64 x7, .int .i64 x8]) ∧ Below W.heap.size W w')) :
    Calls Tryz.prog 39 #[.agg #[.int .i64 26, .slice a len cap]] w fun e w' => e = .returned (.iface 152 (.agg #[.int .i64 x0, .int .i64 x1, .int .i64 x2, .int .i64 x3, .int .i64 x4, .int .i64 x5, .int .i64 x6, .int .i64 x7, .int .i64 x8])) ∧ Below w.heap.size w w' := by
  go_enter Tryz.func39, Tryz.ntmps39
  go_wp2_with fail
  refine (HA.out _ ((Below.refl _ _).alloc (Nat.le_refl _) _)).mono ?_
  rintro e w1 ⟨rfl, g1⟩
  have b1 : Below w.heap.size w w1 := ((Below.refl _ _).alloc (Nat.le_refl _) _).trans (g1.mono (by simp))
  have y0 : w1.cell? ⟨w.heap.size, 0, none⟩ = some (.int .i64 26) := by rw [g1.cell (by simp)]; exact (cell_of_row _ _ _ _ _ _ (heap_alloc_last w _)).trans rfl
  have l1 : w.heap.size < w1.heap.size := by have := g1.size; simp at this; omega
  have n1 : w.heap.size ≠ w1.heap.size := by omega
  clear g1
  go_wp2
  go_ret
  exact ⟨rfl, b1.alloc b1.size _⟩


set_option maxRecDepth 10000 in
set_option maxHeartbeats 1000000 in
theorem sort_28 (a : Option Addr) (len cap : Nat) (x0 x1 x2 x3 x4 x5 x6 x7 x8 : Int) (w : World) (HA : Hid (∀ W, Below w.heap.size w W → Calls Tryz.prog 105 #[.agg #[.int .i64 28, .slice a len cap]] W fun e w' => e = .returned (.agg #[.int .i64 x0, .int .i64 x1, .int .i64 x2, .int .i64 x3, .int .i64 x4, .int .i64 x5, .int .i64 x6, .int .i64 x7, .int .i64 x8]) ∧ Below W.heap.size W w')) :
    Calls Tryz.prog 39 #[.agg #[.int .i64 28, .slice a len cap]] w fun e w' => e = .returned (.iface 153 (.agg #[.int .i64 x0, .int .i64 x1, .int .i64 x2, .int .i64 x3, .int .i64 x4, .int .i64 x5, .int .i64 x6, .int .i64 x7, .int .i64 x8])) ∧ Below w.heap.size w w' := by
  go_enter Tryz.func39, Tryz.ntmps39
  go_wp2_with fail
  refine (HA.out _ ((Below.refl _ _).alloc (Nat.le_refl _) _)).mono ?_
  rintro e w1 ⟨rfl, g1⟩
  have b1 : Below w.heap.size w w1 := ((Below.refl _ _).alloc (Nat.le_refl _) _).trans (g1.mono (by simp))
  have y0 : w1.cell? ⟨w.heap.size, 0, none⟩ = some (.int .i64 28) := by rw [g1.cell (by simp)]; exact (cell_of_row _ _ _ _ _ _ (heap_alloc_last w _)).trans rfl
  have l1 : w.heap.size < w1.heap.size := by have := g1.size; simp at this; omega
  have n1 : w.heap.size ≠ w1.heap.size := by omega
  clear g1
  go_wp2
  go_ret
  exact ⟨rfl, b1.alloc b1.size _⟩


set_option maxRecDepth 10000 in
set_option maxHeartbeats 1000000 in
theorem sort_29 (a : Option Addr) (len cap : Nat) (x0 x1 x2 x3 x4 x5 x6 x7 x8 : Int) (w : World) (HA : Hid (∀ W, Below w.heap.size w W → Calls Tryz.prog 105 #[.agg #[.int .i64 29, .slice a len cap]] W fun e w' => e = .returned (.agg #[.int .i64 x0, .int .i64 x1, .int .i64 x2, .int .i64 x3, .int .i64 x4, .int .i64 x5, .int .i64 x6, .int .i64 x7, .int .i64 x8]) ∧ Below W.heap.size W w')) :
    Calls Tryz.prog 39 #[.agg #[.int .i64 29, .slice a len cap]] w fun e w' => e = .returned (.iface 154 (.agg #[.int .i64 x0, .int .i64 x1, .int .i64 x2, .int .i64 x3, .int .i64 x4, .int .i64 x5, .int .i64 x6, .int .i64 x7, .int .i64 x8])) ∧ Below w.heap.size w w' := by
  go_enter Tryz.func39, Tryz.ntmps39
  go_wp2_with fail
  refine (HA.out _ ((Below.refl _ _).alloc (Nat.le_refl _) _)).mono ?_
  rintro e w1 ⟨rfl, g1⟩
  have b1 : Below w.heap.size w w1 := ((Below.refl _ _).alloc (Nat.le_refl _) _).trans (g1.mono (by simp))
  have y0 : w1.cell? ⟨w.heap.size, 0, none⟩ = some (.int .i64 29) := by rw [g1.cell (by simp)]; exact (cell_of_row _ _ _ _ _ _ (heap_alloc_last w _)).trans rfl
  have l1 : w.heap.size < w1.heap.size := by have := g1.size; simp at this; omega
  have n1 : w.heap.size ≠ w1.heap.size := by omega
  clear g1
  go_wp2
  go_ret
  exact ⟨rfl, b1.alloc b1.size _⟩


/-- A sort whose test is that of operands alone. -/
def Dull (T : TypeId) (u : Value) (x0 x1 x2 x3 x4 x5 x6 x7 x8 : Int) : Prop := ∀ W, (method 379 T (u) "loop.example/stile/impl.test").run Tryz.prog W = .ok (226, .agg #[.int .i64 x0, .int .i64 x1, .int .i64 x2, .int .i64 x3, .int .i64 x4, .int .i64 x5, .int .i64 x6, .int .i64 x7, .int .i64 x8]) W

theorem dull_21 (x0 x1 x2 x3 x4 x5 x6 x7 x8 : Int) : Dull 150 (.agg #[.int .i64 x0, .int .i64 x1, .int .i64 x2, .int .i64 x3, .int .i64 x4, .int .i64 x5, .int .i64 x6, .int .i64 x7, .int .i64 x8]) x0 x1 x2 x3 x4 x5 x6 x7 x8 := fun W => by kernel_rfl
theorem dull_24 (x0 x1 x2 x3 x4 x5 x6 x7 x8 : Int) : Dull 151 (.agg #[.int .i64 x0, .int .i64 x1, .int .i64 x2, .int .i64 x3, .int .i64 x4, .int .i64 x5, .int .i64 x6, .int .i64 x7, .int .i64 x8]) x0 x1 x2 x3 x4 x5 x6 x7 x8 := fun W => by kernel_rfl
theorem dull_26 (x0 x1 x2 x3 x4 x5 x6 x7 x8 : Int) : Dull 152 (.agg #[.int .i64 x0, .int .i64 x1, .int .i64 x2, .int .i64 x3, .int .i64 x4, .int .i64 x5, .int .i64 x6, .int .i64 x7, .int .i64 x8]) x0 x1 x2 x3 x4 x5 x6 x7 x8 := fun W => by kernel_rfl
theorem dull_28 (x0 x1 x2 x3 x4 x5 x6 x7 x8 : Int) : Dull 153 (.agg #[.int .i64 x0, .int .i64 x1, .int .i64 x2, .int .i64 x3, .int .i64 x4, .int .i64 x5, .int .i64 x6, .int .i64 x7, .int .i64 x8]) x0 x1 x2 x3 x4 x5 x6 x7 x8 := fun W => by kernel_rfl
theorem dull_29 (x0 x1 x2 x3 x4 x5 x6 x7 x8 : Int) : Dull 154 (.agg #[.int .i64 x0, .int .i64 x1, .int .i64 x2, .int .i64 x3, .int .i64 x4, .int .i64 x5, .int .i64 x6, .int .i64 x7, .int .i64 x8]) x0 x1 x2 x3 x4 x5 x6 x7 x8 := fun W => by kernel_rfl

theorem dull_22 (x0 x1 x2 x3 x4 x5 x6 x7 x8 : Int) : Dull 157 (.agg #[.iface 193 (.agg #[.int .i64 x0, .int .i64 x1, .int .i64 x2, .int .i64 x3, .int .i64 x4, .int .i64 x5, .int .i64 x6, .int .i64 x7, .int .i64 x8])]) x0 x1 x2 x3 x4 x5 x6 x7 x8 := fun W => by kernel_rfl
set_option maxRecDepth 10000 in
set_option maxHeartbeats 1000000 in
theorem driven_22 (x0 x1 x2 x3 x4 x5 x6 x7 x8 : Int) (w : World) : Calls Tryz.prog 106 #[.int .i64 22, .agg #[.int .i64 x0, .int .i64 x1, .int .i64 x2, .int .i64 x3, .int .i64 x4, .int .i64 x5, .int .i64 x6, .int .i64 x7, .int .i64 x8]] w fun e w' => e = .returned (.iface 193 (.agg #[.int .i64 x0, .int .i64 x1, .int .i64 x2, .int .i64 x3, .int .i64 x4, .int .i64 x5, .int .i64 x6, .int .i64 x7, .int .i64 x8])) ∧ Below w.heap.size w w' := by
  go_enter Tryz.func106, Tryz.ntmps106
  go_wp2
  go_ret
  exact ⟨rfl, (Below.refl _ _).alloc (Nat.le_refl _) _⟩


theorem dull_23 (x0 x1 x2 x3 x4 x5 x6 x7 x8 : Int) : Dull 157 (.agg #[.iface 194 (.agg #[.int .i64 x0, .int .i64 x1, .int .i64 x2, .int .i64 x3, .int .i64 x4, .int .i64 x5, .int .i64 x6, .int .i64 x7, .int .i64 x8])]) x0 x1 x2 x3 x4 x5 x6 x7 x8 := fun W => by kernel_rfl
set_option maxRecDepth 10000 in
set_option maxHeartbeats 1000000 in
theorem driven_23 (x0 x1 x2 x3 x4 x5 x6 x7 x8 : Int) (w : World) : Calls Tryz.prog 106 #[.int .i64 23, .agg #[.int .i64 x0, .int .i64 x1, .int .i64 x2, .int .i64 x3, .int .i64 x4, .int .i64 x5, .int .i64 x6, .int .i64 x7, .int .i64 x8]] w fun e w' => e = .returned (.iface 194 (.agg #[.int .i64 x0, .int .i64 x1, .int .i64 x2, .int .i64 x3, .int .i64 x4, .int .i64 x5, .int .i64 x6, .int .i64 x7, .int .i64 x8])) ∧ Below w.heap.size w w' := by
  go_enter Tryz.func106, Tryz.ntmps106
  go_wp2
  go_ret
  exact ⟨rfl, (Below.refl _ _).alloc (Nat.le_refl _) _⟩


theorem dull_25 (x0 x1 x2 x3 x4 x5 x6 x7 x8 : Int) : Dull 157 (.agg #[.iface 195 (.agg #[.int .i64 x0, .int .i64 x1, .int .i64 x2, .int .i64 x3, .int .i64 x4, .int .i64 x5, .int .i64 x6, .int .i64 x7, .int .i64 x8])]) x0 x1 x2 x3 x4 x5 x6 x7 x8 := fun W => by kernel_rfl
set_option maxRecDepth 10000 in
set_option maxHeartbeats 1000000 in
theorem driven_25 (x0 x1 x2 x3 x4 x5 x6 x7 x8 : Int) (w : World) : Calls Tryz.prog 106 #[.int .i64 25, .agg #[.int .i64 x0, .int .i64 x1, .int .i64 x2, .int .i64 x3, .int .i64 x4, .int .i64 x5, .int .i64 x6, .int .i64 x7, .int .i64 x8]] w fun e w' => e = .returned (.iface 195 (.agg #[.int .i64 x0, .int .i64 x1, .int .i64 x2, .int .i64 x3, .int .i64 x4, .int .i64 x5, .int .i64 x6, .int .i64 x7, .int .i64 x8])) ∧ Below w.heap.size w w' := by
  go_enter Tryz.func106, Tryz.ntmps106
  go_wp2
  go_ret
  exact ⟨rfl, (Below.refl _ _).alloc (Nat.le_refl _) _⟩


theorem dull_27 (x0 x1 x2 x3 x4 x5 x6 x7 x8 : Int) : Dull 157 (.agg #[.iface 152 (.agg #[.int .i64 x0, .int .i64 x1, .int .i64 x2, .int .i64 x3, .int .i64 x4, .int .i64 x5, .int .i64 x6, .int .i64 x7, .int .i64 x8])]) x0 x1 x2 x3 x4 x5 x6 x7 x8 := fun W => by kernel_rfl
set_option maxRecDepth 10000 in
set_option maxHeartbeats 1000000 in
theorem driven_27 (x0 x1 x2 x3 x4 x5 x6 x7 x8 : Int) (w : World) : Calls Tryz.prog 106 #[.int .i64 27, .agg #[.int .i64 x0, .int .i64 x1, .int .i64 x2, .int .i64 x3, .int .i64 x4, .int .i64 x5, .int .i64 x6, .int .i64 x7, .int .i64 x8]] w fun e w' => e = .returned (.iface 152 (.agg #[.int .i64 x0, .int .i64 x1, .int .i64 x2, .int .i64 x3, .int .i64 x4, .int .i64 x5, .int .i64 x6, .int .i64 x7, .int .i64 x8])) ∧ Below w.heap.size w w' := by
  go_enter Tryz.func106, Tryz.ntmps106
  go_wp2
  go_ret
  exact ⟨rfl, (Below.refl _ _).alloc (Nat.le_refl _) _⟩


theorem dull_30 (x0 x1 x2 x3 x4 x5 x6 x7 x8 : Int) : Dull 157 (.agg #[.iface 196 (.agg #[.int .i64 x0, .int .i64 x1, .int .i64 x2, .int .i64 x3, .int .i64 x4, .int .i64 x5, .int .i64 x6, .int .i64 x7, .int .i64 x8])]) x0 x1 x2 x3 x4 x5 x6 x7 x8 := fun W => by kernel_rfl
set_option maxRecDepth 10000 in
set_option maxHeartbeats 1000000 in
theorem driven_30 (x0 x1 x2 x3 x4 x5 x6 x7 x8 : Int) (w : World) : Calls Tryz.prog 106 #[.int .i64 30, .agg #[.int .i64 x0, .int .i64 x1, .int .i64 x2, .int .i64 x3, .int .i64 x4, .int .i64 x5, .int .i64 x6, .int .i64 x7, .int .i64 x8]] w fun e w' => e = .returned (.iface 196 (.agg #[.int .i64 x0, .int .i64 x1, .int .i64 x2, .int .i64 x3, .int .i64 x4, .int .i64 x5, .int .i64 x6, .int .i64 x7, .int .i64 x8])) ∧ Below w.heap.size w w' := by
  go_enter Tryz.func106, Tryz.ntmps106
  go_wp2
  go_ret
  exact ⟨rfl, (Below.refl _ _).alloc (Nat.le_refl _) _⟩


theorem dull_31 (x0 x1 x2 x3 x4 x5 x6 x7 x8 : Int) : Dull 157 (.agg #[.iface 197 (.agg #[.int .i64 x0, .int .i64 x1, .int .i64 x2, .int .i64 x3, .int .i64 x4, .int .i64 x5, .int .i64 x6, .int .i64 x7, .int .i64 x8, .int .i64 1])]) x0 x1 x2 x3 x4 x5 x6 x7 x8 := fun W => by kernel_rfl
set_option maxRecDepth 10000 in
set_option maxHeartbeats 1000000 in
theorem driven_31 (x0 x1 x2 x3 x4 x5 x6 x7 x8 : Int) (w : World) : Calls Tryz.prog 106 #[.int .i64 31, .agg #[.int .i64 x0, .int .i64 x1, .int .i64 x2, .int .i64 x3, .int .i64 x4, .int .i64 x5, .int .i64 x6, .int .i64 x7, .int .i64 x8]] w fun e w' => e = .returned (.iface 197 (.agg #[.int .i64 x0, .int .i64 x1, .int .i64 x2, .int .i64 x3, .int .i64 x4, .int .i64 x5, .int .i64 x6, .int .i64 x7, .int .i64 x8, .int .i64 1])) ∧ Below w.heap.size w w' := by
  go_enter Tryz.func106, Tryz.ntmps106
  go_wp2
  go_ret
  exact ⟨rfl, (Below.refl _ _).alloc (Nat.le_refl _) _⟩


theorem dull_32 (x0 x1 x2 x3 x4 x5 x6 x7 x8 : Int) : Dull 157 (.agg #[.iface 197 (.agg #[.int .i64 x0, .int .i64 x1, .int .i64 x2, .int .i64 x3, .int .i64 x4, .int .i64 x5, .int .i64 x6, .int .i64 x7, .int .i64 x8, .int .i64 2])]) x0 x1 x2 x3 x4 x5 x6 x7 x8 := fun W => by kernel_rfl
set_option maxRecDepth 10000 in
set_option maxHeartbeats 1000000 in
theorem driven_32 (x0 x1 x2 x3 x4 x5 x6 x7 x8 : Int) (w : World) : Calls Tryz.prog 106 #[.int .i64 32, .agg #[.int .i64 x0, .int .i64 x1, .int .i64 x2, .int .i64 x3, .int .i64 x4, .int .i64 x5, .int .i64 x6, .int .i64 x7, .int .i64 x8]] w fun e w' => e = .returned (.iface 197 (.agg #[.int .i64 x0, .int .i64 x1, .int .i64 x2, .int .i64 x3, .int .i64 x4, .int .i64 x5, .int .i64 x6, .int .i64 x7, .int .i64 x8, .int .i64 2])) ∧ Below w.heap.size w w' := by
  go_enter Tryz.func106, Tryz.ntmps106
  go_wp2
  go_ret
  exact ⟨rfl, (Below.refl _ _).alloc (Nat.le_refl _) _⟩


theorem dull_33 (x0 x1 x2 x3 x4 x5 x6 x7 x8 : Int) : Dull 157 (.agg #[.iface 197 (.agg #[.int .i64 x0, .int .i64 x1, .int .i64 x2, .int .i64 x3, .int .i64 x4, .int .i64 x5, .int .i64 x6, .int .i64 x7, .int .i64 x8, .int .i64 3])]) x0 x1 x2 x3 x4 x5 x6 x7 x8 := fun W => by kernel_rfl
set_option maxRecDepth 10000 in
set_option maxHeartbeats 1000000 in
theorem driven_33 (x0 x1 x2 x3 x4 x5 x6 x7 x8 : Int) (w : World) : Calls Tryz.prog 106 #[.int .i64 33, .agg #[.int .i64 x0, .int .i64 x1, .int .i64 x2, .int .i64 x3, .int .i64 x4, .int .i64 x5, .int .i64 x6, .int .i64 x7, .int .i64 x8]] w fun e w' => e = .returned (.iface 197 (.agg #[.int .i64 x0, .int .i64 x1, .int .i64 x2, .int .i64 x3, .int .i64 x4, .int .i64 x5, .int .i64 x6, .int .i64 x7, .int .i64 x8, .int .i64 3])) ∧ Below w.heap.size w w' := by
  go_enter Tryz.func106, Tryz.ntmps106
  go_wp2
  go_ret
  exact ⟨rfl, (Below.refl _ _).alloc (Nat.le_refl _) _⟩


theorem dull_34 (x0 x1 x2 x3 x4 x5 x6 x7 x8 : Int) : Dull 157 (.agg #[.iface 197 (.agg #[.int .i64 x0, .int .i64 x1, .int .i64 x2, .int .i64 x3, .int .i64 x4, .int .i64 x5, .int .i64 x6, .int .i64 x7, .int .i64 x8, .int .i64 4])]) x0 x1 x2 x3 x4 x5 x6 x7 x8 := fun W => by kernel_rfl
set_option maxRecDepth 10000 in
set_option maxHeartbeats 1000000 in
theorem driven_34 (x0 x1 x2 x3 x4 x5 x6 x7 x8 : Int) (w : World) : Calls Tryz.prog 106 #[.int .i64 34, .agg #[.int .i64 x0, .int .i64 x1, .int .i64 x2, .int .i64 x3, .int .i64 x4, .int .i64 x5, .int .i64 x6, .int .i64 x7, .int .i64 x8]] w fun e w' => e = .returned (.iface 197 (.agg #[.int .i64 x0, .int .i64 x1, .int .i64 x2, .int .i64 x3, .int .i64 x4, .int .i64 x5, .int .i64 x6, .int .i64 x7, .int .i64 x8, .int .i64 4])) ∧ Below w.heap.size w w' := by
  go_enter Tryz.func106, Tryz.ntmps106
  go_wp2
  go_ret
  exact ⟨rfl, (Below.refl _ _).alloc (Nat.le_refl _) _⟩


theorem dull_35 (x0 x1 x2 x3 x4 x5 x6 x7 x8 : Int) : Dull 157 (.agg #[.iface 197 (.agg #[.int .i64 x0, .int .i64 x1, .int .i64 x2, .int .i64 x3, .int .i64 x4, .int .i64 x5, .int .i64 x6, .int .i64 x7, .int .i64 x8, .int .i64 5])]) x0 x1 x2 x3 x4 x5 x6 x7 x8 := fun W => by kernel_rfl
set_option maxRecDepth 10000 in
set_option maxHeartbeats 1000000 in
theorem driven_35 (x0 x1 x2 x3 x4 x5 x6 x7 x8 : Int) (w : World) : Calls Tryz.prog 106 #[.int .i64 35, .agg #[.int .i64 x0, .int .i64 x1, .int .i64 x2, .int .i64 x3, .int .i64 x4, .int .i64 x5, .int .i64 x6, .int .i64 x7, .int .i64 x8]] w fun e w' => e = .returned (.iface 197 (.agg #[.int .i64 x0, .int .i64 x1, .int .i64 x2, .int .i64 x3, .int .i64 x4, .int .i64 x5, .int .i64 x6, .int .i64 x7, .int .i64 x8, .int .i64 5])) ∧ Below w.heap.size w w' := by
  go_enter Tryz.func106, Tryz.ntmps106
  go_wp2
  go_ret
  exact ⟨rfl, (Below.refl _ _).alloc (Nat.le_refl _) _⟩


theorem dull_36 (x0 x1 x2 x3 x4 x5 x6 x7 x8 : Int) : Dull 157 (.agg #[.iface 198 (.agg #[.int .i64 x0, .int .i64 x1, .int .i64 x2, .int .i64 x3, .int .i64 x4, .int .i64 x5, .int .i64 x6, .int .i64 x7, .int .i64 x8])]) x0 x1 x2 x3 x4 x5 x6 x7 x8 := fun W => by kernel_rfl
set_option maxRecDepth 10000 in
set_option maxHeartbeats 1000000 in
theorem driven_36 (x0 x1 x2 x3 x4 x5 x6 x7 x8 : Int) (w : World) : Calls Tryz.prog 106 #[.int .i64 36, .agg #[.int .i64 x0, .int .i64 x1, .int .i64 x2, .int .i64 x3, .int .i64 x4, .int .i64 x5, .int .i64 x6, .int .i64 x7, .int .i64 x8]] w fun e w' => e = .returned (.iface 198 (.agg #[.int .i64 x0, .int .i64 x1, .int .i64 x2, .int .i64 x3, .int .i64 x4, .int .i64 x5, .int .i64 x6, .int .i64 x7, .int .i64 x8])) ∧ Below w.heap.size w w' := by
  go_enter Tryz.func106, Tryz.ntmps106
  go_wp2
  go_ret
  exact ⟨rfl, (Below.refl _ _).alloc (Nat.le_refl _) _⟩


theorem dull_37 (x0 x1 x2 x3 x4 x5 x6 x7 x8 : Int) : Dull 157 (.agg #[.iface 199 (.agg #[.int .i64 x0, .int .i64 x1, .int .i64 x2, .int .i64 x3, .int .i64 x4, .int .i64 x5, .int .i64 x6, .int .i64 x7, .int .i64 x8])]) x0 x1 x2 x3 x4 x5 x6 x7 x8 := fun W => by kernel_rfl
set_option maxRecDepth 10000 in
set_option maxHeartbeats 1000000 in
theorem driven_37 (x0 x1 x2 x3 x4 x5 x6 x7 x8 : Int) (w : World) : Calls Tryz.prog 106 #[.int .i64 37, .agg #[.int .i64 x0, .int .i64 x1, .int .i64 x2, .int .i64 x3, .int .i64 x4, .int .i64 x5, .int .i64 x6, .int .i64 x7, .int .i64 x8]] w fun e w' => e = .returned (.iface 199 (.agg #[.int .i64 x0, .int .i64 x1, .int .i64 x2, .int .i64 x3, .int .i64 x4, .int .i64 x5, .int .i64 x6, .int .i64 x7, .int .i64 x8])) ∧ Below w.heap.size w w' := by
  go_enter Tryz.func106, Tryz.ntmps106
  go_wp2
  go_ret
  exact ⟨rfl, (Below.refl _ _).alloc (Nat.le_refl _) _⟩


theorem dull_other (x0 x1 x2 x3 x4 x5 x6 x7 x8 : Int) : Dull 157 (.agg #[.iface 142 (.agg #[.int .i64 x0, .int .i64 x1, .int .i64 x2, .int .i64 x3, .int .i64 x4, .int .i64 x5, .int .i64 x6, .int .i64 x7, .int .i64 x8])]) x0 x1 x2 x3 x4 x5 x6 x7 x8 := fun W => by kernel_rfl
set_option maxRecDepth 10000 in
set_option maxHeartbeats 1000000 in
theorem driven_other (op : Int) (x0 x1 x2 x3 x4 x5 x6 x7 x8 : Int) (w : World) (h : op ≠ 22 ∧ op ≠ 23 ∧ op ≠ 25 ∧ op ≠ 27 ∧ op ≠ 30 ∧ op ≠ 31 ∧ op ≠ 32 ∧ op ≠ 33 ∧ op ≠ 34 ∧ op ≠ 35 ∧ op ≠ 36 ∧ op ≠ 37) : Calls Tryz.prog 106 #[.int .i64 op, .agg #[.int .i64 x0, .int .i64 x1, .int .i64 x2, .int .i64 x3, .int .i64 x4, .int .i64 x5, .int .i64 x6, .int .i64 x7, .int .i64 x8]] w fun e w' => e = .returned (.iface 142 (.agg #[.int .i64 x0, .int .i64 x1, .int .i64 x2, .int .i64 x3, .int .i64 x4, .int .i64 x5, .int .i64 x6, .int .i64 x7, .int .i64 x8])) ∧ Below w.heap.size w w' := by
  have e22 : (op == 22) = false := by simp; omega
  have e23 : (op == 23) = false := by simp; omega
  have e25 : (op == 25) = false := by simp; omega
  have e27 : (op == 27) = false := by simp; omega
  have e30 : (op == 30) = false := by simp; omega
  have e31 : (op == 31) = false := by simp; omega
  have e32 : (op == 32) = false := by simp; omega
  have e33 : (op == 33) = false := by simp; omega
  have e34 : (op == 34) = false := by simp; omega
  have e35 : (op == 35) = false := by simp; omega
  have e36 : (op == 36) = false := by simp; omega
  have e37 : (op == 37) = false := by simp; omega
  clear h
  go_enter Tryz.func106, Tryz.ntmps106
  go_wp2
  go_ret
  exact ⟨rfl, (Below.refl _ _).alloc (Nat.le_refl _) _⟩

theorem driven_all (op : Int) (x0 x1 x2 x3 x4 x5 x6 x7 x8 : Int) : ∃ T u, Dull 157 (.agg #[.iface T u]) x0 x1 x2 x3 x4 x5 x6 x7 x8 ∧ ∀ w, Calls Tryz.prog 106 #[.int .i64 op, .agg #[.int .i64 x0, .int .i64 x1, .int .i64 x2, .int .i64 x3, .int .i64 x4, .int .i64 x5, .int .i64 x6, .int .i64 x7, .int .i64 x8]] w fun e w' => e = .returned (.iface T u) ∧ Below w.heap.size w w' := by

  by_cases h22 : op = 22
  · subst h22; exact ⟨_, _, dull_22 x0 x1 x2 x3 x4 x5 x6 x7 x8, fun w => driven_22 x0 x1 x2 x3 x4 x5 x6 x7 x8 w⟩
  by_cases h23 : op = 23
  · subst h23; exact ⟨_, _, dull_23 x0 x1 x2 x3 x4 x5 x6 x7 x8, fun w => driven_23 x0 x1 x2 x3 x4 x5 x6 x7 x8 w⟩
  by_cases h25 : op = 25
  · subst h25; exact ⟨_, _, dull_25 x0 x1 x2 x3 x4 x5 x6 x7 x8, fun w => driven_25 x0 x1 x2 x3 x4 x5 x6 x7 x8 w⟩
  by_cases h27 : op = 27
  · subst h27; exact ⟨_, _, dull_27 x0 x1 x2 x3 x4 x5 x6 x7 x8, fun w => driven_27 x0 x1 x2 x3 x4 x5 x6 x7 x8 w⟩
  by_cases h30 : op = 30
  · subst h30; exact ⟨_, _, dull_30 x0 x1 x2 x3 x4 x5 x6 x7 x8, fun w => driven_30 x0 x1 x2 x3 x4 x5 x6 x7 x8 w⟩
  by_cases h31 : op = 31
  · subst h31; exact ⟨_, _, dull_31 x0 x1 x2 x3 x4 x5 x6 x7 x8, fun w => driven_31 x0 x1 x2 x3 x4 x5 x6 x7 x8 w⟩
  by_cases h32 : op = 32
  · subst h32; exact ⟨_, _, dull_32 x0 x1 x2 x3 x4 x5 x6 x7 x8, fun w => driven_32 x0 x1 x2 x3 x4 x5 x6 x7 x8 w⟩
  by_cases h33 : op = 33
  · subst h33; exact ⟨_, _, dull_33 x0 x1 x2 x3 x4 x5 x6 x7 x8, fun w => driven_33 x0 x1 x2 x3 x4 x5 x6 x7 x8 w⟩
  by_cases h34 : op = 34
  · subst h34; exact ⟨_, _, dull_34 x0 x1 x2 x3 x4 x5 x6 x7 x8, fun w => driven_34 x0 x1 x2 x3 x4 x5 x6 x7 x8 w⟩
  by_cases h35 : op = 35
  · subst h35; exact ⟨_, _, dull_35 x0 x1 x2 x3 x4 x5 x6 x7 x8, fun w => driven_35 x0 x1 x2 x3 x4 x5 x6 x7 x8 w⟩
  by_cases h36 : op = 36
  · subst h36; exact ⟨_, _, dull_36 x0 x1 x2 x3 x4 x5 x6 x7 x8, fun w => driven_36 x0 x1 x2 x3 x4 x5 x6 x7 x8 w⟩
  by_cases h37 : op = 37
  · subst h37; exact ⟨_, _, dull_37 x0 x1 x2 x3 x4 x5 x6 x7 x8, fun w => driven_37 x0 x1 x2 x3 x4 x5 x6 x7 x8 w⟩
  exact ⟨_, _, dull_other x0 x1 x2 x3 x4 x5 x6 x7 x8, fun w => driven_other op x0 x1 x2 x3 x4 x5 x6 x7 x8 w ⟨h22, h23, h25, h27, h30, h31, h32, h33, h34, h35, h36, h37⟩⟩


set_option maxRecDepth 10000 in
set_option maxHeartbeats 1000000 in
theorem sort_driven (op : Int) (a : Option Addr) (len cap : Nat) (x0 x1 x2 x3 x4 x5 x6 x7 x8 : Int) (T : TypeId) (u : Value) (w : World) (HA : Hid (∀ W, Below w.heap.size w W → Calls Tryz.prog 105 #[.agg #[.int .i64 op, .slice a len cap]] W fun e w' => e = .returned (.agg #[.int .i64 x0, .int .i64 x1, .int .i64 x2, .int .i64 x3, .int .i64 x4, .int .i64 x5, .int .i64 x6, .int .i64 x7, .int .i64 x8]) ∧ Below W.heap.size W w')) (h : op ≠ 1 ∧ op ≠ 2 ∧ op ≠ 3 ∧ op ≠ 4 ∧ op ≠ 5 ∧ op ≠ 6 ∧ op ≠ 7 ∧ op ≠ 8 ∧ op ≠ 9 ∧ op ≠ 10 ∧ op ≠ 21 ∧ op ≠ 24 ∧ op ≠ 26 ∧ op ≠ 28 ∧ op ≠ 29)
    (HD : Hid (∀ w, Calls Tryz.prog 106 #[.int .i64 op, .agg #[.int .i64 x0, .int .i64 x1, .int .i64 x2, .int .i64 x3, .int .i64 x4, .int .i64 x5, .int .i64 x6, .int .i64 x7, .int .i64 x8]] w fun e w' => e = .returned (.iface T u) ∧ Below w.heap.size w w')) :
    Calls Tryz.prog 39 #[.agg #[.int .i64 op, .slice a len cap]] w fun e w' => e = .returned (.iface 157 (.agg #[.iface T u])) ∧ Below w.heap.size w w' := by
  have e1 : (op == 1) = false := by simp; omega
  have e2 : (op == 2) = false := by simp; omega
  have e3 : (op == 3) = false := by simp; omega
  have e4 : (op == 4) = false := by simp; omega
  have e5 : (op == 5) = false := by simp; omega
  have e6 : (op == 6) = false := by simp; omega
  have e7 : (op == 7) = false := by simp; omega
  have e8 : (op == 8) = false := by simp; omega
  have e9 : (op == 9) = false := by simp; omega
  have e10 : (op == 10) = false := by simp; omega
  have e21 : (op == 21) = false := by simp; omega
  have e24 : (op == 24) = false := by simp; omega
  have e26 : (op == 26) = false := by simp; omega
  have e28 : (op == 28) = false := by simp; omega
  have e29 : (op == 29) = false := by simp; omega
  clear h
  go_enter Tryz.func39, Tryz.ntmps39
  go_wp2_with fail
  refine (HA.out _ ((Below.refl _ _).alloc (Nat.le_refl _) _)).mono ?_
  rintro e w1 ⟨rfl, g1⟩
  have b1 : Below w.heap.size w w1 := ((Below.refl _ _).alloc (Nat.le_refl _) _).trans (g1.mono (by simp))
  have y0 : w1.cell? ⟨w.heap.size, 0, none⟩ = some (.int .i64 op) := by rw [g1.cell (by simp)]; exact (cell_of_row _ _ _ _ _ _ (heap_alloc_last w _)).trans rfl
  have l1 : w.heap.size < w1.heap.size := by have := g1.size; simp at this; omega
  have n1 : w.heap.size ≠ w1.heap.size := by omega
  clear g1
  go_wp2_with fail
  refine (HD.out _).mono ?_
  rintro e w2 ⟨rfl, g2⟩
  have b2 : Below w.heap.size w w2 := (b1.alloc b1.size _).trans (g2.mono (by have := b1.size; simp; omega))
  clear g2 b1
  go_wp2
  go_ret
  exact ⟨rfl, b2⟩
end Go.Proofs.YtjnddfpieogpiaaGreatDoor
