/- Walks of the laws that hold the program's answer against the specification's, over both contracts. -/
import Derived.Test.YtlpeianinlnbeaaW
namespace Go.Proofs.Ytlpeianinlnbeaa
open Go.RowKit
set_option linter.unusedVariables false

set_option maxHeartbeats 400000 in
theorem eq_16 (V M : Int) (w : World) :
    Calls Try.prog 46 #[.agg #[.int .u16 V, .int .i64 M], .agg #[.int .u16 V, .int .i64 M]] w fun e w' => e = .returned (.bool true) ∧ Below w.heap.size w w' := by
  go_enter Try.func46, Try.ntmps46
  go_wp2
  go_ret
  exact ⟨rfl, by go_grown⟩

set_option maxHeartbeats 1000000 in
theorem law9 (b n : Int) (x : Bool) (V M : Int) (w : World)
    (hs : Hid (∀ W : World, Calls Try.prog 45 #[.agg #[.int .u16 b, .int .i64 n], .bool x] W fun e w' => e = .returned (.agg #[.int .u16 V, .int .i64 M]) ∧ Below W.heap.size W w'))
    (hi : Hid (∀ W : World, Calls Try.prog 24 #[.agg #[.int .u16 b, .int .i64 n], .bool x] W fun e w' => e = .returned (.agg #[.int .u16 V, .int .i64 M]) ∧ Below W.heap.size W w')) :
    Calls Try.prog 9 #[.agg #[.int .u16 b, .int .i64 n], .bool x] w fun e w' => e = .returned (.bool true) ∧ Below w.heap.size w w' := by
  go_enter Try.func9, Try.ntmps9
  go_wp2_with fail
  refine (to_stack b n _).mono ?_
  rintro e w1 ⟨rfl, g1⟩
  have a0 : w1.cell? ⟨w.heap.size, 0, none⟩ = some (.int .u16 b) := cell_later g1 (by simp)
  have a1 : w1.cell? ⟨w.heap.size, 1, none⟩ = some (.int .i64 n) := cell_later g1 (by simp)
  have z1 : w.heap.size + 1 ≤ w1.heap.size := by have := g1.size; simpa using this
  have b1 : Below w.heap.size w w1 := ((Below.refl _ _).alloc (Nat.le_refl _) _).trans (g1.mono (by simp))
  clear g1
  go_wp2_with fail
  refine (hs.out _).mono ?_
  rintro e w2 ⟨rfl, g2⟩
  have c0 := cell_later g2 a0
  have c1 := cell_later g2 a1
  have b2 : Below w.heap.size w w2 := b1.trans (g2.mono (by omega))
  have z2 : w.heap.size + 1 ≤ w2.heap.size := by have := g2.size; omega
  have n2 : w.heap.size < w2.heap.size := by omega
  have k0 : ∀ o : Obj, (w2.alloc o).cell? ⟨w.heap.size, 0, none⟩ = some (.int .u16 b) := fun o => (World.cell?_alloc_past _ _ _ n2).trans c0
  have k1 : ∀ o : Obj, (w2.alloc o).cell? ⟨w.heap.size, 1, none⟩ = some (.int .i64 n) := fun o => (World.cell?_alloc_past _ _ _ n2).trans c1
  clear g2 a0 a1 b1 z1
  go_wp2_with fail
  refine (to_stack b n _).mono ?_
  rintro e w3 ⟨rfl, g3⟩
  have d0 : w3.cell? ⟨w2.heap.size, 0, none⟩ = some (.int .u16 V) := cell_later g3 (by simp)
  have d1 : w3.cell? ⟨w2.heap.size, 1, none⟩ = some (.int .i64 M) := cell_later g3 (by simp)
  have b3 : Below w.heap.size w w3 := (b2.alloc (by omega) _).trans (g3.mono (by simp; omega))
  have z3 : w.heap.size + 1 ≤ w3.heap.size := by have := g3.size; simp at this; omega
  clear g3 b2 c0 c1 k0 k1
  go_wp2_with fail
  refine (hi.out _).mono ?_
  rintro e w4 ⟨rfl, g4⟩
  have e0 := cell_later g4 d0
  have e1 := cell_later g4 d1
  have b4 : Below w.heap.size w w4 := b3.trans (g4.mono (by omega))
  have z4 : w.heap.size + 1 ≤ w4.heap.size := by have := g4.size; omega
  have n4 : w2.heap.size < w4.heap.size := World.block_lt_of_cell? _ _ e0
  have h0 : ∀ o : Obj, (w4.alloc o).cell? ⟨w2.heap.size, 0, none⟩ = some (.int .u16 V) := fun o => (World.cell?_alloc_past _ _ _ n4).trans e0
  have h1 : ∀ o : Obj, (w4.alloc o).cell? ⟨w2.heap.size, 1, none⟩ = some (.int .i64 M) := fun o => (World.cell?_alloc_past _ _ _ n4).trans e1
  clear g4 b3 d0 d1 z3
  go_wp2_with fail
  refine (eq_16 V M _).mono ?_
  rintro e w5 ⟨rfl, g5⟩
  have b5 : Below w.heap.size w w5 := (b4.alloc (by omega) _).trans (g5.mono (by simp; omega))
  clear g5 b4
  go_wp2
  go_ret
  exact ⟨rfl, b5⟩

set_option maxHeartbeats 1000000 in
theorem law10 (b n : Int) (V M : Int) (r : Bool) (w : World)
    (hs : Hid (∀ W : World, Calls Try.prog 47 #[.agg #[.int .u16 b, .int .i64 n]] W fun e w' => e = .returned (.tuple #[.agg #[.int .u16 V, .int .i64 M], .bool r]) ∧ Below W.heap.size W w'))
    (hi : Hid (∀ W : World, Calls Try.prog 25 #[.agg #[.int .u16 b, .int .i64 n]] W fun e w' => e = .returned (.tuple #[.agg #[.int .u16 V, .int .i64 M], .bool r]) ∧ Below W.heap.size W w')) :
    Calls Try.prog 10 #[.agg #[.int .u16 b, .int .i64 n]] w fun e w' => e = .returned (.bool true) ∧ Below w.heap.size w w' := by
  go_enter Try.func10, Try.ntmps10
  go_wp2_with fail
  refine (to_stack b n _).mono ?_
  rintro e w1 ⟨rfl, g1⟩
  have a0 : w1.cell? ⟨w.heap.size, 0, none⟩ = some (.int .u16 b) := cell_later g1 (by simp)
  have a1 : w1.cell? ⟨w.heap.size, 1, none⟩ = some (.int .i64 n) := cell_later g1 (by simp)
  have z1 : w.heap.size + 1 ≤ w1.heap.size := by have := g1.size; simpa using this
  have b1 : Below w.heap.size w w1 := ((Below.refl _ _).alloc (Nat.le_refl _) _).trans (g1.mono (by simp))
  clear g1
  go_wp2_with fail
  refine (hs.out _).mono ?_
  rintro e w2 ⟨rfl, g2⟩
  have c0 := cell_later g2 a0
  have c1 := cell_later g2 a1
  have b2 : Below w.heap.size w w2 := b1.trans (g2.mono (by omega))
  have z2 : w.heap.size + 1 ≤ w2.heap.size := by have := g2.size; omega
  have n2 : w.heap.size < w2.heap.size := by omega
  have k0 : ∀ o : Obj, (w2.alloc o).cell? ⟨w.heap.size, 0, none⟩ = some (.int .u16 b) := fun o => (World.cell?_alloc_past _ _ _ n2).trans c0
  have k1 : ∀ o : Obj, (w2.alloc o).cell? ⟨w.heap.size, 1, none⟩ = some (.int .i64 n) := fun o => (World.cell?_alloc_past _ _ _ n2).trans c1
  clear g2 a0 a1 b1 z1
  go_wp2_with fail
  refine (to_stack b n _).mono ?_
  rintro e w3 ⟨rfl, g3⟩
  have d0 : w3.cell? ⟨w2.heap.size, 0, none⟩ = some (.int .u16 V) := cell_later g3 (by simp)
  have d1 : w3.cell? ⟨w2.heap.size, 1, none⟩ = some (.int .i64 M) := cell_later g3 (by simp)
  have b3 : Below w.heap.size w w3 := (b2.alloc (by omega) _).trans (g3.mono (by simp; omega))
  have z3 : w.heap.size + 1 ≤ w3.heap.size := by have := g3.size; simp at this; omega
  clear g3 b2 c0 c1 k0 k1
  go_wp2_with fail
  refine (hi.out _).mono ?_
  rintro e w4 ⟨rfl, g4⟩
  have e0 := cell_later g4 d0
  have e1 := cell_later g4 d1
  have b4 : Below w.heap.size w w4 := b3.trans (g4.mono (by omega))
  have z4 : w.heap.size + 1 ≤ w4.heap.size := by have := g4.size; omega
  have n4 : w2.heap.size < w4.heap.size := World.block_lt_of_cell? _ _ e0
  have h0 : ∀ o : Obj, (w4.alloc o).cell? ⟨w2.heap.size, 0, none⟩ = some (.int .u16 V) := fun o => (World.cell?_alloc_past _ _ _ n4).trans e0
  have h1 : ∀ o : Obj, (w4.alloc o).cell? ⟨w2.heap.size, 1, none⟩ = some (.int .i64 M) := fun o => (World.cell?_alloc_past _ _ _ n4).trans e1
  clear g4 b3 d0 d1 z3
  go_wp2_with fail
  refine (eq_16 V M _).mono ?_
  rintro e w5 ⟨rfl, g5⟩
  have b5 : Below w.heap.size w w5 := (b4.alloc (by omega) _).trans (g5.mono (by simp; omega))
  clear g5 b4
  go_wp2
  go_ret
  exact ⟨rfl, b5⟩

set_option maxHeartbeats 1000000 in
theorem law11 (b n : Int) (r : Bool) (w : World)
    (hs : Hid (∀ W : World, Calls Try.prog 48 #[.agg #[.int .u16 b, .int .i64 n]] W fun e w' => e = .returned (.bool r) ∧ Below W.heap.size W w'))
    (hi : Hid (∀ W : World, Calls Try.prog 29 #[.agg #[.int .u16 b, .int .i64 n]] W fun e w' => e = .returned (.bool r) ∧ Below W.heap.size W w')) :
    Calls Try.prog 11 #[.agg #[.int .u16 b, .int .i64 n]] w fun e w' => e = .returned (.bool true) ∧ Below w.heap.size w w' := by
  go_enter Try.func11, Try.ntmps11
  go_wp2_with fail
  refine (to_stack b n _).mono ?_
  rintro e w1 ⟨rfl, g1⟩
  have a0 : w1.cell? ⟨w.heap.size, 0, none⟩ = some (.int .u16 b) := cell_later g1 (by simp)
  have a1 : w1.cell? ⟨w.heap.size, 1, none⟩ = some (.int .i64 n) := cell_later g1 (by simp)
  have z1 : w.heap.size + 1 ≤ w1.heap.size := by have := g1.size; simpa using this
  have b1 : Below w.heap.size w w1 := ((Below.refl _ _).alloc (Nat.le_refl _) _).trans (g1.mono (by simp))
  clear g1
  go_wp2_with fail
  refine (hs.out _).mono ?_
  rintro e w2 ⟨rfl, g2⟩
  have c0 := cell_later g2 a0
  have c1 := cell_later g2 a1
  have b2 : Below w.heap.size w w2 := b1.trans (g2.mono (by omega))
  have z2 : w.heap.size + 1 ≤ w2.heap.size := by have := g2.size; omega
  have n2 : w.heap.size < w2.heap.size := by omega
  have k0 : ∀ o : Obj, (w2.alloc o).cell? ⟨w.heap.size, 0, none⟩ = some (.int .u16 b) := fun o => (World.cell?_alloc_past _ _ _ n2).trans c0
  have k1 : ∀ o : Obj, (w2.alloc o).cell? ⟨w.heap.size, 1, none⟩ = some (.int .i64 n) := fun o => (World.cell?_alloc_past _ _ _ n2).trans c1
  clear g2 a0 a1 b1 z1
  go_wp2_with fail
  refine (to_stack b n _).mono ?_
  rintro e w3 ⟨rfl, g3⟩
  have b3 : Below w.heap.size w w3 := b2.trans (g3.mono (by omega))
  have z3 : w.heap.size + 1 ≤ w3.heap.size := by have := g3.size; omega
  clear g3 b2 c0 c1 k0 k1
  go_wp2_with fail
  refine (hi.out _).mono ?_
  rintro e w4 ⟨rfl, g4⟩
  have b4 : Below w.heap.size w w4 := b3.trans (g4.mono (by omega))
  clear g4 b3
  go_wp2
  go_ret
  exact ⟨rfl, b4⟩

set_option maxHeartbeats 1000000 in
theorem law12 (b n : Int) (x : Bool) (V M : Int) (w : World)
    (hs : Hid (∀ W : World, Calls Try.prog 49 #[.agg #[.int .u16 b, .int .i64 n], .bool x] W fun e w' => e = .returned (.agg #[.int .u16 V, .int .i64 M]) ∧ Below W.heap.size W w'))
    (hi : Hid (∀ W : World, Calls Try.prog 40 #[.agg #[.int .u16 b, .int .i64 n], .bool x] W fun e w' => e = .returned (.agg #[.int .u16 V, .int .i64 M]) ∧ Below W.heap.size W w')) :
    Calls Try.prog 12 #[.agg #[.int .u16 b, .int .i64 n], .bool x] w fun e w' => e = .returned (.bool true) ∧ Below w.heap.size w w' := by
  go_enter Try.func12, Try.ntmps12
  go_wp2_with fail
  refine (to_stack b n _).mono ?_
  rintro e w1 ⟨rfl, g1⟩
  have a0 : w1.cell? ⟨w.heap.size, 0, none⟩ = some (.int .u16 b) := cell_later g1 (by simp)
  have a1 : w1.cell? ⟨w.heap.size, 1, none⟩ = some (.int .i64 n) := cell_later g1 (by simp)
  have z1 : w.heap.size + 1 ≤ w1.heap.size := by have := g1.size; simpa using this
  have b1 : Below w.heap.size w w1 := ((Below.refl _ _).alloc (Nat.le_refl _) _).trans (g1.mono (by simp))
  clear g1
  go_wp2_with fail
  refine (hs.out _).mono ?_
  rintro e w2 ⟨rfl, g2⟩
  have c0 := cell_later g2 a0
  have c1 := cell_later g2 a1
  have b2 : Below w.heap.size w w2 := b1.trans (g2.mono (by omega))
  have z2 : w.heap.size + 1 ≤ w2.heap.size := by have := g2.size; omega
  have n2 : w.heap.size < w2.heap.size := by omega
  have k0 : ∀ o : Obj, (w2.alloc o).cell? ⟨w.heap.size, 0, none⟩ = some (.int .u16 b) := fun o => (World.cell?_alloc_past _ _ _ n2).trans c0
  have k1 : ∀ o : Obj, (w2.alloc o).cell? ⟨w.heap.size, 1, none⟩ = some (.int .i64 n) := fun o => (World.cell?_alloc_past _ _ _ n2).trans c1
  clear g2 a0 a1 b1 z1
  go_wp2_with fail
  refine (to_stack b n _).mono ?_
  rintro e w3 ⟨rfl, g3⟩
  have d0 : w3.cell? ⟨w2.heap.size, 0, none⟩ = some (.int .u16 V) := cell_later g3 (by simp)
  have d1 : w3.cell? ⟨w2.heap.size, 1, none⟩ = some (.int .i64 M) := cell_later g3 (by simp)
  have b3 : Below w.heap.size w w3 := (b2.alloc (by omega) _).trans (g3.mono (by simp; omega))
  have z3 : w.heap.size + 1 ≤ w3.heap.size := by have := g3.size; simp at this; omega
  clear g3 b2 c0 c1 k0 k1
  go_wp2_with fail
  refine (hi.out _).mono ?_
  rintro e w4 ⟨rfl, g4⟩
  have e0 := cell_later g4 d0
  have e1 := cell_later g4 d1
  have b4 : Below w.heap.size w w4 := b3.trans (g4.mono (by omega))
  have z4 : w.heap.size + 1 ≤ w4.heap.size := by have := g4.size; omega
  have n4 : w2.heap.size < w4.heap.size := World.block_lt_of_cell? _ _ e0
  have h0 : ∀ o : Obj, (w4.alloc o).cell? ⟨w2.heap.size, 0, none⟩ = some (.int .u16 V) := fun o => (World.cell?_alloc_past _ _ _ n4).trans e0
  have h1 : ∀ o : Obj, (w4.alloc o).cell? ⟨w2.heap.size, 1, none⟩ = some (.int .i64 M) := fun o => (World.cell?_alloc_past _ _ _ n4).trans e1
  clear g4 b3 d0 d1 z3
  go_wp2_with fail
  refine (eq_16 V M _).mono ?_
  rintro e w5 ⟨rfl, g5⟩
  have b5 : Below w.heap.size w w5 := (b4.alloc (by omega) _).trans (g5.mono (by simp; omega))
  clear g5 b4
  go_wp2
  go_ret
  exact ⟨rfl, b5⟩

set_option maxHeartbeats 400000 in
theorem eq_8 (V M : Int) (w : World) :
    Calls Try.prog 54 #[.agg #[.int .u8 V, .int .i64 M], .agg #[.int .u8 V, .int .i64 M]] w fun e w' => e = .returned (.bool true) ∧ Below w.heap.size w w' := by
  go_enter Try.func54, Try.ntmps54
  go_wp2
  go_ret
  exact ⟨rfl, by go_grown⟩

set_option maxHeartbeats 1000000 in
theorem law17 (b n : Int) (x : Bool) (V M : Int) (w : World)
    (hs : Hid (∀ W : World, Calls Try.prog 42 #[.agg #[.int .u8 b, .int .i64 n], .bool x] W fun e w' => e = .returned (.agg #[.int .u8 V, .int .i64 M]) ∧ Below W.heap.size W w'))
    (hi : Hid (∀ W : World, Calls Try.prog 28 #[.agg #[.int .u8 b, .int .i64 n], .bool x] W fun e w' => e = .returned (.agg #[.int .u8 V, .int .i64 M]) ∧ Below W.heap.size W w')) :
    Calls Try.prog 17 #[.agg #[.int .u8 b, .int .i64 n], .bool x] w fun e w' => e = .returned (.bool true) ∧ Below w.heap.size w w' := by
  go_enter Try.func17, Try.ntmps17
  go_wp2_with fail
  refine (to_fork b n _).mono ?_
  rintro e w1 ⟨rfl, g1⟩
  have a0 : w1.cell? ⟨w.heap.size, 0, none⟩ = some (.int .u8 b) := cell_later g1 (by simp)
  have a1 : w1.cell? ⟨w.heap.size, 1, none⟩ = some (.int .i64 n) := cell_later g1 (by simp)
  have z1 : w.heap.size + 1 ≤ w1.heap.size := by have := g1.size; simpa using this
  have b1 : Below w.heap.size w w1 := ((Below.refl _ _).alloc (Nat.le_refl _) _).trans (g1.mono (by simp))
  clear g1
  go_wp2_with fail
  refine (hs.out _).mono ?_
  rintro e w2 ⟨rfl, g2⟩
  have c0 := cell_later g2 a0
  have c1 := cell_later g2 a1
  have b2 : Below w.heap.size w w2 := b1.trans (g2.mono (by omega))
  have z2 : w.heap.size + 1 ≤ w2.heap.size := by have := g2.size; omega
  have n2 : w.heap.size < w2.heap.size := by omega
  have k0 : ∀ o : Obj, (w2.alloc o).cell? ⟨w.heap.size, 0, none⟩ = some (.int .u8 b) := fun o => (World.cell?_alloc_past _ _ _ n2).trans c0
  have k1 : ∀ o : Obj, (w2.alloc o).cell? ⟨w.heap.size, 1, none⟩ = some (.int .i64 n) := fun o => (World.cell?_alloc_past _ _ _ n2).trans c1
  clear g2 a0 a1 b1 z1
  go_wp2_with fail
  refine (to_fork b n _).mono ?_
  rintro e w3 ⟨rfl, g3⟩
  have d0 : w3.cell? ⟨w2.heap.size, 0, none⟩ = some (.int .u8 V) := cell_later g3 (by simp)
  have d1 : w3.cell? ⟨w2.heap.size, 1, none⟩ = some (.int .i64 M) := cell_later g3 (by simp)
  have b3 : Below w.heap.size w w3 := (b2.alloc (by omega) _).trans (g3.mono (by simp; omega))
  have z3 : w.heap.size + 1 ≤ w3.heap.size := by have := g3.size; simp at this; omega
  clear g3 b2 c0 c1 k0 k1
  go_wp2_with fail
  refine (hi.out _).mono ?_
  rintro e w4 ⟨rfl, g4⟩
  have e0 := cell_later g4 d0
  have e1 := cell_later g4 d1
  have b4 : Below w.heap.size w w4 := b3.trans (g4.mono (by omega))
  have z4 : w.heap.size + 1 ≤ w4.heap.size := by have := g4.size; omega
  have n4 : w2.heap.size < w4.heap.size := World.block_lt_of_cell? _ _ e0
  have h0 : ∀ o : Obj, (w4.alloc o).cell? ⟨w2.heap.size, 0, none⟩ = some (.int .u8 V) := fun o => (World.cell?_alloc_past _ _ _ n4).trans e0
  have h1 : ∀ o : Obj, (w4.alloc o).cell? ⟨w2.heap.size, 1, none⟩ = some (.int .i64 M) := fun o => (World.cell?_alloc_past _ _ _ n4).trans e1
  clear g4 b3 d0 d1 z3
  go_wp2_with fail
  refine (eq_8 V M _).mono ?_
  rintro e w5 ⟨rfl, g5⟩
  have b5 : Below w.heap.size w w5 := (b4.alloc (by omega) _).trans (g5.mono (by simp; omega))
  clear g5 b4
  go_wp2
  go_ret
  exact ⟨rfl, b5⟩

set_option maxHeartbeats 1000000 in
theorem law18 (b n : Int) (V M : Int) (r : Bool) (w : World)
    (hs : Hid (∀ W : World, Calls Try.prog 55 #[.agg #[.int .u8 b, .int .i64 n]] W fun e w' => e = .returned (.tuple #[.agg #[.int .u8 V, .int .i64 M], .bool r]) ∧ Below W.heap.size W w'))
    (hi : Hid (∀ W : World, Calls Try.prog 31 #[.agg #[.int .u8 b, .int .i64 n]] W fun e w' => e = .returned (.tuple #[.agg #[.int .u8 V, .int .i64 M], .bool r]) ∧ Below W.heap.size W w')) :
    Calls Try.prog 18 #[.agg #[.int .u8 b, .int .i64 n]] w fun e w' => e = .returned (.bool true) ∧ Below w.heap.size w w' := by
  go_enter Try.func18, Try.ntmps18
  go_wp2_with fail
  refine (to_fork b n _).mono ?_
  rintro e w1 ⟨rfl, g1⟩
  have a0 : w1.cell? ⟨w.heap.size, 0, none⟩ = some (.int .u8 b) := cell_later g1 (by simp)
  have a1 : w1.cell? ⟨w.heap.size, 1, none⟩ = some (.int .i64 n) := cell_later g1 (by simp)
  have z1 : w.heap.size + 1 ≤ w1.heap.size := by have := g1.size; simpa using this
  have b1 : Below w.heap.size w w1 := ((Below.refl _ _).alloc (Nat.le_refl _) _).trans (g1.mono (by simp))
  clear g1
  go_wp2_with fail
  refine (hs.out _).mono ?_
  rintro e w2 ⟨rfl, g2⟩
  have c0 := cell_later g2 a0
  have c1 := cell_later g2 a1
  have b2 : Below w.heap.size w w2 := b1.trans (g2.mono (by omega))
  have z2 : w.heap.size + 1 ≤ w2.heap.size := by have := g2.size; omega
  have n2 : w.heap.size < w2.heap.size := by omega
  have k0 : ∀ o : Obj, (w2.alloc o).cell? ⟨w.heap.size, 0, none⟩ = some (.int .u8 b) := fun o => (World.cell?_alloc_past _ _ _ n2).trans c0
  have k1 : ∀ o : Obj, (w2.alloc o).cell? ⟨w.heap.size, 1, none⟩ = some (.int .i64 n) := fun o => (World.cell?_alloc_past _ _ _ n2).trans c1
  clear g2 a0 a1 b1 z1
  go_wp2_with fail
  refine (to_fork b n _).mono ?_
  rintro e w3 ⟨rfl, g3⟩
  have d0 : w3.cell? ⟨w2.heap.size, 0, none⟩ = some (.int .u8 V) := cell_later g3 (by simp)
  have d1 : w3.cell? ⟨w2.heap.size, 1, none⟩ = some (.int .i64 M) := cell_later g3 (by simp)
  have b3 : Below w.heap.size w w3 := (b2.alloc (by omega) _).trans (g3.mono (by simp; omega))
  have z3 : w.heap.size + 1 ≤ w3.heap.size := by have := g3.size; simp at this; omega
  clear g3 b2 c0 c1 k0 k1
  go_wp2_with fail
  refine (hi.out _).mono ?_
  rintro e w4 ⟨rfl, g4⟩
  have e0 := cell_later g4 d0
  have e1 := cell_later g4 d1
  have b4 : Below w.heap.size w w4 := b3.trans (g4.mono (by omega))
  have z4 : w.heap.size + 1 ≤ w4.heap.size := by have := g4.size; omega
  have n4 : w2.heap.size < w4.heap.size := World.block_lt_of_cell? _ _ e0
  have h0 : ∀ o : Obj, (w4.alloc o).cell? ⟨w2.heap.size, 0, none⟩ = some (.int .u8 V) := fun o => (World.cell?_alloc_past _ _ _ n4).trans e0
  have h1 : ∀ o : Obj, (w4.alloc o).cell? ⟨w2.heap.size, 1, none⟩ = some (.int .i64 M) := fun o => (World.cell?_alloc_past _ _ _ n4).trans e1
  clear g4 b3 d0 d1 z3
  go_wp2_with fail
  refine (eq_8 V M _).mono ?_
  rintro e w5 ⟨rfl, g5⟩
  have b5 : Below w.heap.size w w5 := (b4.alloc (by omega) _).trans (g5.mono (by simp; omega))
  clear g5 b4
  go_wp2
  go_ret
  exact ⟨rfl, b5⟩

set_option maxHeartbeats 1000000 in
theorem law19 (b n : Int) (r : Bool) (w : World)
    (hs : Hid (∀ W : World, Calls Try.prog 56 #[.agg #[.int .u8 b, .int .i64 n]] W fun e w' => e = .returned (.bool r) ∧ Below W.heap.size W w'))
    (hi : Hid (∀ W : World, Calls Try.prog 30 #[.agg #[.int .u8 b, .int .i64 n]] W fun e w' => e = .returned (.bool r) ∧ Below W.heap.size W w')) :
    Calls Try.prog 19 #[.agg #[.int .u8 b, .int .i64 n]] w fun e w' => e = .returned (.bool true) ∧ Below w.heap.size w w' := by
  go_enter Try.func19, Try.ntmps19
  go_wp2_with fail
  refine (to_fork b n _).mono ?_
  rintro e w1 ⟨rfl, g1⟩
  have a0 : w1.cell? ⟨w.heap.size, 0, none⟩ = some (.int .u8 b) := cell_later g1 (by simp)
  have a1 : w1.cell? ⟨w.heap.size, 1, none⟩ = some (.int .i64 n) := cell_later g1 (by simp)
  have z1 : w.heap.size + 1 ≤ w1.heap.size := by have := g1.size; simpa using this
  have b1 : Below w.heap.size w w1 := ((Below.refl _ _).alloc (Nat.le_refl _) _).trans (g1.mono (by simp))
  clear g1
  go_wp2_with fail
  refine (hs.out _).mono ?_
  rintro e w2 ⟨rfl, g2⟩
  have c0 := cell_later g2 a0
  have c1 := cell_later g2 a1
  have b2 : Below w.heap.size w w2 := b1.trans (g2.mono (by omega))
  have z2 : w.heap.size + 1 ≤ w2.heap.size := by have := g2.size; omega
  have n2 : w.heap.size < w2.heap.size := by omega
  have k0 : ∀ o : Obj, (w2.alloc o).cell? ⟨w.heap.size, 0, none⟩ = some (.int .u8 b) := fun o => (World.cell?_alloc_past _ _ _ n2).trans c0
  have k1 : ∀ o : Obj, (w2.alloc o).cell? ⟨w.heap.size, 1, none⟩ = some (.int .i64 n) := fun o => (World.cell?_alloc_past _ _ _ n2).trans c1
  clear g2 a0 a1 b1 z1
  go_wp2_with fail
  refine (to_fork b n _).mono ?_
  rintro e w3 ⟨rfl, g3⟩
  have b3 : Below w.heap.size w w3 := b2.trans (g3.mono (by omega))
  have z3 : w.heap.size + 1 ≤ w3.heap.size := by have := g3.size; omega
  clear g3 b2 c0 c1 k0 k1
  go_wp2_with fail
  refine (hi.out _).mono ?_
  rintro e w4 ⟨rfl, g4⟩
  have b4 : Below w.heap.size w w4 := b3.trans (g4.mono (by omega))
  clear g4 b3
  go_wp2
  go_ret
  exact ⟨rfl, b4⟩

set_option maxHeartbeats 1000000 in
theorem law16 (b n : Int) (r : Bool) (w : World)
    (hs : Hid (∀ W : World, Calls Try.prog 43 #[.agg #[.int .u8 b, .int .i64 n]] W fun e w' => e = .returned (.bool r) ∧ Below W.heap.size W w'))
    (hi : Hid (∀ W : World, Calls Try.prog 32 #[.agg #[.int .u8 b, .int .i64 n]] W fun e w' => e = .returned (.bool r) ∧ Below W.heap.size W w')) :
    Calls Try.prog 16 #[.agg #[.int .u8 b, .int .i64 n]] w fun e w' => e = .returned (.bool true) ∧ Below w.heap.size w w' := by
  go_enter Try.func16, Try.ntmps16
  go_wp2_with fail
  refine (to_fork b n _).mono ?_
  rintro e w1 ⟨rfl, g1⟩
  have a0 : w1.cell? ⟨w.heap.size, 0, none⟩ = some (.int .u8 b) := cell_later g1 (by simp)
  have a1 : w1.cell? ⟨w.heap.size, 1, none⟩ = some (.int .i64 n) := cell_later g1 (by simp)
  have z1 : w.heap.size + 1 ≤ w1.heap.size := by have := g1.size; simpa using this
  have b1 : Below w.heap.size w w1 := ((Below.refl _ _).alloc (Nat.le_refl _) _).trans (g1.mono (by simp))
  clear g1
  go_wp2_with fail
  refine (hs.out _).mono ?_
  rintro e w2 ⟨rfl, g2⟩
  have c0 := cell_later g2 a0
  have c1 := cell_later g2 a1
  have b2 : Below w.heap.size w w2 := b1.trans (g2.mono (by omega))
  have z2 : w.heap.size + 1 ≤ w2.heap.size := by have := g2.size; omega
  have n2 : w.heap.size < w2.heap.size := by omega
  have k0 : ∀ o : Obj, (w2.alloc o).cell? ⟨w.heap.size, 0, none⟩ = some (.int .u8 b) := fun o => (World.cell?_alloc_past _ _ _ n2).trans c0
  have k1 : ∀ o : Obj, (w2.alloc o).cell? ⟨w.heap.size, 1, none⟩ = some (.int .i64 n) := fun o => (World.cell?_alloc_past _ _ _ n2).trans c1
  clear g2 a0 a1 b1 z1
  go_wp2_with fail
  refine (to_fork b n _).mono ?_
  rintro e w3 ⟨rfl, g3⟩
  have b3 : Below w.heap.size w w3 := b2.trans (g3.mono (by omega))
  have z3 : w.heap.size + 1 ≤ w3.heap.size := by have := g3.size; omega
  clear g3 b2 c0 c1 k0 k1
  go_wp2_with fail
  refine (hi.out _).mono ?_
  rintro e w4 ⟨rfl, g4⟩
  have b4 : Below w.heap.size w w4 := b3.trans (g4.mono (by omega))
  clear g4 b3
  go_wp2
  go_ret
  exact ⟨rfl, b4⟩
end Go.Proofs.Ytlpeianinlnbeaa
