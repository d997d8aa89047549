/- ElemIsContact and ElemIsCoil of the specification. -/
import Derived.Test.YtcmmiamnbefefaaDoorEi
namespace Go.Proofs.YtcmmiamnbefefaaDoor
open Go.RowKit Go.Shelf
set_option linter.unusedVariables false

set_option maxRecDepth 10000 in
set_option maxHeartbeats 2000000 in
theorem scoil30 (k n p k1 n1 p1 : Int) (r0 : Bool) (b o cap : Nat) (w : World) (hx : Ops w b o [(k, n, p), (k1, n1, p1)])
    (hA : Hid (∀ W, Calls Tryd.prog 66 #[.int .i64 30] W fun e w' => e = .returned (.int .i64 2) ∧ Below W.heap.size W w'))
    (h0 : Hid (∀ W, Below w.heap.size w W → Calls Tryd.prog 72 #[.agg #[.int .i64 30, .slice (some ⟨b, o, none⟩) 2 cap]] W fun e w' => e = .returned (.bool r0) ∧ Below W.heap.size W w')) :
    Calls Tryd.prog 46 #[.agg #[.int .i64 30, .slice (some ⟨b, o, none⟩) 2 cap]] w fun e w' => e = .returned (.bool (r0)) ∧ Below w.heap.size w w' := by
  have hb0 : Below w.heap.size w (w.alloc (.cells #[.int .i64 30, .slice (some ⟨b, o, none⟩) 2 cap] 48)) := (Below.refl _ _).alloc (Nat.le_refl _) _
  have k0 := cell_regrown (w := (w.alloc (.cells #[.int .i64 30, .slice (some ⟨b, o, none⟩) 2 cap] 48))) (a := ⟨w.heap.size, 0, none⟩) (v := .int .i64 30) (by simp)
  have k1 := cell_regrown (w := (w.alloc (.cells #[.int .i64 30, .slice (some ⟨b, o, none⟩) 2 cap] 48))) (a := ⟨w.heap.size, 1, none⟩) (v := .slice (some ⟨b, o, none⟩) 2 cap) (by simp)
  have cA : ∀ d os, Calls Tryd.prog 66 #[.int .i64 30] (Sort.grow (redrawn (w.alloc (.cells #[.int .i64 30, .slice (some ⟨b, o, none⟩) 2 cap] 48)) d) os) fun e w'' => e = .returned (.int .i64 2) ∧ ∃ p : Regrown, w'' = Sort.grow (redrawn (w.alloc (.cells #[.int .i64 30, .slice (some ⟨b, o, none⟩) 2 cap] 48)) p.d) p.os :=
    fun d os => Calls.regrown_of (hA.out _)
  clear hA
  go_enter Tryd.func46, Tryd.ntmps46
  go_upto_region 1 with fail
  refine wp_region_quiet_below (by kernel_rfl) (by kernel_rfl) ?_
  repeat (go_big_quiet_step (first | exact cA _ _))
  refine wpQuiet_nil ?_
  intro _ hw'
  obtain ⟨⟨dq, osq⟩, hw''⟩ := hw'
  subst hw''
  have e0 := k0 dq osq
  have e1 := k1 dq osq
  have hb1 := hb0.trans ((below_regrown (w.alloc (.cells #[.int .i64 30, .slice (some ⟨b, o, none⟩) 2 cap] 48)) dq osq).mono hb0.size)
  have hx1 := hx.later hb1
  have lt1 : w.heap.size < (Sort.grow (redrawn (w.alloc (.cells #[.int .i64 30, .slice (some ⟨b, o, none⟩) 2 cap] 48)) dq) osq).heap.size := World.block_lt_of_cell? _ _ e0
  dsimp only at e0 e1 hb1 hx1 lt1 ⊢
  generalize Sort.grow (redrawn (w.alloc (.cells #[.int .i64 30, .slice (some ⟨b, o, none⟩) 2 cap] 48)) dq) osq = w2 at e0 e1 hb1 hx1 lt1 ⊢
  clear cA k0 k1 hb0 hx
  have lt2 : b < w2.heap.size := hx1.lt (by simp)
  have x00 := (hx1 0 _ rfl).1
  have x01 := (hx1 0 _ rfl).2.1
  have x02 := (hx1 0 _ rfl).2.2
  have x10 := (hx1 1 _ rfl).1
  have x11 := (hx1 1 _ rfl).2.1
  have x12 := (hx1 1 _ rfl).2.2
  simp only [Nat.zero_mul, Nat.add_zero, Nat.one_mul, Nat.add_assoc, Nat.reduceAdd] at x00 x01 x02 x10 x11 x12
  have hA0 : Below w2.heap.size w2 (w2.alloc (.cells #[.int .i64 k, .int .i64 n, .int .i64 p] 88)) := (Below.refl _ _).alloc (Nat.le_refl _) _
  have fe0 := cell_later hA0 e0
  have fe1 := cell_later hA0 e1
  have fx00 := cell_later hA0 x00
  have fx01 := cell_later hA0 x01
  have fx02 := cell_later hA0 x02
  have fx10 := cell_later hA0 x10
  have fx11 := cell_later hA0 x11
  have fx12 := cell_later hA0 x12
  have fa0 : (w2.alloc (.cells #[.int .i64 k, .int .i64 n, .int .i64 p] 88)).cell? ⟨w2.heap.size, 0, none⟩ = some (.int .i64 k) := by simp
  have fa1 : (w2.alloc (.cells #[.int .i64 k, .int .i64 n, .int .i64 p] 88)).cell? ⟨w2.heap.size, 1, none⟩ = some (.int .i64 n) := by simp
  have fa2 : (w2.alloc (.cells #[.int .i64 k, .int .i64 n, .int .i64 p] 88)).cell? ⟨w2.heap.size, 2, none⟩ = some (.int .i64 p) := by simp
  have hbA : Below w.heap.size w (w2.alloc (.cells #[.int .i64 k, .int .i64 n, .int .i64 p] 88)) := hb1.alloc hb1.size _
  go_wp2_with fail
  refine (h0.out _ hbA).mono ?_
  rintro e w3 ⟨rfl, g3⟩
  have D3 : Below (w2.alloc (.cells #[.int .i64 k, .int .i64 n, .int .i64 p] 88)).heap.size (w2.alloc (.cells #[.int .i64 k, .int .i64 n, .int .i64 p] 88)) w3 := g3
  have z3fe0 := cell_later D3 fe0
  have z3fe1 := cell_later D3 fe1
  have z3fx00 := cell_later D3 fx00
  have z3fx01 := cell_later D3 fx01
  have z3fx02 := cell_later D3 fx02
  have z3fx10 := cell_later D3 fx10
  have z3fx11 := cell_later D3 fx11
  have z3fx12 := cell_later D3 fx12
  have z3fa0 := cell_later D3 fa0
  have z3fa1 := cell_later D3 fa1
  have z3fa2 := cell_later D3 fa2
  clear g3
  cases r0 with
  | true =>
    go_wp2
    go_ret
    exact ⟨by simp, hbA.trans (D3.mono hbA.size)⟩
  | false =>
    go_wp2
    go_ret
    exact ⟨by simp, hbA.trans (D3.mono hbA.size)⟩

set_option maxRecDepth 10000 in
set_option maxHeartbeats 2000000 in
theorem scoil31 (k n p k1 n1 p1 k2 n2 p2 : Int) (r0 : Bool) (b o cap : Nat) (w : World) (hx : Ops w b o [(k, n, p), (k1, n1, p1), (k2, n2, p2)])
    (hA : Hid (∀ W, Calls Tryd.prog 66 #[.int .i64 31] W fun e w' => e = .returned (.int .i64 3) ∧ Below W.heap.size W w'))
    (h0 : Hid (∀ W, Below w.heap.size w W → Calls Tryd.prog 72 #[.agg #[.int .i64 31, .slice (some ⟨b, o, none⟩) 3 cap]] W fun e w' => e = .returned (.bool r0) ∧ Below W.heap.size W w')) :
    Calls Tryd.prog 46 #[.agg #[.int .i64 31, .slice (some ⟨b, o, none⟩) 3 cap]] w fun e w' => e = .returned (.bool (r0)) ∧ Below w.heap.size w w' := by
  have hb0 : Below w.heap.size w (w.alloc (.cells #[.int .i64 31, .slice (some ⟨b, o, none⟩) 3 cap] 48)) := (Below.refl _ _).alloc (Nat.le_refl _) _
  have k0 := cell_regrown (w := (w.alloc (.cells #[.int .i64 31, .slice (some ⟨b, o, none⟩) 3 cap] 48))) (a := ⟨w.heap.size, 0, none⟩) (v := .int .i64 31) (by simp)
  have k1 := cell_regrown (w := (w.alloc (.cells #[.int .i64 31, .slice (some ⟨b, o, none⟩) 3 cap] 48))) (a := ⟨w.heap.size, 1, none⟩) (v := .slice (some ⟨b, o, none⟩) 3 cap) (by simp)
  have cA : ∀ d os, Calls Tryd.prog 66 #[.int .i64 31] (Sort.grow (redrawn (w.alloc (.cells #[.int .i64 31, .slice (some ⟨b, o, none⟩) 3 cap] 48)) d) os) fun e w'' => e = .returned (.int .i64 3) ∧ ∃ p : Regrown, w'' = Sort.grow (redrawn (w.alloc (.cells #[.int .i64 31, .slice (some ⟨b, o, none⟩) 3 cap] 48)) p.d) p.os :=
    fun d os => Calls.regrown_of (hA.out _)
  clear hA
  go_enter Tryd.func46, Tryd.ntmps46
  go_upto_region 1 with fail
  refine wp_region_quiet_below (by kernel_rfl) (by kernel_rfl) ?_
  repeat (go_big_quiet_step (first | exact cA _ _))
  refine wpQuiet_nil ?_
  intro _ hw'
  obtain ⟨⟨dq, osq⟩, hw''⟩ := hw'
  subst hw''
  have e0 := k0 dq osq
  have e1 := k1 dq osq
  have hb1 := hb0.trans ((below_regrown (w.alloc (.cells #[.int .i64 31, .slice (some ⟨b, o, none⟩) 3 cap] 48)) dq osq).mono hb0.size)
  have hx1 := hx.later hb1
  have lt1 : w.heap.size < (Sort.grow (redrawn (w.alloc (.cells #[.int .i64 31, .slice (some ⟨b, o, none⟩) 3 cap] 48)) dq) osq).heap.size := World.block_lt_of_cell? _ _ e0
  dsimp only at e0 e1 hb1 hx1 lt1 ⊢
  generalize Sort.grow (redrawn (w.alloc (.cells #[.int .i64 31, .slice (some ⟨b, o, none⟩) 3 cap] 48)) dq) osq = w2 at e0 e1 hb1 hx1 lt1 ⊢
  clear cA k0 k1 hb0 hx
  have lt2 : b < w2.heap.size := hx1.lt (by simp)
  have x00 := (hx1 0 _ rfl).1
  have x01 := (hx1 0 _ rfl).2.1
  have x02 := (hx1 0 _ rfl).2.2
  have x10 := (hx1 1 _ rfl).1
  have x11 := (hx1 1 _ rfl).2.1
  have x12 := (hx1 1 _ rfl).2.2
  have x20 := (hx1 2 _ rfl).1
  have x21 := (hx1 2 _ rfl).2.1
  have x22 := (hx1 2 _ rfl).2.2
  simp only [Nat.zero_mul, Nat.add_zero, Nat.one_mul, Nat.reduceMul, Nat.add_assoc, Nat.reduceAdd] at x00 x01 x02 x10 x11 x12 x20 x21 x22
  have hA0 : Below w2.heap.size w2 (w2.alloc (.cells #[.int .i64 k, .int .i64 n, .int .i64 p] 88)) := (Below.refl _ _).alloc (Nat.le_refl _) _
  have fe0 := cell_later hA0 e0
  have fe1 := cell_later hA0 e1
  have fx00 := cell_later hA0 x00
  have fx01 := cell_later hA0 x01
  have fx02 := cell_later hA0 x02
  have fx10 := cell_later hA0 x10
  have fx11 := cell_later hA0 x11
  have fx12 := cell_later hA0 x12
  have fx20 := cell_later hA0 x20
  have fx21 := cell_later hA0 x21
  have fx22 := cell_later hA0 x22
  have fa0 : (w2.alloc (.cells #[.int .i64 k, .int .i64 n, .int .i64 p] 88)).cell? ⟨w2.heap.size, 0, none⟩ = some (.int .i64 k) := by simp
  have fa1 : (w2.alloc (.cells #[.int .i64 k, .int .i64 n, .int .i64 p] 88)).cell? ⟨w2.heap.size, 1, none⟩ = some (.int .i64 n) := by simp
  have fa2 : (w2.alloc (.cells #[.int .i64 k, .int .i64 n, .int .i64 p] 88)).cell? ⟨w2.heap.size, 2, none⟩ = some (.int .i64 p) := by simp
  have hbA : Below w.heap.size w (w2.alloc (.cells #[.int .i64 k, .int .i64 n, .int .i64 p] 88)) := hb1.alloc hb1.size _
  go_wp2_with fail
  refine (h0.out _ hbA).mono ?_
  rintro e w3 ⟨rfl, g3⟩
  have D3 : Below (w2.alloc (.cells #[.int .i64 k, .int .i64 n, .int .i64 p] 88)).heap.size (w2.alloc (.cells #[.int .i64 k, .int .i64 n, .int .i64 p] 88)) w3 := g3
  have z3fe0 := cell_later D3 fe0
  have z3fe1 := cell_later D3 fe1
  have z3fx00 := cell_later D3 fx00
  have z3fx01 := cell_later D3 fx01
  have z3fx02 := cell_later D3 fx02
  have z3fx10 := cell_later D3 fx10
  have z3fx11 := cell_later D3 fx11
  have z3fx12 := cell_later D3 fx12
  have z3fx20 := cell_later D3 fx20
  have z3fx21 := cell_later D3 fx21
  have z3fx22 := cell_later D3 fx22
  have z3fa0 := cell_later D3 fa0
  have z3fa1 := cell_later D3 fa1
  have z3fa2 := cell_later D3 fa2
  clear g3
  cases r0 with
  | true =>
    go_wp2
    go_ret
    exact ⟨by simp, hbA.trans (D3.mono hbA.size)⟩
  | false =>
    go_wp2
    go_ret
    exact ⟨by simp, hbA.trans (D3.mono hbA.size)⟩

set_option maxRecDepth 10000 in
set_option maxHeartbeats 2000000 in
theorem scoil32 (k n p k1 n1 p1 k2 n2 p2 : Int) (r0 : Bool) (b o cap : Nat) (w : World) (hx : Ops w b o [(k, n, p), (k1, n1, p1), (k2, n2, p2)])
    (hA : Hid (∀ W, Calls Tryd.prog 66 #[.int .i64 32] W fun e w' => e = .returned (.int .i64 3) ∧ Below W.heap.size W w'))
    (h0 : Hid (∀ W, Below w.heap.size w W → Calls Tryd.prog 72 #[.agg #[.int .i64 32, .slice (some ⟨b, o, none⟩) 3 cap]] W fun e w' => e = .returned (.bool r0) ∧ Below W.heap.size W w')) :
    Calls Tryd.prog 46 #[.agg #[.int .i64 32, .slice (some ⟨b, o, none⟩) 3 cap]] w fun e w' => e = .returned (.bool (r0)) ∧ Below w.heap.size w w' := by
  have hb0 : Below w.heap.size w (w.alloc (.cells #[.int .i64 32, .slice (some ⟨b, o, none⟩) 3 cap] 48)) := (Below.refl _ _).alloc (Nat.le_refl _) _
  have k0 := cell_regrown (w := (w.alloc (.cells #[.int .i64 32, .slice (some ⟨b, o, none⟩) 3 cap] 48))) (a := ⟨w.heap.size, 0, none⟩) (v := .int .i64 32) (by simp)
  have k1 := cell_regrown (w := (w.alloc (.cells #[.int .i64 32, .slice (some ⟨b, o, none⟩) 3 cap] 48))) (a := ⟨w.heap.size, 1, none⟩) (v := .slice (some ⟨b, o, none⟩) 3 cap) (by simp)
  have cA : ∀ d os, Calls Tryd.prog 66 #[.int .i64 32] (Sort.grow (redrawn (w.alloc (.cells #[.int .i64 32, .slice (some ⟨b, o, none⟩) 3 cap] 48)) d) os) fun e w'' => e = .returned (.int .i64 3) ∧ ∃ p : Regrown, w'' = Sort.grow (redrawn (w.alloc (.cells #[.int .i64 32, .slice (some ⟨b, o, none⟩) 3 cap] 48)) p.d) p.os :=
    fun d os => Calls.regrown_of (hA.out _)
  clear hA
  go_enter Tryd.func46, Tryd.ntmps46
  go_upto_region 1 with fail
  refine wp_region_quiet_below (by kernel_rfl) (by kernel_rfl) ?_
  repeat (go_big_quiet_step (first | exact cA _ _))
  refine wpQuiet_nil ?_
  intro _ hw'
  obtain ⟨⟨dq, osq⟩, hw''⟩ := hw'
  subst hw''
  have e0 := k0 dq osq
  have e1 := k1 dq osq
  have hb1 := hb0.trans ((below_regrown (w.alloc (.cells #[.int .i64 32, .slice (some ⟨b, o, none⟩) 3 cap] 48)) dq osq).mono hb0.size)
  have hx1 := hx.later hb1
  have lt1 : w.heap.size < (Sort.grow (redrawn (w.alloc (.cells #[.int .i64 32, .slice (some ⟨b, o, none⟩) 3 cap] 48)) dq) osq).heap.size := World.block_lt_of_cell? _ _ e0
  dsimp only at e0 e1 hb1 hx1 lt1 ⊢
  generalize Sort.grow (redrawn (w.alloc (.cells #[.int .i64 32, .slice (some ⟨b, o, none⟩) 3 cap] 48)) dq) osq = w2 at e0 e1 hb1 hx1 lt1 ⊢
  clear cA k0 k1 hb0 hx
  have lt2 : b < w2.heap.size := hx1.lt (by simp)
  have x00 := (hx1 0 _ rfl).1
  have x01 := (hx1 0 _ rfl).2.1
  have x02 := (hx1 0 _ rfl).2.2
  have x10 := (hx1 1 _ rfl).1
  have x11 := (hx1 1 _ rfl).2.1
  have x12 := (hx1 1 _ rfl).2.2
  have x20 := (hx1 2 _ rfl).1
  have x21 := (hx1 2 _ rfl).2.1
  have x22 := (hx1 2 _ rfl).2.2
  simp only [Nat.zero_mul, Nat.add_zero, Nat.one_mul, Nat.reduceMul, Nat.add_assoc, Nat.reduceAdd] at x00 x01 x02 x10 x11 x12 x20 x21 x22
  have hA0 : Below w2.heap.size w2 (w2.alloc (.cells #[.int .i64 k, .int .i64 n, .int .i64 p] 88)) := (Below.refl _ _).alloc (Nat.le_refl _) _
  have fe0 := cell_later hA0 e0
  have fe1 := cell_later hA0 e1
  have fx00 := cell_later hA0 x00
  have fx01 := cell_later hA0 x01
  have fx02 := cell_later hA0 x02
  have fx10 := cell_later hA0 x10
  have fx11 := cell_later hA0 x11
  have fx12 := cell_later hA0 x12
  have fx20 := cell_later hA0 x20
  have fx21 := cell_later hA0 x21
  have fx22 := cell_later hA0 x22
  have fa0 : (w2.alloc (.cells #[.int .i64 k, .int .i64 n, .int .i64 p] 88)).cell? ⟨w2.heap.size, 0, none⟩ = some (.int .i64 k) := by simp
  have fa1 : (w2.alloc (.cells #[.int .i64 k, .int .i64 n, .int .i64 p] 88)).cell? ⟨w2.heap.size, 1, none⟩ = some (.int .i64 n) := by simp
  have fa2 : (w2.alloc (.cells #[.int .i64 k, .int .i64 n, .int .i64 p] 88)).cell? ⟨w2.heap.size, 2, none⟩ = some (.int .i64 p) := by simp
  have hbA : Below w.heap.size w (w2.alloc (.cells #[.int .i64 k, .int .i64 n, .int .i64 p] 88)) := hb1.alloc hb1.size _
  go_wp2_with fail
  refine (h0.out _ hbA).mono ?_
  rintro e w3 ⟨rfl, g3⟩
  have D3 : Below (w2.alloc (.cells #[.int .i64 k, .int .i64 n, .int .i64 p] 88)).heap.size (w2.alloc (.cells #[.int .i64 k, .int .i64 n, .int .i64 p] 88)) w3 := g3
  have z3fe0 := cell_later D3 fe0
  have z3fe1 := cell_later D3 fe1
  have z3fx00 := cell_later D3 fx00
  have z3fx01 := cell_later D3 fx01
  have z3fx02 := cell_later D3 fx02
  have z3fx10 := cell_later D3 fx10
  have z3fx11 := cell_later D3 fx11
  have z3fx12 := cell_later D3 fx12
  have z3fx20 := cell_later D3 fx20
  have z3fx21 := cell_later D3 fx21
  have z3fx22 := cell_later D3 fx22
  have z3fa0 := cell_later D3 fa0
  have z3fa1 := cell_later D3 fa1
  have z3fa2 := cell_later D3 fa2
  clear g3
  cases r0 with
  | true =>
    go_wp2
    go_ret
    exact ⟨by simp, hbA.trans (D3.mono hbA.size)⟩
  | false =>
    go_wp2
    go_ret
    exact ⟨by simp, hbA.trans (D3.mono hbA.size)⟩

set_option maxRecDepth 10000 in
set_option maxHeartbeats 2000000 in
theorem scoil33 (k n p k1 n1 p1 k2 n2 p2 : Int) (r0 : Bool) (b o cap : Nat) (w : World) (hx : Ops w b o [(k, n, p), (k1, n1, p1), (k2, n2, p2)])
    (hA : Hid (∀ W, Calls Tryd.prog 66 #[.int .i64 33] W fun e w' => e = .returned (.int .i64 3) ∧ Below W.heap.size W w'))
    (h0 : Hid (∀ W, Below w.heap.size w W → Calls Tryd.prog 72 #[.agg #[.int .i64 33, .slice (some ⟨b, o, none⟩) 3 cap]] W fun e w' => e = .returned (.bool r0) ∧ Below W.heap.size W w')) :
    Calls Tryd.prog 46 #[.agg #[.int .i64 33, .slice (some ⟨b, o, none⟩) 3 cap]] w fun e w' => e = .returned (.bool (r0)) ∧ Below w.heap.size w w' := by
  have hb0 : Below w.heap.size w (w.alloc (.cells #[.int .i64 33, .slice (some ⟨b, o, none⟩) 3 cap] 48)) := (Below.refl _ _).alloc (Nat.le_refl _) _
  have k0 := cell_regrown (w := (w.alloc (.cells #[.int .i64 33, .slice (some ⟨b, o, none⟩) 3 cap] 48))) (a := ⟨w.heap.size, 0, none⟩) (v := .int .i64 33) (by simp)
  have k1 := cell_regrown (w := (w.alloc (.cells #[.int .i64 33, .slice (some ⟨b, o, none⟩) 3 cap] 48))) (a := ⟨w.heap.size, 1, none⟩) (v := .slice (some ⟨b, o, none⟩) 3 cap) (by simp)
  have cA : ∀ d os, Calls Tryd.prog 66 #[.int .i64 33] (Sort.grow (redrawn (w.alloc (.cells #[.int .i64 33, .slice (some ⟨b, o, none⟩) 3 cap] 48)) d) os) fun e w'' => e = .returned (.int .i64 3) ∧ ∃ p : Regrown, w'' = Sort.grow (redrawn (w.alloc (.cells #[.int .i64 33, .slice (some ⟨b, o, none⟩) 3 cap] 48)) p.d) p.os :=
    fun d os => Calls.regrown_of (hA.out _)
  clear hA
  go_enter Tryd.func46, Tryd.ntmps46
  go_upto_region 1 with fail
  refine wp_region_quiet_below (by kernel_rfl) (by kernel_rfl) ?_
  repeat (go_big_quiet_step (first | exact cA _ _))
  refine wpQuiet_nil ?_
  intro _ hw'
  obtain ⟨⟨dq, osq⟩, hw''⟩ := hw'
  subst hw''
  have e0 := k0 dq osq
  have e1 := k1 dq osq
  have hb1 := hb0.trans ((below_regrown (w.alloc (.cells #[.int .i64 33, .slice (some ⟨b, o, none⟩) 3 cap] 48)) dq osq).mono hb0.size)
  have hx1 := hx.later hb1
  have lt1 : w.heap.size < (Sort.grow (redrawn (w.alloc (.cells #[.int .i64 33, .slice (some ⟨b, o, none⟩) 3 cap] 48)) dq) osq).heap.size := World.block_lt_of_cell? _ _ e0
  dsimp only at e0 e1 hb1 hx1 lt1 ⊢
  generalize Sort.grow (redrawn (w.alloc (.cells #[.int .i64 33, .slice (some ⟨b, o, none⟩) 3 cap] 48)) dq) osq = w2 at e0 e1 hb1 hx1 lt1 ⊢
  clear cA k0 k1 hb0 hx
  have lt2 : b < w2.heap.size := hx1.lt (by simp)
  have x00 := (hx1 0 _ rfl).1
  have x01 := (hx1 0 _ rfl).2.1
  have x02 := (hx1 0 _ rfl).2.2
  have x10 := (hx1 1 _ rfl).1
  have x11 := (hx1 1 _ rfl).2.1
  have x12 := (hx1 1 _ rfl).2.2
  have x20 := (hx1 2 _ rfl).1
  have x21 := (hx1 2 _ rfl).2.1
  have x22 := (hx1 2 _ rfl).2.2
  simp only [Nat.zero_mul, Nat.add_zero, Nat.one_mul, Nat.reduceMul, Nat.add_assoc, Nat.reduceAdd] at x00 x01 x02 x10 x11 x12 x20 x21 x22
  have hA0 : Below w2.heap.size w2 (w2.alloc (.cells #[.int .i64 k, .int .i64 n, .int .i64 p] 88)) := (Below.refl _ _).alloc (Nat.le_refl _) _
  have fe0 := cell_later hA0 e0
  have fe1 := cell_later hA0 e1
  have fx00 := cell_later hA0 x00
  have fx01 := cell_later hA0 x01
  have fx02 := cell_later hA0 x02
  have fx10 := cell_later hA0 x10
  have fx11 := cell_later hA0 x11
  have fx12 := cell_later hA0 x12
  have fx20 := cell_later hA0 x20
  have fx21 := cell_later hA0 x21
  have fx22 := cell_later hA0 x22
  have fa0 : (w2.alloc (.cells #[.int .i64 k, .int .i64 n, .int .i64 p] 88)).cell? ⟨w2.heap.size, 0, none⟩ = some (.int .i64 k) := by simp
  have fa1 : (w2.alloc (.cells #[.int .i64 k, .int .i64 n, .int .i64 p] 88)).cell? ⟨w2.heap.size, 1, none⟩ = some (.int .i64 n) := by simp
  have fa2 : (w2.alloc (.cells #[.int .i64 k, .int .i64 n, .int .i64 p] 88)).cell? ⟨w2.heap.size, 2, none⟩ = some (.int .i64 p) := by simp
  have hbA : Below w.heap.size w (w2.alloc (.cells #[.int .i64 k, .int .i64 n, .int .i64 p] 88)) := hb1.alloc hb1.size _
  go_wp2_with fail
  refine (h0.out _ hbA).mono ?_
  rintro e w3 ⟨rfl, g3⟩
  have D3 : Below (w2.alloc (.cells #[.int .i64 k, .int .i64 n, .int .i64 p] 88)).heap.size (w2.alloc (.cells #[.int .i64 k, .int .i64 n, .int .i64 p] 88)) w3 := g3
  have z3fe0 := cell_later D3 fe0
  have z3fe1 := cell_later D3 fe1
  have z3fx00 := cell_later D3 fx00
  have z3fx01 := cell_later D3 fx01
  have z3fx02 := cell_later D3 fx02
  have z3fx10 := cell_later D3 fx10
  have z3fx11 := cell_later D3 fx11
  have z3fx12 := cell_later D3 fx12
  have z3fx20 := cell_later D3 fx20
  have z3fx21 := cell_later D3 fx21
  have z3fx22 := cell_later D3 fx22
  have z3fa0 := cell_later D3 fa0
  have z3fa1 := cell_later D3 fa1
  have z3fa2 := cell_later D3 fa2
  clear g3
  cases r0 with
  | true =>
    go_wp2
    go_ret
    exact ⟨by simp, hbA.trans (D3.mono hbA.size)⟩
  | false =>
    go_wp2
    go_ret
    exact ⟨by simp, hbA.trans (D3.mono hbA.size)⟩

set_option maxRecDepth 10000 in
set_option maxHeartbeats 2000000 in
theorem scoil34 (k n p k1 n1 p1 k2 n2 p2 : Int) (r0 : Bool) (b o cap : Nat) (w : World) (hx : Ops w b o [(k, n, p), (k1, n1, p1), (k2, n2, p2)])
    (hA : Hid (∀ W, Calls Tryd.prog 66 #[.int .i64 34] W fun e w' => e = .returned (.int .i64 3) ∧ Below W.heap.size W w'))
    (h0 : Hid (∀ W, Below w.heap.size w W → Calls Tryd.prog 72 #[.agg #[.int .i64 34, .slice (some ⟨b, o, none⟩) 3 cap]] W fun e w' => e = .returned (.bool r0) ∧ Below W.heap.size W w')) :
    Calls Tryd.prog 46 #[.agg #[.int .i64 34, .slice (some ⟨b, o, none⟩) 3 cap]] w fun e w' => e = .returned (.bool (r0)) ∧ Below w.heap.size w w' := by
  have hb0 : Below w.heap.size w (w.alloc (.cells #[.int .i64 34, .slice (some ⟨b, o, none⟩) 3 cap] 48)) := (Below.refl _ _).alloc (Nat.le_refl _) _
  have k0 := cell_regrown (w := (w.alloc (.cells #[.int .i64 34, .slice (some ⟨b, o, none⟩) 3 cap] 48))) (a := ⟨w.heap.size, 0, none⟩) (v := .int .i64 34) (by simp)
  have k1 := cell_regrown (w := (w.alloc (.cells #[.int .i64 34, .slice (some ⟨b, o, none⟩) 3 cap] 48))) (a := ⟨w.heap.size, 1, none⟩) (v := .slice (some ⟨b, o, none⟩) 3 cap) (by simp)
  have cA : ∀ d os, Calls Tryd.prog 66 #[.int .i64 34] (Sort.grow (redrawn (w.alloc (.cells #[.int .i64 34, .slice (some ⟨b, o, none⟩) 3 cap] 48)) d) os) fun e w'' => e = .returned (.int .i64 3) ∧ ∃ p : Regrown, w'' = Sort.grow (redrawn (w.alloc (.cells #[.int .i64 34, .slice (some ⟨b, o, none⟩) 3 cap] 48)) p.d) p.os :=
    fun d os => Calls.regrown_of (hA.out _)
  clear hA
  go_enter Tryd.func46, Tryd.ntmps46
  go_upto_region 1 with fail
  refine wp_region_quiet_below (by kernel_rfl) (by kernel_rfl) ?_
  repeat (go_big_quiet_step (first | exact cA _ _))
  refine wpQuiet_nil ?_
  intro _ hw'
  obtain ⟨⟨dq, osq⟩, hw''⟩ := hw'
  subst hw''
  have e0 := k0 dq osq
  have e1 := k1 dq osq
  have hb1 := hb0.trans ((below_regrown (w.alloc (.cells #[.int .i64 34, .slice (some ⟨b, o, none⟩) 3 cap] 48)) dq osq).mono hb0.size)
  have hx1 := hx.later hb1
  have lt1 : w.heap.size < (Sort.grow (redrawn (w.alloc (.cells #[.int .i64 34, .slice (some ⟨b, o, none⟩) 3 cap] 48)) dq) osq).heap.size := World.block_lt_of_cell? _ _ e0
  dsimp only at e0 e1 hb1 hx1 lt1 ⊢
  generalize Sort.grow (redrawn (w.alloc (.cells #[.int .i64 34, .slice (some ⟨b, o, none⟩) 3 cap] 48)) dq) osq = w2 at e0 e1 hb1 hx1 lt1 ⊢
  clear cA k0 k1 hb0 hx
  have lt2 : b < w2.heap.size := hx1.lt (by simp)
  have x00 := (hx1 0 _ rfl).1
  have x01 := (hx1 0 _ rfl).2.1
  have x02 := (hx1 0 _ rfl).2.2
  have x10 := (hx1 1 _ rfl).1
  have x11 := (hx1 1 _ rfl).2.1
  have x12 := (hx1 1 _ rfl).2.2
  have x20 := (hx1 2 _ rfl).1
  have x21 := (hx1 2 _ rfl).2.1
  have x22 := (hx1 2 _ rfl).2.2
  simp only [Nat.zero_mul, Nat.add_zero, Nat.one_mul, Nat.reduceMul, Nat.add_assoc, Nat.reduceAdd] at x00 x01 x02 x10 x11 x12 x20 x21 x22
  have hA0 : Below w2.heap.size w2 (w2.alloc (.cells #[.int .i64 k, .int .i64 n, .int .i64 p] 88)) := (Below.refl _ _).alloc (Nat.le_refl _) _
  have fe0 := cell_later hA0 e0
  have fe1 := cell_later hA0 e1
  have fx00 := cell_later hA0 x00
  have fx01 := cell_later hA0 x01
  have fx02 := cell_later hA0 x02
  have fx10 := cell_later hA0 x10
  have fx11 := cell_later hA0 x11
  have fx12 := cell_later hA0 x12
  have fx20 := cell_later hA0 x20
  have fx21 := cell_later hA0 x21
  have fx22 := cell_later hA0 x22
  have fa0 : (w2.alloc (.cells #[.int .i64 k, .int .i64 n, .int .i64 p] 88)).cell? ⟨w2.heap.size, 0, none⟩ = some (.int .i64 k) := by simp
  have fa1 : (w2.alloc (.cells #[.int .i64 k, .int .i64 n, .int .i64 p] 88)).cell? ⟨w2.heap.size, 1, none⟩ = some (.int .i64 n) := by simp
  have fa2 : (w2.alloc (.cells #[.int .i64 k, .int .i64 n, .int .i64 p] 88)).cell? ⟨w2.heap.size, 2, none⟩ = some (.int .i64 p) := by simp
  have hbA : Below w.heap.size w (w2.alloc (.cells #[.int .i64 k, .int .i64 n, .int .i64 p] 88)) := hb1.alloc hb1.size _
  go_wp2_with fail
  refine (h0.out _ hbA).mono ?_
  rintro e w3 ⟨rfl, g3⟩
  have D3 : Below (w2.alloc (.cells #[.int .i64 k, .int .i64 n, .int .i64 p] 88)).heap.size (w2.alloc (.cells #[.int .i64 k, .int .i64 n, .int .i64 p] 88)) w3 := g3
  have z3fe0 := cell_later D3 fe0
  have z3fe1 := cell_later D3 fe1
  have z3fx00 := cell_later D3 fx00
  have z3fx01 := cell_later D3 fx01
  have z3fx02 := cell_later D3 fx02
  have z3fx10 := cell_later D3 fx10
  have z3fx11 := cell_later D3 fx11
  have z3fx12 := cell_later D3 fx12
  have z3fx20 := cell_later D3 fx20
  have z3fx21 := cell_later D3 fx21
  have z3fx22 := cell_later D3 fx22
  have z3fa0 := cell_later D3 fa0
  have z3fa1 := cell_later D3 fa1
  have z3fa2 := cell_later D3 fa2
  clear g3
  cases r0 with
  | true =>
    go_wp2
    go_ret
    exact ⟨by simp, hbA.trans (D3.mono hbA.size)⟩
  | false =>
    go_wp2
    go_ret
    exact ⟨by simp, hbA.trans (D3.mono hbA.size)⟩

set_option maxRecDepth 10000 in
set_option maxHeartbeats 2000000 in
theorem scoil35 (k n p k1 n1 p1 k2 n2 p2 : Int) (r0 : Bool) (b o cap : Nat) (w : World) (hx : Ops w b o [(k, n, p), (k1, n1, p1), (k2, n2, p2)])
    (hA : Hid (∀ W, Calls Tryd.prog 66 #[.int .i64 35] W fun e w' => e = .returned (.int .i64 3) ∧ Below W.heap.size W w'))
    (h0 : Hid (∀ W, Below w.heap.size w W → Calls Tryd.prog 72 #[.agg #[.int .i64 35, .slice (some ⟨b, o, none⟩) 3 cap]] W fun e w' => e = .returned (.bool r0) ∧ Below W.heap.size W w')) :
    Calls Tryd.prog 46 #[.agg #[.int .i64 35, .slice (some ⟨b, o, none⟩) 3 cap]] w fun e w' => e = .returned (.bool (r0)) ∧ Below w.heap.size w w' := by
  have hb0 : Below w.heap.size w (w.alloc (.cells #[.int .i64 35, .slice (some ⟨b, o, none⟩) 3 cap] 48)) := (Below.refl _ _).alloc (Nat.le_refl _) _
  have k0 := cell_regrown (w := (w.alloc (.cells #[.int .i64 35, .slice (some ⟨b, o, none⟩) 3 cap] 48))) (a := ⟨w.heap.size, 0, none⟩) (v := .int .i64 35) (by simp)
  have k1 := cell_regrown (w := (w.alloc (.cells #[.int .i64 35, .slice (some ⟨b, o, none⟩) 3 cap] 48))) (a := ⟨w.heap.size, 1, none⟩) (v := .slice (some ⟨b, o, none⟩) 3 cap) (by simp)
  have cA : ∀ d os, Calls Tryd.prog 66 #[.int .i64 35] (Sort.grow (redrawn (w.alloc (.cells #[.int .i64 35, .slice (some ⟨b, o, none⟩) 3 cap] 48)) d) os) fun e w'' => e = .returned (.int .i64 3) ∧ ∃ p : Regrown, w'' = Sort.grow (redrawn (w.alloc (.cells #[.int .i64 35, .slice (some ⟨b, o, none⟩) 3 cap] 48)) p.d) p.os :=
    fun d os => Calls.regrown_of (hA.out _)
  clear hA
  go_enter Tryd.func46, Tryd.ntmps46
  go_upto_region 1 with fail
  refine wp_region_quiet_below (by kernel_rfl) (by kernel_rfl) ?_
  repeat (go_big_quiet_step (first | exact cA _ _))
  refine wpQuiet_nil ?_
  intro _ hw'
  obtain ⟨⟨dq, osq⟩, hw''⟩ := hw'
  subst hw''
  have e0 := k0 dq osq
  have e1 := k1 dq osq
  have hb1 := hb0.trans ((below_regrown (w.alloc (.cells #[.int .i64 35, .slice (some ⟨b, o, none⟩) 3 cap] 48)) dq osq).mono hb0.size)
  have hx1 := hx.later hb1
  have lt1 : w.heap.size < (Sort.grow (redrawn (w.alloc (.cells #[.int .i64 35, .slice (some ⟨b, o, none⟩) 3 cap] 48)) dq) osq).heap.size := World.block_lt_of_cell? _ _ e0
  dsimp only at e0 e1 hb1 hx1 lt1 ⊢
  generalize Sort.grow (redrawn (w.alloc (.cells #[.int .i64 35, .slice (some ⟨b, o, none⟩) 3 cap] 48)) dq) osq = w2 at e0 e1 hb1 hx1 lt1 ⊢
  clear cA k0 k1 hb0 hx
  have lt2 : b < w2.heap.size := hx1.lt (by simp)
  have x00 := (hx1 0 _ rfl).1
  have x01 := (hx1 0 _ rfl).2.1
  have x02 := (hx1 0 _ rfl).2.2
  have x10 := (hx1 1 _ rfl).1
  have x11 := (hx1 1 _ rfl).2.1
  have x12 := (hx1 1 _ rfl).2.2
  have x20 := (hx1 2 _ rfl).1
  have x21 := (hx1 2 _ rfl).2.1
  have x22 := (hx1 2 _ rfl).2.2
  simp only [Nat.zero_mul, Nat.add_zero, Nat.one_mul, Nat.reduceMul, Nat.add_assoc, Nat.reduceAdd] at x00 x01 x02 x10 x11 x12 x20 x21 x22
  have hA0 : Below w2.heap.size w2 (w2.alloc (.cells #[.int .i64 k, .int .i64 n, .int .i64 p] 88)) := (Below.refl _ _).alloc (Nat.le_refl _) _
  have fe0 := cell_later hA0 e0
  have fe1 := cell_later hA0 e1
  have fx00 := cell_later hA0 x00
  have fx01 := cell_later hA0 x01
  have fx02 := cell_later hA0 x02
  have fx10 := cell_later hA0 x10
  have fx11 := cell_later hA0 x11
  have fx12 := cell_later hA0 x12
  have fx20 := cell_later hA0 x20
  have fx21 := cell_later hA0 x21
  have fx22 := cell_later hA0 x22
  have fa0 : (w2.alloc (.cells #[.int .i64 k, .int .i64 n, .int .i64 p] 88)).cell? ⟨w2.heap.size, 0, none⟩ = some (.int .i64 k) := by simp
  have fa1 : (w2.alloc (.cells #[.int .i64 k, .int .i64 n, .int .i64 p] 88)).cell? ⟨w2.heap.size, 1, none⟩ = some (.int .i64 n) := by simp
  have fa2 : (w2.alloc (.cells #[.int .i64 k, .int .i64 n, .int .i64 p] 88)).cell? ⟨w2.heap.size, 2, none⟩ = some (.int .i64 p) := by simp
  have hbA : Below w.heap.size w (w2.alloc (.cells #[.int .i64 k, .int .i64 n, .int .i64 p] 88)) := hb1.alloc hb1.size _
  go_wp2_with fail
  refine (h0.out _ hbA).mono ?_
  rintro e w3 ⟨rfl, g3⟩
  have D3 : Below (w2.alloc (.cells #[.int .i64 k, .int .i64 n, .int .i64 p] 88)).heap.size (w2.alloc (.cells #[.int .i64 k, .int .i64 n, .int .i64 p] 88)) w3 := g3
  have z3fe0 := cell_later D3 fe0
  have z3fe1 := cell_later D3 fe1
  have z3fx00 := cell_later D3 fx00
  have z3fx01 := cell_later D3 fx01
  have z3fx02 := cell_later D3 fx02
  have z3fx10 := cell_later D3 fx10
  have z3fx11 := cell_later D3 fx11
  have z3fx12 := cell_later D3 fx12
  have z3fx20 := cell_later D3 fx20
  have z3fx21 := cell_later D3 fx21
  have z3fx22 := cell_later D3 fx22
  have z3fa0 := cell_later D3 fa0
  have z3fa1 := cell_later D3 fa1
  have z3fa2 := cell_later D3 fa2
  clear g3
  cases r0 with
  | true =>
    go_wp2
    go_ret
    exact ⟨by simp, hbA.trans (D3.mono hbA.size)⟩
  | false =>
    go_wp2
    go_ret
    exact ⟨by simp, hbA.trans (D3.mono hbA.size)⟩
end Go.Proofs.YtcmmiamnbefefaaDoor

