/- ElemIsContact and ElemIsCoil of the specification. -/
import Derived.Test.YtkppcmpdghnmgaaDoorEcM
namespace Go.Proofs.YtkppcmpdghnmgaaDoor
open Go.RowKit Go.Shelf
set_option linter.unusedVariables false

set_option maxRecDepth 10000 in
set_option maxHeartbeats 2000000 in
theorem scontact2 (op k n p k1 n1 p1 : Int) (r0 r1 : Bool) (b o cap : Nat) (w : World) (ho1 : 3 ≤ op) (ho2 : op ≤ 4) (ho3 : ¬ op ≤ 2) (hx : Ops w b o [(k, n, p), (k1, n1, p1)])
    (hA : Hid (∀ W, Calls Tryd.prog 49 #[.int .i64 op] W fun e w' => e = .returned (.int .i64 2) ∧ Below W.heap.size W w'))
    (h0 : Hid (∀ W, Calls Tryd.prog 50 #[.agg #[.int .i64 k, .int .i64 n, .int .i64 p]] W fun e w' => e = .returned (.bool r0) ∧ Below W.heap.size W w'))
    (h1 : Hid (∀ W, Calls Tryd.prog 51 #[.agg #[.int .i64 k1, .int .i64 n1, .int .i64 p1]] W fun e w' => e = .returned (.bool r1) ∧ Below W.heap.size W w')) :
    Calls Tryd.prog 32 #[.agg #[.int .i64 op, .slice (some ⟨b, o, none⟩) 2 cap]] w fun e w' => e = .returned (.bool (r0 && (r1 && (k1 == 5)))) ∧ Below w.heap.size w w' := by
  have hb0 : Below w.heap.size w (w.alloc (.cells #[.int .i64 op, .slice (some ⟨b, o, none⟩) 2 cap] 26)) := (Below.refl _ _).alloc (Nat.le_refl _) _
  have k0 := cell_regrown (w := (w.alloc (.cells #[.int .i64 op, .slice (some ⟨b, o, none⟩) 2 cap] 26))) (a := ⟨w.heap.size, 0, none⟩) (v := .int .i64 op) (by simp)
  have k1 := cell_regrown (w := (w.alloc (.cells #[.int .i64 op, .slice (some ⟨b, o, none⟩) 2 cap] 26))) (a := ⟨w.heap.size, 1, none⟩) (v := .slice (some ⟨b, o, none⟩) 2 cap) (by simp)
  have cA : ∀ d os, Calls Tryd.prog 49 #[.int .i64 op] (Sort.grow (redrawn (w.alloc (.cells #[.int .i64 op, .slice (some ⟨b, o, none⟩) 2 cap] 26)) d) os) fun e w'' => e = .returned (.int .i64 2) ∧ ∃ p : Regrown, w'' = Sort.grow (redrawn (w.alloc (.cells #[.int .i64 op, .slice (some ⟨b, o, none⟩) 2 cap] 26)) p.d) p.os :=
    fun d os => Calls.regrown_of (hA.out _)
  clear hA
  have h_1 : ¬ (op < 1) := by omega
  have h_2 : ¬ (10 < op) := by omega
  go_enter Tryd.func32, Tryd.ntmps32
  go_upto_region 1 with fail
  refine wp_region_quiet_below (by kernel_rfl) (by kernel_rfl) ?_
  repeat (go_big_quiet_step (first | exact cA _ _))
  refine wpQuiet_nil ?_
  intro _ hw'
  obtain ⟨⟨dq, osq⟩, hw''⟩ := hw'
  subst hw''
  have e0 := k0 dq osq
  have e1 := k1 dq osq
  have hb1 := hb0.trans ((below_regrown (w.alloc (.cells #[.int .i64 op, .slice (some ⟨b, o, none⟩) 2 cap] 26)) dq osq).mono hb0.size)
  have hx1 := hx.later hb1
  have lt1 : w.heap.size < (Sort.grow (redrawn (w.alloc (.cells #[.int .i64 op, .slice (some ⟨b, o, none⟩) 2 cap] 26)) dq) osq).heap.size := World.block_lt_of_cell? _ _ e0
  dsimp only at e0 e1 hb1 hx1 lt1 ⊢
  generalize Sort.grow (redrawn (w.alloc (.cells #[.int .i64 op, .slice (some ⟨b, o, none⟩) 2 cap] 26)) dq) osq = w2 at e0 e1 hb1 hx1 lt1 ⊢
  clear cA k0 k1 hb0 hx
  have lt2 : b < w2.heap.size := hx1.lt (by simp)
  have x00 := (hx1 0 _ rfl).1
  have x01 := (hx1 0 _ rfl).2.1
  have x02 := (hx1 0 _ rfl).2.2
  have x10 := (hx1 1 _ rfl).1
  have x11 := (hx1 1 _ rfl).2.1
  have x12 := (hx1 1 _ rfl).2.2
  simp only [Nat.zero_mul, Nat.add_zero, Nat.one_mul, Nat.add_assoc, Nat.reduceAdd] at x00 x01 x02 x10 x11 x12
  go_wp2_with fail
  refine (h0.out _).mono ?_
  rintro e w3 ⟨rfl, g3⟩
  have D3 : Below w2.heap.size w2 w3 := g3
  have z3e0 := cell_later D3 e0
  have z3e1 := cell_later D3 e1
  have z3x00 := cell_later D3 x00
  have z3x01 := cell_later D3 x01
  have z3x02 := cell_later D3 x02
  have z3x10 := cell_later D3 x10
  have z3x11 := cell_later D3 x11
  have z3x12 := cell_later D3 x12
  clear g3
  cases r0 with
  | true =>
    go_wp2_with fail
    refine (h1.out _).mono ?_
    rintro e w4 ⟨rfl, g4⟩
    have D4 : Below w2.heap.size w2 w4 := D3.trans (g4.mono D3.size)
    have z4e0 := cell_later D4 e0
    have z4e1 := cell_later D4 e1
    have z4x00 := cell_later D4 x00
    have z4x01 := cell_later D4 x01
    have z4x02 := cell_later D4 x02
    have z4x10 := cell_later D4 x10
    have z4x11 := cell_later D4 x11
    have z4x12 := cell_later D4 x12
    clear g4
    cases r1 with
    | true =>
      go_wp2
      go_ret
      exact ⟨by simp, hb1.trans (D4.mono hb1.size)⟩
    | false =>
      go_wp2
      go_ret
      exact ⟨by simp, hb1.trans (D4.mono hb1.size)⟩
  | false =>
    go_wp2
    go_ret
    exact ⟨by simp, hb1.trans (D3.mono hb1.size)⟩

set_option maxRecDepth 10000 in
set_option maxHeartbeats 2000000 in
theorem scontact3 (op k n p k1 n1 p1 : Int) (r0 r1 r2 r3 : Bool) (b o cap : Nat) (w : World) (ho1 : 5 ≤ op) (ho2 : op ≤ 10) (ho3 : ¬ op ≤ 2) (ho4 : ¬ op ≤ 4) (hx : Ops w b o [(k, n, p), (k1, n1, p1)])
    (hA : Hid (∀ W, Calls Tryd.prog 49 #[.int .i64 op] W fun e w' => e = .returned (.int .i64 2) ∧ Below W.heap.size W w'))
    (h0 : Hid (∀ W, Calls Tryd.prog 52 #[.agg #[.int .i64 k, .int .i64 n, .int .i64 p]] W fun e w' => e = .returned (.bool r0) ∧ Below W.heap.size W w'))
    (h1 : Hid (∀ W, Calls Tryd.prog 52 #[.agg #[.int .i64 k1, .int .i64 n1, .int .i64 p1]] W fun e w' => e = .returned (.bool r1) ∧ Below W.heap.size W w'))
    (h2 : Hid (∀ W, Calls Tryd.prog 53 #[.agg #[.int .i64 k, .int .i64 n, .int .i64 p]] W fun e w' => e = .returned (.bool r2) ∧ Below W.heap.size W w'))
    (h3 : Hid (∀ W, Calls Tryd.prog 53 #[.agg #[.int .i64 k1, .int .i64 n1, .int .i64 p1]] W fun e w' => e = .returned (.bool r3) ∧ Below W.heap.size W w')) :
    Calls Tryd.prog 32 #[.agg #[.int .i64 op, .slice (some ⟨b, o, none⟩) 2 cap]] w fun e w' => e = .returned (.bool (r0 && r1 || r2 && r3)) ∧ Below w.heap.size w w' := by
  have hb0 : Below w.heap.size w (w.alloc (.cells #[.int .i64 op, .slice (some ⟨b, o, none⟩) 2 cap] 26)) := (Below.refl _ _).alloc (Nat.le_refl _) _
  have k0 := cell_regrown (w := (w.alloc (.cells #[.int .i64 op, .slice (some ⟨b, o, none⟩) 2 cap] 26))) (a := ⟨w.heap.size, 0, none⟩) (v := .int .i64 op) (by simp)
  have k1 := cell_regrown (w := (w.alloc (.cells #[.int .i64 op, .slice (some ⟨b, o, none⟩) 2 cap] 26))) (a := ⟨w.heap.size, 1, none⟩) (v := .slice (some ⟨b, o, none⟩) 2 cap) (by simp)
  have cA : ∀ d os, Calls Tryd.prog 49 #[.int .i64 op] (Sort.grow (redrawn (w.alloc (.cells #[.int .i64 op, .slice (some ⟨b, o, none⟩) 2 cap] 26)) d) os) fun e w'' => e = .returned (.int .i64 2) ∧ ∃ p : Regrown, w'' = Sort.grow (redrawn (w.alloc (.cells #[.int .i64 op, .slice (some ⟨b, o, none⟩) 2 cap] 26)) p.d) p.os :=
    fun d os => Calls.regrown_of (hA.out _)
  clear hA
  have h_1 : ¬ (op < 1) := by omega
  have h_2 : ¬ (10 < op) := by omega
  go_enter Tryd.func32, Tryd.ntmps32
  go_upto_region 1 with fail
  refine wp_region_quiet_below (by kernel_rfl) (by kernel_rfl) ?_
  repeat (go_big_quiet_step (first | exact cA _ _))
  refine wpQuiet_nil ?_
  intro _ hw'
  obtain ⟨⟨dq, osq⟩, hw''⟩ := hw'
  subst hw''
  have e0 := k0 dq osq
  have e1 := k1 dq osq
  have hb1 := hb0.trans ((below_regrown (w.alloc (.cells #[.int .i64 op, .slice (some ⟨b, o, none⟩) 2 cap] 26)) dq osq).mono hb0.size)
  have hx1 := hx.later hb1
  have lt1 : w.heap.size < (Sort.grow (redrawn (w.alloc (.cells #[.int .i64 op, .slice (some ⟨b, o, none⟩) 2 cap] 26)) dq) osq).heap.size := World.block_lt_of_cell? _ _ e0
  dsimp only at e0 e1 hb1 hx1 lt1 ⊢
  generalize Sort.grow (redrawn (w.alloc (.cells #[.int .i64 op, .slice (some ⟨b, o, none⟩) 2 cap] 26)) dq) osq = w2 at e0 e1 hb1 hx1 lt1 ⊢
  clear cA k0 k1 hb0 hx
  have lt2 : b < w2.heap.size := hx1.lt (by simp)
  have x00 := (hx1 0 _ rfl).1
  have x01 := (hx1 0 _ rfl).2.1
  have x02 := (hx1 0 _ rfl).2.2
  have x10 := (hx1 1 _ rfl).1
  have x11 := (hx1 1 _ rfl).2.1
  have x12 := (hx1 1 _ rfl).2.2
  simp only [Nat.zero_mul, Nat.add_zero, Nat.one_mul, Nat.add_assoc, Nat.reduceAdd] at x00 x01 x02 x10 x11 x12
  go_wp2_with fail
  refine (h0.out _).mono ?_
  rintro e w3 ⟨rfl, g3⟩
  have D3 : Below w2.heap.size w2 w3 := g3
  have z3e0 := cell_later D3 e0
  have z3e1 := cell_later D3 e1
  have z3x00 := cell_later D3 x00
  have z3x01 := cell_later D3 x01
  have z3x02 := cell_later D3 x02
  have z3x10 := cell_later D3 x10
  have z3x11 := cell_later D3 x11
  have z3x12 := cell_later D3 x12
  clear g3
  cases r0 with
  | true =>
    go_wp2_with fail
    refine (h1.out _).mono ?_
    rintro e w4 ⟨rfl, g4⟩
    have D4 : Below w2.heap.size w2 w4 := D3.trans (g4.mono D3.size)
    have z4e0 := cell_later D4 e0
    have z4e1 := cell_later D4 e1
    have z4x00 := cell_later D4 x00
    have z4x01 := cell_later D4 x01
    have z4x02 := cell_later D4 x02
    have z4x10 := cell_later D4 x10
    have z4x11 := cell_later D4 x11
    have z4x12 := cell_later D4 x12
    clear g4
    cases r1 with
    | true =>
      go_wp2
      go_ret
      exact ⟨by simp, hb1.trans (D4.mono hb1.size)⟩
    | false =>
      go_wp2_with fail
      refine (h2.out _).mono ?_
      rintro e w5 ⟨rfl, g5⟩
      have D5 : Below w2.heap.size w2 w5 := D4.trans (g5.mono D4.size)
      have z5e0 := cell_later D5 e0
      have z5e1 := cell_later D5 e1
      have z5x00 := cell_later D5 x00
      have z5x01 := cell_later D5 x01
      have z5x02 := cell_later D5 x02
      have z5x10 := cell_later D5 x10
      have z5x11 := cell_later D5 x11
      have z5x12 := cell_later D5 x12
      clear g5
      cases r2 with
      | true =>
        go_wp2_with fail
        refine (h3.out _).mono ?_
        rintro e w6 ⟨rfl, g6⟩
        have D6 : Below w2.heap.size w2 w6 := D5.trans (g6.mono D5.size)
        have z6e0 := cell_later D6 e0
        have z6e1 := cell_later D6 e1
        have z6x00 := cell_later D6 x00
        have z6x01 := cell_later D6 x01
        have z6x02 := cell_later D6 x02
        have z6x10 := cell_later D6 x10
        have z6x11 := cell_later D6 x11
        have z6x12 := cell_later D6 x12
        clear g6
        cases r3 with
        | true =>
          go_wp2
          go_ret
          exact ⟨by simp, hb1.trans (D6.mono hb1.size)⟩
        | false =>
          go_wp2
          go_ret
          exact ⟨by simp, hb1.trans (D6.mono hb1.size)⟩
      | false =>
        go_wp2
        go_ret
        exact ⟨by simp, hb1.trans (D5.mono hb1.size)⟩
  | false =>
    go_wp2_with fail
    refine (h2.out _).mono ?_
    rintro e w4 ⟨rfl, g4⟩
    have D4 : Below w2.heap.size w2 w4 := D3.trans (g4.mono D3.size)
    have z4e0 := cell_later D4 e0
    have z4e1 := cell_later D4 e1
    have z4x00 := cell_later D4 x00
    have z4x01 := cell_later D4 x01
    have z4x02 := cell_later D4 x02
    have z4x10 := cell_later D4 x10
    have z4x11 := cell_later D4 x11
    have z4x12 := cell_later D4 x12
    clear g4
    cases r2 with
    | true =>
      go_wp2_with fail
      refine (h3.out _).mono ?_
      rintro e w5 ⟨rfl, g5⟩
      have D5 : Below w2.heap.size w2 w5 := D4.trans (g5.mono D4.size)
      have z5e0 := cell_later D5 e0
      have z5e1 := cell_later D5 e1
      have z5x00 := cell_later D5 x00
      have z5x01 := cell_later D5 x01
      have z5x02 := cell_later D5 x02
      have z5x10 := cell_later D5 x10
      have z5x11 := cell_later D5 x11
      have z5x12 := cell_later D5 x12
      clear g5
      cases r3 with
      | true =>
        go_wp2
        go_ret
        exact ⟨by simp, hb1.trans (D5.mono hb1.size)⟩
      | false =>
        go_wp2
        go_ret
        exact ⟨by simp, hb1.trans (D5.mono hb1.size)⟩
    | false =>
      go_wp2
      go_ret
      exact ⟨by simp, hb1.trans (D4.mono hb1.size)⟩

set_option maxRecDepth 10000 in
set_option maxHeartbeats 2000000 in
theorem scoil21 (k n p : Int) (r0 : Bool) (b o cap : Nat) (w : World) (hx : Ops w b o [(k, n, p)])
    (hA : Hid (∀ W, Calls Tryd.prog 49 #[.int .i64 21] W fun e w' => e = .returned (.int .i64 1) ∧ Below W.heap.size W w'))
    (h0 : Hid (∀ W, Calls Tryd.prog 54 #[.agg #[.int .i64 k, .int .i64 n, .int .i64 p], .int .i64 2, .int .i64 3] W fun e w' => e = .returned (.bool r0) ∧ Below W.heap.size W w')) :
    Calls Tryd.prog 33 #[.agg #[.int .i64 21, .slice (some ⟨b, o, none⟩) 1 cap]] w fun e w' => e = .returned (.bool (r0)) ∧ Below w.heap.size w w' := by
  have hb0 : Below w.heap.size w (w.alloc (.cells #[.int .i64 21, .slice (some ⟨b, o, none⟩) 1 cap] 26)) := (Below.refl _ _).alloc (Nat.le_refl _) _
  have k0 := cell_regrown (w := (w.alloc (.cells #[.int .i64 21, .slice (some ⟨b, o, none⟩) 1 cap] 26))) (a := ⟨w.heap.size, 0, none⟩) (v := .int .i64 21) (by simp)
  have k1 := cell_regrown (w := (w.alloc (.cells #[.int .i64 21, .slice (some ⟨b, o, none⟩) 1 cap] 26))) (a := ⟨w.heap.size, 1, none⟩) (v := .slice (some ⟨b, o, none⟩) 1 cap) (by simp)
  have cA : ∀ d os, Calls Tryd.prog 49 #[.int .i64 21] (Sort.grow (redrawn (w.alloc (.cells #[.int .i64 21, .slice (some ⟨b, o, none⟩) 1 cap] 26)) d) os) fun e w'' => e = .returned (.int .i64 1) ∧ ∃ p : Regrown, w'' = Sort.grow (redrawn (w.alloc (.cells #[.int .i64 21, .slice (some ⟨b, o, none⟩) 1 cap] 26)) p.d) p.os :=
    fun d os => Calls.regrown_of (hA.out _)
  clear hA
  go_enter Tryd.func33, Tryd.ntmps33
  go_upto_region 1 with fail
  refine wp_region_quiet_below (by kernel_rfl) (by kernel_rfl) ?_
  repeat (go_big_quiet_step (first | exact cA _ _))
  refine wpQuiet_nil ?_
  intro _ hw'
  obtain ⟨⟨dq, osq⟩, hw''⟩ := hw'
  subst hw''
  have e0 := k0 dq osq
  have e1 := k1 dq osq
  have hb1 := hb0.trans ((below_regrown (w.alloc (.cells #[.int .i64 21, .slice (some ⟨b, o, none⟩) 1 cap] 26)) dq osq).mono hb0.size)
  have hx1 := hx.later hb1
  have lt1 : w.heap.size < (Sort.grow (redrawn (w.alloc (.cells #[.int .i64 21, .slice (some ⟨b, o, none⟩) 1 cap] 26)) dq) osq).heap.size := World.block_lt_of_cell? _ _ e0
  dsimp only at e0 e1 hb1 hx1 lt1 ⊢
  generalize Sort.grow (redrawn (w.alloc (.cells #[.int .i64 21, .slice (some ⟨b, o, none⟩) 1 cap] 26)) dq) osq = w2 at e0 e1 hb1 hx1 lt1 ⊢
  clear cA k0 k1 hb0 hx
  have lt2 : b < w2.heap.size := hx1.lt (by simp)
  have x00 := (hx1 0 _ rfl).1
  have x01 := (hx1 0 _ rfl).2.1
  have x02 := (hx1 0 _ rfl).2.2
  simp only [Nat.zero_mul, Nat.add_zero] at x00 x01 x02
  have hA0 : Below w2.heap.size w2 (w2.alloc (.cells #[.int .i64 k, .int .i64 n, .int .i64 p] 83)) := (Below.refl _ _).alloc (Nat.le_refl _) _
  have fe0 := cell_later hA0 e0
  have fe1 := cell_later hA0 e1
  have fx00 := cell_later hA0 x00
  have fx01 := cell_later hA0 x01
  have fx02 := cell_later hA0 x02
  have fa0 : (w2.alloc (.cells #[.int .i64 k, .int .i64 n, .int .i64 p] 83)).cell? ⟨w2.heap.size, 0, none⟩ = some (.int .i64 k) := by simp
  have fa1 : (w2.alloc (.cells #[.int .i64 k, .int .i64 n, .int .i64 p] 83)).cell? ⟨w2.heap.size, 1, none⟩ = some (.int .i64 n) := by simp
  have fa2 : (w2.alloc (.cells #[.int .i64 k, .int .i64 n, .int .i64 p] 83)).cell? ⟨w2.heap.size, 2, none⟩ = some (.int .i64 p) := by simp
  have hbA : Below w.heap.size w (w2.alloc (.cells #[.int .i64 k, .int .i64 n, .int .i64 p] 83)) := hb1.alloc hb1.size _
  go_wp2_with fail
  refine (h0.out _).mono ?_
  rintro e w3 ⟨rfl, g3⟩
  have D3 : Below (w2.alloc (.cells #[.int .i64 k, .int .i64 n, .int .i64 p] 83)).heap.size (w2.alloc (.cells #[.int .i64 k, .int .i64 n, .int .i64 p] 83)) w3 := g3
  have z3fe0 := cell_later D3 fe0
  have z3fe1 := cell_later D3 fe1
  have z3fx00 := cell_later D3 fx00
  have z3fx01 := cell_later D3 fx01
  have z3fx02 := cell_later D3 fx02
  have z3fa0 := cell_later D3 fa0
  have z3fa1 := cell_later D3 fa1
  have z3fa2 := cell_later D3 fa2
  clear g3
  cases r0 with
  | true =>
    go_wp2
    go_ret
    exact ⟨by simp, hbA.trans (D3.mono hbA.size)⟩
  | false =>
    go_wp2
    go_ret
    exact ⟨by simp, hbA.trans (D3.mono hbA.size)⟩

set_option maxRecDepth 10000 in
set_option maxHeartbeats 2000000 in
theorem scoil22 (k n p : Int) (r0 r1 : Bool) (b o cap : Nat) (w : World) (hx : Ops w b o [(k, n, p)])
    (hA : Hid (∀ W, Calls Tryd.prog 49 #[.int .i64 22] W fun e w' => e = .returned (.int .i64 1) ∧ Below W.heap.size W w'))
    (h0 : Hid (∀ W, Calls Tryd.prog 54 #[.agg #[.int .i64 k, .int .i64 n, .int .i64 p], .int .i64 2, .int .i64 3] W fun e w' => e = .returned (.bool r0) ∧ Below W.heap.size W w'))
    (h1 : Hid (∀ W, Calls Tryd.prog 54 #[.agg #[.int .i64 k, .int .i64 n, .int .i64 p], .int .i64 4, .int .i64 4] W fun e w' => e = .returned (.bool r1) ∧ Below W.heap.size W w')) :
    Calls Tryd.prog 33 #[.agg #[.int .i64 22, .slice (some ⟨b, o, none⟩) 1 cap]] w fun e w' => e = .returned (.bool (r0 || r1)) ∧ Below w.heap.size w w' := by
  have hb0 : Below w.heap.size w (w.alloc (.cells #[.int .i64 22, .slice (some ⟨b, o, none⟩) 1 cap] 26)) := (Below.refl _ _).alloc (Nat.le_refl _) _
  have k0 := cell_regrown (w := (w.alloc (.cells #[.int .i64 22, .slice (some ⟨b, o, none⟩) 1 cap] 26))) (a := ⟨w.heap.size, 0, none⟩) (v := .int .i64 22) (by simp)
  have k1 := cell_regrown (w := (w.alloc (.cells #[.int .i64 22, .slice (some ⟨b, o, none⟩) 1 cap] 26))) (a := ⟨w.heap.size, 1, none⟩) (v := .slice (some ⟨b, o, none⟩) 1 cap) (by simp)
  have cA : ∀ d os, Calls Tryd.prog 49 #[.int .i64 22] (Sort.grow (redrawn (w.alloc (.cells #[.int .i64 22, .slice (some ⟨b, o, none⟩) 1 cap] 26)) d) os) fun e w'' => e = .returned (.int .i64 1) ∧ ∃ p : Regrown, w'' = Sort.grow (redrawn (w.alloc (.cells #[.int .i64 22, .slice (some ⟨b, o, none⟩) 1 cap] 26)) p.d) p.os :=
    fun d os => Calls.regrown_of (hA.out _)
  clear hA
  go_enter Tryd.func33, Tryd.ntmps33
  go_upto_region 1 with fail
  refine wp_region_quiet_below (by kernel_rfl) (by kernel_rfl) ?_
  repeat (go_big_quiet_step (first | exact cA _ _))
  refine wpQuiet_nil ?_
  intro _ hw'
  obtain ⟨⟨dq, osq⟩, hw''⟩ := hw'
  subst hw''
  have e0 := k0 dq osq
  have e1 := k1 dq osq
  have hb1 := hb0.trans ((below_regrown (w.alloc (.cells #[.int .i64 22, .slice (some ⟨b, o, none⟩) 1 cap] 26)) dq osq).mono hb0.size)
  have hx1 := hx.later hb1
  have lt1 : w.heap.size < (Sort.grow (redrawn (w.alloc (.cells #[.int .i64 22, .slice (some ⟨b, o, none⟩) 1 cap] 26)) dq) osq).heap.size := World.block_lt_of_cell? _ _ e0
  dsimp only at e0 e1 hb1 hx1 lt1 ⊢
  generalize Sort.grow (redrawn (w.alloc (.cells #[.int .i64 22, .slice (some ⟨b, o, none⟩) 1 cap] 26)) dq) osq = w2 at e0 e1 hb1 hx1 lt1 ⊢
  clear cA k0 k1 hb0 hx
  have lt2 : b < w2.heap.size := hx1.lt (by simp)
  have x00 := (hx1 0 _ rfl).1
  have x01 := (hx1 0 _ rfl).2.1
  have x02 := (hx1 0 _ rfl).2.2
  simp only [Nat.zero_mul, Nat.add_zero] at x00 x01 x02
  have hA0 : Below w2.heap.size w2 (w2.alloc (.cells #[.int .i64 k, .int .i64 n, .int .i64 p] 83)) := (Below.refl _ _).alloc (Nat.le_refl _) _
  have fe0 := cell_later hA0 e0
  have fe1 := cell_later hA0 e1
  have fx00 := cell_later hA0 x00
  have fx01 := cell_later hA0 x01
  have fx02 := cell_later hA0 x02
  have fa0 : (w2.alloc (.cells #[.int .i64 k, .int .i64 n, .int .i64 p] 83)).cell? ⟨w2.heap.size, 0, none⟩ = some (.int .i64 k) := by simp
  have fa1 : (w2.alloc (.cells #[.int .i64 k, .int .i64 n, .int .i64 p] 83)).cell? ⟨w2.heap.size, 1, none⟩ = some (.int .i64 n) := by simp
  have fa2 : (w2.alloc (.cells #[.int .i64 k, .int .i64 n, .int .i64 p] 83)).cell? ⟨w2.heap.size, 2, none⟩ = some (.int .i64 p) := by simp
  have hbA : Below w.heap.size w (w2.alloc (.cells #[.int .i64 k, .int .i64 n, .int .i64 p] 83)) := hb1.alloc hb1.size _
  go_wp2_with fail
  refine (h0.out _).mono ?_
  rintro e w3 ⟨rfl, g3⟩
  have D3 : Below (w2.alloc (.cells #[.int .i64 k, .int .i64 n, .int .i64 p] 83)).heap.size (w2.alloc (.cells #[.int .i64 k, .int .i64 n, .int .i64 p] 83)) w3 := g3
  have z3fe0 := cell_later D3 fe0
  have z3fe1 := cell_later D3 fe1
  have z3fx00 := cell_later D3 fx00
  have z3fx01 := cell_later D3 fx01
  have z3fx02 := cell_later D3 fx02
  have z3fa0 := cell_later D3 fa0
  have z3fa1 := cell_later D3 fa1
  have z3fa2 := cell_later D3 fa2
  clear g3
  cases r0 with
  | true =>
    go_wp2
    go_ret
    exact ⟨by simp, hbA.trans (D3.mono hbA.size)⟩
  | false =>
    go_wp2_with fail
    refine (h1.out _).mono ?_
    rintro e w4 ⟨rfl, g4⟩
    have D4 : Below (w2.alloc (.cells #[.int .i64 k, .int .i64 n, .int .i64 p] 83)).heap.size (w2.alloc (.cells #[.int .i64 k, .int .i64 n, .int .i64 p] 83)) w4 := D3.trans (g4.mono D3.size)
    have z4fe0 := cell_later D4 fe0
    have z4fe1 := cell_later D4 fe1
    have z4fx00 := cell_later D4 fx00
    have z4fx01 := cell_later D4 fx01
    have z4fx02 := cell_later D4 fx02
    have z4fa0 := cell_later D4 fa0
    have z4fa1 := cell_later D4 fa1
    have z4fa2 := cell_later D4 fa2
    clear g4
    cases r1 with
    | true =>
      go_wp2
      go_ret
      exact ⟨by simp, hbA.trans (D4.mono hbA.size)⟩
    | false =>
      go_wp2
      go_ret
      exact ⟨by simp, hbA.trans (D4.mono hbA.size)⟩

set_option maxRecDepth 10000 in
set_option maxHeartbeats 2000000 in
theorem scoil23 (k n p : Int) (r0 r1 r2 : Bool) (b o cap : Nat) (w : World) (hx : Ops w b o [(k, n, p)])
    (hA : Hid (∀ W, Calls Tryd.prog 49 #[.int .i64 23] W fun e w' => e = .returned (.int .i64 1) ∧ Below W.heap.size W w'))
    (h0 : Hid (∀ W, Calls Tryd.prog 54 #[.agg #[.int .i64 k, .int .i64 n, .int .i64 p], .int .i64 2, .int .i64 3] W fun e w' => e = .returned (.bool r0) ∧ Below W.heap.size W w'))
    (h1 : Hid (∀ W, Calls Tryd.prog 54 #[.agg #[.int .i64 k, .int .i64 n, .int .i64 p], .int .i64 4, .int .i64 7] W fun e w' => e = .returned (.bool r1) ∧ Below W.heap.size W w'))
    (h2 : Hid (∀ W, Calls Tryd.prog 54 #[.agg #[.int .i64 k, .int .i64 n, .int .i64 p], .int .i64 8, .int .i64 8] W fun e w' => e = .returned (.bool r2) ∧ Below W.heap.size W w')) :
    Calls Tryd.prog 33 #[.agg #[.int .i64 23, .slice (some ⟨b, o, none⟩) 1 cap]] w fun e w' => e = .returned (.bool (r0 || r1 || r2)) ∧ Below w.heap.size w w' := by
  have hb0 : Below w.heap.size w (w.alloc (.cells #[.int .i64 23, .slice (some ⟨b, o, none⟩) 1 cap] 26)) := (Below.refl _ _).alloc (Nat.le_refl _) _
  have k0 := cell_regrown (w := (w.alloc (.cells #[.int .i64 23, .slice (some ⟨b, o, none⟩) 1 cap] 26))) (a := ⟨w.heap.size, 0, none⟩) (v := .int .i64 23) (by simp)
  have k1 := cell_regrown (w := (w.alloc (.cells #[.int .i64 23, .slice (some ⟨b, o, none⟩) 1 cap] 26))) (a := ⟨w.heap.size, 1, none⟩) (v := .slice (some ⟨b, o, none⟩) 1 cap) (by simp)
  have cA : ∀ d os, Calls Tryd.prog 49 #[.int .i64 23] (Sort.grow (redrawn (w.alloc (.cells #[.int .i64 23, .slice (some ⟨b, o, none⟩) 1 cap] 26)) d) os) fun e w'' => e = .returned (.int .i64 1) ∧ ∃ p : Regrown, w'' = Sort.grow (redrawn (w.alloc (.cells #[.int .i64 23, .slice (some ⟨b, o, none⟩) 1 cap] 26)) p.d) p.os :=
    fun d os => Calls.regrown_of (hA.out _)
  clear hA
  go_enter Tryd.func33, Tryd.ntmps33
  go_upto_region 1 with fail
  refine wp_region_quiet_below (by kernel_rfl) (by kernel_rfl) ?_
  repeat (go_big_quiet_step (first | exact cA _ _))
  refine wpQuiet_nil ?_
  intro _ hw'
  obtain ⟨⟨dq, osq⟩, hw''⟩ := hw'
  subst hw''
  have e0 := k0 dq osq
  have e1 := k1 dq osq
  have hb1 := hb0.trans ((below_regrown (w.alloc (.cells #[.int .i64 23, .slice (some ⟨b, o, none⟩) 1 cap] 26)) dq osq).mono hb0.size)
  have hx1 := hx.later hb1
  have lt1 : w.heap.size < (Sort.grow (redrawn (w.alloc (.cells #[.int .i64 23, .slice (some ⟨b, o, none⟩) 1 cap] 26)) dq) osq).heap.size := World.block_lt_of_cell? _ _ e0
  dsimp only at e0 e1 hb1 hx1 lt1 ⊢
  generalize Sort.grow (redrawn (w.alloc (.cells #[.int .i64 23, .slice (some ⟨b, o, none⟩) 1 cap] 26)) dq) osq = w2 at e0 e1 hb1 hx1 lt1 ⊢
  clear cA k0 k1 hb0 hx
  have lt2 : b < w2.heap.size := hx1.lt (by simp)
  have x00 := (hx1 0 _ rfl).1
  have x01 := (hx1 0 _ rfl).2.1
  have x02 := (hx1 0 _ rfl).2.2
  simp only [Nat.zero_mul, Nat.add_zero] at x00 x01 x02
  have hA0 : Below w2.heap.size w2 (w2.alloc (.cells #[.int .i64 k, .int .i64 n, .int .i64 p] 83)) := (Below.refl _ _).alloc (Nat.le_refl _) _
  have fe0 := cell_later hA0 e0
  have fe1 := cell_later hA0 e1
  have fx00 := cell_later hA0 x00
  have fx01 := cell_later hA0 x01
  have fx02 := cell_later hA0 x02
  have fa0 : (w2.alloc (.cells #[.int .i64 k, .int .i64 n, .int .i64 p] 83)).cell? ⟨w2.heap.size, 0, none⟩ = some (.int .i64 k) := by simp
  have fa1 : (w2.alloc (.cells #[.int .i64 k, .int .i64 n, .int .i64 p] 83)).cell? ⟨w2.heap.size, 1, none⟩ = some (.int .i64 n) := by simp
  have fa2 : (w2.alloc (.cells #[.int .i64 k, .int .i64 n, .int .i64 p] 83)).cell? ⟨w2.heap.size, 2, none⟩ = some (.int .i64 p) := by simp
  have hbA : Below w.heap.size w (w2.alloc (.cells #[.int .i64 k, .int .i64 n, .int .i64 p] 83)) := hb1.alloc hb1.size _
  go_wp2_with fail
  refine (h0.out _).mono ?_
  rintro e w3 ⟨rfl, g3⟩
  have D3 : Below (w2.alloc (.cells #[.int .i64 k, .int .i64 n, .int .i64 p] 83)).heap.size (w2.alloc (.cells #[.int .i64 k, .int .i64 n, .int .i64 p] 83)) w3 := g3
  have z3fe0 := cell_later D3 fe0
  have z3fe1 := cell_later D3 fe1
  have z3fx00 := cell_later D3 fx00
  have z3fx01 := cell_later D3 fx01
  have z3fx02 := cell_later D3 fx02
  have z3fa0 := cell_later D3 fa0
  have z3fa1 := cell_later D3 fa1
  have z3fa2 := cell_later D3 fa2
  clear g3
  cases r0 with
  | true =>
    go_wp2
    go_ret
    exact ⟨by simp, hbA.trans (D3.mono hbA.size)⟩
  | false =>
    go_wp2_with fail
    refine (h1.out _).mono ?_
    rintro e w4 ⟨rfl, g4⟩
    have D4 : Below (w2.alloc (.cells #[.int .i64 k, .int .i64 n, .int .i64 p] 83)).heap.size (w2.alloc (.cells #[.int .i64 k, .int .i64 n, .int .i64 p] 83)) w4 := D3.trans (g4.mono D3.size)
    have z4fe0 := cell_later D4 fe0
    have z4fe1 := cell_later D4 fe1
    have z4fx00 := cell_later D4 fx00
    have z4fx01 := cell_later D4 fx01
    have z4fx02 := cell_later D4 fx02
    have z4fa0 := cell_later D4 fa0
    have z4fa1 := cell_later D4 fa1
    have z4fa2 := cell_later D4 fa2
    clear g4
    cases r1 with
    | true =>
      go_wp2
      go_ret
      exact ⟨by simp, hbA.trans (D4.mono hbA.size)⟩
    | false =>
      go_wp2_with fail
      refine (h2.out _).mono ?_
      rintro e w5 ⟨rfl, g5⟩
      have D5 : Below (w2.alloc (.cells #[.int .i64 k, .int .i64 n, .int .i64 p] 83)).heap.size (w2.alloc (.cells #[.int .i64 k, .int .i64 n, .int .i64 p] 83)) w5 := D4.trans (g5.mono D4.size)
      have z5fe0 := cell_later D5 fe0
      have z5fe1 := cell_later D5 fe1
      have z5fx00 := cell_later D5 fx00
      have z5fx01 := cell_later D5 fx01
      have z5fx02 := cell_later D5 fx02
      have z5fa0 := cell_later D5 fa0
      have z5fa1 := cell_later D5 fa1
      have z5fa2 := cell_later D5 fa2
      clear g5
      cases r2 with
      | true =>
        go_wp2
        go_ret
        exact ⟨by simp, hbA.trans (D5.mono hbA.size)⟩
      | false =>
        go_wp2
        go_ret
        exact ⟨by simp, hbA.trans (D5.mono hbA.size)⟩

set_option maxRecDepth 10000 in
set_option maxHeartbeats 2000000 in
theorem scoil24 (k n p k1 n1 p1 : Int) (r0 r1 : Bool) (b o cap : Nat) (w : World) (hx : Ops w b o [(k, n, p), (k1, n1, p1)])
    (hA : Hid (∀ W, Calls Tryd.prog 49 #[.int .i64 24] W fun e w' => e = .returned (.int .i64 2) ∧ Below W.heap.size W w'))
    (h0 : Hid (∀ W, Calls Tryd.prog 54 #[.agg #[.int .i64 k, .int .i64 n, .int .i64 p], .int .i64 2, .int .i64 3] W fun e w' => e = .returned (.bool r0) ∧ Below W.heap.size W w'))
    (h1 : Hid (∀ W, Calls Tryd.prog 54 #[.agg #[.int .i64 k1, .int .i64 n1, .int .i64 p1], .int .i64 5, .int .i64 5] W fun e w' => e = .returned (.bool r1) ∧ Below W.heap.size W w')) :
    Calls Tryd.prog 33 #[.agg #[.int .i64 24, .slice (some ⟨b, o, none⟩) 2 cap]] w fun e w' => e = .returned (.bool (r0 && r1)) ∧ Below w.heap.size w w' := by
  have hb0 : Below w.heap.size w (w.alloc (.cells #[.int .i64 24, .slice (some ⟨b, o, none⟩) 2 cap] 26)) := (Below.refl _ _).alloc (Nat.le_refl _) _
  have k0 := cell_regrown (w := (w.alloc (.cells #[.int .i64 24, .slice (some ⟨b, o, none⟩) 2 cap] 26))) (a := ⟨w.heap.size, 0, none⟩) (v := .int .i64 24) (by simp)
  have k1 := cell_regrown (w := (w.alloc (.cells #[.int .i64 24, .slice (some ⟨b, o, none⟩) 2 cap] 26))) (a := ⟨w.heap.size, 1, none⟩) (v := .slice (some ⟨b, o, none⟩) 2 cap) (by simp)
  have cA : ∀ d os, Calls Tryd.prog 49 #[.int .i64 24] (Sort.grow (redrawn (w.alloc (.cells #[.int .i64 24, .slice (some ⟨b, o, none⟩) 2 cap] 26)) d) os) fun e w'' => e = .returned (.int .i64 2) ∧ ∃ p : Regrown, w'' = Sort.grow (redrawn (w.alloc (.cells #[.int .i64 24, .slice (some ⟨b, o, none⟩) 2 cap] 26)) p.d) p.os :=
    fun d os => Calls.regrown_of (hA.out _)
  clear hA
  go_enter Tryd.func33, Tryd.ntmps33
  go_upto_region 1 with fail
  refine wp_region_quiet_below (by kernel_rfl) (by kernel_rfl) ?_
  repeat (go_big_quiet_step (first | exact cA _ _))
  refine wpQuiet_nil ?_
  intro _ hw'
  obtain ⟨⟨dq, osq⟩, hw''⟩ := hw'
  subst hw''
  have e0 := k0 dq osq
  have e1 := k1 dq osq
  have hb1 := hb0.trans ((below_regrown (w.alloc (.cells #[.int .i64 24, .slice (some ⟨b, o, none⟩) 2 cap] 26)) dq osq).mono hb0.size)
  have hx1 := hx.later hb1
  have lt1 : w.heap.size < (Sort.grow (redrawn (w.alloc (.cells #[.int .i64 24, .slice (some ⟨b, o, none⟩) 2 cap] 26)) dq) osq).heap.size := World.block_lt_of_cell? _ _ e0
  dsimp only at e0 e1 hb1 hx1 lt1 ⊢
  generalize Sort.grow (redrawn (w.alloc (.cells #[.int .i64 24, .slice (some ⟨b, o, none⟩) 2 cap] 26)) dq) osq = w2 at e0 e1 hb1 hx1 lt1 ⊢
  clear cA k0 k1 hb0 hx
  have lt2 : b < w2.heap.size := hx1.lt (by simp)
  have x00 := (hx1 0 _ rfl).1
  have x01 := (hx1 0 _ rfl).2.1
  have x02 := (hx1 0 _ rfl).2.2
  have x10 := (hx1 1 _ rfl).1
  have x11 := (hx1 1 _ rfl).2.1
  have x12 := (hx1 1 _ rfl).2.2
  simp only [Nat.zero_mul, Nat.add_zero, Nat.one_mul, Nat.add_assoc, Nat.reduceAdd] at x00 x01 x02 x10 x11 x12
  have hA0 : Below w2.heap.size w2 (w2.alloc (.cells #[.int .i64 k, .int .i64 n, .int .i64 p] 83)) := (Below.refl _ _).alloc (Nat.le_refl _) _
  have fe0 := cell_later hA0 e0
  have fe1 := cell_later hA0 e1
  have fx00 := cell_later hA0 x00
  have fx01 := cell_later hA0 x01
  have fx02 := cell_later hA0 x02
  have fx10 := cell_later hA0 x10
  have fx11 := cell_later hA0 x11
  have fx12 := cell_later hA0 x12
  have fa0 : (w2.alloc (.cells #[.int .i64 k, .int .i64 n, .int .i64 p] 83)).cell? ⟨w2.heap.size, 0, none⟩ = some (.int .i64 k) := by simp
  have fa1 : (w2.alloc (.cells #[.int .i64 k, .int .i64 n, .int .i64 p] 83)).cell? ⟨w2.heap.size, 1, none⟩ = some (.int .i64 n) := by simp
  have fa2 : (w2.alloc (.cells #[.int .i64 k, .int .i64 n, .int .i64 p] 83)).cell? ⟨w2.heap.size, 2, none⟩ = some (.int .i64 p) := by simp
  have hbA : Below w.heap.size w (w2.alloc (.cells #[.int .i64 k, .int .i64 n, .int .i64 p] 83)) := hb1.alloc hb1.size _
  go_wp2_with fail
  refine (h0.out _).mono ?_
  rintro e w3 ⟨rfl, g3⟩
  have D3 : Below (w2.alloc (.cells #[.int .i64 k, .int .i64 n, .int .i64 p] 83)).heap.size (w2.alloc (.cells #[.int .i64 k, .int .i64 n, .int .i64 p] 83)) w3 := g3
  have z3fe0 := cell_later D3 fe0
  have z3fe1 := cell_later D3 fe1
  have z3fx00 := cell_later D3 fx00
  have z3fx01 := cell_later D3 fx01
  have z3fx02 := cell_later D3 fx02
  have z3fx10 := cell_later D3 fx10
  have z3fx11 := cell_later D3 fx11
  have z3fx12 := cell_later D3 fx12
  have z3fa0 := cell_later D3 fa0
  have z3fa1 := cell_later D3 fa1
  have z3fa2 := cell_later D3 fa2
  clear g3
  cases r0 with
  | true =>
    go_wp2_with fail
    refine (h1.out _).mono ?_
    rintro e w4 ⟨rfl, g4⟩
    have D4 : Below (w2.alloc (.cells #[.int .i64 k, .int .i64 n, .int .i64 p] 83)).heap.size (w2.alloc (.cells #[.int .i64 k, .int .i64 n, .int .i64 p] 83)) w4 := D3.trans (g4.mono D3.size)
    have z4fe0 := cell_later D4 fe0
    have z4fe1 := cell_later D4 fe1
    have z4fx00 := cell_later D4 fx00
    have z4fx01 := cell_later D4 fx01
    have z4fx02 := cell_later D4 fx02
    have z4fx10 := cell_later D4 fx10
    have z4fx11 := cell_later D4 fx11
    have z4fx12 := cell_later D4 fx12
    have z4fa0 := cell_later D4 fa0
    have z4fa1 := cell_later D4 fa1
    have z4fa2 := cell_later D4 fa2
    clear g4
    cases r1 with
    | true =>
      go_wp2
      go_ret
      exact ⟨by simp, hbA.trans (D4.mono hbA.size)⟩
    | false =>
      go_wp2
      go_ret
      exact ⟨by simp, hbA.trans (D4.mono hbA.size)⟩
  | false =>
    go_wp2
    go_ret
    exact ⟨by simp, hbA.trans (D3.mono hbA.size)⟩

set_option maxRecDepth 10000 in
set_option maxHeartbeats 2000000 in
theorem scoil25 (k n p : Int) (r0 : Bool) (b o cap : Nat) (w : World) (hx : Ops w b o [(k, n, p)])
    (hA : Hid (∀ W, Calls Tryd.prog 49 #[.int .i64 25] W fun e w' => e = .returned (.int .i64 1) ∧ Below W.heap.size W w'))
    (h0 : Hid (∀ W, Calls Tryd.prog 54 #[.agg #[.int .i64 k, .int .i64 n, .int .i64 p], .int .i64 4, .int .i64 4] W fun e w' => e = .returned (.bool r0) ∧ Below W.heap.size W w')) :
    Calls Tryd.prog 33 #[.agg #[.int .i64 25, .slice (some ⟨b, o, none⟩) 1 cap]] w fun e w' => e = .returned (.bool (r0)) ∧ Below w.heap.size w w' := by
  have hb0 : Below w.heap.size w (w.alloc (.cells #[.int .i64 25, .slice (some ⟨b, o, none⟩) 1 cap] 26)) := (Below.refl _ _).alloc (Nat.le_refl _) _
  have k0 := cell_regrown (w := (w.alloc (.cells #[.int .i64 25, .slice (some ⟨b, o, none⟩) 1 cap] 26))) (a := ⟨w.heap.size, 0, none⟩) (v := .int .i64 25) (by simp)
  have k1 := cell_regrown (w := (w.alloc (.cells #[.int .i64 25, .slice (some ⟨b, o, none⟩) 1 cap] 26))) (a := ⟨w.heap.size, 1, none⟩) (v := .slice (some ⟨b, o, none⟩) 1 cap) (by simp)
  have cA : ∀ d os, Calls Tryd.prog 49 #[.int .i64 25] (Sort.grow (redrawn (w.alloc (.cells #[.int .i64 25, .slice (some ⟨b, o, none⟩) 1 cap] 26)) d) os) fun e w'' => e = .returned (.int .i64 1) ∧ ∃ p : Regrown, w'' = Sort.grow (redrawn (w.alloc (.cells #[.int .i64 25, .slice (some ⟨b, o, none⟩) 1 cap] 26)) p.d) p.os :=
    fun d os => Calls.regrown_of (hA.out _)
  clear hA
  go_enter Tryd.func33, Tryd.ntmps33
  go_upto_region 1 with fail
  refine wp_region_quiet_below (by kernel_rfl) (by kernel_rfl) ?_
  repeat (go_big_quiet_step (first | exact cA _ _))
  refine wpQuiet_nil ?_
  intro _ hw'
  obtain ⟨⟨dq, osq⟩, hw''⟩ := hw'
  subst hw''
  have e0 := k0 dq osq
  have e1 := k1 dq osq
  have hb1 := hb0.trans ((below_regrown (w.alloc (.cells #[.int .i64 25, .slice (some ⟨b, o, none⟩) 1 cap] 26)) dq osq).mono hb0.size)
  have hx1 := hx.later hb1
  have lt1 : w.heap.size < (Sort.grow (redrawn (w.alloc (.cells #[.int .i64 25, .slice (some ⟨b, o, none⟩) 1 cap] 26)) dq) osq).heap.size := World.block_lt_of_cell? _ _ e0
  dsimp only at e0 e1 hb1 hx1 lt1 ⊢
  generalize Sort.grow (redrawn (w.alloc (.cells #[.int .i64 25, .slice (some ⟨b, o, none⟩) 1 cap] 26)) dq) osq = w2 at e0 e1 hb1 hx1 lt1 ⊢
  clear cA k0 k1 hb0 hx
  have lt2 : b < w2.heap.size := hx1.lt (by simp)
  have x00 := (hx1 0 _ rfl).1
  have x01 := (hx1 0 _ rfl).2.1
  have x02 := (hx1 0 _ rfl).2.2
  simp only [Nat.zero_mul, Nat.add_zero] at x00 x01 x02
  have hA0 : Below w2.heap.size w2 (w2.alloc (.cells #[.int .i64 k, .int .i64 n, .int .i64 p] 83)) := (Below.refl _ _).alloc (Nat.le_refl _) _
  have fe0 := cell_later hA0 e0
  have fe1 := cell_later hA0 e1
  have fx00 := cell_later hA0 x00
  have fx01 := cell_later hA0 x01
  have fx02 := cell_later hA0 x02
  have fa0 : (w2.alloc (.cells #[.int .i64 k, .int .i64 n, .int .i64 p] 83)).cell? ⟨w2.heap.size, 0, none⟩ = some (.int .i64 k) := by simp
  have fa1 : (w2.alloc (.cells #[.int .i64 k, .int .i64 n, .int .i64 p] 83)).cell? ⟨w2.heap.size, 1, none⟩ = some (.int .i64 n) := by simp
  have fa2 : (w2.alloc (.cells #[.int .i64 k, .int .i64 n, .int .i64 p] 83)).cell? ⟨w2.heap.size, 2, none⟩ = some (.int .i64 p) := by simp
  have hbA : Below w.heap.size w (w2.alloc (.cells #[.int .i64 k, .int .i64 n, .int .i64 p] 83)) := hb1.alloc hb1.size _
  go_wp2_with fail
  refine (h0.out _).mono ?_
  rintro e w3 ⟨rfl, g3⟩
  have D3 : Below (w2.alloc (.cells #[.int .i64 k, .int .i64 n, .int .i64 p] 83)).heap.size (w2.alloc (.cells #[.int .i64 k, .int .i64 n, .int .i64 p] 83)) w3 := g3
  have z3fe0 := cell_later D3 fe0
  have z3fe1 := cell_later D3 fe1
  have z3fx00 := cell_later D3 fx00
  have z3fx01 := cell_later D3 fx01
  have z3fx02 := cell_later D3 fx02
  have z3fa0 := cell_later D3 fa0
  have z3fa1 := cell_later D3 fa1
  have z3fa2 := cell_later D3 fa2
  clear g3
  cases r0 with
  | true =>
    go_wp2
    go_ret
    exact ⟨by simp, hbA.trans (D3.mono hbA.size)⟩
  | false =>
    go_wp2
    go_ret
    exact ⟨by simp, hbA.trans (D3.mono hbA.size)⟩

set_option maxRecDepth 10000 in
set_option maxHeartbeats 2000000 in
theorem scoil26 (k n p k1 n1 p1 : Int) (r0 r1 : Bool) (b o cap : Nat) (w : World) (hx : Ops w b o [(k, n, p), (k1, n1, p1)])
    (hA : Hid (∀ W, Calls Tryd.prog 49 #[.int .i64 26] W fun e w' => e = .returned (.int .i64 2) ∧ Below W.heap.size W w'))
    (h0 : Hid (∀ W, Calls Tryd.prog 54 #[.agg #[.int .i64 k, .int .i64 n, .int .i64 p], .int .i64 7, .int .i64 7] W fun e w' => e = .returned (.bool r0) ∧ Below W.heap.size W w'))
    (h1 : Hid (∀ W, Calls Tryd.prog 54 #[.agg #[.int .i64 k1, .int .i64 n1, .int .i64 p1], .int .i64 11, .int .i64 11] W fun e w' => e = .returned (.bool r1) ∧ Below W.heap.size W w')) :
    Calls Tryd.prog 33 #[.agg #[.int .i64 26, .slice (some ⟨b, o, none⟩) 2 cap]] w fun e w' => e = .returned (.bool (r0 && r1 && decide (0 ≤ n1))) ∧ Below w.heap.size w w' := by
  have hb0 : Below w.heap.size w (w.alloc (.cells #[.int .i64 26, .slice (some ⟨b, o, none⟩) 2 cap] 26)) := (Below.refl _ _).alloc (Nat.le_refl _) _
  have k0 := cell_regrown (w := (w.alloc (.cells #[.int .i64 26, .slice (some ⟨b, o, none⟩) 2 cap] 26))) (a := ⟨w.heap.size, 0, none⟩) (v := .int .i64 26) (by simp)
  have k1 := cell_regrown (w := (w.alloc (.cells #[.int .i64 26, .slice (some ⟨b, o, none⟩) 2 cap] 26))) (a := ⟨w.heap.size, 1, none⟩) (v := .slice (some ⟨b, o, none⟩) 2 cap) (by simp)
  have cA : ∀ d os, Calls Tryd.prog 49 #[.int .i64 26] (Sort.grow (redrawn (w.alloc (.cells #[.int .i64 26, .slice (some ⟨b, o, none⟩) 2 cap] 26)) d) os) fun e w'' => e = .returned (.int .i64 2) ∧ ∃ p : Regrown, w'' = Sort.grow (redrawn (w.alloc (.cells #[.int .i64 26, .slice (some ⟨b, o, none⟩) 2 cap] 26)) p.d) p.os :=
    fun d os => Calls.regrown_of (hA.out _)
  clear hA
  go_enter Tryd.func33, Tryd.ntmps33
  go_upto_region 1 with fail
  refine wp_region_quiet_below (by kernel_rfl) (by kernel_rfl) ?_
  repeat (go_big_quiet_step (first | exact cA _ _))
  refine wpQuiet_nil ?_
  intro _ hw'
  obtain ⟨⟨dq, osq⟩, hw''⟩ := hw'
  subst hw''
  have e0 := k0 dq osq
  have e1 := k1 dq osq
  have hb1 := hb0.trans ((below_regrown (w.alloc (.cells #[.int .i64 26, .slice (some ⟨b, o, none⟩) 2 cap] 26)) dq osq).mono hb0.size)
  have hx1 := hx.later hb1
  have lt1 : w.heap.size < (Sort.grow (redrawn (w.alloc (.cells #[.int .i64 26, .slice (some ⟨b, o, none⟩) 2 cap] 26)) dq) osq).heap.size := World.block_lt_of_cell? _ _ e0
  dsimp only at e0 e1 hb1 hx1 lt1 ⊢
  generalize Sort.grow (redrawn (w.alloc (.cells #[.int .i64 26, .slice (some ⟨b, o, none⟩) 2 cap] 26)) dq) osq = w2 at e0 e1 hb1 hx1 lt1 ⊢
  clear cA k0 k1 hb0 hx
  have lt2 : b < w2.heap.size := hx1.lt (by simp)
  have x00 := (hx1 0 _ rfl).1
  have x01 := (hx1 0 _ rfl).2.1
  have x02 := (hx1 0 _ rfl).2.2
  have x10 := (hx1 1 _ rfl).1
  have x11 := (hx1 1 _ rfl).2.1
  have x12 := (hx1 1 _ rfl).2.2
  simp only [Nat.zero_mul, Nat.add_zero, Nat.one_mul, Nat.add_assoc, Nat.reduceAdd] at x00 x01 x02 x10 x11 x12
  have hA0 : Below w2.heap.size w2 (w2.alloc (.cells #[.int .i64 k, .int .i64 n, .int .i64 p] 83)) := (Below.refl _ _).alloc (Nat.le_refl _) _
  have fe0 := cell_later hA0 e0
  have fe1 := cell_later hA0 e1
  have fx00 := cell_later hA0 x00
  have fx01 := cell_later hA0 x01
  have fx02 := cell_later hA0 x02
  have fx10 := cell_later hA0 x10
  have fx11 := cell_later hA0 x11
  have fx12 := cell_later hA0 x12
  have fa0 : (w2.alloc (.cells #[.int .i64 k, .int .i64 n, .int .i64 p] 83)).cell? ⟨w2.heap.size, 0, none⟩ = some (.int .i64 k) := by simp
  have fa1 : (w2.alloc (.cells #[.int .i64 k, .int .i64 n, .int .i64 p] 83)).cell? ⟨w2.heap.size, 1, none⟩ = some (.int .i64 n) := by simp
  have fa2 : (w2.alloc (.cells #[.int .i64 k, .int .i64 n, .int .i64 p] 83)).cell? ⟨w2.heap.size, 2, none⟩ = some (.int .i64 p) := by simp
  have hbA : Below w.heap.size w (w2.alloc (.cells #[.int .i64 k, .int .i64 n, .int .i64 p] 83)) := hb1.alloc hb1.size _
  go_wp2_with fail
  refine (h0.out _).mono ?_
  rintro e w3 ⟨rfl, g3⟩
  have D3 : Below (w2.alloc (.cells #[.int .i64 k, .int .i64 n, .int .i64 p] 83)).heap.size (w2.alloc (.cells #[.int .i64 k, .int .i64 n, .int .i64 p] 83)) w3 := g3
  have z3fe0 := cell_later D3 fe0
  have z3fe1 := cell_later D3 fe1
  have z3fx00 := cell_later D3 fx00
  have z3fx01 := cell_later D3 fx01
  have z3fx02 := cell_later D3 fx02
  have z3fx10 := cell_later D3 fx10
  have z3fx11 := cell_later D3 fx11
  have z3fx12 := cell_later D3 fx12
  have z3fa0 := cell_later D3 fa0
  have z3fa1 := cell_later D3 fa1
  have z3fa2 := cell_later D3 fa2
  clear g3
  cases r0 with
  | true =>
    go_wp2_with fail
    refine (h1.out _).mono ?_
    rintro e w4 ⟨rfl, g4⟩
    have D4 : Below (w2.alloc (.cells #[.int .i64 k, .int .i64 n, .int .i64 p] 83)).heap.size (w2.alloc (.cells #[.int .i64 k, .int .i64 n, .int .i64 p] 83)) w4 := D3.trans (g4.mono D3.size)
    have z4fe0 := cell_later D4 fe0
    have z4fe1 := cell_later D4 fe1
    have z4fx00 := cell_later D4 fx00
    have z4fx01 := cell_later D4 fx01
    have z4fx02 := cell_later D4 fx02
    have z4fx10 := cell_later D4 fx10
    have z4fx11 := cell_later D4 fx11
    have z4fx12 := cell_later D4 fx12
    have z4fa0 := cell_later D4 fa0
    have z4fa1 := cell_later D4 fa1
    have z4fa2 := cell_later D4 fa2
    clear g4
    cases r1 with
    | true =>
      go_wp2
      go_ret
      exact ⟨by simp, hbA.trans (D4.mono hbA.size)⟩
    | false =>
      go_wp2
      go_ret
      exact ⟨by simp, hbA.trans (D4.mono hbA.size)⟩
  | false =>
    go_wp2
    go_ret
    exact ⟨by simp, hbA.trans (D3.mono hbA.size)⟩

set_option maxRecDepth 10000 in
set_option maxHeartbeats 2000000 in
theorem scoil27 (k n p k1 n1 p1 : Int) (r0 r1 : Bool) (b o cap : Nat) (w : World) (hx : Ops w b o [(k, n, p), (k1, n1, p1)])
    (hA : Hid (∀ W, Calls Tryd.prog 49 #[.int .i64 27] W fun e w' => e = .returned (.int .i64 2) ∧ Below W.heap.size W w'))
    (h0 : Hid (∀ W, Calls Tryd.prog 54 #[.agg #[.int .i64 k, .int .i64 n, .int .i64 p], .int .i64 7, .int .i64 7] W fun e w' => e = .returned (.bool r0) ∧ Below W.heap.size W w'))
    (h1 : Hid (∀ W, Calls Tryd.prog 54 #[.agg #[.int .i64 k1, .int .i64 n1, .int .i64 p1], .int .i64 11, .int .i64 11] W fun e w' => e = .returned (.bool r1) ∧ Below W.heap.size W w')) :
    Calls Tryd.prog 33 #[.agg #[.int .i64 27, .slice (some ⟨b, o, none⟩) 2 cap]] w fun e w' => e = .returned (.bool (r0 && r1 && decide (0 ≤ n1))) ∧ Below w.heap.size w w' := by
  have hb0 : Below w.heap.size w (w.alloc (.cells #[.int .i64 27, .slice (some ⟨b, o, none⟩) 2 cap] 26)) := (Below.refl _ _).alloc (Nat.le_refl _) _
  have k0 := cell_regrown (w := (w.alloc (.cells #[.int .i64 27, .slice (some ⟨b, o, none⟩) 2 cap] 26))) (a := ⟨w.heap.size, 0, none⟩) (v := .int .i64 27) (by simp)
  have k1 := cell_regrown (w := (w.alloc (.cells #[.int .i64 27, .slice (some ⟨b, o, none⟩) 2 cap] 26))) (a := ⟨w.heap.size, 1, none⟩) (v := .slice (some ⟨b, o, none⟩) 2 cap) (by simp)
  have cA : ∀ d os, Calls Tryd.prog 49 #[.int .i64 27] (Sort.grow (redrawn (w.alloc (.cells #[.int .i64 27, .slice (some ⟨b, o, none⟩) 2 cap] 26)) d) os) fun e w'' => e = .returned (.int .i64 2) ∧ ∃ p : Regrown, w'' = Sort.grow (redrawn (w.alloc (.cells #[.int .i64 27, .slice (some ⟨b, o, none⟩) 2 cap] 26)) p.d) p.os :=
    fun d os => Calls.regrown_of (hA.out _)
  clear hA
  go_enter Tryd.func33, Tryd.ntmps33
  go_upto_region 1 with fail
  refine wp_region_quiet_below (by kernel_rfl) (by kernel_rfl) ?_
  repeat (go_big_quiet_step (first | exact cA _ _))
  refine wpQuiet_nil ?_
  intro _ hw'
  obtain ⟨⟨dq, osq⟩, hw''⟩ := hw'
  subst hw''
  have e0 := k0 dq osq
  have e1 := k1 dq osq
  have hb1 := hb0.trans ((below_regrown (w.alloc (.cells #[.int .i64 27, .slice (some ⟨b, o, none⟩) 2 cap] 26)) dq osq).mono hb0.size)
  have hx1 := hx.later hb1
  have lt1 : w.heap.size < (Sort.grow (redrawn (w.alloc (.cells #[.int .i64 27, .slice (some ⟨b, o, none⟩) 2 cap] 26)) dq) osq).heap.size := World.block_lt_of_cell? _ _ e0
  dsimp only at e0 e1 hb1 hx1 lt1 ⊢
  generalize Sort.grow (redrawn (w.alloc (.cells #[.int .i64 27, .slice (some ⟨b, o, none⟩) 2 cap] 26)) dq) osq = w2 at e0 e1 hb1 hx1 lt1 ⊢
  clear cA k0 k1 hb0 hx
  have lt2 : b < w2.heap.size := hx1.lt (by simp)
  have x00 := (hx1 0 _ rfl).1
  have x01 := (hx1 0 _ rfl).2.1
  have x02 := (hx1 0 _ rfl).2.2
  have x10 := (hx1 1 _ rfl).1
  have x11 := (hx1 1 _ rfl).2.1
  have x12 := (hx1 1 _ rfl).2.2
  simp only [Nat.zero_mul, Nat.add_zero, Nat.one_mul, Nat.add_assoc, Nat.reduceAdd] at x00 x01 x02 x10 x11 x12
  have hA0 : Below w2.heap.size w2 (w2.alloc (.cells #[.int .i64 k, .int .i64 n, .int .i64 p] 83)) := (Below.refl _ _).alloc (Nat.le_refl _) _
  have fe0 := cell_later hA0 e0
  have fe1 := cell_later hA0 e1
  have fx00 := cell_later hA0 x00
  have fx01 := cell_later hA0 x01
  have fx02 := cell_later hA0 x02
  have fx10 := cell_later hA0 x10
  have fx11 := cell_later hA0 x11
  have fx12 := cell_later hA0 x12
  have fa0 : (w2.alloc (.cells #[.int .i64 k, .int .i64 n, .int .i64 p] 83)).cell? ⟨w2.heap.size, 0, none⟩ = some (.int .i64 k) := by simp
  have fa1 : (w2.alloc (.cells #[.int .i64 k, .int .i64 n, .int .i64 p] 83)).cell? ⟨w2.heap.size, 1, none⟩ = some (.int .i64 n) := by simp
  have fa2 : (w2.alloc (.cells #[.int .i64 k, .int .i64 n, .int .i64 p] 83)).cell? ⟨w2.heap.size, 2, none⟩ = some (.int .i64 p) := by simp
  have hbA : Below w.heap.size w (w2.alloc (.cells #[.int .i64 k, .int .i64 n, .int .i64 p] 83)) := hb1.alloc hb1.size _
  go_wp2_with fail
  refine (h0.out _).mono ?_
  rintro e w3 ⟨rfl, g3⟩
  have D3 : Below (w2.alloc (.cells #[.int .i64 k, .int .i64 n, .int .i64 p] 83)).heap.size (w2.alloc (.cells #[.int .i64 k, .int .i64 n, .int .i64 p] 83)) w3 := g3
  have z3fe0 := cell_later D3 fe0
  have z3fe1 := cell_later D3 fe1
  have z3fx00 := cell_later D3 fx00
  have z3fx01 := cell_later D3 fx01
  have z3fx02 := cell_later D3 fx02
  have z3fx10 := cell_later D3 fx10
  have z3fx11 := cell_later D3 fx11
  have z3fx12 := cell_later D3 fx12
  have z3fa0 := cell_later D3 fa0
  have z3fa1 := cell_later D3 fa1
  have z3fa2 := cell_later D3 fa2
  clear g3
  cases r0 with
  | true =>
    go_wp2_with fail
    refine (h1.out _).mono ?_
    rintro e w4 ⟨rfl, g4⟩
    have D4 : Below (w2.alloc (.cells #[.int .i64 k, .int .i64 n, .int .i64 p] 83)).heap.size (w2.alloc (.cells #[.int .i64 k, .int .i64 n, .int .i64 p] 83)) w4 := D3.trans (g4.mono D3.size)
    have z4fe0 := cell_later D4 fe0
    have z4fe1 := cell_later D4 fe1
    have z4fx00 := cell_later D4 fx00
    have z4fx01 := cell_later D4 fx01
    have z4fx02 := cell_later D4 fx02
    have z4fx10 := cell_later D4 fx10
    have z4fx11 := cell_later D4 fx11
    have z4fx12 := cell_later D4 fx12
    have z4fa0 := cell_later D4 fa0
    have z4fa1 := cell_later D4 fa1
    have z4fa2 := cell_later D4 fa2
    clear g4
    cases r1 with
    | true =>
      go_wp2
      go_ret
      exact ⟨by simp, hbA.trans (D4.mono hbA.size)⟩
    | false =>
      go_wp2
      go_ret
      exact ⟨by simp, hbA.trans (D4.mono hbA.size)⟩
  | false =>
    go_wp2
    go_ret
    exact ⟨by simp, hbA.trans (D3.mono hbA.size)⟩

set_option maxRecDepth 10000 in
set_option maxHeartbeats 2000000 in
theorem scoil28 (k n p k1 n1 p1 : Int) (r0 r1 : Bool) (b o cap : Nat) (w : World) (hx : Ops w b o [(k, n, p), (k1, n1, p1)])
    (hA : Hid (∀ W, Calls Tryd.prog 49 #[.int .i64 28] W fun e w' => e = .returned (.int .i64 2) ∧ Below W.heap.size W w'))
    (h0 : Hid (∀ W, Calls Tryd.prog 54 #[.agg #[.int .i64 k, .int .i64 n, .int .i64 p], .int .i64 7, .int .i64 7] W fun e w' => e = .returned (.bool r0) ∧ Below W.heap.size W w'))
    (h1 : Hid (∀ W, Calls Tryd.prog 54 #[.agg #[.int .i64 k1, .int .i64 n1, .int .i64 p1], .int .i64 11, .int .i64 11] W fun e w' => e = .returned (.bool r1) ∧ Below W.heap.size W w')) :
    Calls Tryd.prog 33 #[.agg #[.int .i64 28, .slice (some ⟨b, o, none⟩) 2 cap]] w fun e w' => e = .returned (.bool (r0 && r1 && decide (0 ≤ n1))) ∧ Below w.heap.size w w' := by
  have hb0 : Below w.heap.size w (w.alloc (.cells #[.int .i64 28, .slice (some ⟨b, o, none⟩) 2 cap] 26)) := (Below.refl _ _).alloc (Nat.le_refl _) _
  have k0 := cell_regrown (w := (w.alloc (.cells #[.int .i64 28, .slice (some ⟨b, o, none⟩) 2 cap] 26))) (a := ⟨w.heap.size, 0, none⟩) (v := .int .i64 28) (by simp)
  have k1 := cell_regrown (w := (w.alloc (.cells #[.int .i64 28, .slice (some ⟨b, o, none⟩) 2 cap] 26))) (a := ⟨w.heap.size, 1, none⟩) (v := .slice (some ⟨b, o, none⟩) 2 cap) (by simp)
  have cA : ∀ d os, Calls Tryd.prog 49 #[.int .i64 28] (Sort.grow (redrawn (w.alloc (.cells #[.int .i64 28, .slice (some ⟨b, o, none⟩) 2 cap] 26)) d) os) fun e w'' => e = .returned (.int .i64 2) ∧ ∃ p : Regrown, w'' = Sort.grow (redrawn (w.alloc (.cells #[.int .i64 28, .slice (some ⟨b, o, none⟩) 2 cap] 26)) p.d) p.os :=
    fun d os => Calls.regrown_of (hA.out _)
  clear hA
  go_enter Tryd.func33, Tryd.ntmps33
  go_upto_region 1 with fail
  refine wp_region_quiet_below (by kernel_rfl) (by kernel_rfl) ?_
  repeat (go_big_quiet_step (first | exact cA _ _))
  refine wpQuiet_nil ?_
  intro _ hw'
  obtain ⟨⟨dq, osq⟩, hw''⟩ := hw'
  subst hw''
  have e0 := k0 dq osq
  have e1 := k1 dq osq
  have hb1 := hb0.trans ((below_regrown (w.alloc (.cells #[.int .i64 28, .slice (some ⟨b, o, none⟩) 2 cap] 26)) dq osq).mono hb0.size)
  have hx1 := hx.later hb1
  have lt1 : w.heap.size < (Sort.grow (redrawn (w.alloc (.cells #[.int .i64 28, .slice (some ⟨b, o, none⟩) 2 cap] 26)) dq) osq).heap.size := World.block_lt_of_cell? _ _ e0
  dsimp only at e0 e1 hb1 hx1 lt1 ⊢
  generalize Sort.grow (redrawn (w.alloc (.cells #[.int .i64 28, .slice (some ⟨b, o, none⟩) 2 cap] 26)) dq) osq = w2 at e0 e1 hb1 hx1 lt1 ⊢
  clear cA k0 k1 hb0 hx
  have lt2 : b < w2.heap.size := hx1.lt (by simp)
  have x00 := (hx1 0 _ rfl).1
  have x01 := (hx1 0 _ rfl).2.1
  have x02 := (hx1 0 _ rfl).2.2
  have x10 := (hx1 1 _ rfl).1
  have x11 := (hx1 1 _ rfl).2.1
  have x12 := (hx1 1 _ rfl).2.2
  simp only [Nat.zero_mul, Nat.add_zero, Nat.one_mul, Nat.add_assoc, Nat.reduceAdd] at x00 x01 x02 x10 x11 x12
  have hA0 : Below w2.heap.size w2 (w2.alloc (.cells #[.int .i64 k, .int .i64 n, .int .i64 p] 83)) := (Below.refl _ _).alloc (Nat.le_refl _) _
  have fe0 := cell_later hA0 e0
  have fe1 := cell_later hA0 e1
  have fx00 := cell_later hA0 x00
  have fx01 := cell_later hA0 x01
  have fx02 := cell_later hA0 x02
  have fx10 := cell_later hA0 x10
  have fx11 := cell_later hA0 x11
  have fx12 := cell_later hA0 x12
  have fa0 : (w2.alloc (.cells #[.int .i64 k, .int .i64 n, .int .i64 p] 83)).cell? ⟨w2.heap.size, 0, none⟩ = some (.int .i64 k) := by simp
  have fa1 : (w2.alloc (.cells #[.int .i64 k, .int .i64 n, .int .i64 p] 83)).cell? ⟨w2.heap.size, 1, none⟩ = some (.int .i64 n) := by simp
  have fa2 : (w2.alloc (.cells #[.int .i64 k, .int .i64 n, .int .i64 p] 83)).cell? ⟨w2.heap.size, 2, none⟩ = some (.int .i64 p) := by simp
  have hbA : Below w.heap.size w (w2.alloc (.cells #[.int .i64 k, .int .i64 n, .int .i64 p] 83)) := hb1.alloc hb1.size _
  go_wp2_with fail
  refine (h0.out _).mono ?_
  rintro e w3 ⟨rfl, g3⟩
  have D3 : Below (w2.alloc (.cells #[.int .i64 k, .int .i64 n, .int .i64 p] 83)).heap.size (w2.alloc (.cells #[.int .i64 k, .int .i64 n, .int .i64 p] 83)) w3 := g3
  have z3fe0 := cell_later D3 fe0
  have z3fe1 := cell_later D3 fe1
  have z3fx00 := cell_later D3 fx00
  have z3fx01 := cell_later D3 fx01
  have z3fx02 := cell_later D3 fx02
  have z3fx10 := cell_later D3 fx10
  have z3fx11 := cell_later D3 fx11
  have z3fx12 := cell_later D3 fx12
  have z3fa0 := cell_later D3 fa0
  have z3fa1 := cell_later D3 fa1
  have z3fa2 := cell_later D3 fa2
  clear g3
  cases r0 with
  | true =>
    go_wp2_with fail
    refine (h1.out _).mono ?_
    rintro e w4 ⟨rfl, g4⟩
    have D4 : Below (w2.alloc (.cells #[.int .i64 k, .int .i64 n, .int .i64 p] 83)).heap.size (w2.alloc (.cells #[.int .i64 k, .int .i64 n, .int .i64 p] 83)) w4 := D3.trans (g4.mono D3.size)
    have z4fe0 := cell_later D4 fe0
    have z4fe1 := cell_later D4 fe1
    have z4fx00 := cell_later D4 fx00
    have z4fx01 := cell_later D4 fx01
    have z4fx02 := cell_later D4 fx02
    have z4fx10 := cell_later D4 fx10
    have z4fx11 := cell_later D4 fx11
    have z4fx12 := cell_later D4 fx12
    have z4fa0 := cell_later D4 fa0
    have z4fa1 := cell_later D4 fa1
    have z4fa2 := cell_later D4 fa2
    clear g4
    cases r1 with
    | true =>
      go_wp2
      go_ret
      exact ⟨by simp, hbA.trans (D4.mono hbA.size)⟩
    | false =>
      go_wp2
      go_ret
      exact ⟨by simp, hbA.trans (D4.mono hbA.size)⟩
  | false =>
    go_wp2
    go_ret
    exact ⟨by simp, hbA.trans (D3.mono hbA.size)⟩

set_option maxRecDepth 10000 in
set_option maxHeartbeats 2000000 in
theorem scoil29 (k n p k1 n1 p1 : Int) (r0 r1 : Bool) (b o cap : Nat) (w : World) (hx : Ops w b o [(k, n, p), (k1, n1, p1)])
    (hA : Hid (∀ W, Calls Tryd.prog 49 #[.int .i64 29] W fun e w' => e = .returned (.int .i64 2) ∧ Below W.heap.size W w'))
    (h0 : Hid (∀ W, Calls Tryd.prog 54 #[.agg #[.int .i64 k, .int .i64 n, .int .i64 p], .int .i64 8, .int .i64 8] W fun e w' => e = .returned (.bool r0) ∧ Below W.heap.size W w'))
    (h1 : Hid (∀ W, Calls Tryd.prog 54 #[.agg #[.int .i64 k1, .int .i64 n1, .int .i64 p1], .int .i64 11, .int .i64 11] W fun e w' => e = .returned (.bool r1) ∧ Below W.heap.size W w')) :
    Calls Tryd.prog 33 #[.agg #[.int .i64 29, .slice (some ⟨b, o, none⟩) 2 cap]] w fun e w' => e = .returned (.bool (r0 && r1 && decide (0 ≤ n1))) ∧ Below w.heap.size w w' := by
  have hb0 : Below w.heap.size w (w.alloc (.cells #[.int .i64 29, .slice (some ⟨b, o, none⟩) 2 cap] 26)) := (Below.refl _ _).alloc (Nat.le_refl _) _
  have k0 := cell_regrown (w := (w.alloc (.cells #[.int .i64 29, .slice (some ⟨b, o, none⟩) 2 cap] 26))) (a := ⟨w.heap.size, 0, none⟩) (v := .int .i64 29) (by simp)
  have k1 := cell_regrown (w := (w.alloc (.cells #[.int .i64 29, .slice (some ⟨b, o, none⟩) 2 cap] 26))) (a := ⟨w.heap.size, 1, none⟩) (v := .slice (some ⟨b, o, none⟩) 2 cap) (by simp)
  have cA : ∀ d os, Calls Tryd.prog 49 #[.int .i64 29] (Sort.grow (redrawn (w.alloc (.cells #[.int .i64 29, .slice (some ⟨b, o, none⟩) 2 cap] 26)) d) os) fun e w'' => e = .returned (.int .i64 2) ∧ ∃ p : Regrown, w'' = Sort.grow (redrawn (w.alloc (.cells #[.int .i64 29, .slice (some ⟨b, o, none⟩) 2 cap] 26)) p.d) p.os :=
    fun d os => Calls.regrown_of (hA.out _)
  clear hA
  go_enter Tryd.func33, Tryd.ntmps33
  go_upto_region 1 with fail
  refine wp_region_quiet_below (by kernel_rfl) (by kernel_rfl) ?_
  repeat (go_big_quiet_step (first | exact cA _ _))
  refine wpQuiet_nil ?_
  intro _ hw'
  obtain ⟨⟨dq, osq⟩, hw''⟩ := hw'
  subst hw''
  have e0 := k0 dq osq
  have e1 := k1 dq osq
  have hb1 := hb0.trans ((below_regrown (w.alloc (.cells #[.int .i64 29, .slice (some ⟨b, o, none⟩) 2 cap] 26)) dq osq).mono hb0.size)
  have hx1 := hx.later hb1
  have lt1 : w.heap.size < (Sort.grow (redrawn (w.alloc (.cells #[.int .i64 29, .slice (some ⟨b, o, none⟩) 2 cap] 26)) dq) osq).heap.size := World.block_lt_of_cell? _ _ e0
  dsimp only at e0 e1 hb1 hx1 lt1 ⊢
  generalize Sort.grow (redrawn (w.alloc (.cells #[.int .i64 29, .slice (some ⟨b, o, none⟩) 2 cap] 26)) dq) osq = w2 at e0 e1 hb1 hx1 lt1 ⊢
  clear cA k0 k1 hb0 hx
  have lt2 : b < w2.heap.size := hx1.lt (by simp)
  have x00 := (hx1 0 _ rfl).1
  have x01 := (hx1 0 _ rfl).2.1
  have x02 := (hx1 0 _ rfl).2.2
  have x10 := (hx1 1 _ rfl).1
  have x11 := (hx1 1 _ rfl).2.1
  have x12 := (hx1 1 _ rfl).2.2
  simp only [Nat.zero_mul, Nat.add_zero, Nat.one_mul, Nat.add_assoc, Nat.reduceAdd] at x00 x01 x02 x10 x11 x12
  have hA0 : Below w2.heap.size w2 (w2.alloc (.cells #[.int .i64 k, .int .i64 n, .int .i64 p] 83)) := (Below.refl _ _).alloc (Nat.le_refl _) _
  have fe0 := cell_later hA0 e0
  have fe1 := cell_later hA0 e1
  have fx00 := cell_later hA0 x00
  have fx01 := cell_later hA0 x01
  have fx02 := cell_later hA0 x02
  have fx10 := cell_later hA0 x10
  have fx11 := cell_later hA0 x11
  have fx12 := cell_later hA0 x12
  have fa0 : (w2.alloc (.cells #[.int .i64 k, .int .i64 n, .int .i64 p] 83)).cell? ⟨w2.heap.size, 0, none⟩ = some (.int .i64 k) := by simp
  have fa1 : (w2.alloc (.cells #[.int .i64 k, .int .i64 n, .int .i64 p] 83)).cell? ⟨w2.heap.size, 1, none⟩ = some (.int .i64 n) := by simp
  have fa2 : (w2.alloc (.cells #[.int .i64 k, .int .i64 n, .int .i64 p] 83)).cell? ⟨w2.heap.size, 2, none⟩ = some (.int .i64 p) := by simp
  have hbA : Below w.heap.size w (w2.alloc (.cells #[.int .i64 k, .int .i64 n, .int .i64 p] 83)) := hb1.alloc hb1.size _
  go_wp2_with fail
  refine (h0.out _).mono ?_
  rintro e w3 ⟨rfl, g3⟩
  have D3 : Below (w2.alloc (.cells #[.int .i64 k, .int .i64 n, .int .i64 p] 83)).heap.size (w2.alloc (.cells #[.int .i64 k, .int .i64 n, .int .i64 p] 83)) w3 := g3
  have z3fe0 := cell_later D3 fe0
  have z3fe1 := cell_later D3 fe1
  have z3fx00 := cell_later D3 fx00
  have z3fx01 := cell_later D3 fx01
  have z3fx02 := cell_later D3 fx02
  have z3fx10 := cell_later D3 fx10
  have z3fx11 := cell_later D3 fx11
  have z3fx12 := cell_later D3 fx12
  have z3fa0 := cell_later D3 fa0
  have z3fa1 := cell_later D3 fa1
  have z3fa2 := cell_later D3 fa2
  clear g3
  cases r0 with
  | true =>
    go_wp2_with fail
    refine (h1.out _).mono ?_
    rintro e w4 ⟨rfl, g4⟩
    have D4 : Below (w2.alloc (.cells #[.int .i64 k, .int .i64 n, .int .i64 p] 83)).heap.size (w2.alloc (.cells #[.int .i64 k, .int .i64 n, .int .i64 p] 83)) w4 := D3.trans (g4.mono D3.size)
    have z4fe0 := cell_later D4 fe0
    have z4fe1 := cell_later D4 fe1
    have z4fx00 := cell_later D4 fx00
    have z4fx01 := cell_later D4 fx01
    have z4fx02 := cell_later D4 fx02
    have z4fx10 := cell_later D4 fx10
    have z4fx11 := cell_later D4 fx11
    have z4fx12 := cell_later D4 fx12
    have z4fa0 := cell_later D4 fa0
    have z4fa1 := cell_later D4 fa1
    have z4fa2 := cell_later D4 fa2
    clear g4
    cases r1 with
    | true =>
      go_wp2
      go_ret
      exact ⟨by simp, hbA.trans (D4.mono hbA.size)⟩
    | false =>
      go_wp2
      go_ret
      exact ⟨by simp, hbA.trans (D4.mono hbA.size)⟩
  | false =>
    go_wp2
    go_ret
    exact ⟨by simp, hbA.trans (D3.mono hbA.size)⟩

set_option maxRecDepth 10000 in
set_option maxHeartbeats 2000000 in
theorem scoil36 (k n p k1 n1 p1 : Int) (r0 r1 : Bool) (b o cap : Nat) (w : World) (hx : Ops w b o [(k, n, p), (k1, n1, p1)])
    (hA : Hid (∀ W, Calls Tryd.prog 49 #[.int .i64 36] W fun e w' => e = .returned (.int .i64 2) ∧ Below W.heap.size W w'))
    (h0 : Hid (∀ W, Calls Tryd.prog 54 #[.agg #[.int .i64 k, .int .i64 n, .int .i64 p], .int .i64 10, .int .i64 10] W fun e w' => e = .returned (.bool r0) ∧ Below W.heap.size W w'))
    (h1 : Hid (∀ W, Calls Tryd.prog 52 #[.agg #[.int .i64 k1, .int .i64 n1, .int .i64 p1]] W fun e w' => e = .returned (.bool r1) ∧ Below W.heap.size W w')) :
    Calls Tryd.prog 33 #[.agg #[.int .i64 36, .slice (some ⟨b, o, none⟩) 2 cap]] w fun e w' => e = .returned (.bool (r0 && r1)) ∧ Below w.heap.size w w' := by
  have hb0 : Below w.heap.size w (w.alloc (.cells #[.int .i64 36, .slice (some ⟨b, o, none⟩) 2 cap] 26)) := (Below.refl _ _).alloc (Nat.le_refl _) _
  have k0 := cell_regrown (w := (w.alloc (.cells #[.int .i64 36, .slice (some ⟨b, o, none⟩) 2 cap] 26))) (a := ⟨w.heap.size, 0, none⟩) (v := .int .i64 36) (by simp)
  have k1 := cell_regrown (w := (w.alloc (.cells #[.int .i64 36, .slice (some ⟨b, o, none⟩) 2 cap] 26))) (a := ⟨w.heap.size, 1, none⟩) (v := .slice (some ⟨b, o, none⟩) 2 cap) (by simp)
  have cA : ∀ d os, Calls Tryd.prog 49 #[.int .i64 36] (Sort.grow (redrawn (w.alloc (.cells #[.int .i64 36, .slice (some ⟨b, o, none⟩) 2 cap] 26)) d) os) fun e w'' => e = .returned (.int .i64 2) ∧ ∃ p : Regrown, w'' = Sort.grow (redrawn (w.alloc (.cells #[.int .i64 36, .slice (some ⟨b, o, none⟩) 2 cap] 26)) p.d) p.os :=
    fun d os => Calls.regrown_of (hA.out _)
  clear hA
  go_enter Tryd.func33, Tryd.ntmps33
  go_upto_region 1 with fail
  refine wp_region_quiet_below (by kernel_rfl) (by kernel_rfl) ?_
  repeat (go_big_quiet_step (first | exact cA _ _))
  refine wpQuiet_nil ?_
  intro _ hw'
  obtain ⟨⟨dq, osq⟩, hw''⟩ := hw'
  subst hw''
  have e0 := k0 dq osq
  have e1 := k1 dq osq
  have hb1 := hb0.trans ((below_regrown (w.alloc (.cells #[.int .i64 36, .slice (some ⟨b, o, none⟩) 2 cap] 26)) dq osq).mono hb0.size)
  have hx1 := hx.later hb1
  have lt1 : w.heap.size < (Sort.grow (redrawn (w.alloc (.cells #[.int .i64 36, .slice (some ⟨b, o, none⟩) 2 cap] 26)) dq) osq).heap.size := World.block_lt_of_cell? _ _ e0
  dsimp only at e0 e1 hb1 hx1 lt1 ⊢
  generalize Sort.grow (redrawn (w.alloc (.cells #[.int .i64 36, .slice (some ⟨b, o, none⟩) 2 cap] 26)) dq) osq = w2 at e0 e1 hb1 hx1 lt1 ⊢
  clear cA k0 k1 hb0 hx
  have lt2 : b < w2.heap.size := hx1.lt (by simp)
  have x00 := (hx1 0 _ rfl).1
  have x01 := (hx1 0 _ rfl).2.1
  have x02 := (hx1 0 _ rfl).2.2
  have x10 := (hx1 1 _ rfl).1
  have x11 := (hx1 1 _ rfl).2.1
  have x12 := (hx1 1 _ rfl).2.2
  simp only [Nat.zero_mul, Nat.add_zero, Nat.one_mul, Nat.add_assoc, Nat.reduceAdd] at x00 x01 x02 x10 x11 x12
  have hA0 : Below w2.heap.size w2 (w2.alloc (.cells #[.int .i64 k, .int .i64 n, .int .i64 p] 83)) := (Below.refl _ _).alloc (Nat.le_refl _) _
  have fe0 := cell_later hA0 e0
  have fe1 := cell_later hA0 e1
  have fx00 := cell_later hA0 x00
  have fx01 := cell_later hA0 x01
  have fx02 := cell_later hA0 x02
  have fx10 := cell_later hA0 x10
  have fx11 := cell_later hA0 x11
  have fx12 := cell_later hA0 x12
  have fa0 : (w2.alloc (.cells #[.int .i64 k, .int .i64 n, .int .i64 p] 83)).cell? ⟨w2.heap.size, 0, none⟩ = some (.int .i64 k) := by simp
  have fa1 : (w2.alloc (.cells #[.int .i64 k, .int .i64 n, .int .i64 p] 83)).cell? ⟨w2.heap.size, 1, none⟩ = some (.int .i64 n) := by simp
  have fa2 : (w2.alloc (.cells #[.int .i64 k, .int .i64 n, .int .i64 p] 83)).cell? ⟨w2.heap.size, 2, none⟩ = some (.int .i64 p) := by simp
  have hbA : Below w.heap.size w (w2.alloc (.cells #[.int .i64 k, .int .i64 n, .int .i64 p] 83)) := hb1.alloc hb1.size _
  go_wp2_with fail
  refine (h0.out _).mono ?_
  rintro e w3 ⟨rfl, g3⟩
  have D3 : Below (w2.alloc (.cells #[.int .i64 k, .int .i64 n, .int .i64 p] 83)).heap.size (w2.alloc (.cells #[.int .i64 k, .int .i64 n, .int .i64 p] 83)) w3 := g3
  have z3fe0 := cell_later D3 fe0
  have z3fe1 := cell_later D3 fe1
  have z3fx00 := cell_later D3 fx00
  have z3fx01 := cell_later D3 fx01
  have z3fx02 := cell_later D3 fx02
  have z3fx10 := cell_later D3 fx10
  have z3fx11 := cell_later D3 fx11
  have z3fx12 := cell_later D3 fx12
  have z3fa0 := cell_later D3 fa0
  have z3fa1 := cell_later D3 fa1
  have z3fa2 := cell_later D3 fa2
  clear g3
  cases r0 with
  | true =>
    go_wp2_with fail
    refine (h1.out _).mono ?_
    rintro e w4 ⟨rfl, g4⟩
    have D4 : Below (w2.alloc (.cells #[.int .i64 k, .int .i64 n, .int .i64 p] 83)).heap.size (w2.alloc (.cells #[.int .i64 k, .int .i64 n, .int .i64 p] 83)) w4 := D3.trans (g4.mono D3.size)
    have z4fe0 := cell_later D4 fe0
    have z4fe1 := cell_later D4 fe1
    have z4fx00 := cell_later D4 fx00
    have z4fx01 := cell_later D4 fx01
    have z4fx02 := cell_later D4 fx02
    have z4fx10 := cell_later D4 fx10
    have z4fx11 := cell_later D4 fx11
    have z4fx12 := cell_later D4 fx12
    have z4fa0 := cell_later D4 fa0
    have z4fa1 := cell_later D4 fa1
    have z4fa2 := cell_later D4 fa2
    clear g4
    cases r1 with
    | true =>
      go_wp2
      go_ret
      exact ⟨by simp, hbA.trans (D4.mono hbA.size)⟩
    | false =>
      go_wp2
      go_ret
      exact ⟨by simp, hbA.trans (D4.mono hbA.size)⟩
  | false =>
    go_wp2
    go_ret
    exact ⟨by simp, hbA.trans (D3.mono hbA.size)⟩

set_option maxRecDepth 10000 in
set_option maxHeartbeats 2000000 in
theorem scoil37 (k n p k1 n1 p1 : Int) (r0 r1 : Bool) (b o cap : Nat) (w : World) (hx : Ops w b o [(k, n, p), (k1, n1, p1)])
    (hA : Hid (∀ W, Calls Tryd.prog 49 #[.int .i64 37] W fun e w' => e = .returned (.int .i64 2) ∧ Below W.heap.size W w'))
    (h0 : Hid (∀ W, Calls Tryd.prog 54 #[.agg #[.int .i64 k, .int .i64 n, .int .i64 p], .int .i64 9, .int .i64 9] W fun e w' => e = .returned (.bool r0) ∧ Below W.heap.size W w'))
    (h1 : Hid (∀ W, Calls Tryd.prog 53 #[.agg #[.int .i64 k1, .int .i64 n1, .int .i64 p1]] W fun e w' => e = .returned (.bool r1) ∧ Below W.heap.size W w')) :
    Calls Tryd.prog 33 #[.agg #[.int .i64 37, .slice (some ⟨b, o, none⟩) 2 cap]] w fun e w' => e = .returned (.bool (r0 && r1)) ∧ Below w.heap.size w w' := by
  have hb0 : Below w.heap.size w (w.alloc (.cells #[.int .i64 37, .slice (some ⟨b, o, none⟩) 2 cap] 26)) := (Below.refl _ _).alloc (Nat.le_refl _) _
  have k0 := cell_regrown (w := (w.alloc (.cells #[.int .i64 37, .slice (some ⟨b, o, none⟩) 2 cap] 26))) (a := ⟨w.heap.size, 0, none⟩) (v := .int .i64 37) (by simp)
  have k1 := cell_regrown (w := (w.alloc (.cells #[.int .i64 37, .slice (some ⟨b, o, none⟩) 2 cap] 26))) (a := ⟨w.heap.size, 1, none⟩) (v := .slice (some ⟨b, o, none⟩) 2 cap) (by simp)
  have cA : ∀ d os, Calls Tryd.prog 49 #[.int .i64 37] (Sort.grow (redrawn (w.alloc (.cells #[.int .i64 37, .slice (some ⟨b, o, none⟩) 2 cap] 26)) d) os) fun e w'' => e = .returned (.int .i64 2) ∧ ∃ p : Regrown, w'' = Sort.grow (redrawn (w.alloc (.cells #[.int .i64 37, .slice (some ⟨b, o, none⟩) 2 cap] 26)) p.d) p.os :=
    fun d os => Calls.regrown_of (hA.out _)
  clear hA
  go_enter Tryd.func33, Tryd.ntmps33
  go_upto_region 1 with fail
  refine wp_region_quiet_below (by kernel_rfl) (by kernel_rfl) ?_
  repeat (go_big_quiet_step (first | exact cA _ _))
  refine wpQuiet_nil ?_
  intro _ hw'
  obtain ⟨⟨dq, osq⟩, hw''⟩ := hw'
  subst hw''
  have e0 := k0 dq osq
  have e1 := k1 dq osq
  have hb1 := hb0.trans ((below_regrown (w.alloc (.cells #[.int .i64 37, .slice (some ⟨b, o, none⟩) 2 cap] 26)) dq osq).mono hb0.size)
  have hx1 := hx.later hb1
  have lt1 : w.heap.size < (Sort.grow (redrawn (w.alloc (.cells #[.int .i64 37, .slice (some ⟨b, o, none⟩) 2 cap] 26)) dq) osq).heap.size := World.block_lt_of_cell? _ _ e0
  dsimp only at e0 e1 hb1 hx1 lt1 ⊢
  generalize Sort.grow (redrawn (w.alloc (.cells #[.int .i64 37, .slice (some ⟨b, o, none⟩) 2 cap] 26)) dq) osq = w2 at e0 e1 hb1 hx1 lt1 ⊢
  clear cA k0 k1 hb0 hx
  have lt2 : b < w2.heap.size := hx1.lt (by simp)
  have x00 := (hx1 0 _ rfl).1
  have x01 := (hx1 0 _ rfl).2.1
  have x02 := (hx1 0 _ rfl).2.2
  have x10 := (hx1 1 _ rfl).1
  have x11 := (hx1 1 _ rfl).2.1
  have x12 := (hx1 1 _ rfl).2.2
  simp only [Nat.zero_mul, Nat.add_zero, Nat.one_mul, Nat.add_assoc, Nat.reduceAdd] at x00 x01 x02 x10 x11 x12
  have hA0 : Below w2.heap.size w2 (w2.alloc (.cells #[.int .i64 k, .int .i64 n, .int .i64 p] 83)) := (Below.refl _ _).alloc (Nat.le_refl _) _
  have fe0 := cell_later hA0 e0
  have fe1 := cell_later hA0 e1
  have fx00 := cell_later hA0 x00
  have fx01 := cell_later hA0 x01
  have fx02 := cell_later hA0 x02
  have fx10 := cell_later hA0 x10
  have fx11 := cell_later hA0 x11
  have fx12 := cell_later hA0 x12
  have fa0 : (w2.alloc (.cells #[.int .i64 k, .int .i64 n, .int .i64 p] 83)).cell? ⟨w2.heap.size, 0, none⟩ = some (.int .i64 k) := by simp
  have fa1 : (w2.alloc (.cells #[.int .i64 k, .int .i64 n, .int .i64 p] 83)).cell? ⟨w2.heap.size, 1, none⟩ = some (.int .i64 n) := by simp
  have fa2 : (w2.alloc (.cells #[.int .i64 k, .int .i64 n, .int .i64 p] 83)).cell? ⟨w2.heap.size, 2, none⟩ = some (.int .i64 p) := by simp
  have hbA : Below w.heap.size w (w2.alloc (.cells #[.int .i64 k, .int .i64 n, .int .i64 p] 83)) := hb1.alloc hb1.size _
  go_wp2_with fail
  refine (h0.out _).mono ?_
  rintro e w3 ⟨rfl, g3⟩
  have D3 : Below (w2.alloc (.cells #[.int .i64 k, .int .i64 n, .int .i64 p] 83)).heap.size (w2.alloc (.cells #[.int .i64 k, .int .i64 n, .int .i64 p] 83)) w3 := g3
  have z3fe0 := cell_later D3 fe0
  have z3fe1 := cell_later D3 fe1
  have z3fx00 := cell_later D3 fx00
  have z3fx01 := cell_later D3 fx01
  have z3fx02 := cell_later D3 fx02
  have z3fx10 := cell_later D3 fx10
  have z3fx11 := cell_later D3 fx11
  have z3fx12 := cell_later D3 fx12
  have z3fa0 := cell_later D3 fa0
  have z3fa1 := cell_later D3 fa1
  have z3fa2 := cell_later D3 fa2
  clear g3
  cases r0 with
  | true =>
    go_wp2_with fail
    refine (h1.out _).mono ?_
    rintro e w4 ⟨rfl, g4⟩
    have D4 : Below (w2.alloc (.cells #[.int .i64 k, .int .i64 n, .int .i64 p] 83)).heap.size (w2.alloc (.cells #[.int .i64 k, .int .i64 n, .int .i64 p] 83)) w4 := D3.trans (g4.mono D3.size)
    have z4fe0 := cell_later D4 fe0
    have z4fe1 := cell_later D4 fe1
    have z4fx00 := cell_later D4 fx00
    have z4fx01 := cell_later D4 fx01
    have z4fx02 := cell_later D4 fx02
    have z4fx10 := cell_later D4 fx10
    have z4fx11 := cell_later D4 fx11
    have z4fx12 := cell_later D4 fx12
    have z4fa0 := cell_later D4 fa0
    have z4fa1 := cell_later D4 fa1
    have z4fa2 := cell_later D4 fa2
    clear g4
    cases r1 with
    | true =>
      go_wp2
      go_ret
      exact ⟨by simp, hbA.trans (D4.mono hbA.size)⟩
    | false =>
      go_wp2
      go_ret
      exact ⟨by simp, hbA.trans (D4.mono hbA.size)⟩
  | false =>
    go_wp2
    go_ret
    exact ⟨by simp, hbA.trans (D3.mono hbA.size)⟩
end Go.Proofs.YtkppcmpdghnmgaaDoor

