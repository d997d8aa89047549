/- Is it a contact: the specification's. -/
import Derived.Test.YtjnddfpieogpiaaGreatDoorYa
import Derived.Test.YtjnddfpieogpiaaGreatDoorKf
import Derived.Test.YtjnddfpieogpiaaGreatDoorDg
namespace Go.Proofs.YtjnddfpieogpiaaGreatDoor
open Go.RowKit Go.Shelf Ee
set_option linter.unusedVariables false

set_option maxRecDepth 10000 in
set_option maxHeartbeats 1000000 in
theorem scontact_no (op N : Int) (a : Option Addr) (len cap : Nat) (w : World) (h : op < 1 ∨ 10 < op ∨ (len : Int) ≠ N)
    (hA : Hid (∀ W, Calls Tryz.prog 47 #[.int .i64 op] W fun e w' => e = .returned (.int .i64 N) ∧ Below W.heap.size W w')) :
    Calls Tryz.prog 15 #[.agg #[.int .i64 op, .slice a len cap]] w fun e w' => e = .returned (.bool false) ∧ Below w.heap.size w w' := by
  have hb0 : Below w.heap.size w (w.alloc (.cells #[.int .i64 op, .slice a len cap] 47)) := (Below.refl _ _).alloc (Nat.le_refl _) _
  have k0 := cell_regrown (w := w.alloc (.cells #[.int .i64 op, .slice a len cap] 47)) (a := ⟨w.heap.size, 0, none⟩) (v := .int .i64 op) (by simp)
  have k1 := cell_regrown (w := w.alloc (.cells #[.int .i64 op, .slice a len cap] 47)) (a := ⟨w.heap.size, 1, none⟩) (v := .slice a len cap) (by simp)
  have cA : ∀ d os, Calls Tryz.prog 47 #[.int .i64 op] (Sort.grow (redrawn (w.alloc (.cells #[.int .i64 op, .slice a len cap] 47)) d) os) fun e w'' => e = .returned (.int .i64 N) ∧ ∃ p : Regrown, w'' = Sort.grow (redrawn (w.alloc (.cells #[.int .i64 op, .slice a len cap] 47)) p.d) p.os :=
    fun d os => Calls.regrown_of (hA.out _)
  clear hA
  by_cases h1 : op < 1
  · clear h
    go_enter Tryz.func15, Tryz.ntmps15
    go_upto_region 1 with fail
    refine wp_region_quiet_below (by kernel_rfl) (by kernel_rfl) ?_
    repeat (go_big_quiet_step (first | exact cA _ _))
    refine wpQuiet_nil ?_
    intro _ hw'
    obtain ⟨⟨dq, osq⟩, hw''⟩ := hw'
    subst hw''
    go_wp2
    go_ret
    exact ⟨rfl, hb0.trans ((below_regrown _ dq osq).mono hb0.size)⟩
  · by_cases h2 : 10 < op
    · clear h
      go_enter Tryz.func15, Tryz.ntmps15
      go_upto_region 1 with fail
      refine wp_region_quiet_below (by kernel_rfl) (by kernel_rfl) ?_
      repeat (go_big_quiet_step (first | exact cA _ _))
      refine wpQuiet_nil ?_
      intro _ hw'
      obtain ⟨⟨dq, osq⟩, hw''⟩ := hw'
      subst hw''
      go_wp2
      go_ret
      exact ⟨rfl, hb0.trans ((below_regrown _ dq osq).mono hb0.size)⟩
    · have h3 : ((len : Int) == N) = false := by rw [beq_eq_false_iff_ne]; omega
      clear h
      go_enter Tryz.func15, Tryz.ntmps15
      go_upto_region 1 with fail
      refine wp_region_quiet_below (by kernel_rfl) (by kernel_rfl) ?_
      repeat (go_big_quiet_step (first | exact cA _ _))
      refine wpQuiet_nil ?_
      intro _ hw'
      obtain ⟨⟨dq, osq⟩, hw''⟩ := hw'
      subst hw''
      go_wp2
      go_ret
      exact ⟨rfl, hb0.trans ((below_regrown _ dq osq).mono hb0.size)⟩

set_option maxRecDepth 10000 in
set_option maxHeartbeats 1000000 in
theorem scontact1 (op k n p : Int) (r : Bool) (b o cap : Nat) (w : World) (ho1 : 1 ≤ op) (ho2 : op ≤ 2) (hx : Ops w b o [(k, n, p)])
    (hA : Hid (∀ W, Calls Tryz.prog 47 #[.int .i64 op] W fun e w' => e = .returned (.int .i64 1) ∧ Below W.heap.size W w'))
    (hB : Hid (∀ W, Calls Tryz.prog 48 #[.agg #[.int .i64 k, .int .i64 n, .int .i64 p]] W fun e w' => e = .returned (.bool r) ∧ Below W.heap.size W w')) :
    Calls Tryz.prog 15 #[.agg #[.int .i64 op, .slice (some ⟨b, o, none⟩) 1 cap]] w fun e w' => e = .returned (.bool r) ∧ Below w.heap.size w w' := by
  have hb0 : Below w.heap.size w (w.alloc (.cells #[.int .i64 op, .slice (some ⟨b, o, none⟩) 1 cap] 47)) := (Below.refl _ _).alloc (Nat.le_refl _) _
  have k0 := cell_regrown (w := w.alloc (.cells #[.int .i64 op, .slice (some ⟨b, o, none⟩) 1 cap] 47)) (a := ⟨w.heap.size, 0, none⟩) (v := .int .i64 op) (by simp)
  have k1 := cell_regrown (w := w.alloc (.cells #[.int .i64 op, .slice (some ⟨b, o, none⟩) 1 cap] 47)) (a := ⟨w.heap.size, 1, none⟩) (v := .slice (some ⟨b, o, none⟩) 1 cap) (by simp)
  have cA : ∀ d os, Calls Tryz.prog 47 #[.int .i64 op] (Sort.grow (redrawn (w.alloc (.cells #[.int .i64 op, .slice (some ⟨b, o, none⟩) 1 cap] 47)) d) os) fun e w'' => e = .returned (.int .i64 1) ∧ ∃ p : Regrown, w'' = Sort.grow (redrawn (w.alloc (.cells #[.int .i64 op, .slice (some ⟨b, o, none⟩) 1 cap] 47)) p.d) p.os :=
    fun d os => Calls.regrown_of (hA.out _)
  clear hA
  have h1 : ¬ (op < 1) := by omega
  have h2 : ¬ (10 < op) := by omega
  go_enter Tryz.func15, Tryz.ntmps15
  go_upto_region 1 with fail
  refine wp_region_quiet_below (by kernel_rfl) (by kernel_rfl) ?_
  repeat (go_big_quiet_step (first | exact cA _ _))
  refine wpQuiet_nil ?_
  intro _ hw'
  obtain ⟨⟨dq, osq⟩, hw''⟩ := hw'
  subst hw''
  have e0 := k0 dq osq
  have e1 := k1 dq osq
  have hb1 := hb0.trans ((below_regrown (w.alloc (.cells #[.int .i64 op, .slice (some ⟨b, o, none⟩) 1 cap] 47)) dq osq).mono hb0.size)
  have hx1 := hx.later hb1
  dsimp only at e0 e1 hb1 hx1 ⊢
  generalize Sort.grow (redrawn (w.alloc (.cells #[.int .i64 op, .slice (some ⟨b, o, none⟩) 1 cap] 47)) dq) osq = w2 at e0 e1 hb1 hx1 ⊢
  clear cA k0 k1 hb0 hx
  have x0 := (hx1 0 _ rfl).1
  have x1 := (hx1 0 _ rfl).2.1
  have x2 := (hx1 0 _ rfl).2.2
  simp only [Nat.zero_mul, Nat.add_zero] at x0 x1 x2
  go_wp2_with fail
  refine (hB.out _).mono ?_
  rintro e w3 ⟨rfl, g3⟩
  have b3 := hb1.trans (g3.mono hb1.size)
  clear g3
  go_wp2
  go_ret
  exact ⟨rfl, b3⟩
set_option maxRecDepth 10000 in
set_option maxHeartbeats 2000000 in
theorem scontact2 (op k n p k1 n1 p1 : Int) (r0 r1 : Bool) (b o cap : Nat) (w : World) (ho1 : 3 ≤ op) (ho2 : op ≤ 4) (ho3 : ¬ op ≤ 2) (hx : Ops w b o [(k, n, p), (k1, n1, p1)])
    (hA : Hid (∀ W, Calls Tryz.prog 47 #[.int .i64 op] W fun e w' => e = .returned (.int .i64 2) ∧ Below W.heap.size W w'))
    (h0 : Hid (∀ W, Calls Tryz.prog 48 #[.agg #[.int .i64 k, .int .i64 n, .int .i64 p]] W fun e w' => e = .returned (.bool r0) ∧ Below W.heap.size W w'))
    (h1 : Hid (∀ W, Calls Tryz.prog 49 #[.agg #[.int .i64 k1, .int .i64 n1, .int .i64 p1]] W fun e w' => e = .returned (.bool r1) ∧ Below W.heap.size W w')) :
    Calls Tryz.prog 15 #[.agg #[.int .i64 op, .slice (some ⟨b, o, none⟩) 2 cap]] w fun e w' => e = .returned (.bool (r0 && (r1 && (k1 == 5)))) ∧ Below w.heap.size w w' := by
  have hb0 : Below w.heap.size w (w.alloc (.cells #[.int .i64 op, .slice (some ⟨b, o, none⟩) 2 cap] 47)) := (Below.refl _ _).alloc (Nat.le_refl _) _
  have k0 := cell_regrown (w := (w.alloc (.cells #[.int .i64 op, .slice (some ⟨b, o, none⟩) 2 cap] 47))) (a := ⟨w.heap.size, 0, none⟩) (v := .int .i64 op) (by simp)
  have k1 := cell_regrown (w := (w.alloc (.cells #[.int .i64 op, .slice (some ⟨b, o, none⟩) 2 cap] 47))) (a := ⟨w.heap.size, 1, none⟩) (v := .slice (some ⟨b, o, none⟩) 2 cap) (by simp)
  have cA : ∀ d os, Calls Tryz.prog 47 #[.int .i64 op] (Sort.grow (redrawn (w.alloc (.cells #[.int .i64 op, .slice (some ⟨b, o, none⟩) 2 cap] 47)) d) os) fun e w'' => e = .returned (.int .i64 2) ∧ ∃ p : Regrown, w'' = Sort.grow (redrawn (w.alloc (.cells #[.int .i64 op, .slice (some ⟨b, o, none⟩) 2 cap] 47)) p.d) p.os :=
    fun d os => Calls.regrown_of (hA.out _)
  clear hA
  have h_1 : ¬ (op < 1) := by omega
  have h_2 : ¬ (10 < op) := by omega
  go_enter Tryz.func15, Tryz.ntmps15
  go_upto_region 1 with fail
  refine wp_region_quiet_below (by kernel_rfl) (by kernel_rfl) ?_
  repeat (go_big_quiet_step (first | exact cA _ _))
  refine wpQuiet_nil ?_
  intro _ hw'
  obtain ⟨⟨dq, osq⟩, hw''⟩ := hw'
  subst hw''
  have e0 := k0 dq osq
  have e1 := k1 dq osq
  have hb1 := hb0.trans ((below_regrown (w.alloc (.cells #[.int .i64 op, .slice (some ⟨b, o, none⟩) 2 cap] 47)) dq osq).mono hb0.size)
  have hx1 := hx.later hb1
  have lt1 : w.heap.size < (Sort.grow (redrawn (w.alloc (.cells #[.int .i64 op, .slice (some ⟨b, o, none⟩) 2 cap] 47)) dq) osq).heap.size := World.block_lt_of_cell? _ _ e0
  dsimp only at e0 e1 hb1 hx1 lt1 ⊢
  generalize Sort.grow (redrawn (w.alloc (.cells #[.int .i64 op, .slice (some ⟨b, o, none⟩) 2 cap] 47)) dq) osq = w2 at e0 e1 hb1 hx1 lt1 ⊢
  clear cA k0 k1 hb0 hx
  have lt2 : b < w2.heap.size := hx1.lt (by simp)
  have x00 := (hx1 0 _ rfl).1
  have x01 := (hx1 0 _ rfl).2.1
  have x02 := (hx1 0 _ rfl).2.2
  have x10 := (hx1 1 _ rfl).1
  have x11 := (hx1 1 _ rfl).2.1
  have x12 := (hx1 1 _ rfl).2.2
  simp only [Nat.zero_mul, Nat.add_zero, Nat.one_mul, Nat.add_assoc, Nat.reduceAdd] at x00 x01 x02 x10 x11 x12
  go_wp2_with fail
  refine (h0.out _).mono ?_
  rintro e w3 ⟨rfl, g3⟩
  have D3 : Below w2.heap.size w2 w3 := g3
  have z3e0 := cell_later D3 e0
  have z3e1 := cell_later D3 e1
  have z3x00 := cell_later D3 x00
  have z3x01 := cell_later D3 x01
  have z3x02 := cell_later D3 x02
  have z3x10 := cell_later D3 x10
  have z3x11 := cell_later D3 x11
  have z3x12 := cell_later D3 x12
  clear g3
  cases r0 with
  | true =>
    go_wp2_with fail
    refine (h1.out _).mono ?_
    rintro e w4 ⟨rfl, g4⟩
    have D4 : Below w2.heap.size w2 w4 := D3.trans (g4.mono D3.size)
    have z4e0 := cell_later D4 e0
    have z4e1 := cell_later D4 e1
    have z4x00 := cell_later D4 x00
    have z4x01 := cell_later D4 x01
    have z4x02 := cell_later D4 x02
    have z4x10 := cell_later D4 x10
    have z4x11 := cell_later D4 x11
    have z4x12 := cell_later D4 x12
    clear g4
    cases r1 with
    | true =>
      go_wp2
      go_ret
      exact ⟨by simp, hb1.trans (D4.mono hb1.size)⟩
    | false =>
      go_wp2
      go_ret
      exact ⟨by simp, hb1.trans (D4.mono hb1.size)⟩
  | false =>
    go_wp2
    go_ret
    exact ⟨by simp, hb1.trans (D3.mono hb1.size)⟩

set_option maxRecDepth 10000 in
set_option maxHeartbeats 2000000 in
theorem scontact3 (op k n p k1 n1 p1 : Int) (r0 r1 r2 r3 : Bool) (b o cap : Nat) (w : World) (ho1 : 5 ≤ op) (ho2 : op ≤ 10) (ho3 : ¬ op ≤ 2) (ho4 : ¬ op ≤ 4) (hx : Ops w b o [(k, n, p), (k1, n1, p1)])
    (hA : Hid (∀ W, Calls Tryz.prog 47 #[.int .i64 op] W fun e w' => e = .returned (.int .i64 2) ∧ Below W.heap.size W w'))
    (h0 : Hid (∀ W, Calls Tryz.prog 50 #[.agg #[.int .i64 k, .int .i64 n, .int .i64 p]] W fun e w' => e = .returned (.bool r0) ∧ Below W.heap.size W w'))
    (h1 : Hid (∀ W, Calls Tryz.prog 50 #[.agg #[.int .i64 k1, .int .i64 n1, .int .i64 p1]] W fun e w' => e = .returned (.bool r1) ∧ Below W.heap.size W w'))
    (h2 : Hid (∀ W, Calls Tryz.prog 51 #[.agg #[.int .i64 k, .int .i64 n, .int .i64 p]] W fun e w' => e = .returned (.bool r2) ∧ Below W.heap.size W w'))
    (h3 : Hid (∀ W, Calls Tryz.prog 51 #[.agg #[.int .i64 k1, .int .i64 n1, .int .i64 p1]] W fun e w' => e = .returned (.bool r3) ∧ Below W.heap.size W w')) :
    Calls Tryz.prog 15 #[.agg #[.int .i64 op, .slice (some ⟨b, o, none⟩) 2 cap]] w fun e w' => e = .returned (.bool (r0 && r1 || r2 && r3)) ∧ Below w.heap.size w w' := by
  have hb0 : Below w.heap.size w (w.alloc (.cells #[.int .i64 op, .slice (some ⟨b, o, none⟩) 2 cap] 47)) := (Below.refl _ _).alloc (Nat.le_refl _) _
  have k0 := cell_regrown (w := (w.alloc (.cells #[.int .i64 op, .slice (some ⟨b, o, none⟩) 2 cap] 47))) (a := ⟨w.heap.size, 0, none⟩) (v := .int .i64 op) (by simp)
  have k1 := cell_regrown (w := (w.alloc (.cells #[.int .i64 op, .slice (some ⟨b, o, none⟩) 2 cap] 47))) (a := ⟨w.heap.size, 1, none⟩) (v := .slice (some ⟨b, o, none⟩) 2 cap) (by simp)
  have cA : ∀ d os, Calls Tryz.prog 47 #[.int .i64 op] (Sort.grow (redrawn (w.alloc (.cells #[.int .i64 op, .slice (some ⟨b, o, none⟩) 2 cap] 47)) d) os) fun e w'' => e = .returned (.int .i64 2) ∧ ∃ p : Regrown, w'' = Sort.grow (redrawn (w.alloc (.cells #[.int .i64 op, .slice (some ⟨b, o, none⟩) 2 cap] 47)) p.d) p.os :=
    fun d os => Calls.regrown_of (hA.out _)
  clear hA
  have h_1 : ¬ (op < 1) := by omega
  have h_2 : ¬ (10 < op) := by omega
  go_enter Tryz.func15, Tryz.ntmps15
  go_upto_region 1 with fail
  refine wp_region_quiet_below (by kernel_rfl) (by kernel_rfl) ?_
  repeat (go_big_quiet_step (first | exact cA _ _))
  refine wpQuiet_nil ?_
  intro _ hw'
  obtain ⟨⟨dq, osq⟩, hw''⟩ := hw'
  subst hw''
  have e0 := k0 dq osq
  have e1 := k1 dq osq
  have hb1 := hb0.trans ((below_regrown (w.alloc (.cells #[.int .i64 op, .slice (some ⟨b, o, none⟩) 2 cap] 47)) dq osq).mono hb0.size)
  have hx1 := hx.later hb1
  have lt1 : w.heap.size < (Sort.grow (redrawn (w.alloc (.cells #[.int .i64 op, .slice (some ⟨b, o, none⟩) 2 cap] 47)) dq) osq).heap.size := World.block_lt_of_cell? _ _ e0
  dsimp only at e0 e1 hb1 hx1 lt1 ⊢
  generalize Sort.grow (redrawn (w.alloc (.cells #[.int .i64 op, .slice (some ⟨b, o, none⟩) 2 cap] 47)) dq) osq = w2 at e0 e1 hb1 hx1 lt1 ⊢
  clear cA k0 k1 hb0 hx
  have lt2 : b < w2.heap.size := hx1.lt (by simp)
  have x00 := (hx1 0 _ rfl).1
  have x01 := (hx1 0 _ rfl).2.1
  have x02 := (hx1 0 _ rfl).2.2
  have x10 := (hx1 1 _ rfl).1
  have x11 := (hx1 1 _ rfl).2.1
  have x12 := (hx1 1 _ rfl).2.2
  simp only [Nat.zero_mul, Nat.add_zero, Nat.one_mul, Nat.add_assoc, Nat.reduceAdd] at x00 x01 x02 x10 x11 x12
  go_wp2_with fail
  refine (h0.out _).mono ?_
  rintro e w3 ⟨rfl, g3⟩
  have D3 : Below w2.heap.size w2 w3 := g3
  have z3e0 := cell_later D3 e0
  have z3e1 := cell_later D3 e1
  have z3x00 := cell_later D3 x00
  have z3x01 := cell_later D3 x01
  have z3x02 := cell_later D3 x02
  have z3x10 := cell_later D3 x10
  have z3x11 := cell_later D3 x11
  have z3x12 := cell_later D3 x12
  clear g3
  cases r0 with
  | true =>
    go_wp2_with fail
    refine (h1.out _).mono ?_
    rintro e w4 ⟨rfl, g4⟩
    have D4 : Below w2.heap.size w2 w4 := D3.trans (g4.mono D3.size)
    have z4e0 := cell_later D4 e0
    have z4e1 := cell_later D4 e1
    have z4x00 := cell_later D4 x00
    have z4x01 := cell_later D4 x01
    have z4x02 := cell_later D4 x02
    have z4x10 := cell_later D4 x10
    have z4x11 := cell_later D4 x11
    have z4x12 := cell_later D4 x12
    clear g4
    cases r1 with
    | true =>
      go_wp2
      go_ret
      exact ⟨by simp, hb1.trans (D4.mono hb1.size)⟩
    | false =>
      go_wp2_with fail
      refine (h2.out _).mono ?_
      rintro e w5 ⟨rfl, g5⟩
      have D5 : Below w2.heap.size w2 w5 := D4.trans (g5.mono D4.size)
      have z5e0 := cell_later D5 e0
      have z5e1 := cell_later D5 e1
      have z5x00 := cell_later D5 x00
      have z5x01 := cell_later D5 x01
      have z5x02 := cell_later D5 x02
      have z5x10 := cell_later D5 x10
      have z5x11 := cell_later D5 x11
      have z5x12 := cell_later D5 x12
      clear g5
      cases r2 with
      | true =>
        go_wp2_with fail
        refine (h3.out _).mono ?_
        rintro e w6 ⟨rfl, g6⟩
        have D6 : Below w2.heap.size w2 w6 := D5.trans (g6.mono D5.size)
        have z6e0 := cell_later D6 e0
        have z6e1 := cell_later D6 e1
        have z6x00 := cell_later D6 x00
        have z6x01 := cell_later D6 x01
        have z6x02 := cell_later D6 x02
        have z6x10 := cell_later D6 x10
        have z6x11 := cell_later D6 x11
        have z6x12 := cell_later D6 x12
        clear g6
        cases r3 with
        | true =>
          go_wp2
          go_ret
          exact ⟨by simp, hb1.trans (D6.mono hb1.size)⟩
        | false =>
          go_wp2
          go_ret
          exact ⟨by simp, hb1.trans (D6.mono hb1.size)⟩
      | false =>
        go_wp2
        go_ret
        exact ⟨by simp, hb1.trans (D5.mono hb1.size)⟩
  | false =>
    go_wp2_with fail
    refine (h2.out _).mono ?_
    rintro e w4 ⟨rfl, g4⟩
    have D4 : Below w2.heap.size w2 w4 := D3.trans (g4.mono D3.size)
    have z4e0 := cell_later D4 e0
    have z4e1 := cell_later D4 e1
    have z4x00 := cell_later D4 x00
    have z4x01 := cell_later D4 x01
    have z4x02 := cell_later D4 x02
    have z4x10 := cell_later D4 x10
    have z4x11 := cell_later D4 x11
    have z4x12 := cell_later D4 x12
    clear g4
    cases r2 with
    | true =>
      go_wp2_with fail
      refine (h3.out _).mono ?_
      rintro e w5 ⟨rfl, g5⟩
      have D5 : Below w2.heap.size w2 w5 := D4.trans (g5.mono D4.size)
      have z5e0 := cell_later D5 e0
      have z5e1 := cell_later D5 e1
      have z5x00 := cell_later D5 x00
      have z5x01 := cell_later D5 x01
      have z5x02 := cell_later D5 x02
      have z5x10 := cell_later D5 x10
      have z5x11 := cell_later D5 x11
      have z5x12 := cell_later D5 x12
      clear g5
      cases r3 with
      | true =>
        go_wp2
        go_ret
        exact ⟨by simp, hb1.trans (D5.mono hb1.size)⟩
      | false =>
        go_wp2
        go_ret
        exact ⟨by simp, hb1.trans (D5.mono hb1.size)⟩
    | false =>
      go_wp2
      go_ret
      exact ⟨by simp, hb1.trans (D4.mono hb1.size)⟩


/-- What is known of a contact that is one. -/
def Good (op : Int) (xs : List Arg) : Prop := 1 ≤ op ∧ op ≤ 10 ∧ (xs.length : Int) = arN op ∧ ((op = 3 ∨ op = 4) → (ag xs 1).1 = 5)

theorem scontact (op : Int) (a : Option Addr) (len cap : Nat) (xs : List Arg) (w : World) (hl : len = xs.length) (hx : Sl w a xs) :
    Calls Tryz.prog 15 #[.agg #[.int .i64 op, .slice a len cap]] w fun e w' => ∃ r, e = .returned (.bool r) ∧ (r = true → Good op xs) ∧ Below w.heap.size w w' := by
  have hA : Hid (∀ W, Calls Tryz.prog 47 #[.int .i64 op] W fun e w' => e = .returned (.int .i64 (arN op)) ∧ Below W.heap.size W w') := fun W => spec_arity' op W
  by_cases h : op < 1 ∨ 10 < op ∨ (len : Int) ≠ arN op
  · exact (scontact_no op (arN op) a len cap w h hA).mono fun e w' hh => ⟨false, hh.1, (fun h => nomatch h), hh.2⟩
  have h1 : 1 ≤ op := by omega
  have h2 : op ≤ 10 := by omega
  have h3 : (len : Int) = arN op := by omega
  by_cases ho : op ≤ 2
  · have e : arN op = 1 := by unfold arN; rw [if_neg (by omega), if_pos ho]
    have h3' := h3
    rw [e] at h3 hA
    match xs, hl, hx with
    | [x], hl, hx =>
      obtain ⟨b, o, rfl, hy⟩ := hx.resolve_left (by simp)
      obtain ⟨k, n, p⟩ := x
      obtain rfl : len = 1 := hl
      exact (scontact1 op k n p _ b o cap w h1 ho hy hA (fun W => spec_isbit k n p W)).mono fun e w' hh => ⟨_, hh.1, fun _ => ⟨h1, h2, h3', fun h => by omega⟩, hh.2⟩
    | [], hl, hx => simp at hl; omega
    | _ :: _ :: _, hl, hx => simp at hl; omega
  have e : arN op = 2 := by unfold arN; rw [if_neg (by omega), if_neg ho, if_pos h2]
  have h3' := h3
  rw [e] at h3 hA
  match xs, hl, hx with
  | [x, y], hl, hx =>
    obtain ⟨b, o, rfl, hy⟩ := hx.resolve_left (by simp)
    obtain ⟨k, n, p⟩ := x
    obtain ⟨k1, n1, p1⟩ := y
    obtain rfl : len = 2 := hl
    by_cases ho4 : op ≤ 4
    · exact (scontact2 op k n p k1 n1 p1 _ _ b o cap w (by omega) ho4 ho hy hA (fun W => spec_isbit k n p W) (fun W => spec_ok k1 n1 p1 W)).mono fun e w' hh => ⟨_, hh.1, fun hr => ⟨h1, h2, h3', fun _ => by
        simp only [Bool.and_eq_true, beq_iff_eq] at hr
        exact hr.2.2⟩, hh.2⟩
    · exact (scontact3 op k n p k1 n1 p1 _ _ _ _ b o cap w (by omega) h2 ho ho4 hy hA (fun W => spec_iswhole k n p W) (fun W => spec_iswhole k1 n1 p1 W) (fun W => spec_isreal k n p W) (fun W => spec_isreal k1 n1 p1 W)).mono fun e w' hh => ⟨_, hh.1, fun _ => ⟨h1, h2, h3', fun h => by omega⟩, hh.2⟩
  | [], hl, hx => simp at hl; omega
  | [_], hl, hx => simp at hl; omega
  | _ :: _ :: _ :: _, hl, hx => simp at hl; omega
end Go.Proofs.YtjnddfpieogpiaaGreatDoor
