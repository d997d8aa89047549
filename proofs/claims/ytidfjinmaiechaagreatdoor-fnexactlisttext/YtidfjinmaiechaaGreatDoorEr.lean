/- ElemText of the specification: contacts. -/
import Derived.Test.YtidfjinmaiechaaGreatDoorEq
namespace Go.Proofs.YtidfjinmaiechaaGreatDoor
open Go.RowKit Go.Shelf
set_option linter.unusedVariables false

set_option maxRecDepth 10000 in
set_option maxHeartbeats 2000000 in
theorem stext1 (k n p : Int) (TXT : Int → Int → Int → ByteArray) (hS : ∀ k n p, (TXT k n p).size ≤ 60) (b o cap : Nat) (w : World) (hx : Ops w b o [(k, n, p)])
    (hL : Hid (∀ W, Below w.heap.size w W → Calls Tryz.prog 32 #[.agg #[.int .i64 1, .slice (some ⟨b, o, none⟩) 1 cap]] W fun e w' => e = .returned (.bool false) ∧ Below W.heap.size W w'))
    (hC : Hid (∀ W, Below w.heap.size w W → Calls Tryz.prog 31 #[.agg #[.int .i64 1, .slice (some ⟨b, o, none⟩) 1 cap]] W fun e w' => e = .returned (.bool true) ∧ Below W.heap.size W w'))
    (h0 : Hid (∀ k n p W, Calls Tryz.prog 58 #[.agg #[.int .i64 k, .int .i64 n, .int .i64 p]] W fun e w' => e = .returned (.string (TXT k n p)) ∧ Below W.heap.size W w')) :
    Calls Tryz.prog 34 #[.agg #[.int .i64 1, .slice (some ⟨b, o, none⟩) 1 cap]] w fun e w' => e = .returned (.string (TXT k n p)) ∧ Below w.heap.size w w' := by
  have bA : Below w.heap.size w (w.alloc (.cells #[.int .i64 1, .slice (some ⟨b, o, none⟩) 1 cap] 45)) := (Below.refl _ _).alloc (Nat.le_refl _) _
  have p0 : (w.alloc (.cells #[.int .i64 1, .slice (some ⟨b, o, none⟩) 1 cap] 45)).cell? ⟨w.heap.size, 0, none⟩ = some (.int .i64 1) := by simp
  have p1 : (w.alloc (.cells #[.int .i64 1, .slice (some ⟨b, o, none⟩) 1 cap] 45)).cell? ⟨w.heap.size, 1, none⟩ = some (.slice (some ⟨b, o, none⟩) 1 cap) := by simp
  go_enter Tryz.func34, Tryz.ntmps34
  go_wp2_with fail
  refine (hL.out _ bA).mono ?_
  rintro e w1 ⟨rfl, g1⟩
  have b1 := bA.trans (g1.mono bA.size)
  have q0 := cell_later g1 p0
  have q1 := cell_later g1 p1
  go_wp2_with fail
  refine (hC.out _ b1).mono ?_
  rintro e w2 ⟨rfl, g2⟩
  have D2 := g1.trans (g2.mono g1.size)
  have b2 := bA.trans (D2.mono bA.size)
  have e0 := cell_later D2 p0
  have e1 := cell_later D2 p1
  have hx2 := hx.later b2
  clear g1 g2 q0 q1 p0 p1 hx hL hC
  have x00 := (hx2 0 _ rfl).1
  have x01 := (hx2 0 _ rfl).2.1
  have x02 := (hx2 0 _ rfl).2.2
  simp only [Nat.zero_mul, Nat.add_zero] at x00 x01 x02
  go_wp2_with fail
  refine (h0.out _ _ _ _).mono ?_
  rintro e w3 ⟨rfl, g3⟩
  have b3 := b2.trans (g3.mono b2.size)
  clear g3
  have s0 := hS k n p
  have hz : ¬ 9223372036854775807 < 1 + (TXT k n p).size := by omega
  clear hS
  go_wp2
  go_ret
  exact ⟨rfl, b3⟩

set_option maxRecDepth 10000 in
set_option maxHeartbeats 2000000 in
theorem stext2 (k n p : Int) (TXT : Int → Int → Int → ByteArray) (hS : ∀ k n p, (TXT k n p).size ≤ 60) (b o cap : Nat) (w : World) (hx : Ops w b o [(k, n, p)])
    (hL : Hid (∀ W, Below w.heap.size w W → Calls Tryz.prog 32 #[.agg #[.int .i64 2, .slice (some ⟨b, o, none⟩) 1 cap]] W fun e w' => e = .returned (.bool false) ∧ Below W.heap.size W w'))
    (hC : Hid (∀ W, Below w.heap.size w W → Calls Tryz.prog 31 #[.agg #[.int .i64 2, .slice (some ⟨b, o, none⟩) 1 cap]] W fun e w' => e = .returned (.bool true) ∧ Below W.heap.size W w'))
    (h0 : Hid (∀ k n p W, Calls Tryz.prog 58 #[.agg #[.int .i64 k, .int .i64 n, .int .i64 p]] W fun e w' => e = .returned (.string (TXT k n p)) ∧ Below W.heap.size W w')) :
    Calls Tryz.prog 34 #[.agg #[.int .i64 2, .slice (some ⟨b, o, none⟩) 1 cap]] w fun e w' => e = .returned (.string (⟨#[47]⟩ ++ TXT k n p)) ∧ Below w.heap.size w w' := by
  have bA : Below w.heap.size w (w.alloc (.cells #[.int .i64 2, .slice (some ⟨b, o, none⟩) 1 cap] 45)) := (Below.refl _ _).alloc (Nat.le_refl _) _
  have p0 : (w.alloc (.cells #[.int .i64 2, .slice (some ⟨b, o, none⟩) 1 cap] 45)).cell? ⟨w.heap.size, 0, none⟩ = some (.int .i64 2) := by simp
  have p1 : (w.alloc (.cells #[.int .i64 2, .slice (some ⟨b, o, none⟩) 1 cap] 45)).cell? ⟨w.heap.size, 1, none⟩ = some (.slice (some ⟨b, o, none⟩) 1 cap) := by simp
  go_enter Tryz.func34, Tryz.ntmps34
  go_wp2_with fail
  refine (hL.out _ bA).mono ?_
  rintro e w1 ⟨rfl, g1⟩
  have b1 := bA.trans (g1.mono bA.size)
  have q0 := cell_later g1 p0
  have q1 := cell_later g1 p1
  go_wp2_with fail
  refine (hC.out _ b1).mono ?_
  rintro e w2 ⟨rfl, g2⟩
  have D2 := g1.trans (g2.mono g1.size)
  have b2 := bA.trans (D2.mono bA.size)
  have e0 := cell_later D2 p0
  have e1 := cell_later D2 p1
  have hx2 := hx.later b2
  clear g1 g2 q0 q1 p0 p1 hx hL hC
  have x00 := (hx2 0 _ rfl).1
  have x01 := (hx2 0 _ rfl).2.1
  have x02 := (hx2 0 _ rfl).2.2
  simp only [Nat.zero_mul, Nat.add_zero] at x00 x01 x02
  go_wp2_with fail
  refine (h0.out _ _ _ _).mono ?_
  rintro e w3 ⟨rfl, g3⟩
  have b3 := b2.trans (g3.mono b2.size)
  clear g3
  have s0 := hS k n p
  have hz : ¬ 9223372036854775807 < 1 + (TXT k n p).size := by omega
  clear hS
  go_wp2
  go_ret
  exact ⟨by first | rfl | simp, b3⟩

set_option maxRecDepth 10000 in
set_option maxHeartbeats 2000000 in
theorem stext3 (k n p k1 n1 p1 : Int) (TXT : Int → Int → Int → ByteArray) (hS : ∀ k n p, (TXT k n p).size ≤ 60) (b o cap : Nat) (w : World) (hx : Ops w b o [(k, n, p), (k1, n1, p1)])
    (hL : Hid (∀ W, Below w.heap.size w W → Calls Tryz.prog 32 #[.agg #[.int .i64 3, .slice (some ⟨b, o, none⟩) 2 cap]] W fun e w' => e = .returned (.bool false) ∧ Below W.heap.size W w'))
    (hC : Hid (∀ W, Below w.heap.size w W → Calls Tryz.prog 31 #[.agg #[.int .i64 3, .slice (some ⟨b, o, none⟩) 2 cap]] W fun e w' => e = .returned (.bool true) ∧ Below W.heap.size W w'))
    (h0 : Hid (∀ k n p W, Calls Tryz.prog 58 #[.agg #[.int .i64 k, .int .i64 n, .int .i64 p]] W fun e w' => e = .returned (.string (TXT k n p)) ∧ Below W.heap.size W w')) :
    Calls Tryz.prog 34 #[.agg #[.int .i64 3, .slice (some ⟨b, o, none⟩) 2 cap]] w fun e w' => e = .returned (.string (⟨#[43]⟩ ++ TXT k n p ++ ⟨#[58]⟩ ++ TXT k1 n1 p1)) ∧ Below w.heap.size w w' := by
  have bA : Below w.heap.size w (w.alloc (.cells #[.int .i64 3, .slice (some ⟨b, o, none⟩) 2 cap] 45)) := (Below.refl _ _).alloc (Nat.le_refl _) _
  have p0 : (w.alloc (.cells #[.int .i64 3, .slice (some ⟨b, o, none⟩) 2 cap] 45)).cell? ⟨w.heap.size, 0, none⟩ = some (.int .i64 3) := by simp
  have p1 : (w.alloc (.cells #[.int .i64 3, .slice (some ⟨b, o, none⟩) 2 cap] 45)).cell? ⟨w.heap.size, 1, none⟩ = some (.slice (some ⟨b, o, none⟩) 2 cap) := by simp
  go_enter Tryz.func34, Tryz.ntmps34
  go_wp2_with fail
  refine (hL.out _ bA).mono ?_
  rintro e w1 ⟨rfl, g1⟩
  have b1 := bA.trans (g1.mono bA.size)
  have q0 := cell_later g1 p0
  have q1 := cell_later g1 p1
  go_wp2_with fail
  refine (hC.out _ b1).mono ?_
  rintro e w2 ⟨rfl, g2⟩
  have D2 := g1.trans (g2.mono g1.size)
  have b2 := bA.trans (D2.mono bA.size)
  have e0 := cell_later D2 p0
  have e1 := cell_later D2 p1
  have hx2 := hx.later b2
  clear g1 g2 q0 q1 p0 p1 hx hL hC
  have x00 := (hx2 0 _ rfl).1
  have x01 := (hx2 0 _ rfl).2.1
  have x02 := (hx2 0 _ rfl).2.2
  have x10 := (hx2 1 _ rfl).1
  have x11 := (hx2 1 _ rfl).2.1
  have x12 := (hx2 1 _ rfl).2.2
  simp only [Nat.zero_mul, Nat.add_zero, Nat.one_mul, Nat.add_assoc, Nat.reduceAdd] at x00 x01 x02 x10 x11 x12
  have Kx00 := cell_regrown x00
  have Kx01 := cell_regrown x01
  have Kx02 := cell_regrown x02
  have Kx10 := cell_regrown x10
  have Kx11 := cell_regrown x11
  have Kx12 := cell_regrown x12
  have Ke0 := cell_regrown e0
  have Ke1 := cell_regrown e1
  have cT : ∀ k n p d os, Calls Tryz.prog 58 #[.agg #[.int .i64 k, .int .i64 n, .int .i64 p]] (Sort.grow (redrawn w2 d) os) fun e w'' => e = .returned (.string (TXT k n p)) ∧ ∃ p : Regrown, w'' = Sort.grow (redrawn w2 p.d) p.os := fun k n p d os => Calls.regrown_of (h0.out k n p _)
  have s0 := hS k n p
  have s1 := hS k1 n1 p1
  have z1 : ¬ 9223372036854775807 < 1 + (TXT k n p).size := by omega
  have z2 : ¬ 9223372036854775807 < 1 + (TXT k n p).size + 1 := by omega
  have z3 : ¬ 9223372036854775807 < 1 + (TXT k n p).size + 1 + (TXT k1 n1 p1).size := by omega
  clear h0 hS
  go_upto_region 16 with fail
  refine wp_region_quiet_below (by kernel_rfl) (by kernel_rfl) ?_
  repeat (go_big_quiet_step (first | (go_at_call 58; exact cT _ _ _ _ _)))
  refine wpQuiet_nil ?_
  intro _ hw'
  obtain ⟨⟨dq, osq⟩, hw''⟩ := hw'
  subst hw''
  go_wp2
  go_ret
  exact ⟨by first | rfl | simp, b2.trans ((below_regrown w2 dq osq).mono b2.size)⟩

set_option maxRecDepth 10000 in
set_option maxHeartbeats 2000000 in
theorem stext4 (k n p k1 n1 p1 : Int) (TXT : Int → Int → Int → ByteArray) (hS : ∀ k n p, (TXT k n p).size ≤ 60) (b o cap : Nat) (w : World) (hx : Ops w b o [(k, n, p), (k1, n1, p1)])
    (hL : Hid (∀ W, Below w.heap.size w W → Calls Tryz.prog 32 #[.agg #[.int .i64 4, .slice (some ⟨b, o, none⟩) 2 cap]] W fun e w' => e = .returned (.bool false) ∧ Below W.heap.size W w'))
    (hC : Hid (∀ W, Below w.heap.size w W → Calls Tryz.prog 31 #[.agg #[.int .i64 4, .slice (some ⟨b, o, none⟩) 2 cap]] W fun e w' => e = .returned (.bool true) ∧ Below W.heap.size W w'))
    (h0 : Hid (∀ k n p W, Calls Tryz.prog 58 #[.agg #[.int .i64 k, .int .i64 n, .int .i64 p]] W fun e w' => e = .returned (.string (TXT k n p)) ∧ Below W.heap.size W w')) :
    Calls Tryz.prog 34 #[.agg #[.int .i64 4, .slice (some ⟨b, o, none⟩) 2 cap]] w fun e w' => e = .returned (.string (⟨#[45]⟩ ++ TXT k n p ++ ⟨#[58]⟩ ++ TXT k1 n1 p1)) ∧ Below w.heap.size w w' := by
  have bA : Below w.heap.size w (w.alloc (.cells #[.int .i64 4, .slice (some ⟨b, o, none⟩) 2 cap] 45)) := (Below.refl _ _).alloc (Nat.le_refl _) _
  have p0 : (w.alloc (.cells #[.int .i64 4, .slice (some ⟨b, o, none⟩) 2 cap] 45)).cell? ⟨w.heap.size, 0, none⟩ = some (.int .i64 4) := by simp
  have p1 : (w.alloc (.cells #[.int .i64 4, .slice (some ⟨b, o, none⟩) 2 cap] 45)).cell? ⟨w.heap.size, 1, none⟩ = some (.slice (some ⟨b, o, none⟩) 2 cap) := by simp
  go_enter Tryz.func34, Tryz.ntmps34
  go_wp2_with fail
  refine (hL.out _ bA).mono ?_
  rintro e w1 ⟨rfl, g1⟩
  have b1 := bA.trans (g1.mono bA.size)
  have q0 := cell_later g1 p0
  have q1 := cell_later g1 p1
  go_wp2_with fail
  refine (hC.out _ b1).mono ?_
  rintro e w2 ⟨rfl, g2⟩
  have D2 := g1.trans (g2.mono g1.size)
  have b2 := bA.trans (D2.mono bA.size)
  have e0 := cell_later D2 p0
  have e1 := cell_later D2 p1
  have hx2 := hx.later b2
  clear g1 g2 q0 q1 p0 p1 hx hL hC
  have x00 := (hx2 0 _ rfl).1
  have x01 := (hx2 0 _ rfl).2.1
  have x02 := (hx2 0 _ rfl).2.2
  have x10 := (hx2 1 _ rfl).1
  have x11 := (hx2 1 _ rfl).2.1
  have x12 := (hx2 1 _ rfl).2.2
  simp only [Nat.zero_mul, Nat.add_zero, Nat.one_mul, Nat.add_assoc, Nat.reduceAdd] at x00 x01 x02 x10 x11 x12
  have Kx00 := cell_regrown x00
  have Kx01 := cell_regrown x01
  have Kx02 := cell_regrown x02
  have Kx10 := cell_regrown x10
  have Kx11 := cell_regrown x11
  have Kx12 := cell_regrown x12
  have Ke0 := cell_regrown e0
  have Ke1 := cell_regrown e1
  have cT : ∀ k n p d os, Calls Tryz.prog 58 #[.agg #[.int .i64 k, .int .i64 n, .int .i64 p]] (Sort.grow (redrawn w2 d) os) fun e w'' => e = .returned (.string (TXT k n p)) ∧ ∃ p : Regrown, w'' = Sort.grow (redrawn w2 p.d) p.os := fun k n p d os => Calls.regrown_of (h0.out k n p _)
  have s0 := hS k n p
  have s1 := hS k1 n1 p1
  have z1 : ¬ 9223372036854775807 < 1 + (TXT k n p).size := by omega
  have z2 : ¬ 9223372036854775807 < 1 + (TXT k n p).size + 1 := by omega
  have z3 : ¬ 9223372036854775807 < 1 + (TXT k n p).size + 1 + (TXT k1 n1 p1).size := by omega
  clear h0 hS
  go_upto_region 18 with fail
  refine wp_region_quiet_below (by kernel_rfl) (by kernel_rfl) ?_
  repeat (go_big_quiet_step (first | (go_at_call 58; exact cT _ _ _ _ _)))
  refine wpQuiet_nil ?_
  intro _ hw'
  obtain ⟨⟨dq, osq⟩, hw''⟩ := hw'
  subst hw''
  go_wp2
  go_ret
  exact ⟨by first | rfl | simp, b2.trans ((below_regrown w2 dq osq).mono b2.size)⟩

set_option maxRecDepth 10000 in
set_option maxHeartbeats 2000000 in
theorem stext5 (op k n p k1 n1 p1 : Int) (TXT : Int → Int → Int → ByteArray) (hS : ∀ k n p, (TXT k n p).size ≤ 60) (G : ByteArray) (b o cap : Nat) (w : World) (ho1 : 5 ≤ op) (ho2 : op ≤ 10) (m1 : (op == 1) = false) (m2 : (op == 2) = false) (m3 : (op == 3) = false) (m4 : (op == 4) = false) (hx : Ops w b o [(k, n, p), (k1, n1, p1)])
    (hL : Hid (∀ W, Below w.heap.size w W → Calls Tryz.prog 32 #[.agg #[.int .i64 op, .slice (some ⟨b, o, none⟩) 2 cap]] W fun e w' => e = .returned (.bool false) ∧ Below W.heap.size W w'))
    (hC : Hid (∀ W, Below w.heap.size w W → Calls Tryz.prog 31 #[.agg #[.int .i64 op, .slice (some ⟨b, o, none⟩) 2 cap]] W fun e w' => e = .returned (.bool true) ∧ Below W.heap.size W w'))
    (h0 : Hid (∀ k n p W, Calls Tryz.prog 58 #[.agg #[.int .i64 k, .int .i64 n, .int .i64 p]] W fun e w' => e = .returned (.string (TXT k n p)) ∧ Below W.heap.size W w'))
    (hG : Hid (∀ W, Calls Tryz.prog 59 #[.int .i64 op] W fun e w' => e = .returned (.string G) ∧ Below W.heap.size W w')) (sG : G.size ≤ 2) :
    Calls Tryz.prog 34 #[.agg #[.int .i64 op, .slice (some ⟨b, o, none⟩) 2 cap]] w fun e w' => e = .returned (.string (TXT k n p ++ G ++ TXT k1 n1 p1)) ∧ Below w.heap.size w w' := by
  have bA : Below w.heap.size w (w.alloc (.cells #[.int .i64 op, .slice (some ⟨b, o, none⟩) 2 cap] 45)) := (Below.refl _ _).alloc (Nat.le_refl _) _
  have p0 : (w.alloc (.cells #[.int .i64 op, .slice (some ⟨b, o, none⟩) 2 cap] 45)).cell? ⟨w.heap.size, 0, none⟩ = some (.int .i64 op) := by simp
  have p1 : (w.alloc (.cells #[.int .i64 op, .slice (some ⟨b, o, none⟩) 2 cap] 45)).cell? ⟨w.heap.size, 1, none⟩ = some (.slice (some ⟨b, o, none⟩) 2 cap) := by simp
  go_enter Tryz.func34, Tryz.ntmps34
  go_wp2_with fail
  refine (hL.out _ bA).mono ?_
  rintro e w1 ⟨rfl, g1⟩
  have b1 := bA.trans (g1.mono bA.size)
  have q0 := cell_later g1 p0
  have q1 := cell_later g1 p1
  go_wp2_with fail
  refine (hC.out _ b1).mono ?_
  rintro e w2 ⟨rfl, g2⟩
  have D2 := g1.trans (g2.mono g1.size)
  have b2 := bA.trans (D2.mono bA.size)
  have e0 := cell_later D2 p0
  have e1 := cell_later D2 p1
  have hx2 := hx.later b2
  clear g1 g2 q0 q1 p0 p1 hx hL hC
  have x00 := (hx2 0 _ rfl).1
  have x01 := (hx2 0 _ rfl).2.1
  have x02 := (hx2 0 _ rfl).2.2
  have x10 := (hx2 1 _ rfl).1
  have x11 := (hx2 1 _ rfl).2.1
  have x12 := (hx2 1 _ rfl).2.2
  simp only [Nat.zero_mul, Nat.add_zero, Nat.one_mul, Nat.add_assoc, Nat.reduceAdd] at x00 x01 x02 x10 x11 x12
  have Kx00 := cell_regrown x00
  have Kx01 := cell_regrown x01
  have Kx02 := cell_regrown x02
  have Kx10 := cell_regrown x10
  have Kx11 := cell_regrown x11
  have Kx12 := cell_regrown x12
  have Ke0 := cell_regrown e0
  have Ke1 := cell_regrown e1
  have cT : ∀ k n p d os, Calls Tryz.prog 58 #[.agg #[.int .i64 k, .int .i64 n, .int .i64 p]] (Sort.grow (redrawn w2 d) os) fun e w'' => e = .returned (.string (TXT k n p)) ∧ ∃ p : Regrown, w'' = Sort.grow (redrawn w2 p.d) p.os := fun k n p d os => Calls.regrown_of (h0.out k n p _)
  have s0 := hS k n p
  have s1 := hS k1 n1 p1
  have cG : ∀ d os, Calls Tryz.prog 59 #[.int .i64 op] (Sort.grow (redrawn w2 d) os) fun e w'' => e = .returned (.string G) ∧ ∃ p : Regrown, w'' = Sort.grow (redrawn w2 p.d) p.os := fun d os => Calls.regrown_of (hG.out _)
  have z1 : ¬ 9223372036854775807 < (TXT k n p).size + G.size := by omega
  have z2 : ¬ 9223372036854775807 < (TXT k n p ++ G).size + (TXT k1 n1 p1).size := by rw [ByteArray.size_append]; omega
  have z3 : ¬ 9223372036854775807 < (TXT k n p).size + G.size + (TXT k1 n1 p1).size := by omega
  clear h0 hS hG
  go_upto_region 19 with fail
  refine wp_region_quiet_below (by kernel_rfl) (by kernel_rfl) ?_
  repeat (go_big_quiet_step (first | (go_at_call 58; exact cT _ _ _ _ _) | (go_at_call 59; exact cG _ _)))
  refine wpQuiet_nil ?_
  intro _ hw'
  obtain ⟨⟨dq, osq⟩, hw''⟩ := hw'
  subst hw''
  go_wp2
  go_ret
  exact ⟨by first | rfl | simp, b2.trans ((below_regrown w2 dq osq).mono b2.size)⟩
end Go.Proofs.YtidfjinmaiechaaGreatDoor

