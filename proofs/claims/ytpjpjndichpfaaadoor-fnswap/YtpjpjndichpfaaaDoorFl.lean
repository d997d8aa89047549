/- The laws FnFlip and FnSwap: walks. -/
import Derived.Test.YtpjpjndichpfaaaDoorRl
import Derived.Test.YtpjpjndichpfaaaDoorCt
namespace Go.Proofs.YtpjpjndichpfaaaDoor
open Go.RowKit
set_option linter.unusedVariables false

set_option maxHeartbeats 1000000 in
theorem draw_rcmp {w : World} {a : Option Addr} {len cap blk off : Nat} {z : Nat → Int} (h : Code0 w a len cap blk off z) :
    Calls Tryd.prog 14 #[.slice a len cap] w fun e w' => ∃ (op : Int) (x y : Nat), e = .returned (.tuple #[.int .i64 op, .float .f64 x, .float .f64 y]) ∧ Below w.heap.size w w' := by
  go_enter Tryd.func14, Tryd.ntmps14
  go_wp2_with fail
  refine (h.open).mono ?_
  rintro e w1 ⟨rfl, h1, g1⟩
  clear h
  go_wp2_with fail
  refine (op_r _ _ _ _ h1 (by omega)).mono ?_
  rintro e w2 ⟨op, rfl, bo, ⟨q2, hq2, h2⟩, g2⟩
  clear h1 bo
  go_wp2_with fail
  refine (real_r _ _ _ _ h2 (by omega)).mono ?_
  rintro e w3 ⟨x, rfl, bx, ⟨q3, hq3, h3⟩, g3⟩
  clear h2 bx
  go_wp2_with fail
  refine (pick_r _ _ _ 3 _ h3 (by omega) (by omega) (by omega)).mono ?_
  rintro e w4 ⟨r, r1, rfl, h4, g4⟩
  clear h3
  have G4 : Hid (w1.grownBy w4 (some w.heap.size)) := gb_pick (gb_pick g2 g3) g4
  clear g2 g3 g4
  by_cases hr : r = 0
  · subst hr
    go_wp2
    refine bodyPost_ret (v := .tuple #[.int .i64 op, .float .f64 x, .float .f64 x]) (by simp [results, Tryd.results14, go_sem]) rfl ⟨op, x, x, rfl, gb_open g1 G4.out⟩
  · have hr' : ((r : Int) == 0) = false := by simp [hr]
    go_wp2_with fail
    refine (real_r _ _ _ _ h4 (by omega)).mono ?_
    rintro e w5 ⟨y, rfl, by_, ⟨q5, hq5, h5⟩, g5⟩
    clear by_
    go_wp2
    refine bodyPost_ret (v := .tuple #[.int .i64 op, .float .f64 x, .float .f64 y]) (by simp [results, Tryd.results14, go_sem]) rfl ⟨op, x, y, rfl, gb_open g1 (gb_pick G4.out g5)⟩

/-- The flipped test of whole numbers. -/
theorem wc_flip (j : Nat) (h1 : 1 ≤ j) (h2 : j ≤ 6) (a b : Int) : wc (cF j) a b = !wc j a b := by
  have hj : j = 1 ∨ j = 2 ∨ j = 3 ∨ j = 4 ∨ j = 5 ∨ j = 6 := by omega
  rcases hj with rfl | rfl | rfl | rfl | rfl | rfl
  · show decide (b ≤ a) = !decide (a < b)
    by_cases h : a < b <;> simp [h] <;> omega
  · show decide (b < a) = !decide (a ≤ b)
    by_cases h : a ≤ b <;> simp [h] <;> omega
  · show (a != b) = !(a == b)
    rfl
  · show (a == b) = !(a != b)
    simp [bne]
  · show decide (a < b) = !decide (b ≤ a)
    by_cases h : b ≤ a <;> simp [h] <;> omega
  · show decide (a ≤ b) = !decide (b < a)
    by_cases h : b < a <;> simp [h] <;> omega
theorem wc_swap (j : Nat) (h1 : 1 ≤ j) (h2 : j ≤ 6) (a b : Int) : wc (cW j) b a = wc j a b := by
  have hj : j = 1 ∨ j = 2 ∨ j = 3 ∨ j = 4 ∨ j = 5 ∨ j = 6 := by omega
  rcases hj with rfl | rfl | rfl | rfl | rfl | rfl
  · rfl
  · rfl
  · show (b == a) = (a == b)
    exact Bool.beq_comm
  · show (b != a) = (a != b)
    exact bne_comm
  · rfl
  · rfl
theorem cW_twice (j : Nat) (h1 : 1 ≤ j) (h2 : j ≤ 6) : cW (cW j) = j := by
  have hj : j = 1 ∨ j = 2 ∨ j = 3 ∨ j = 4 ∨ j = 5 ∨ j = 6 := by omega
  rcases hj with rfl | rfl | rfl | rfl | rfl | rfl <;> rfl

theorem rc_num {x y : Nat} (hx : ¬ Fm.isN x) (hy : ¬ Fm.isN y) (op : Int) : rc op x y = wc op (Fm.sv x) (Fm.sv y) := by
  have e1 := Fm.lt_b hx hy
  have e2 := Fm.le_b hx hy
  have e3 := Fm.eq_b hx hy
  have e4 := Fm.ne_b hx hy
  have e5 := Fm.ge_b hx hy
  have e6 := Fm.gt_b hx hy
  unfold rc wc
  rw [e2, e5, e1, e4, e3, e6]
  have f3 : decide (Fm.sv x = Fm.sv y) = (Fm.sv x == Fm.sv y) := rfl
  have f4 : decide (Fm.sv x ≠ Fm.sv y) = (Fm.sv x != Fm.sv y) := by
    by_cases h : Fm.sv x = Fm.sv y <;> simp [h]
  rw [f3, f4]
theorem rc_nan {x y : Nat} (h : Fm.isN x ∨ Fm.isN y) (op : Int) : rc op x y = decide (op = 4) := by
  unfold rc
  rw [Fm.ord_n h]
  rcases opc op with h | rfl | rfl | rfl | rfl | rfl | rfl
  · rw [if_neg (by omega), if_neg (by omega), if_neg (by omega), if_neg (by omega), if_neg (by omega), if_neg (by omega), decide_eq_false (by omega)]
  all_goals rfl
theorem rc_flip {x y : Nat} (hx : ¬ Fm.isN x) (hy : ¬ Fm.isN y) (j : Nat) (h1 : 1 ≤ j) (h2 : j ≤ 6) : rc (cF j) x y = !rc j x y := by
  rw [rc_num hx hy, rc_num hx hy, wc_flip j h1 h2]
theorem rc_swap (x y : Nat) (j : Nat) (h1 : 1 ≤ j) (h2 : j ≤ 6) : rc (cW j) y x = rc j x y := by
  by_cases h : Fm.isN x ∨ Fm.isN y
  · rw [rc_nan h, rc_nan h.symm]
    have hj : j = 1 ∨ j = 2 ∨ j = 3 ∨ j = 4 ∨ j = 5 ∨ j = 6 := by omega
    rcases hj with rfl | rfl | rfl | rfl | rfl | rfl <;> rfl
  · rw [rc_num (fun h' => h (.inl h')) (fun h' => h (.inr h')), rc_num (fun h' => h (.inr h')) (fun h' => h (.inl h')), wc_swap j h1 h2]

set_option maxHeartbeats 2000000 in
theorem walk_swap0 {w : World} {a : Option Addr} {len cap blk off : Nat} {z : Nat → Int} (h : Code0 w a len cap blk off z) (ct : CT w) :
    Calls Tryd.prog 4 #[.slice a len cap] w fun e w' => e = .returned (.bool true) ∧ Below w.heap.size w w' := by
  have hl : ¬ ((1048576 : Int) < len) := by have := h.short; omega
  go_enter Tryd.func4, Tryd.ntmps4
  go_wp2_with fail
  refine (draw_wcmp h).mono ?_
  rintro e w1 ⟨op, x, y, rfl, ⟨hx, hy⟩, g1⟩
  have h' := h.later g1
  clear h hx hy
  go_wp2_with fail
  refine (draw_rcmp h').mono ?_
  rintro e w2 ⟨op2, p, q, rfl, g2⟩
  have G2 : Below w.heap.size w w2 := g1.trans (g2.mono g1.size)
  clear h' g1 g2 hl
  go_wp2
  go_loopg [9, 10] 6 (fun g i _ wr => ∃ (j : Nat), j + g = 7 ∧ 1 ≤ j ∧ i = .int .i64 j ∧ Below w.heap.size w wr)
  case atStart => exact ⟨1, by omega, by omega, rfl, G2⟩
  case round =>
    clear G2
    obtain ⟨j, hj, hj1, rfl, hb⟩ := hrel
    by_cases hlt : j ≤ 6
    · have ctr := ct.later hb
      have c1 := impl_swap j
      have c2 := spec_swap j
      have c3 := impl_swap (cW j)
      rw [cW_twice j hj1 hlt] at c3
      have c4 := impl_wcmp j x y
      have c5 := impl_wcmp (cW j) y x
      rw [wc_swap j hj1 hlt] at c5
      have c6 := impl_rcmp j p q
      have c7 := impl_rcmp (cW j) q p
      rw [rc_swap p q j hj1 hlt] at c7
      generalize wc j x y = b1 at c4 c5
      generalize rc j p q = b2 at c6 c7
      obtain ⟨S, HS⟩ : ∃ S, Hid (S = cW j) := ⟨_, rfl⟩
      rw [← HS.out] at c1 c2 c3 c5 c7
      clear HS
      go_wp2_with fail
      refine (c1 _ ctr).mono ?_
      rintro e u1 ⟨rfl, g1⟩
      have ct1 := ctr.later g1
      have B1 := hb.trans (g1.mono hb.size)
      clear g1 ctr hb
      go_wp2_with fail
      refine (c2 _).mono ?_
      rintro e u2 ⟨rfl, g1⟩
      have ct2 := ct1.later g1
      have B2 := B1.trans (g1.mono B1.size)
      clear g1 ct1 B1
      go_wp2_with fail
      refine (c3 _ ct2).mono ?_
      rintro e u3 ⟨rfl, g1⟩
      have B3 := B2.trans (g1.mono B2.size)
      clear g1 ct2 B2
      go_wp2_with fail
      refine (c4 _).mono ?_
      rintro e u4 ⟨rfl, g1⟩
      have B4 := B3.trans (g1.mono B3.size)
      clear g1 B3
      go_wp2_with fail
      refine (c5 _).mono ?_
      rintro e u5 ⟨rfl, g1⟩
      have B5 := B4.trans (g1.mono B4.size)
      clear g1 B4
      go_wp2_with fail
      refine (c6 _).mono ?_
      rintro e u6 ⟨rfl, g1⟩
      have B6 := B5.trans (g1.mono B5.size)
      clear g1 B5
      go_wp2_with fail
      refine (c7 _).mono ?_
      rintro e u7 ⟨rfl, g1⟩
      have B7 := B6.trans (g1.mono B6.size)
      clear g1 B6
      go_wp2
      go_roundg (gk - 1)
      case measure => omega
      case rel => exact ⟨j + 1, by omega, by omega, by go_num, B7⟩
    · go_wp2
      go_ret
      exact ⟨rfl, hb⟩

set_option maxHeartbeats 2000000 in
theorem walk_flip0 {w : World} {a : Option Addr} {len cap blk off : Nat} {z : Nat → Int} (h : Code0 w a len cap blk off z) (ct : CT w) :
    Calls Tryd.prog 3 #[.slice a len cap] w fun e w' => e = .returned (.bool true) ∧ Below w.heap.size w w' := by
  have hl : ¬ ((1048576 : Int) < len) := by have := h.short; omega
  go_enter Tryd.func3, Tryd.ntmps3
  go_wp2_with fail
  refine (draw_wcmp h).mono ?_
  rintro e w1 ⟨op, x, y, rfl, ⟨hx, hy⟩, g1⟩
  have h' := h.later g1
  clear h hx hy
  go_wp2_with fail
  refine (draw_rcmp h').mono ?_
  rintro e w2 ⟨op2, p, q, rfl, g2⟩
  have G2 : Below w.heap.size w w2 := g1.trans (g2.mono g1.size)
  clear h' g1 g2 hl
  go_wp2
  go_loopg [9] 6 (fun g i wr => ∃ (j : Nat), j + g = 7 ∧ 1 ≤ j ∧ i = .int .i64 j ∧ Below w.heap.size w wr)
  case atStart => exact ⟨1, by omega, by omega, rfl, G2⟩
  case round =>
    clear G2
    obtain ⟨j, hj, hj1, rfl, hb⟩ := hrel
    by_cases hlt : j ≤ 6
    · have ctr := ct.later hb
      have c1 := impl_flip j
      have c2 := spec_flip j
      have c4 := impl_wcmp j x y
      have c5 := impl_wcmp (cF j) x y
      rw [wc_flip j hj1 hlt] at c5
      have c6 := impl_rcmp j p q
      generalize wc j x y = b1 at c4 c5
      by_cases hN : Fm.isN p ∨ Fm.isN q
      · rw [rc_nan hN] at c6
        have e4 : decide ((j : Int) = 4) = ((j : Int) == 4) := rfl
        rw [e4] at c6
        clear e4
        generalize hb4 : ((j : Int) == 4) = b4 at c6
        have ep := Fm.self_eq p
        have eq := Fm.self_eq q
        obtain ⟨S, HS⟩ : ∃ S, Hid (S = cF j) := ⟨_, rfl⟩
        rw [← HS.out] at c1 c2 c5
        clear HS
        by_cases hp : Fm.isN p
        · rw [decide_eq_false (by simp [hp])] at ep
          clear eq hN hp
          go_wp2_with fail
          refine (c1 _ ctr).mono ?_
          rintro e u1 ⟨rfl, g1⟩
          have ct1 := ctr.later g1
          have B1 := hb.trans (g1.mono hb.size)
          clear g1 ctr hb
          go_wp2_with fail
          refine (c2 _).mono ?_
          rintro e u2 ⟨rfl, g1⟩
          have ct2 := ct1.later g1
          have B2 := B1.trans (g1.mono B1.size)
          clear g1 ct1 B1
          go_wp2_with fail
          refine (c4 _).mono ?_
          rintro e u3 ⟨rfl, g1⟩
          have ct3 := ct2.later g1
          have B3 := B2.trans (g1.mono B2.size)
          clear g1 ct2 B2
          go_wp2_with fail
          refine (c1 _ ct3).mono ?_
          rintro e u4 ⟨rfl, g1⟩
          have ct4 := ct3.later g1
          have B4 := B3.trans (g1.mono B3.size)
          clear g1 B3 ct3
          go_wp2_with fail
          refine (c5 _).mono ?_
          rintro e u5 ⟨rfl, g1⟩
          have ct5 := ct4.later g1
          have B5 := B4.trans (g1.mono B4.size)
          clear g1 B4 ct4
          go_wp2_with fail
          refine (c6 _).mono ?_
          rintro e u6 ⟨rfl, g1⟩
          have B6 := B5.trans (g1.mono B5.size)
          clear g1 B5 ct5
          go_wp2
          go_roundg (gk - 1)
          case measure => omega
          case rel => exact ⟨j + 1, by omega, by omega, by go_num, B6⟩
        · have hq : Fm.isN q := hN.resolve_left hp
          rw [decide_eq_true hp] at ep
          rw [decide_eq_false (by simp [hq])] at eq
          clear hN hp hq
          go_wp2_with fail
          refine (c1 _ ctr).mono ?_
          rintro e u1 ⟨rfl, g1⟩
          have ct1 := ctr.later g1
          have B1 := hb.trans (g1.mono hb.size)
          clear g1 ctr hb
          go_wp2_with fail
          refine (c2 _).mono ?_
          rintro e u2 ⟨rfl, g1⟩
          have ct2 := ct1.later g1
          have B2 := B1.trans (g1.mono B1.size)
          clear g1 ct1 B1
          go_wp2_with fail
          refine (c4 _).mono ?_
          rintro e u3 ⟨rfl, g1⟩
          have ct3 := ct2.later g1
          have B3 := B2.trans (g1.mono B2.size)
          clear g1 ct2 B2
          go_wp2_with fail
          refine (c1 _ ct3).mono ?_
          rintro e u4 ⟨rfl, g1⟩
          have ct4 := ct3.later g1
          have B4 := B3.trans (g1.mono B3.size)
          clear g1 B3 ct3
          go_wp2_with fail
          refine (c5 _).mono ?_
          rintro e u5 ⟨rfl, g1⟩
          have ct5 := ct4.later g1
          have B5 := B4.trans (g1.mono B4.size)
          clear g1 B4 ct4
          go_wp2_with fail
          refine (c6 _).mono ?_
          rintro e u6 ⟨rfl, g1⟩
          have B6 := B5.trans (g1.mono B5.size)
          clear g1 B5 ct5
          go_wp2
          go_roundg (gk - 1)
          case measure => omega
          case rel => exact ⟨j + 1, by omega, by omega, by go_num, B6⟩
      · have hp : ¬ Fm.isN p := fun h => hN (.inl h)
        have hq : ¬ Fm.isN q := fun h => hN (.inr h)
        have c7 := impl_rcmp (cF j) p q
        rw [rc_flip hp hq j hj1 hlt] at c7
        generalize rc j p q = b2 at c6 c7
        obtain ⟨S, HS⟩ : ∃ S, Hid (S = cF j) := ⟨_, rfl⟩
        rw [← HS.out] at c1 c2 c5 c7
        clear HS
        have ep := Fm.self_eq p
        have eq := Fm.self_eq q
        rw [decide_eq_true hp] at ep
        rw [decide_eq_true hq] at eq
        clear hN hp hq
        go_wp2_with fail
        refine (c1 _ ctr).mono ?_
        rintro e u1 ⟨rfl, g1⟩
        have ct1 := ctr.later g1
        have B1 := hb.trans (g1.mono hb.size)
        clear g1 ctr hb
        go_wp2_with fail
        refine (c2 _).mono ?_
        rintro e u2 ⟨rfl, g1⟩
        have ct2 := ct1.later g1
        have B2 := B1.trans (g1.mono B1.size)
        clear g1 ct1 B1
        go_wp2_with fail
        refine (c4 _).mono ?_
        rintro e u3 ⟨rfl, g1⟩
        have ct3 := ct2.later g1
        have B3 := B2.trans (g1.mono B2.size)
        clear g1 ct2 B2
        go_wp2_with fail
        refine (c1 _ ct3).mono ?_
        rintro e u4 ⟨rfl, g1⟩
        have ct4 := ct3.later g1
        have B4 := B3.trans (g1.mono B3.size)
        clear g1 B3 ct3
        go_wp2_with fail
        refine (c5 _).mono ?_
        rintro e u5 ⟨rfl, g1⟩
        have ct5 := ct4.later g1
        have B5 := B4.trans (g1.mono B4.size)
        clear g1 B4 ct4
        go_wp2_with fail
        refine (c6 _).mono ?_
        rintro e u6 ⟨rfl, g1⟩
        have ct6 := ct5.later g1
        have B6 := B5.trans (g1.mono B5.size)
        clear g1 B5 ct5
        go_wp2_with fail
        refine (c1 _ ct6).mono ?_
        rintro e u7 ⟨rfl, g1⟩
        have B7 := B6.trans (g1.mono B6.size)
        clear g1 B6 ct6
        go_wp2_with fail
        refine (c7 _).mono ?_
        rintro e u8 ⟨rfl, g1⟩
        have B8 := B7.trans (g1.mono B7.size)
        clear g1 B7
        go_wp2
        go_roundg (gk - 1)
        case measure => omega
        case rel => exact ⟨j + 1, by omega, by omega, by go_num, B8⟩
    · go_wp2
      go_ret
      exact ⟨rfl, hb⟩

set_option maxHeartbeats 1000000 in
theorem walk_swap_all (a : Option Addr) (len cap : Nat) (zs : List Int) (w : World) (h : IsRow .u8 w a len cap zs) (ct : CT w) :
    Calls Tryd.prog 4 #[.slice a len cap] w fun e w' => e = .returned (.bool true) ∧ Below w.heap.size w w' := by
  by_cases hl : len ≤ 1048576
  · obtain ⟨blk, off, z, hc⟩ := h.code hl
    exact walk_swap0 hc ct
  · have hl' : (1048576 : Int) < len := by omega
    clear h ct
    go_enter Tryd.func4, Tryd.ntmps4
    go_wp2
    go_ret
    exact ⟨rfl, Below.refl _ _⟩

set_option maxHeartbeats 1000000 in
theorem walk_flip_all (a : Option Addr) (len cap : Nat) (zs : List Int) (w : World) (h : IsRow .u8 w a len cap zs) (ct : CT w) :
    Calls Tryd.prog 3 #[.slice a len cap] w fun e w' => e = .returned (.bool true) ∧ Below w.heap.size w w' := by
  by_cases hl : len ≤ 1048576
  · obtain ⟨blk, off, z, hc⟩ := h.code hl
    exact walk_flip0 hc ct
  · have hl' : (1048576 : Int) < len := by omega
    clear h ct
    go_enter Tryd.func3, Tryd.ntmps3
    go_wp2
    go_ret
    exact ⟨rfl, Below.refl _ _⟩

end Go.Proofs.YtpjpjndichpfaaaDoor
