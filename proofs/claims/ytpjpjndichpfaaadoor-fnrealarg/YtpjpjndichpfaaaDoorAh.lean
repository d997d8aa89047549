/- The law FnRealArg: its walk, whole. -/
import Derived.Test.YtpjpjndichpfaaaDoorAg
namespace Go.Proofs.YtpjpjndichpfaaaDoor
open Go.RowKit
set_option linter.unusedVariables false

set_option maxHeartbeats 2000000 in
theorem draw_rarg {a : Option Addr} {len cap blk off : Nat} {z : Nat → Int} (w : World) (h : Code0 w a len cap blk off z) :
    Calls Tryd.prog 27 #[.slice a len cap] w fun e w' => IsArg e ∧ Below w.heap.size w w' := by
  go_enter Tryd.func27, Tryd.ntmps27
  go_wp2_with fail
  refine ((h.later ((Below.refl _ _).alloc (Nat.le_refl _) _)).open).mono ?_
  rintro e w1 ⟨rfl, h1, g1⟩
  simp only [World.size_alloc] at h1 g1 ⊢
  have s1 : A3 w1 w.heap.size 0 0 0 := (A3.fresh w 0 0 0 41).later (by simpa using g1)
  have b1 : Below w.heap.size w w1 := ((Below.refl _ _).alloc (Nat.le_refl _) _).trans (g1.mono (by omega))
  clear g1
  have hB1 := h1.2.1
  go_wp2_with fail
  refine (pick_r _ _ _ 4 _ h1 (by omega) (by omega) (by omega)).mono ?_
  rintro e w2 ⟨r, r1, rfl, h2, g2⟩
  have s2 : A3 w2 w.heap.size 0 0 0 := s1.grown g2 (by simp)
  have b2 : Below w.heap.size w w2 := b1.grown g2 (by omega) (fun j hj => by cases hj; omega)
  have hB2 := h2.2.1
  clear g2 s1 h1 b1 hB1
  by_cases hr : r = 0
  · subst hr
    go_wp2_with fail
    refine (any_r _ _ _ _ h2 (by omega)).mono ?_
    rintro e w3 ⟨⟨k, n, m, bn0, bn1, rfl⟩, ⟨q, hq, h3⟩, g3⟩
    have s3 : A3 w3 w.heap.size 0 0 0 := s2.grown g3 (by simp)
    have b3 : Below w.heap.size w w3 := b2.grown g3 (by omega) (fun j hj => by cases hj; omega)
    clear g3 s2 h2 b2
    have u1 := s3.set k n m
    obtain ⟨c0, c1, c2, f0, f1, f2⟩ := s3
    obtain ⟨q0, q1, q2, _, _, _⟩ := u1
    go_wp2
    exact bodyPost_ret (v := .agg #[.int .i64 k, .int .i64 n, .int .i64 m]) (by simp [results, Tryd.results27, go_sem, q0, q1, q2]) rfl ⟨⟨_, _, _, bn0, bn1, rfl⟩, by go_grown⟩
  · have hr' : ((r : Int) == 0) = false := by simp [hr]
    go_wp2_with fail
    refine (pick_r _ _ _ 2 _ h2 (by omega) (by omega) (by omega)).mono ?_
    rintro e w3 ⟨r3, r4, rfl, h3, g3⟩
    have s3 : A3 w3 w.heap.size 0 0 0 := s2.grown g3 (by simp)
    have b3 : Below w.heap.size w w3 := b2.grown g3 (by omega) (fun j hj => by cases hj; omega)
    have hB3 := h3.2.1
    clear g3 s2 h2 b2
    go_wp2_with fail
    refine (arg_r _ _ _ (12 + (r3 : Int)) _ h3 (by omega) (by omega) (by omega)).mono ?_
    rintro e w4 ⟨⟨k, n, m, bn0, bn1, rfl⟩, ⟨q, hq, h4⟩, g4⟩
    have s4 : A3 w4 w.heap.size 0 0 0 := s3.grown g4 (by simp)
    have b4 : Below w.heap.size w w4 := b3.grown g4 (by omega) (fun j hj => by cases hj; omega)
    clear g4 s3 h3 b3
    have u1 := s4.set k n m
    obtain ⟨c0, c1, c2, f0, f1, f2⟩ := s4
    obtain ⟨q0, q1, q2, _, _, _⟩ := u1
    go_wp2
    exact bodyPost_ret (v := .agg #[.int .i64 k, .int .i64 n, .int .i64 m]) (by simp [results, Tryd.results27, go_sem, q0, q1, q2]) rfl ⟨⟨_, _, _, bn0, bn1, rfl⟩, by go_grown⟩

theorem argdec {n : Int} {q x : Nat} (ha : okA 12 n q = true) (h : ArgV 12 n q x) : x = decB n q := by
  rcases h with ⟨a, rfl⟩ | ⟨a, b, c⟩ | ⟨a, b, rfl⟩ | ⟨a, b, c, rfl⟩
  · rw [ha] at a; cases a
  · omega
  · rfl
  · exact absurd rfl b

set_option maxRecDepth 100000 in
set_option maxHeartbeats 4000000 in
theorem walk_rarg0 {w : World} {a : Option Addr} {len cap blk off : Nat} {z : Nat → Int} {a' : Option Addr} {len' cap' blk' off' : Nat} {z' : Nat → Int}
    (h : Code0 w a len cap blk off z) (h' : Code0 w a' len' cap' blk' off' z') (hT : KT w) :
    Calls Tryd.prog 6 #[.slice a len cap, .slice a' len' cap'] w fun e w' => e = .returned (.bool true) ∧ Below w.heap.size w w' := by
  have hl : ¬ ((1048576 : Int) < len) := by have := h.short; omega
  have hl' : ¬ ((1048576 : Int) < len') := by have := h'.short; omega
  go_enter Tryd.func6, Tryd.ntmps6
  go_wp2_with fail
  refine (draw_rarg _ h).mono ?_
  rintro e w1 ⟨⟨k, n, p, bn0, bn1, rfl⟩, g1⟩
  clear h hl hl'
  have B1 : Below w.heap.size w (w1.alloc (.cells #[.int .i64 k, .int .i64 n, .int .i64 p] 41)) := g1.alloc g1.size _
  have s1 : A3 (w1.alloc (.cells #[.int .i64 k, .int .i64 n, .int .i64 p] 41)) w1.heap.size k n p := A3.fresh w1 k n p 41
  have hs1 := g1.size
  clear g1
  go_wp2_with fail
  refine (draw_rarg _ (h'.later B1)).mono ?_
  rintro e w2 ⟨⟨k', n', p', bn0', bn1', rfl⟩, g2⟩
  clear h'
  have B2a : Below w.heap.size w w2 := B1.trans (g2.mono B1.size)
  have B2 : Below w.heap.size w (w2.alloc (.cells #[.int .i64 k', .int .i64 n', .int .i64 p'] 41)) := B2a.alloc B2a.size _
  have t1 := (s1.later g2).alloc (.cells #[.int .i64 k', .int .i64 n', .int .i64 p'] 41)
  have t2 : A3 (w2.alloc (.cells #[.int .i64 k', .int .i64 n', .int .i64 p'] 41)) w2.heap.size k' n' p' := A3.fresh w2 k' n' p' 41
  have hs2 := g2.size
  simp only [World.size_alloc] at hs2
  clear g2 s1 B1 B2a
  have x0 := t1.c0
  have x1 := t1.c1
  have x2 := t1.c2
  have T2 := hT.later B2
  go_wp2_with fail
  refine (impl_arg k n p _ T2).mono ?_
  rintro e w3 ⟨x, rfl, hx, hxf, g3⟩
  have HX : Hid (ArgV k n p x) := hx
  have B3 := B2.trans (g3.mono B2.size)
  have u1 := t1.later g3
  have u2 := t2.later g3
  clear hx hxf g3 t1 t2 B2 x0 x1 x2 T2
  have x0 := u2.c0
  have x1 := u2.c1
  have x2 := u2.c2
  have T3 := hT.later B3
  go_wp2_with fail
  refine (impl_arg k' n' p' _ T3).mono ?_
  rintro e w4 ⟨y, rfl, hy, hyf, g4⟩
  have HY : Hid (ArgV k' n' p' y) := hy
  have B4 := B3.trans (g4.mono B3.size)
  have v1 := u1.later g4
  have v2 := u2.later g4
  clear hy hyf g4 u1 u2 B3 x0 x1 x2 T3 hT
  have x0 := v1.c0
  have x1 := v1.c1
  have x2 := v1.c2
  go_wp2_with fail
  refine (spec_arg k n p _).mono ?_
  rintro e w5 ⟨v, rfl, hv, hvf, g5⟩
  have hW : decide (Ws x v) = true := decide_eq_true (ws_of_same (arg_same HX.out hv))
  have B5 := B4.trans (g5.mono B4.size)
  have r1 := v1.later g5
  have r2 := v2.later g5
  clear hv hvf g5 v1 v2 B4 x0 x1 x2
  have ws := ws_r x v
  rw [hW] at ws
  clear hW
  have x0 := r1.c0
  have x1 := r1.c1
  have x2 := r1.c2
  have y0 := r2.c0
  have y1 := r2.c1
  have y2 := r2.c2
  go_wp2_with fail
  refine (ws _).mono ?_
  rintro e w6 ⟨rfl, rfl⟩
  clear ws
  by_cases hk : k = 12
  · subst hk
    by_cases hk' : k' = 12
    · subst hk'
      have o1 := spec_ok 12 n p
      have o2 := spec_ok 12 n' p'
      cases ha : okA 12 n p with
      | false =>
        rw [ha] at o1
        clear ha
        go_wp2_with fail
        refine (o1 _).mono ?_
        rintro e w7 ⟨rfl, g7⟩
        have B7 := B5.trans (g7.mono B5.size)
        clear g7 r1 r2 x0 x1 x2 y0 y1 y2 B5
        go_wp2
        go_ret
        exact ⟨rfl, B7⟩
      | true =>
        rw [ha] at o1
        cases hb : okA 12 n' p' with
        | false =>
          rw [hb] at o2
          clear ha hb
          go_wp2_with fail
          refine (o1 _).mono ?_
          rintro e w7 ⟨rfl, g7⟩
          have B7 := B5.trans (g7.mono B5.size)
          have q2 := r2.later g7
          clear g7 r1 r2 x0 x1 x2 y0 y1 y2 B5
          have y0 := q2.c0
          have y1 := q2.c1
          have y2 := q2.c2
          go_wp2_with fail
          refine (o2 _).mono ?_
          rintro e w8 ⟨rfl, g8⟩
          have B8 := B7.trans (g8.mono B7.size)
          clear g8 q2 y0 y1 y2 B7
          go_wp2
          go_ret
          exact ⟨rfl, B8⟩
        | true =>
          rw [hb] at o2
          obtain ⟨p1, p2, n1, n2⟩ := ok_dec_p ha
          obtain ⟨p1', p2', n1', n2'⟩ := ok_dec_p hb
          obtain ⟨q, rfl⟩ := Int.eq_ofNat_of_zero_le (by omega : 0 ≤ p)
          obtain ⟨q', rfl⟩ := Int.eq_ofNat_of_zero_le (by omega : 0 ≤ p')
          have ex : x = Fm.decOf (n * 10 ^ (6 - q)) := by
            rw [← decB_of n q (by omega) (by omega)]
            exact argdec ha HX.out
          have ey : y = Fm.decOf (n' * 10 ^ (6 - q')) := by
            rw [← decB_of n' q' (by omega) (by omega)]
            exact argdec hb HY.out
          have c1 := wrdec 12 n q (by omega) (by omega)
          have c2 := wrdec 12 n' q' (by omega) (by omega)
          have bA := dec_bd n q (by omega) (by omega)
          have bB := dec_bd n' q' (by omega) (by omega)
          generalize n * 10 ^ (6 - q) = A at ex c1 bA
          generalize n' * 10 ^ (6 - q') = B at ey c2 bB
          have hA := Fm.decOf_notN bA
          have hB := Fm.decOf_notN bB
          rw [← ex] at hA
          rw [← ey] at hB
          have EX : Hid (x = Fm.decOf A) := ex
          have EY : Hid (y = Fm.decOf B) := ey
          clear ha hb HX HY ex ey
          go_wp2_with fail
          refine (o1 _).mono ?_
          rintro e w7 ⟨rfl, g7⟩
          have B7 := B5.trans (g7.mono B5.size)
          have q1 := r1.later g7
          have q2 := r2.later g7
          clear g7 r1 r2 x0 x1 x2 y0 y1 y2 B5 o1
          have y0 := q2.c0
          have y1 := q2.c1
          have y2 := q2.c2
          go_wp2_with fail
          refine (o2 _).mono ?_
          rintro e w8 ⟨rfl, g8⟩
          have B8 := B7.trans (g8.mono B7.size)
          have m1 := q1.later g8
          have m2 := q2.later g8
          clear g8 q1 q2 y0 y1 y2 B7 o2
          have x0 := m1.c0
          have x1 := m1.c1
          have x2 := m1.c2
          have y0 := m2.c0
          have y1 := m2.c1
          have y2 := m2.c2
          rcases Int.lt_trichotomy A B with hAB | hAB | hAB
          · have ho : Fm.F.order x y = some .lt := by
              rw [Fm.F_eq, Fm.order_eq hA hB, Int.compare_eq_lt.2 (by rw [EX.out, EY.out]; exact Fm.decOf_lt bA bB hAB)]
            have i1 : A < B := hAB
            have i2 : (A == B) = false := by simp; omega
            clear EX EY bA bB hA hB hAB
            go_upto_region 11 with fail
            have z0 := cell_regrown x0
            have z1 := cell_regrown x1
            have z2 := cell_regrown x2
            have z3 := cell_regrown y0
            have z4 := cell_regrown y1
            have z5 := cell_regrown y2
            have cA : ∀ d os, Calls Tryd.prog 31 #[.agg #[.int .i64 12, .int .i64 n, .int .i64 q]] (Sort.grow (redrawn w8 d) os) fun e w'' => e = .returned (.int .i64 A) ∧ ∃ p : Regrown, w'' = Sort.grow (redrawn w8 p.d) p.os := fun d os => Calls.regrown_of (c1 _)
            have cB : ∀ d os, Calls Tryd.prog 31 #[.agg #[.int .i64 12, .int .i64 n', .int .i64 q']] (Sort.grow (redrawn w8 d) os) fun e w'' => e = .returned (.int .i64 B) ∧ ∃ p : Regrown, w'' = Sort.grow (redrawn w8 p.d) p.os := fun d os => Calls.regrown_of (c2 _)
            refine wp_region_quiet_below (by kernel_rfl) (by decide +kernel) ?_
            repeat (go_big_quiet_step (first | (with_reducible exact cA _ _) | (with_reducible exact cB _ _)))
            refine wpQuiet_nil ?_
            intro _ hw'
            obtain ⟨⟨dq, osq⟩, hw''⟩ := hw'
            subst hw''
            go_wp2
            go_ret
            exact ⟨rfl, B8.trans ((below_regrown w8 dq osq).mono B8.size)⟩
          · subst hAB
            have ho : Fm.F.order x y = some .eq := by
              rw [Fm.F_eq, Fm.order_eq hA hB, Int.compare_eq_eq.2 (by rw [EX.out, EY.out])]
            have i1 : ¬ A < A := by omega
            have i2 : (A == A) = true := by simp
            clear EX EY bA bB hA hB
            go_upto_region 11 with fail
            have z0 := cell_regrown x0
            have z1 := cell_regrown x1
            have z2 := cell_regrown x2
            have z3 := cell_regrown y0
            have z4 := cell_regrown y1
            have z5 := cell_regrown y2
            have cA : ∀ d os, Calls Tryd.prog 31 #[.agg #[.int .i64 12, .int .i64 n, .int .i64 q]] (Sort.grow (redrawn w8 d) os) fun e w'' => e = .returned (.int .i64 A) ∧ ∃ p : Regrown, w'' = Sort.grow (redrawn w8 p.d) p.os := fun d os => Calls.regrown_of (c1 _)
            have cB : ∀ d os, Calls Tryd.prog 31 #[.agg #[.int .i64 12, .int .i64 n', .int .i64 q']] (Sort.grow (redrawn w8 d) os) fun e w'' => e = .returned (.int .i64 A) ∧ ∃ p : Regrown, w'' = Sort.grow (redrawn w8 p.d) p.os := fun d os => Calls.regrown_of (c2 _)
            refine wp_region_quiet_below (by kernel_rfl) (by decide +kernel) ?_
            repeat (go_big_quiet_step (first | (with_reducible exact cA _ _) | (with_reducible exact cB _ _)))
            refine wpQuiet_nil ?_
            intro _ hw'
            obtain ⟨⟨dq, osq⟩, hw''⟩ := hw'
            subst hw''
            go_wp2
            go_ret
            exact ⟨rfl, B8.trans ((below_regrown w8 dq osq).mono B8.size)⟩
          · have ho : Fm.F.order x y = some .gt := by
              rw [Fm.F_eq, Fm.order_eq hA hB, Int.compare_eq_gt.2 (by rw [EX.out, EY.out]; exact Fm.decOf_lt bB bA hAB)]
            have i1 : decide (A < B) = false := by simp; omega
            have i2 : (A == B) = false := by simp; omega
            clear EX EY bA bB hA hB hAB
            go_upto_region 11 with fail
            have z0 := cell_regrown x0
            have z1 := cell_regrown x1
            have z2 := cell_regrown x2
            have z3 := cell_regrown y0
            have z4 := cell_regrown y1
            have z5 := cell_regrown y2
            have cA : ∀ d os, Calls Tryd.prog 31 #[.agg #[.int .i64 12, .int .i64 n, .int .i64 q]] (Sort.grow (redrawn w8 d) os) fun e w'' => e = .returned (.int .i64 A) ∧ ∃ p : Regrown, w'' = Sort.grow (redrawn w8 p.d) p.os := fun d os => Calls.regrown_of (c1 _)
            have cB : ∀ d os, Calls Tryd.prog 31 #[.agg #[.int .i64 12, .int .i64 n', .int .i64 q']] (Sort.grow (redrawn w8 d) os) fun e w'' => e = .returned (.int .i64 B) ∧ ∃ p : Regrown, w'' = Sort.grow (redrawn w8 p.d) p.os := fun d os => Calls.regrown_of (c2 _)
            refine wp_region_quiet_below (by kernel_rfl) (by decide +kernel) ?_
            repeat (go_big_quiet_step (first | (with_reducible exact cA _ _) | (with_reducible exact cB _ _)))
            refine wpQuiet_nil ?_
            intro _ hw'
            obtain ⟨⟨dq, osq⟩, hw''⟩ := hw'
            subst hw''
            go_wp2
            go_ret
            exact ⟨rfl, B8.trans ((below_regrown w8 dq osq).mono B8.size)⟩
    · have e1 : (k' != 12) = true := by simp [hk']
      clear HX HY r1 r2
      go_wp2
      go_ret
      exact ⟨rfl, B5⟩
  · have e1 : (k != 12) = true := by simp [hk]
    clear HX HY r1 r2
    go_wp2
    go_ret
    exact ⟨rfl, B5⟩

set_option maxHeartbeats 1000000 in
theorem walk_rarg (a : Option Addr) (len cap : Nat) (zs : List Int) (a' : Option Addr) (len' cap' : Nat) (zs' : List Int) (w : World) (h : IsRow .u8 w a len cap zs) (h' : IsRow .u8 w a' len' cap' zs') (hT : KT w) :
    Calls Tryd.prog 6 #[.slice a len cap, .slice a' len' cap'] w fun e w' => e = .returned (.bool true) ∧ Below w.heap.size w w' := by
  by_cases hl : len ≤ 1048576
  · by_cases hl' : len' ≤ 1048576
    · obtain ⟨blk, off, z, hc⟩ := h.code hl
      obtain ⟨blk', off', z', hc'⟩ := h'.code hl'
      exact walk_rarg0 hc hc' hT
    · have i1 : ¬ (1048576 : Int) < len := by omega
      have i2 : (1048576 : Int) < len' := by omega
      clear h h' hT
      go_enter Tryd.func6, Tryd.ntmps6
      go_wp2
      go_ret
      exact ⟨rfl, Below.refl _ _⟩
  · have i1 : (1048576 : Int) < len := by omega
    clear h h' hT
    go_enter Tryd.func6, Tryd.ntmps6
    go_wp2
    go_ret
    exact ⟨rfl, Below.refl _ _⟩
end Go.Proofs.YtpjpjndichpfaaaDoor
