/- Which instructions can be written: the specification. -/
import Derived.Test.YtcihplachlokiaaDoorQkaM
namespace Go.Proofs.YtcihplachlokiaaDoor
open Go.RowKit Go.Shelf
set_option linter.unusedVariables false
set_option linter.unusedSimpArgs false

set_option maxRecDepth 10000 in
set_option maxHeartbeats 4000000 in
theorem wrong_s (c op : Int) (a : Option Addr) (len cap : Nat) (xs : List ArgT) (w : World) (hl : len = xs.length) (hm : len ≤ 9223372036854775807) (hx : SlA w a xs) :
    Calls Tryd.prog 33 #[.agg #[.int .i64 c, .int .i64 op, .slice a len cap]] w fun e w' => e = .returned (.int .i64 (wrT ⟨c, ⟨op, xs⟩⟩)) ∧ Below w.heap.size w w' := by
  have HB : Hid (∀ W, Calls Tryd.prog 49 #[.int .i64 c] W fun e w' => e = .returned (.bool (hasB c)) ∧ W = w') := fun W => has_s c W
  have HO : Hid (∀ W, Calls Tryd.prog 50 #[.int .i64 c, .int .i64 op] W fun e w' => e = .returned (.bool (opB c op)) ∧ W = w') := fun W => op_s c op W
  have HA : Hid (∀ W, Calls Tryd.prog 51 #[.int .i64 op] W fun e w' => e = .returned (.int .i64 (arN op)) ∧ w' = W) := fun W => spec_arity op W
  have HX : Hid (SlA w a xs) := hx
  have I0 := LI.start w c op (.slice a len cap)
  have HWr : Hid (wrT ⟨c, ⟨op, xs⟩⟩ = if knB c = false then 2 else if hasB c = false then (if op = 0 ∧ xs.length = 0 then 0 else 2) else if opB c op = false then 2 else if (xs.length : Int) ≠ arN op then 2 else if xs.all fitA then 0 else 3) := rfl
  rw [HWr.out]
  have Hl : Hid (len = xs.length) := hl
  clear hx HWr
  by_cases hk : knB c = false
  · rw [if_pos hk]
    have b1 := I0.2
    have hk2 : c < 1 ∨ (¬ c < 1 ∧ 11 < c) := by unfold knB at hk; simp at hk; omega
    clear hk hl I0
    rcases hk2 with hk2 | ⟨hk2, hk3⟩
    · go_enter Tryd.func33, Tryd.ntmps33
      go_wp2
      go_ret
      exact ⟨rfl, b1⟩
    · go_enter Tryd.func33, Tryd.ntmps33
      go_wp2
      go_ret
      exact ⟨rfl, b1⟩
  · rw [if_neg hk]
    have hk1 : ¬ c < 1 := by unfold knB at hk; simp at hk; omega
    have hk2 : ¬ 11 < c := by unfold knB at hk; simp at hk; omega
    clear hk
    by_cases hh : hasB c = false
    · rw [if_pos hh]
      rw [hh] at HB
      clear hh
      by_cases hn : op = 0
      · subst hn
        by_cases hn2 : xs.length = 0
        · rw [if_pos ⟨rfl, hn2⟩]
          have e2 : len = 0 := by omega
          subst e2
          clear hn2 hl HX
          go_enter Tryd.func33, Tryd.ntmps33
          go_upto_region 1 with fail
          generalize (w.alloc (.cells #[.int .i64 c, .int .i64 0, .slice a 0 cap] 56)) = W0 at I0 ⊢
          obtain ⟨p0, p1, p2, p3⟩ := I0.cells
          have b2 := I0.2
          go_wp2_with fail
          refine (HB.out _).mono ?_
          rintro e w1 ⟨rfl, rfl⟩
          go_wp2
          go_ret
          exact ⟨rfl, b2⟩
        · rw [if_neg (fun h => hn2 h.2)]
          have e2 : 0 < (len : Int) := by omega
          clear hn2 hl HX
          go_enter Tryd.func33, Tryd.ntmps33
          go_upto_region 1 with fail
          generalize (w.alloc (.cells #[.int .i64 c, .int .i64 0, .slice a len cap] 56)) = W0 at I0 ⊢
          obtain ⟨p0, p1, p2, p3⟩ := I0.cells
          have b2 := I0.2
          go_wp2_with fail
          refine (HB.out _).mono ?_
          rintro e w1 ⟨rfl, rfl⟩
          go_wp2
          go_ret
          exact ⟨rfl, b2⟩
      · rw [if_neg (fun h => hn h.1)]
        have e2 : (op != 0) = true := by simpa using hn
        clear hn hl HX
        go_enter Tryd.func33, Tryd.ntmps33
        go_upto_region 1 with fail
        generalize (w.alloc (.cells #[.int .i64 c, .int .i64 op, .slice a len cap] 56)) = W0 at I0 ⊢
        obtain ⟨p0, p1, p2, p3⟩ := I0.cells
        have b2 := I0.2
        go_wp2_with fail
        refine (HB.out _).mono ?_
        rintro e w1 ⟨rfl, rfl⟩
        go_wp2
        go_ret
        exact ⟨rfl, b2⟩
    · rw [if_neg hh]
      have hh' : hasB c = true := by simpa using hh
      rw [hh'] at HB
      clear hh hh'
      by_cases ho : opB c op = false
      · rw [if_pos ho]
        rw [ho] at HO
        clear ho HA HX hl
        go_enter Tryd.func33, Tryd.ntmps33
        go_upto_region 1 with fail
        generalize (w.alloc (.cells #[.int .i64 c, .int .i64 op, .slice a len cap] 56)) = W0 at I0 ⊢
        obtain ⟨p0, p1, p2, p3⟩ := I0.cells
        go_wp2_with fail
        refine (HB.out _).mono ?_
        rintro e w1 ⟨rfl, rfl⟩
        have cO : ∀ d os, Calls Tryd.prog 50 #[.int .i64 c, .int .i64 op] (Sort.grow (redrawn W0 d) os) fun e w'' => e = .returned (.bool false) ∧ ∃ p : Regrown, w'' = Sort.grow (redrawn W0 p.d) p.os :=
          fun d os => Calls.regrown_of ((HO.out _).mono fun e w' ⟨h1, h2⟩ => ⟨h1, by rw [← h2]; exact Below.refl _ _⟩)
        have q0 : ∀ d os, (Sort.grow (redrawn W0 d) os).cell? ⟨w.heap.size, 0, none⟩ = some (.int .i64 c) := fun d os => ((I0.later (below_regrown W0 d os)).cells).1
        have q1 : ∀ d os, (Sort.grow (redrawn W0 d) os).cell? ⟨w.heap.size, 1, none⟩ = some (.int .i64 op) := fun d os => ((I0.later (below_regrown W0 d os)).cells).2.1
        have q2 : ∀ d os, (Sort.grow (redrawn W0 d) os).cell? ⟨w.heap.size, 2, none⟩ = some (.slice a len cap) := fun d os => ((I0.later (below_regrown W0 d os)).cells).2.2.1
        clear p0 p1 p2 p3
        go_upto_region 7 with fail
        refine wp_region_quiet_below (by kernel_rfl) (by kernel_rfl) ?_
        repeat (go_big_quiet_step (first | with_reducible exact cO _ _))
        refine wpQuiet_nil ?_
        intro w7 hw'
        have b7 : Below w.heap.size w w7 := by
          obtain ⟨⟨dq, osq⟩, rfl⟩ := hw'
          exact (I0.later (below_regrown W0 dq osq)).2
        clear hw' cO q0 q1 q2
        go_wp2
        go_ret
        exact ⟨rfl, b7⟩
      · rw [if_neg ho]
        have ho' : opB c op = true := by simpa using ho
        rw [ho'] at HO
        clear ho ho'
        by_cases ha : (xs.length : Int) ≠ arN op
        · rw [if_pos ha]
          have ea : ((len : Int) != arN op) = true := by rw [hl]; simpa using ha
          obtain ⟨N, HNn⟩ : ∃ N, Hid (N = arN op) := ⟨_, rfl⟩
          rw [← HNn.out] at HA ea
          clear ha HX hl
          go_enter Tryd.func33, Tryd.ntmps33
          go_upto_region 1 with fail
          generalize (w.alloc (.cells #[.int .i64 c, .int .i64 op, .slice a len cap] 56)) = W0 at I0 ⊢
          obtain ⟨p0, p1, p2, p3⟩ := I0.cells
          go_wp2_with fail
          refine (HB.out _).mono ?_
          rintro e w1 ⟨rfl, rfl⟩
          have cO : ∀ d os, Calls Tryd.prog 50 #[.int .i64 c, .int .i64 op] (Sort.grow (redrawn W0 d) os) fun e w'' => e = .returned (.bool true) ∧ ∃ p : Regrown, w'' = Sort.grow (redrawn W0 p.d) p.os :=
            fun d os => Calls.regrown_of ((HO.out _).mono fun e w' ⟨h1, h2⟩ => ⟨h1, by rw [← h2]; exact Below.refl _ _⟩)
          have cA : ∀ d os, Calls Tryd.prog 51 #[.int .i64 op] (Sort.grow (redrawn W0 d) os) fun e w'' => e = .returned (.int .i64 N) ∧ ∃ p : Regrown, w'' = Sort.grow (redrawn W0 p.d) p.os :=
            fun d os => Calls.regrown_of ((HA.out _).mono fun e w' ⟨h1, h2⟩ => ⟨h1, by rw [h2]; exact Below.refl _ _⟩)
          have q0 : ∀ d os, (Sort.grow (redrawn W0 d) os).cell? ⟨w.heap.size, 0, none⟩ = some (.int .i64 c) := fun d os => ((I0.later (below_regrown W0 d os)).cells).1
          have q1 : ∀ d os, (Sort.grow (redrawn W0 d) os).cell? ⟨w.heap.size, 1, none⟩ = some (.int .i64 op) := fun d os => ((I0.later (below_regrown W0 d os)).cells).2.1
          have q2 : ∀ d os, (Sort.grow (redrawn W0 d) os).cell? ⟨w.heap.size, 2, none⟩ = some (.slice a len cap) := fun d os => ((I0.later (below_regrown W0 d os)).cells).2.2.1
          clear p0 p1 p2 p3
          go_upto_region 7 with fail
          refine wp_region_quiet_below (by kernel_rfl) (by kernel_rfl) ?_
          repeat (go_big_quiet_step (first | with_reducible exact cO _ _ | with_reducible exact cA _ _))
          refine wpQuiet_nil ?_
          intro w7 hw'
          have b7 : Below w.heap.size w w7 := by
            obtain ⟨⟨dq, osq⟩, rfl⟩ := hw'
            exact (I0.later (below_regrown W0 dq osq)).2
          clear hw' cO cA q0 q1 q2
          go_wp2
          go_ret
          exact ⟨rfl, b7⟩
        · rw [if_neg ha]
          obtain ⟨V, HV0⟩ : ∃ V : Int, Hid (V = if xs.all fitA then 0 else 3) := ⟨_, rfl⟩
          rw [← HV0.out]
          have ea : ((len : Int) != arN op) = false := by rw [hl]; simpa using ha
          obtain ⟨N, HNn⟩ : ∃ N, Hid (N = arN op) := ⟨_, rfl⟩
          rw [← HNn.out] at HA ea
          clear ha hl
          go_enter Tryd.func33, Tryd.ntmps33
          go_upto_region 1 with fail
          generalize (w.alloc (.cells #[.int .i64 c, .int .i64 op, .slice a len cap] 56)) = W0 at I0 ⊢
          obtain ⟨p0, p1, p2, p3⟩ := I0.cells
          go_wp2_with fail
          refine (HB.out _).mono ?_
          rintro e w1 ⟨rfl, rfl⟩
          have cO : ∀ d os, Calls Tryd.prog 50 #[.int .i64 c, .int .i64 op] (Sort.grow (redrawn W0 d) os) fun e w'' => e = .returned (.bool true) ∧ ∃ p : Regrown, w'' = Sort.grow (redrawn W0 p.d) p.os :=
            fun d os => Calls.regrown_of ((HO.out _).mono fun e w' ⟨h1, h2⟩ => ⟨h1, by rw [← h2]; exact Below.refl _ _⟩)
          have cA : ∀ d os, Calls Tryd.prog 51 #[.int .i64 op] (Sort.grow (redrawn W0 d) os) fun e w'' => e = .returned (.int .i64 N) ∧ ∃ p : Regrown, w'' = Sort.grow (redrawn W0 p.d) p.os :=
            fun d os => Calls.regrown_of ((HA.out _).mono fun e w' ⟨h1, h2⟩ => ⟨h1, by rw [h2]; exact Below.refl _ _⟩)
          have q0 : ∀ d os, (Sort.grow (redrawn W0 d) os).cell? ⟨w.heap.size, 0, none⟩ = some (.int .i64 c) := fun d os => ((I0.later (below_regrown W0 d os)).cells).1
          have q1 : ∀ d os, (Sort.grow (redrawn W0 d) os).cell? ⟨w.heap.size, 1, none⟩ = some (.int .i64 op) := fun d os => ((I0.later (below_regrown W0 d os)).cells).2.1
          have q2 : ∀ d os, (Sort.grow (redrawn W0 d) os).cell? ⟨w.heap.size, 2, none⟩ = some (.slice a len cap) := fun d os => ((I0.later (below_regrown W0 d os)).cells).2.2.1
          clear p0 p1 p2 p3
          go_upto_region 7 with fail
          refine wp_region_quiet_below (by kernel_rfl) (by kernel_rfl) ?_
          repeat (go_big_quiet_step (first | with_reducible exact cO _ _ | with_reducible exact cA _ _))
          refine wpQuiet_nil ?_
          intro w7 hw'
          have I7 : LI w c op (.slice a len cap) w7 := by
            obtain ⟨⟨dq, osq⟩, rfl⟩ := hw'
            exact I0.later (below_regrown W0 dq osq)
          have I7' : Hid (LI w c op (.slice a len cap) w7) := I7
          clear hw' cO cA q0 q1 q2 I0 I7 HB HO HA
          go_wp2
          go_loopw [3] (fun i wr => ∃ k : Nat, k ≤ len ∧ i = .int .i64 k ∧ Hid ((xs.take k).all fitA = true ∧ LI w c op (.slice a len cap) wr)) (fun i _ => len - (intOf i).toNat)
          case atStart => exact ⟨0, Nat.zero_le _, rfl, rfl, I7'.out⟩
          case round =>
            clear I7'
            obtain ⟨k, hk, rfl, HR⟩ := hrel
            obtain ⟨p0, p1, p2, p3⟩ := HR.out.2.cells
            by_cases hlt : k < len
            · have ik : (k : Int) < (len : Int) := by omega
              obtain ⟨x, hxk⟩ : ∃ x, xs[k]? = some x := ⟨_, List.getElem?_eq_getElem (by have := Hl.out; omega)⟩
              obtain ⟨b, o, rfl, hb, c0, c1, c2⟩ := (HX.out.later HR.out.2.2 (Nat.le_refl _)) k x hxk
              obtain ⟨xk, xn, xp⟩ := x
              have HFi : Hid (∀ W, Calls Tryd.prog 56 #[.agg #[.int .i64 xk, .int .i64 xn, .int .i64 xp]] W fun e w' => e = .returned (.bool (fitA (xk, xn, xp))) ∧ Below W.heap.size W w') := fun W => fit_s xk xn xp W
              simp only [] at c0 c1 c2
              have HT : Hid ((xs.take (k + 1)).all fitA = ((xs.take k).all fitA && fitA (xk, xn, xp))) := (by rw [List.take_succ_eq_append_getElem (by have := Hl.out; omega), List.all_append]; rw [show xs[k]'(by have := Hl.out; omega) = (xk, xn, xp) from Option.some.inj ((List.getElem?_eq_getElem _).symm.trans hxk)]; simp : (xs.take (k + 1)).all fitA = ((xs.take k).all fitA && fitA (xk, xn, xp)))
              have HNo : Hid (fitA (xk, xn, xp) = false → xs.all fitA = false) := all_no hxk
              clear hxk hb
              obtain ⟨F, HF⟩ : ∃ F, Hid (F = fitA (xk, xn, xp)) := ⟨_, rfl⟩
              rw [← HF.out] at HFi HT HNo
              go_wp2_with fail
              refine (HFi.out _).mono ?_
              rintro e w8 ⟨rfl, g8⟩
              have I8 : Hid (LI w c op (.slice (some ⟨b, o, none⟩) len cap) w8) := HR.out.2.later g8
              clear g8 HFi c0 c1 c2 p0 p1 p2 p3
              cases F with
              | true =>
                have HT2 : Hid ((xs.take (k + 1)).all fitA = true ∧ LI w c op (.slice (some ⟨b, o, none⟩) len cap) w8) := ⟨by rw [HT.out, HR.out.1]; rfl, I8.out⟩
                clear HT HNo HF HR I8
                go_wp2
                go_roundw
                case rel => exact ⟨k + 1, by omega, by go_num, HT2⟩
                case measure => simp [intOf]; omega
              | false =>
                have HV : Hid (V = 3) := (by rw [HV0.out, HNo.out rfl]; rfl : V = 3)
                have b9 := I8.out.2
                clear HT HNo HF HR I8
                go_wp2
                go_ret
                exact ⟨by rw [HV.out]; rfl, b9⟩
            · have hkn : k = xs.length := by have := Hl.out; omega
              have HV : Hid (xs.all fitA = true) := (by have := HR.out.1; rwa [hkn, List.take_length] at this : xs.all fitA = true)
              have HV2 : Hid (V = 0) := (by rw [HV0.out, HV.out]; rfl : V = 0)
              have b9 := HR.out.2.2
              have ik : ¬ ((k : Int) < (len : Int)) := by omega
              clear HR hkn
              go_wp2
              go_ret
              exact ⟨by rw [HV2.out]; rfl, b9⟩
end Go.Proofs.YtcihplachlokiaaDoor
