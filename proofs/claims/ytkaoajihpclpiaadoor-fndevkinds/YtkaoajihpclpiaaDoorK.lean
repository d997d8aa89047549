/- The law FnDevKinds: its walk. -/
import Derived.Test.YtkaoajihpclpiaaDoorG
import Derived.Test.YtkaoajihpclpiaaDoorJ
import Derived.Deep.Cut
import Derived.Deep.CutRange
import Derived.Deep.DeepCutAuto
import Derived.Lib.QuietBelow
namespace Go.Proofs.YtkaoajihpclpiaaDoor
open Go.RowKit
set_option linter.unusedVariables false

/-- How many of the first j numbers, from -1 on, are devices of the kind. -/
def cntF (k : Int) : Nat → Int
  | 0 => 0
  | j + 1 => cntF k j + (if okA k ((j : Int) - 1) 0 then 1 else 0)
theorem cntF_bd (k : Int) (j : Nat) : 0 ≤ cntF k j ∧ cntF k j ≤ j := by
  induction j with
  | zero => simp [cntF]
  | succ j ih => simp only [cntF]; split <;> omega
theorem cntF_all (k : Int) (k1 : 1 ≤ k) (k2 : k ≤ 10) : cntF k 71 = kS k := by
  rcases k_cases k with h | rfl | rfl | rfl | rfl | rfl | rfl | rfl | rfl | rfl | rfl
  · omega
  all_goals decide +kernel
theorem kL_size (k : Int) (k1 : 1 ≤ k) (k2 : k ≤ 10) : (kL k).size = 1 := by
  rcases k_cases k with h | rfl | rfl | rfl | rfl | rfl | rfl | rfl | rfl | rfl | rfl
  · omega
  all_goals rfl


theorem ok_groups {k : Int} (h : k = 1 ∨ k = 2 ∨ k = 3 ∨ k = 4 ∨ k = 5 ∨ k = 6 ∨ k = 7 ∨ k = 8 ∨ k = 9 ∨ k = 10 ∨ k = 11 ∨ k = 12 ∨ k = 13) :
    k = 5 ∨ k = 7 ∨ k = 8 ∨ (k = 1 ∨ k = 2 ∨ k = 3 ∨ k = 4 ∨ k = 6) ∨ (k = 9 ∨ k = 11) ∨ (k = 10 ∨ k = 12 ∨ k = 13) := by omega

set_option maxHeartbeats 20000000 in
theorem law4 {a : Option Addr} {len cap blk off : Nat} {zz : Nat → Int} (w : World) (hT : KT w) (h : Code0 w a len cap blk off zz) :
    Calls Tryd.prog 4 #[.slice a len cap] w fun e w' => e = .returned (.bool true) ∧ Below w.heap.size w w' := by
  have hl := h.short
  go_enter Tryd.func4, Tryd.ntmps4
  go_wp2_with fail
  refine (draw_ok w h).mono ?_
  rintro e w1 ⟨⟨k, n, p, _, _, rfl⟩, b1⟩
  clear h
  cases ho : okA k n p with
  | false =>
    have HB : Hid (∀ W : World, KT W → Calls Tryd.prog 21 #[.agg #[.int .i64 k, .int .i64 n, .int .i64 p]] W fun e w' => e = .returned (.bool false) ∧ Below W.heap.size W w') := fun W hW => by have := impl_isbit k n p W hW; rwa [ho] at this
    have HW : Hid (∀ W : World, KT W → Calls Tryd.prog 22 #[.agg #[.int .i64 k, .int .i64 n, .int .i64 p]] W fun e w' => e = .returned (.bool false) ∧ Below W.heap.size W w') := fun W hW => by have := impl_iswhole k n p W hW; rwa [ho] at this
    have HR : Hid (∀ W : World, KT W → Calls Tryd.prog 23 #[.agg #[.int .i64 k, .int .i64 n, .int .i64 p]] W fun e w' => e = .returned (.bool false) ∧ Below W.heap.size W w') := fun W hW => by have := impl_isreal k n p W hW; rwa [ho] at this
    have SB : Hid (∀ W : World, Calls Tryd.prog 25 #[.agg #[.int .i64 k, .int .i64 n, .int .i64 p]] W fun e w' => e = .returned (.bool false) ∧ Below W.heap.size W w') := fun W => by have := spec_isbit k n p W; rwa [ho] at this
    have SW : Hid (∀ W : World, Calls Tryd.prog 26 #[.agg #[.int .i64 k, .int .i64 n, .int .i64 p]] W fun e w' => e = .returned (.bool false) ∧ Below W.heap.size W w') := fun W => by have := spec_iswhole k n p W; rwa [ho] at this
    have SO : Hid (∀ W : World, Calls Tryd.prog 24 #[.agg #[.int .i64 k, .int .i64 n, .int .i64 p]] W fun e w' => e = .returned (.bool false) ∧ Below W.heap.size W w') := fun W => by have := spec_ok k n p W; rwa [ho] at this
    have a1 : A3 (w1.alloc (.cells #[.int .i64 k, .int .i64 n, .int .i64 p] 24)) w1.heap.size k n p := A3.fresh w1 k n p 24
    have c1 : Below w.heap.size w (w1.alloc (.cells #[.int .i64 k, .int .i64 n, .int .i64 p] 24)) := b1.alloc b1.size _
    clear ho b1
    go_wp2_with fail
    refine (HB.out _ (hT.later c1)).mono ?_
    rintro e w2 ⟨rfl, g⟩
    have a2 := a1.later g
    have c2 := c1.trans (g.mono c1.size)
    have x0 := a2.c0
    have x1 := a2.c1
    have x2 := a2.c2
    clear g a1 c1
    go_wp2_with fail
    refine (HW.out _ (hT.later c2)).mono ?_
    rintro e w3 ⟨rfl, g⟩
    have a3 := a2.later g
    have c3 := c2.trans (g.mono c2.size)
    clear x0 x1 x2 g a2 c2
    have x0 := a3.c0
    have x1 := a3.c1
    have x2 := a3.c2
    go_wp2_with fail
    refine (HR.out _ (hT.later c3)).mono ?_
    rintro e w4 ⟨rfl, g⟩
    have a4 := a3.later g
    have c4 := c3.trans (g.mono c3.size)
    clear x0 x1 x2 g a3 c3
    have x0 := a4.c0
    have x1 := a4.c1
    have x2 := a4.c2
    go_wp2_with fail
    refine (SO.out _).mono ?_
    rintro e w5 ⟨rfl, g⟩
    have a5 := a4.later g
    have c5 := c4.trans (g.mono c4.size)
    clear x0 x1 x2 g a4 c4
    have x0 := a5.c0
    have x1 := a5.c1
    have x2 := a5.c2
    clear SO HR
    go_upto_region 18 with fail
    go_cut [54] from 38 to 54 (fun s wx => s = .bool false ∧ A3 wx w1.heap.size k n p ∧ Below w.heap.size w wx)
    case first =>
      have k0 := cell_regrown x0
      have k1 := cell_regrown x1
      have k2 := cell_regrown x2
      have cB : ∀ d os, Calls Tryd.prog 21 #[.agg #[.int .i64 k, .int .i64 n, .int .i64 p]] (Sort.grow (redrawn w5 d) os) fun e w'' => e = .returned (.bool false) ∧ ∃ p : Regrown, w'' = Sort.grow (redrawn w5 p.d) p.os := fun d os => Calls.regrown_of (HB.out _ ((hT.later c5).later (below_regrown w5 d os)))
      have cS : ∀ d os, Calls Tryd.prog 25 #[.agg #[.int .i64 k, .int .i64 n, .int .i64 p]] (Sort.grow (redrawn w5 d) os) fun e w'' => e = .returned (.bool false) ∧ ∃ p : Regrown, w'' = Sort.grow (redrawn w5 p.d) p.os := fun d os => Calls.regrown_of (SB.out _)
      have cW : ∀ d os, Calls Tryd.prog 22 #[.agg #[.int .i64 k, .int .i64 n, .int .i64 p]] (Sort.grow (redrawn w5 d) os) fun e w'' => e = .returned (.bool false) ∧ ∃ p : Regrown, w'' = Sort.grow (redrawn w5 p.d) p.os := fun d os => Calls.regrown_of (HW.out _ ((hT.later c5).later (below_regrown w5 d os)))
      have cV : ∀ d os, Calls Tryd.prog 26 #[.agg #[.int .i64 k, .int .i64 n, .int .i64 p]] (Sort.grow (redrawn w5 d) os) fun e w'' => e = .returned (.bool false) ∧ ∃ p : Regrown, w'' = Sort.grow (redrawn w5 p.d) p.os := fun d os => Calls.regrown_of (SW.out _)
      refine wp_region_quiet_below (by kernel_rfl) (by kernel_rfl) ?_
      repeat (go_big_quiet_step (first | exact cB _ _ | exact cS _ _ | exact cW _ _ | exact cV _ _))
      refine wpQuiet_nil ?_
      intro _ hw'
      obtain ⟨⟨dq, osq⟩, hw''⟩ := hw'
      subst hw''
      go_wp2_with fail
      go_meet
      case rel => exact ⟨rfl, a5.later (below_regrown w5 dq osq), c5.trans ((below_regrown w5 dq osq).mono c5.size)⟩
    case rest =>
      obtain ⟨rfl, ac, bc⟩ := hcut
      clear HB HW SB SW a5 c5 x0 x1 x2
      go_wp2
      go_loopw [6, 7] (fun c i wr => ∃ j : Nat, j ≤ 71 ∧ i = .int .i64 ((j : Int) - 1) ∧ c = .int .i64 (cntF k j) ∧ A3 wr w1.heap.size k n p ∧ Below w.heap.size w wr) (fun _ i _ => (70 - intOf i).toNat)
      case atStart => exact ⟨0, by omega, rfl, rfl, ac, bc⟩
      case round =>
        clear ac bc
        obtain ⟨j, hj, rfl, rfl, aj, bj⟩ := hrel
        have hbd := cntF_bd k j
        obtain ⟨C, HC⟩ : ∃ C, Hid (C = cntF k j) := ⟨_, rfl⟩
        rw [← HC.out] at hbd ⊢
        have x0 := aj.c0
        by_cases hlt : j < 71
        · have hj2 : (j : Int) - 1 < 70 := by omega
          have HO : Hid (∀ W : World, KT W → Calls Tryd.prog 16 #[.agg #[.int .i64 k, .int .i64 ((j : Int) - 1), .int .i64 0]] W fun e w' => e = .returned (.bool (okA k ((j : Int) - 1) 0)) ∧ Below W.heap.size W w') := fun W hW => impl_ok k ((j : Int) - 1) 0 W hW
          have HN : Hid (cntF k (j + 1) = C + (if okA k ((j : Int) - 1) 0 then 1 else 0)) := by rw [HC.out]; rfl
          clear HC
          cases hb : okA k ((j : Int) - 1) 0 with
          | false =>
            rw [hb] at HO HN
            go_wp2_with fail
            refine (HO.out _ (hT.later bj)).mono ?_
            rintro e w6 ⟨rfl, g⟩
            have a6 := aj.later g
            have b6 := bj.trans (g.mono bj.size)
            clear g aj bj x0 HO
            go_wp2
            go_roundw
            case rel => exact ⟨j + 1, by omega, by go_num, by rw [HN.out]; simp, a6, b6⟩
            case measure => simp [intOf]; omega
          | true =>
            rw [hb] at HO HN
            go_wp2_with fail
            refine (HO.out _ (hT.later bj)).mono ?_
            rintro e w6 ⟨rfl, g⟩
            have a6 := aj.later g
            have b6 := bj.trans (g.mono bj.size)
            clear g aj bj x0 HO
            go_wp2
            go_roundw
            case rel => exact ⟨j + 1, by omega, by go_num, by rw [HN.out]; simp, a6, b6⟩
            case measure => simp [intOf]; omega
        · obtain rfl : j = 71 := by omega
          by_cases hk : 1 ≤ k ∧ k ≤ 10
          · obtain ⟨k1, k2⟩ := hk
            have hz : C = kS k := by rw [HC.out]; exact cntF_all k k1 k2
            have HZ : Hid (∀ W : World, KT W → Calls Tryd.prog 27 #[.int .i64 k] W fun e w' => e = .returned (.int .i64 C) ∧ Below W.heap.size W w') := fun W hW => by rw [hz]; exact impl_size k W hW
            have hL := kL_size k k1 k2
            have HL : Hid (∀ W : World, KT W → Calls Tryd.prog 28 #[.int .i64 k] W fun e w' => e = .returned (.string (kL k)) ∧ Below W.heap.size W w') := fun W hW => impl_letter k W hW
            obtain ⟨L, HLL⟩ : ∃ L, Hid (L = kL k) := ⟨_, rfl⟩
            rw [← HLL.out] at hL HL
            clear HLL HC hz
            have y1 : ¬ k < 1 := by omega
            have y2 : ¬ 10 < k := by omega
            go_wp2_with fail
            refine (HZ.out _ (hT.later bj)).mono ?_
            rintro e w6 ⟨rfl, g⟩
            have a6 := aj.later g
            have b6 := bj.trans (g.mono bj.size)
            clear g aj bj x0 HZ
            have x0 := a6.c0
            go_wp2_with fail
            refine (HL.out _ (hT.later b6)).mono ?_
            rintro e w7 ⟨rfl, g⟩
            have b7 := b6.trans (g.mono b6.size)
            clear g x0 HL b6 a6
            go_wp2
            go_ret
            exact ⟨rfl, b7⟩
          · by_cases k1 : k < 1
            · go_wp2
              go_ret
              exact ⟨rfl, bj⟩
            · have k2 : 10 < k := by omega
              go_wp2
              go_ret
              exact ⟨rfl, bj⟩
  | true =>
    rcases ok_groups (ok_cases ho) with hk | hk | hk | hk | hk | hk
    · have hB0 : (true && kB k) = false := by subst hk; rfl
      have hW0 : (true && kW k) = false := by subst hk; rfl
      have hR0 : (true && kR k) = false := by subst hk; rfl
      have e5 : (k == 5) = true := by subst hk; rfl
      have e7 : (k == 7) = false := by subst hk; rfl
      have e8 : (k == 8) = false := by subst hk; rfl
      clear hk
      have HB : Hid (∀ W : World, KT W → Calls Tryd.prog 21 #[.agg #[.int .i64 k, .int .i64 n, .int .i64 p]] W fun e w' => e = .returned (.bool false) ∧ Below W.heap.size W w') := fun W hW => by have := impl_isbit k n p W hW; rwa [ho, hB0] at this
      have HW : Hid (∀ W : World, KT W → Calls Tryd.prog 22 #[.agg #[.int .i64 k, .int .i64 n, .int .i64 p]] W fun e w' => e = .returned (.bool false) ∧ Below W.heap.size W w') := fun W hW => by have := impl_iswhole k n p W hW; rwa [ho, hW0] at this
      have HR : Hid (∀ W : World, KT W → Calls Tryd.prog 23 #[.agg #[.int .i64 k, .int .i64 n, .int .i64 p]] W fun e w' => e = .returned (.bool false) ∧ Below W.heap.size W w') := fun W hW => by have := impl_isreal k n p W hW; rwa [ho, hR0] at this
      have SB : Hid (∀ W : World, Calls Tryd.prog 25 #[.agg #[.int .i64 k, .int .i64 n, .int .i64 p]] W fun e w' => e = .returned (.bool false) ∧ Below W.heap.size W w') := fun W => by have := spec_isbit k n p W; rwa [ho, hB0] at this
      have SW : Hid (∀ W : World, Calls Tryd.prog 26 #[.agg #[.int .i64 k, .int .i64 n, .int .i64 p]] W fun e w' => e = .returned (.bool false) ∧ Below W.heap.size W w') := fun W => by have := spec_iswhole k n p W; rwa [ho, hW0] at this
      have SO : Hid (∀ W : World, Calls Tryd.prog 24 #[.agg #[.int .i64 k, .int .i64 n, .int .i64 p]] W fun e w' => e = .returned (.bool true) ∧ Below W.heap.size W w') := fun W => by have := spec_ok k n p W; rwa [ho] at this
      have a1 : A3 (w1.alloc (.cells #[.int .i64 k, .int .i64 n, .int .i64 p] 24)) w1.heap.size k n p := A3.fresh w1 k n p 24
      have c1 : Below w.heap.size w (w1.alloc (.cells #[.int .i64 k, .int .i64 n, .int .i64 p] 24)) := b1.alloc b1.size _
      clear ho b1 hB0 hW0 hR0
      go_wp2_with fail
      refine (HB.out _ (hT.later c1)).mono ?_
      rintro e w2 ⟨rfl, g⟩
      have a2 := a1.later g
      have c2 := c1.trans (g.mono c1.size)
      have x0 := a2.c0
      have x1 := a2.c1
      have x2 := a2.c2
      clear g a1 c1
      go_wp2_with fail
      refine (HW.out _ (hT.later c2)).mono ?_
      rintro e w3 ⟨rfl, g⟩
      have a3 := a2.later g
      have c3 := c2.trans (g.mono c2.size)
      clear x0 x1 x2 g a2 c2
      have x0 := a3.c0
      have x1 := a3.c1
      have x2 := a3.c2
      go_wp2_with fail
      refine (HR.out _ (hT.later c3)).mono ?_
      rintro e w4 ⟨rfl, g⟩
      have a4 := a3.later g
      have c4 := c3.trans (g.mono c3.size)
      clear x0 x1 x2 g a3 c3
      have x0 := a4.c0
      have x1 := a4.c1
      have x2 := a4.c2
      go_wp2_with fail
      refine (SO.out _).mono ?_
      rintro e w5 ⟨rfl, g⟩
      have a5 := a4.later g
      have c5 := c4.trans (g.mono c4.size)
      clear x0 x1 x2 g a4 c4
      have x0 := a5.c0
      have x1 := a5.c1
      have x2 := a5.c2
      clear SO HR
      go_upto_region 18 with fail
      go_cut [54] from 38 to 54 (fun s wx => s = .bool false ∧ A3 wx w1.heap.size k n p ∧ Below w.heap.size w wx)
      case first =>
        have k0 := cell_regrown x0
        have k1 := cell_regrown x1
        have k2 := cell_regrown x2
        have cB : ∀ d os, Calls Tryd.prog 21 #[.agg #[.int .i64 k, .int .i64 n, .int .i64 p]] (Sort.grow (redrawn w5 d) os) fun e w'' => e = .returned (.bool false) ∧ ∃ p : Regrown, w'' = Sort.grow (redrawn w5 p.d) p.os := fun d os => Calls.regrown_of (HB.out _ ((hT.later c5).later (below_regrown w5 d os)))
        have cS : ∀ d os, Calls Tryd.prog 25 #[.agg #[.int .i64 k, .int .i64 n, .int .i64 p]] (Sort.grow (redrawn w5 d) os) fun e w'' => e = .returned (.bool false) ∧ ∃ p : Regrown, w'' = Sort.grow (redrawn w5 p.d) p.os := fun d os => Calls.regrown_of (SB.out _)
        have cW : ∀ d os, Calls Tryd.prog 22 #[.agg #[.int .i64 k, .int .i64 n, .int .i64 p]] (Sort.grow (redrawn w5 d) os) fun e w'' => e = .returned (.bool false) ∧ ∃ p : Regrown, w'' = Sort.grow (redrawn w5 p.d) p.os := fun d os => Calls.regrown_of (HW.out _ ((hT.later c5).later (below_regrown w5 d os)))
        have cV : ∀ d os, Calls Tryd.prog 26 #[.agg #[.int .i64 k, .int .i64 n, .int .i64 p]] (Sort.grow (redrawn w5 d) os) fun e w'' => e = .returned (.bool false) ∧ ∃ p : Regrown, w'' = Sort.grow (redrawn w5 p.d) p.os := fun d os => Calls.regrown_of (SW.out _)
        refine wp_region_quiet_below (by kernel_rfl) (by kernel_rfl) ?_
        repeat (go_big_quiet_step (first | exact cB _ _ | exact cS _ _ | exact cW _ _ | exact cV _ _))
        refine wpQuiet_nil ?_
        intro _ hw'
        obtain ⟨⟨dq, osq⟩, hw''⟩ := hw'
        subst hw''
        go_wp2_with fail
        go_meet
        case rel => exact ⟨rfl, a5.later (below_regrown w5 dq osq), c5.trans ((below_regrown w5 dq osq).mono c5.size)⟩
      case rest =>
        obtain ⟨rfl, ac, bc⟩ := hcut
        clear HB HW SB SW a5 c5 x0 x1 x2
        go_wp2
        go_loopw [6, 7] (fun c i wr => ∃ j : Nat, j ≤ 71 ∧ i = .int .i64 ((j : Int) - 1) ∧ c = .int .i64 (cntF k j) ∧ A3 wr w1.heap.size k n p ∧ Below w.heap.size w wr) (fun _ i _ => (70 - intOf i).toNat)
        case atStart => exact ⟨0, by omega, rfl, rfl, ac, bc⟩
        case round =>
          clear ac bc
          obtain ⟨j, hj, rfl, rfl, aj, bj⟩ := hrel
          have hbd := cntF_bd k j
          obtain ⟨C, HC⟩ : ∃ C, Hid (C = cntF k j) := ⟨_, rfl⟩
          rw [← HC.out] at hbd ⊢
          have x0 := aj.c0
          by_cases hlt : j < 71
          · have hj2 : (j : Int) - 1 < 70 := by omega
            have HO : Hid (∀ W : World, KT W → Calls Tryd.prog 16 #[.agg #[.int .i64 k, .int .i64 ((j : Int) - 1), .int .i64 0]] W fun e w' => e = .returned (.bool (okA k ((j : Int) - 1) 0)) ∧ Below W.heap.size W w') := fun W hW => impl_ok k ((j : Int) - 1) 0 W hW
            have HN : Hid (cntF k (j + 1) = C + (if okA k ((j : Int) - 1) 0 then 1 else 0)) := by rw [HC.out]; rfl
            clear HC
            cases hb : okA k ((j : Int) - 1) 0 with
            | false =>
              rw [hb] at HO HN
              go_wp2_with fail
              refine (HO.out _ (hT.later bj)).mono ?_
              rintro e w6 ⟨rfl, g⟩
              have a6 := aj.later g
              have b6 := bj.trans (g.mono bj.size)
              clear g aj bj x0 HO
              go_wp2
              go_roundw
              case rel => exact ⟨j + 1, by omega, by go_num, by rw [HN.out]; simp, a6, b6⟩
              case measure => simp [intOf]; omega
            | true =>
              rw [hb] at HO HN
              go_wp2_with fail
              refine (HO.out _ (hT.later bj)).mono ?_
              rintro e w6 ⟨rfl, g⟩
              have a6 := aj.later g
              have b6 := bj.trans (g.mono bj.size)
              clear g aj bj x0 HO
              go_wp2
              go_roundw
              case rel => exact ⟨j + 1, by omega, by go_num, by rw [HN.out]; simp, a6, b6⟩
              case measure => simp [intOf]; omega
          · obtain rfl : j = 71 := by omega
            by_cases hk : 1 ≤ k ∧ k ≤ 10
            · obtain ⟨k1, k2⟩ := hk
              have hz : C = kS k := by rw [HC.out]; exact cntF_all k k1 k2
              have HZ : Hid (∀ W : World, KT W → Calls Tryd.prog 27 #[.int .i64 k] W fun e w' => e = .returned (.int .i64 C) ∧ Below W.heap.size W w') := fun W hW => by rw [hz]; exact impl_size k W hW
              have hL := kL_size k k1 k2
              have HL : Hid (∀ W : World, KT W → Calls Tryd.prog 28 #[.int .i64 k] W fun e w' => e = .returned (.string (kL k)) ∧ Below W.heap.size W w') := fun W hW => impl_letter k W hW
              obtain ⟨L, HLL⟩ : ∃ L, Hid (L = kL k) := ⟨_, rfl⟩
              rw [← HLL.out] at hL HL
              clear HLL HC hz
              have y1 : ¬ k < 1 := by omega
              have y2 : ¬ 10 < k := by omega
              go_wp2_with fail
              refine (HZ.out _ (hT.later bj)).mono ?_
              rintro e w6 ⟨rfl, g⟩
              have a6 := aj.later g
              have b6 := bj.trans (g.mono bj.size)
              clear g aj bj x0 HZ
              have x0 := a6.c0
              go_wp2_with fail
              refine (HL.out _ (hT.later b6)).mono ?_
              rintro e w7 ⟨rfl, g⟩
              have b7 := b6.trans (g.mono b6.size)
              clear g x0 HL b6 a6
              go_wp2
              go_ret
              exact ⟨rfl, b7⟩
            · by_cases k1 : k < 1
              · go_wp2
                go_ret
                exact ⟨rfl, bj⟩
              · have k2 : 10 < k := by omega
                go_wp2
                go_ret
                exact ⟨rfl, bj⟩
    · have hB0 : (true && kB k) = true := by subst hk; rfl
      have hW0 : (true && kW k) = true := by subst hk; rfl
      have hR0 : (true && kR k) = false := by subst hk; rfl
      have e5 : (k == 5) = false := by subst hk; rfl
      have e7 : (k == 7) = true := by subst hk; rfl
      have e8 : (k == 8) = false := by subst hk; rfl
      clear hk
      have HB : Hid (∀ W : World, KT W → Calls Tryd.prog 21 #[.agg #[.int .i64 k, .int .i64 n, .int .i64 p]] W fun e w' => e = .returned (.bool true) ∧ Below W.heap.size W w') := fun W hW => by have := impl_isbit k n p W hW; rwa [ho, hB0] at this
      have HW : Hid (∀ W : World, KT W → Calls Tryd.prog 22 #[.agg #[.int .i64 k, .int .i64 n, .int .i64 p]] W fun e w' => e = .returned (.bool true) ∧ Below W.heap.size W w') := fun W hW => by have := impl_iswhole k n p W hW; rwa [ho, hW0] at this
      have HR : Hid (∀ W : World, KT W → Calls Tryd.prog 23 #[.agg #[.int .i64 k, .int .i64 n, .int .i64 p]] W fun e w' => e = .returned (.bool false) ∧ Below W.heap.size W w') := fun W hW => by have := impl_isreal k n p W hW; rwa [ho, hR0] at this
      have SB : Hid (∀ W : World, Calls Tryd.prog 25 #[.agg #[.int .i64 k, .int .i64 n, .int .i64 p]] W fun e w' => e = .returned (.bool true) ∧ Below W.heap.size W w') := fun W => by have := spec_isbit k n p W; rwa [ho, hB0] at this
      have SW : Hid (∀ W : World, Calls Tryd.prog 26 #[.agg #[.int .i64 k, .int .i64 n, .int .i64 p]] W fun e w' => e = .returned (.bool true) ∧ Below W.heap.size W w') := fun W => by have := spec_iswhole k n p W; rwa [ho, hW0] at this
      have SO : Hid (∀ W : World, Calls Tryd.prog 24 #[.agg #[.int .i64 k, .int .i64 n, .int .i64 p]] W fun e w' => e = .returned (.bool true) ∧ Below W.heap.size W w') := fun W => by have := spec_ok k n p W; rwa [ho] at this
      have a1 : A3 (w1.alloc (.cells #[.int .i64 k, .int .i64 n, .int .i64 p] 24)) w1.heap.size k n p := A3.fresh w1 k n p 24
      have c1 : Below w.heap.size w (w1.alloc (.cells #[.int .i64 k, .int .i64 n, .int .i64 p] 24)) := b1.alloc b1.size _
      clear ho b1 hB0 hW0 hR0
      go_wp2_with fail
      refine (HB.out _ (hT.later c1)).mono ?_
      rintro e w2 ⟨rfl, g⟩
      have a2 := a1.later g
      have c2 := c1.trans (g.mono c1.size)
      have x0 := a2.c0
      have x1 := a2.c1
      have x2 := a2.c2
      clear g a1 c1
      go_wp2_with fail
      refine (HW.out _ (hT.later c2)).mono ?_
      rintro e w3 ⟨rfl, g⟩
      have a3 := a2.later g
      have c3 := c2.trans (g.mono c2.size)
      clear x0 x1 x2 g a2 c2
      have x0 := a3.c0
      have x1 := a3.c1
      have x2 := a3.c2
      go_wp2_with fail
      refine (HR.out _ (hT.later c3)).mono ?_
      rintro e w4 ⟨rfl, g⟩
      have a4 := a3.later g
      have c4 := c3.trans (g.mono c3.size)
      clear x0 x1 x2 g a3 c3
      have x0 := a4.c0
      have x1 := a4.c1
      have x2 := a4.c2
      go_wp2_with fail
      refine (SO.out _).mono ?_
      rintro e w5 ⟨rfl, g⟩
      have a5 := a4.later g
      have c5 := c4.trans (g.mono c4.size)
      clear x0 x1 x2 g a4 c4
      have x0 := a5.c0
      have x1 := a5.c1
      have x2 := a5.c2
      clear SO HR
      go_upto_region 18 with fail
      go_cut [54] from 38 to 54 (fun s wx => s = .bool false ∧ A3 wx w1.heap.size k n p ∧ Below w.heap.size w wx)
      case first =>
        have k0 := cell_regrown x0
        have k1 := cell_regrown x1
        have k2 := cell_regrown x2
        have cB : ∀ d os, Calls Tryd.prog 21 #[.agg #[.int .i64 k, .int .i64 n, .int .i64 p]] (Sort.grow (redrawn w5 d) os) fun e w'' => e = .returned (.bool true) ∧ ∃ p : Regrown, w'' = Sort.grow (redrawn w5 p.d) p.os := fun d os => Calls.regrown_of (HB.out _ ((hT.later c5).later (below_regrown w5 d os)))
        have cS : ∀ d os, Calls Tryd.prog 25 #[.agg #[.int .i64 k, .int .i64 n, .int .i64 p]] (Sort.grow (redrawn w5 d) os) fun e w'' => e = .returned (.bool true) ∧ ∃ p : Regrown, w'' = Sort.grow (redrawn w5 p.d) p.os := fun d os => Calls.regrown_of (SB.out _)
        have cW : ∀ d os, Calls Tryd.prog 22 #[.agg #[.int .i64 k, .int .i64 n, .int .i64 p]] (Sort.grow (redrawn w5 d) os) fun e w'' => e = .returned (.bool true) ∧ ∃ p : Regrown, w'' = Sort.grow (redrawn w5 p.d) p.os := fun d os => Calls.regrown_of (HW.out _ ((hT.later c5).later (below_regrown w5 d os)))
        have cV : ∀ d os, Calls Tryd.prog 26 #[.agg #[.int .i64 k, .int .i64 n, .int .i64 p]] (Sort.grow (redrawn w5 d) os) fun e w'' => e = .returned (.bool true) ∧ ∃ p : Regrown, w'' = Sort.grow (redrawn w5 p.d) p.os := fun d os => Calls.regrown_of (SW.out _)
        refine wp_region_quiet_below (by kernel_rfl) (by kernel_rfl) ?_
        repeat (go_big_quiet_step (first | exact cB _ _ | exact cS _ _ | exact cW _ _ | exact cV _ _))
        refine wpQuiet_nil ?_
        intro _ hw'
        obtain ⟨⟨dq, osq⟩, hw''⟩ := hw'
        subst hw''
        go_wp2_with fail
        go_meet
        case rel => exact ⟨rfl, a5.later (below_regrown w5 dq osq), c5.trans ((below_regrown w5 dq osq).mono c5.size)⟩
      case rest =>
        obtain ⟨rfl, ac, bc⟩ := hcut
        clear HB HW SB SW a5 c5 x0 x1 x2
        go_wp2
        go_loopw [6, 7] (fun c i wr => ∃ j : Nat, j ≤ 71 ∧ i = .int .i64 ((j : Int) - 1) ∧ c = .int .i64 (cntF k j) ∧ A3 wr w1.heap.size k n p ∧ Below w.heap.size w wr) (fun _ i _ => (70 - intOf i).toNat)
        case atStart => exact ⟨0, by omega, rfl, rfl, ac, bc⟩
        case round =>
          clear ac bc
          obtain ⟨j, hj, rfl, rfl, aj, bj⟩ := hrel
          have hbd := cntF_bd k j
          obtain ⟨C, HC⟩ : ∃ C, Hid (C = cntF k j) := ⟨_, rfl⟩
          rw [← HC.out] at hbd ⊢
          have x0 := aj.c0
          by_cases hlt : j < 71
          · have hj2 : (j : Int) - 1 < 70 := by omega
            have HO : Hid (∀ W : World, KT W → Calls Tryd.prog 16 #[.agg #[.int .i64 k, .int .i64 ((j : Int) - 1), .int .i64 0]] W fun e w' => e = .returned (.bool (okA k ((j : Int) - 1) 0)) ∧ Below W.heap.size W w') := fun W hW => impl_ok k ((j : Int) - 1) 0 W hW
            have HN : Hid (cntF k (j + 1) = C + (if okA k ((j : Int) - 1) 0 then 1 else 0)) := by rw [HC.out]; rfl
            clear HC
            cases hb : okA k ((j : Int) - 1) 0 with
            | false =>
              rw [hb] at HO HN
              go_wp2_with fail
              refine (HO.out _ (hT.later bj)).mono ?_
              rintro e w6 ⟨rfl, g⟩
              have a6 := aj.later g
              have b6 := bj.trans (g.mono bj.size)
              clear g aj bj x0 HO
              go_wp2
              go_roundw
              case rel => exact ⟨j + 1, by omega, by go_num, by rw [HN.out]; simp, a6, b6⟩
              case measure => simp [intOf]; omega
            | true =>
              rw [hb] at HO HN
              go_wp2_with fail
              refine (HO.out _ (hT.later bj)).mono ?_
              rintro e w6 ⟨rfl, g⟩
              have a6 := aj.later g
              have b6 := bj.trans (g.mono bj.size)
              clear g aj bj x0 HO
              go_wp2
              go_roundw
              case rel => exact ⟨j + 1, by omega, by go_num, by rw [HN.out]; simp, a6, b6⟩
              case measure => simp [intOf]; omega
          · obtain rfl : j = 71 := by omega
            by_cases hk : 1 ≤ k ∧ k ≤ 10
            · obtain ⟨k1, k2⟩ := hk
              have hz : C = kS k := by rw [HC.out]; exact cntF_all k k1 k2
              have HZ : Hid (∀ W : World, KT W → Calls Tryd.prog 27 #[.int .i64 k] W fun e w' => e = .returned (.int .i64 C) ∧ Below W.heap.size W w') := fun W hW => by rw [hz]; exact impl_size k W hW
              have hL := kL_size k k1 k2
              have HL : Hid (∀ W : World, KT W → Calls Tryd.prog 28 #[.int .i64 k] W fun e w' => e = .returned (.string (kL k)) ∧ Below W.heap.size W w') := fun W hW => impl_letter k W hW
              obtain ⟨L, HLL⟩ : ∃ L, Hid (L = kL k) := ⟨_, rfl⟩
              rw [← HLL.out] at hL HL
              clear HLL HC hz
              have y1 : ¬ k < 1 := by omega
              have y2 : ¬ 10 < k := by omega
              go_wp2_with fail
              refine (HZ.out _ (hT.later bj)).mono ?_
              rintro e w6 ⟨rfl, g⟩
              have a6 := aj.later g
              have b6 := bj.trans (g.mono bj.size)
              clear g aj bj x0 HZ
              have x0 := a6.c0
              go_wp2_with fail
              refine (HL.out _ (hT.later b6)).mono ?_
              rintro e w7 ⟨rfl, g⟩
              have b7 := b6.trans (g.mono b6.size)
              clear g x0 HL b6 a6
              go_wp2
              go_ret
              exact ⟨rfl, b7⟩
            · by_cases k1 : k < 1
              · go_wp2
                go_ret
                exact ⟨rfl, bj⟩
              · have k2 : 10 < k := by omega
                go_wp2
                go_ret
                exact ⟨rfl, bj⟩
    · have hB0 : (true && kB k) = true := by subst hk; rfl
      have hW0 : (true && kW k) = true := by subst hk; rfl
      have hR0 : (true && kR k) = false := by subst hk; rfl
      have e5 : (k == 5) = false := by subst hk; rfl
      have e7 : (k == 7) = false := by subst hk; rfl
      have e8 : (k == 8) = true := by subst hk; rfl
      clear hk
      have HB : Hid (∀ W : World, KT W → Calls Tryd.prog 21 #[.agg #[.int .i64 k, .int .i64 n, .int .i64 p]] W fun e w' => e = .returned (.bool true) ∧ Below W.heap.size W w') := fun W hW => by have := impl_isbit k n p W hW; rwa [ho, hB0] at this
      have HW : Hid (∀ W : World, KT W → Calls Tryd.prog 22 #[.agg #[.int .i64 k, .int .i64 n, .int .i64 p]] W fun e w' => e = .returned (.bool true) ∧ Below W.heap.size W w') := fun W hW => by have := impl_iswhole k n p W hW; rwa [ho, hW0] at this
      have HR : Hid (∀ W : World, KT W → Calls Tryd.prog 23 #[.agg #[.int .i64 k, .int .i64 n, .int .i64 p]] W fun e w' => e = .returned (.bool false) ∧ Below W.heap.size W w') := fun W hW => by have := impl_isreal k n p W hW; rwa [ho, hR0] at this
      have SB : Hid (∀ W : World, Calls Tryd.prog 25 #[.agg #[.int .i64 k, .int .i64 n, .int .i64 p]] W fun e w' => e = .returned (.bool true) ∧ Below W.heap.size W w') := fun W => by have := spec_isbit k n p W; rwa [ho, hB0] at this
      have SW : Hid (∀ W : World, Calls Tryd.prog 26 #[.agg #[.int .i64 k, .int .i64 n, .int .i64 p]] W fun e w' => e = .returned (.bool true) ∧ Below W.heap.size W w') := fun W => by have := spec_iswhole k n p W; rwa [ho, hW0] at this
      have SO : Hid (∀ W : World, Calls Tryd.prog 24 #[.agg #[.int .i64 k, .int .i64 n, .int .i64 p]] W fun e w' => e = .returned (.bool true) ∧ Below W.heap.size W w') := fun W => by have := spec_ok k n p W; rwa [ho] at this
      have a1 : A3 (w1.alloc (.cells #[.int .i64 k, .int .i64 n, .int .i64 p] 24)) w1.heap.size k n p := A3.fresh w1 k n p 24
      have c1 : Below w.heap.size w (w1.alloc (.cells #[.int .i64 k, .int .i64 n, .int .i64 p] 24)) := b1.alloc b1.size _
      clear ho b1 hB0 hW0 hR0
      go_wp2_with fail
      refine (HB.out _ (hT.later c1)).mono ?_
      rintro e w2 ⟨rfl, g⟩
      have a2 := a1.later g
      have c2 := c1.trans (g.mono c1.size)
      have x0 := a2.c0
      have x1 := a2.c1
      have x2 := a2.c2
      clear g a1 c1
      go_wp2_with fail
      refine (HW.out _ (hT.later c2)).mono ?_
      rintro e w3 ⟨rfl, g⟩
      have a3 := a2.later g
      have c3 := c2.trans (g.mono c2.size)
      clear x0 x1 x2 g a2 c2
      have x0 := a3.c0
      have x1 := a3.c1
      have x2 := a3.c2
      go_wp2_with fail
      refine (HR.out _ (hT.later c3)).mono ?_
      rintro e w4 ⟨rfl, g⟩
      have a4 := a3.later g
      have c4 := c3.trans (g.mono c3.size)
      clear x0 x1 x2 g a3 c3
      have x0 := a4.c0
      have x1 := a4.c1
      have x2 := a4.c2
      go_wp2_with fail
      refine (SO.out _).mono ?_
      rintro e w5 ⟨rfl, g⟩
      have a5 := a4.later g
      have c5 := c4.trans (g.mono c4.size)
      clear x0 x1 x2 g a4 c4
      have x0 := a5.c0
      have x1 := a5.c1
      have x2 := a5.c2
      clear SO HR
      go_upto_region 18 with fail
      go_cut [54] from 38 to 54 (fun s wx => s = .bool false ∧ A3 wx w1.heap.size k n p ∧ Below w.heap.size w wx)
      case first =>
        have k0 := cell_regrown x0
        have k1 := cell_regrown x1
        have k2 := cell_regrown x2
        have cB : ∀ d os, Calls Tryd.prog 21 #[.agg #[.int .i64 k, .int .i64 n, .int .i64 p]] (Sort.grow (redrawn w5 d) os) fun e w'' => e = .returned (.bool true) ∧ ∃ p : Regrown, w'' = Sort.grow (redrawn w5 p.d) p.os := fun d os => Calls.regrown_of (HB.out _ ((hT.later c5).later (below_regrown w5 d os)))
        have cS : ∀ d os, Calls Tryd.prog 25 #[.agg #[.int .i64 k, .int .i64 n, .int .i64 p]] (Sort.grow (redrawn w5 d) os) fun e w'' => e = .returned (.bool true) ∧ ∃ p : Regrown, w'' = Sort.grow (redrawn w5 p.d) p.os := fun d os => Calls.regrown_of (SB.out _)
        have cW : ∀ d os, Calls Tryd.prog 22 #[.agg #[.int .i64 k, .int .i64 n, .int .i64 p]] (Sort.grow (redrawn w5 d) os) fun e w'' => e = .returned (.bool true) ∧ ∃ p : Regrown, w'' = Sort.grow (redrawn w5 p.d) p.os := fun d os => Calls.regrown_of (HW.out _ ((hT.later c5).later (below_regrown w5 d os)))
        have cV : ∀ d os, Calls Tryd.prog 26 #[.agg #[.int .i64 k, .int .i64 n, .int .i64 p]] (Sort.grow (redrawn w5 d) os) fun e w'' => e = .returned (.bool true) ∧ ∃ p : Regrown, w'' = Sort.grow (redrawn w5 p.d) p.os := fun d os => Calls.regrown_of (SW.out _)
        refine wp_region_quiet_below (by kernel_rfl) (by kernel_rfl) ?_
        repeat (go_big_quiet_step (first | exact cB _ _ | exact cS _ _ | exact cW _ _ | exact cV _ _))
        refine wpQuiet_nil ?_
        intro _ hw'
        obtain ⟨⟨dq, osq⟩, hw''⟩ := hw'
        subst hw''
        go_wp2_with fail
        go_meet
        case rel => exact ⟨rfl, a5.later (below_regrown w5 dq osq), c5.trans ((below_regrown w5 dq osq).mono c5.size)⟩
      case rest =>
        obtain ⟨rfl, ac, bc⟩ := hcut
        clear HB HW SB SW a5 c5 x0 x1 x2
        go_wp2
        go_loopw [6, 7] (fun c i wr => ∃ j : Nat, j ≤ 71 ∧ i = .int .i64 ((j : Int) - 1) ∧ c = .int .i64 (cntF k j) ∧ A3 wr w1.heap.size k n p ∧ Below w.heap.size w wr) (fun _ i _ => (70 - intOf i).toNat)
        case atStart => exact ⟨0, by omega, rfl, rfl, ac, bc⟩
        case round =>
          clear ac bc
          obtain ⟨j, hj, rfl, rfl, aj, bj⟩ := hrel
          have hbd := cntF_bd k j
          obtain ⟨C, HC⟩ : ∃ C, Hid (C = cntF k j) := ⟨_, rfl⟩
          rw [← HC.out] at hbd ⊢
          have x0 := aj.c0
          by_cases hlt : j < 71
          · have hj2 : (j : Int) - 1 < 70 := by omega
            have HO : Hid (∀ W : World, KT W → Calls Tryd.prog 16 #[.agg #[.int .i64 k, .int .i64 ((j : Int) - 1), .int .i64 0]] W fun e w' => e = .returned (.bool (okA k ((j : Int) - 1) 0)) ∧ Below W.heap.size W w') := fun W hW => impl_ok k ((j : Int) - 1) 0 W hW
            have HN : Hid (cntF k (j + 1) = C + (if okA k ((j : Int) - 1) 0 then 1 else 0)) := by rw [HC.out]; rfl
            clear HC
            cases hb : okA k ((j : Int) - 1) 0 with
            | false =>
              rw [hb] at HO HN
              go_wp2_with fail
              refine (HO.out _ (hT.later bj)).mono ?_
              rintro e w6 ⟨rfl, g⟩
              have a6 := aj.later g
              have b6 := bj.trans (g.mono bj.size)
              clear g aj bj x0 HO
              go_wp2
              go_roundw
              case rel => exact ⟨j + 1, by omega, by go_num, by rw [HN.out]; simp, a6, b6⟩
              case measure => simp [intOf]; omega
            | true =>
              rw [hb] at HO HN
              go_wp2_with fail
              refine (HO.out _ (hT.later bj)).mono ?_
              rintro e w6 ⟨rfl, g⟩
              have a6 := aj.later g
              have b6 := bj.trans (g.mono bj.size)
              clear g aj bj x0 HO
              go_wp2
              go_roundw
              case rel => exact ⟨j + 1, by omega, by go_num, by rw [HN.out]; simp, a6, b6⟩
              case measure => simp [intOf]; omega
          · obtain rfl : j = 71 := by omega
            by_cases hk : 1 ≤ k ∧ k ≤ 10
            · obtain ⟨k1, k2⟩ := hk
              have hz : C = kS k := by rw [HC.out]; exact cntF_all k k1 k2
              have HZ : Hid (∀ W : World, KT W → Calls Tryd.prog 27 #[.int .i64 k] W fun e w' => e = .returned (.int .i64 C) ∧ Below W.heap.size W w') := fun W hW => by rw [hz]; exact impl_size k W hW
              have hL := kL_size k k1 k2
              have HL : Hid (∀ W : World, KT W → Calls Tryd.prog 28 #[.int .i64 k] W fun e w' => e = .returned (.string (kL k)) ∧ Below W.heap.size W w') := fun W hW => impl_letter k W hW
              obtain ⟨L, HLL⟩ : ∃ L, Hid (L = kL k) := ⟨_, rfl⟩
              rw [← HLL.out] at hL HL
              clear HLL HC hz
              have y1 : ¬ k < 1 := by omega
              have y2 : ¬ 10 < k := by omega
              go_wp2_with fail
              refine (HZ.out _ (hT.later bj)).mono ?_
              rintro e w6 ⟨rfl, g⟩
              have a6 := aj.later g
              have b6 := bj.trans (g.mono bj.size)
              clear g aj bj x0 HZ
              have x0 := a6.c0
              go_wp2_with fail
              refine (HL.out _ (hT.later b6)).mono ?_
              rintro e w7 ⟨rfl, g⟩
              have b7 := b6.trans (g.mono b6.size)
              clear g x0 HL b6 a6
              go_wp2
              go_ret
              exact ⟨rfl, b7⟩
            · by_cases k1 : k < 1
              · go_wp2
                go_ret
                exact ⟨rfl, bj⟩
              · have k2 : 10 < k := by omega
                go_wp2
                go_ret
                exact ⟨rfl, bj⟩
    · have hB0 : (true && kB k) = true := by rcases hk with rfl | rfl | rfl | rfl | rfl <;> rfl
      have hW0 : (true && kW k) = false := by rcases hk with rfl | rfl | rfl | rfl | rfl <;> rfl
      have hR0 : (true && kR k) = false := by rcases hk with rfl | rfl | rfl | rfl | rfl <;> rfl
      have e5 : (k == 5) = false := by rcases hk with rfl | rfl | rfl | rfl | rfl <;> rfl
      have e7 : (k == 7) = false := by rcases hk with rfl | rfl | rfl | rfl | rfl <;> rfl
      have e8 : (k == 8) = false := by rcases hk with rfl | rfl | rfl | rfl | rfl <;> rfl
      clear hk
      have HB : Hid (∀ W : World, KT W → Calls Tryd.prog 21 #[.agg #[.int .i64 k, .int .i64 n, .int .i64 p]] W fun e w' => e = .returned (.bool true) ∧ Below W.heap.size W w') := fun W hW => by have := impl_isbit k n p W hW; rwa [ho, hB0] at this
      have HW : Hid (∀ W : World, KT W → Calls Tryd.prog 22 #[.agg #[.int .i64 k, .int .i64 n, .int .i64 p]] W fun e w' => e = .returned (.bool false) ∧ Below W.heap.size W w') := fun W hW => by have := impl_iswhole k n p W hW; rwa [ho, hW0] at this
      have HR : Hid (∀ W : World, KT W → Calls Tryd.prog 23 #[.agg #[.int .i64 k, .int .i64 n, .int .i64 p]] W fun e w' => e = .returned (.bool false) ∧ Below W.heap.size W w') := fun W hW => by have := impl_isreal k n p W hW; rwa [ho, hR0] at this
      have SB : Hid (∀ W : World, Calls Tryd.prog 25 #[.agg #[.int .i64 k, .int .i64 n, .int .i64 p]] W fun e w' => e = .returned (.bool true) ∧ Below W.heap.size W w') := fun W => by have := spec_isbit k n p W; rwa [ho, hB0] at this
      have SW : Hid (∀ W : World, Calls Tryd.prog 26 #[.agg #[.int .i64 k, .int .i64 n, .int .i64 p]] W fun e w' => e = .returned (.bool false) ∧ Below W.heap.size W w') := fun W => by have := spec_iswhole k n p W; rwa [ho, hW0] at this
      have SO : Hid (∀ W : World, Calls Tryd.prog 24 #[.agg #[.int .i64 k, .int .i64 n, .int .i64 p]] W fun e w' => e = .returned (.bool true) ∧ Below W.heap.size W w') := fun W => by have := spec_ok k n p W; rwa [ho] at this
      have a1 : A3 (w1.alloc (.cells #[.int .i64 k, .int .i64 n, .int .i64 p] 24)) w1.heap.size k n p := A3.fresh w1 k n p 24
      have c1 : Below w.heap.size w (w1.alloc (.cells #[.int .i64 k, .int .i64 n, .int .i64 p] 24)) := b1.alloc b1.size _
      clear ho b1 hB0 hW0 hR0
      go_wp2_with fail
      refine (HB.out _ (hT.later c1)).mono ?_
      rintro e w2 ⟨rfl, g⟩
      have a2 := a1.later g
      have c2 := c1.trans (g.mono c1.size)
      have x0 := a2.c0
      have x1 := a2.c1
      have x2 := a2.c2
      clear g a1 c1
      go_wp2_with fail
      refine (HW.out _ (hT.later c2)).mono ?_
      rintro e w3 ⟨rfl, g⟩
      have a3 := a2.later g
      have c3 := c2.trans (g.mono c2.size)
      clear x0 x1 x2 g a2 c2
      have x0 := a3.c0
      have x1 := a3.c1
      have x2 := a3.c2
      go_wp2_with fail
      refine (HR.out _ (hT.later c3)).mono ?_
      rintro e w4 ⟨rfl, g⟩
      have a4 := a3.later g
      have c4 := c3.trans (g.mono c3.size)
      clear x0 x1 x2 g a3 c3
      have x0 := a4.c0
      have x1 := a4.c1
      have x2 := a4.c2
      go_wp2_with fail
      refine (SO.out _).mono ?_
      rintro e w5 ⟨rfl, g⟩
      have a5 := a4.later g
      have c5 := c4.trans (g.mono c4.size)
      clear x0 x1 x2 g a4 c4
      have x0 := a5.c0
      have x1 := a5.c1
      have x2 := a5.c2
      clear SO HR
      go_upto_region 18 with fail
      go_cut [54] from 38 to 54 (fun s wx => s = .bool false ∧ A3 wx w1.heap.size k n p ∧ Below w.heap.size w wx)
      case first =>
        have k0 := cell_regrown x0
        have k1 := cell_regrown x1
        have k2 := cell_regrown x2
        have cB : ∀ d os, Calls Tryd.prog 21 #[.agg #[.int .i64 k, .int .i64 n, .int .i64 p]] (Sort.grow (redrawn w5 d) os) fun e w'' => e = .returned (.bool true) ∧ ∃ p : Regrown, w'' = Sort.grow (redrawn w5 p.d) p.os := fun d os => Calls.regrown_of (HB.out _ ((hT.later c5).later (below_regrown w5 d os)))
        have cS : ∀ d os, Calls Tryd.prog 25 #[.agg #[.int .i64 k, .int .i64 n, .int .i64 p]] (Sort.grow (redrawn w5 d) os) fun e w'' => e = .returned (.bool true) ∧ ∃ p : Regrown, w'' = Sort.grow (redrawn w5 p.d) p.os := fun d os => Calls.regrown_of (SB.out _)
        have cW : ∀ d os, Calls Tryd.prog 22 #[.agg #[.int .i64 k, .int .i64 n, .int .i64 p]] (Sort.grow (redrawn w5 d) os) fun e w'' => e = .returned (.bool false) ∧ ∃ p : Regrown, w'' = Sort.grow (redrawn w5 p.d) p.os := fun d os => Calls.regrown_of (HW.out _ ((hT.later c5).later (below_regrown w5 d os)))
        have cV : ∀ d os, Calls Tryd.prog 26 #[.agg #[.int .i64 k, .int .i64 n, .int .i64 p]] (Sort.grow (redrawn w5 d) os) fun e w'' => e = .returned (.bool false) ∧ ∃ p : Regrown, w'' = Sort.grow (redrawn w5 p.d) p.os := fun d os => Calls.regrown_of (SW.out _)
        refine wp_region_quiet_below (by kernel_rfl) (by kernel_rfl) ?_
        repeat (go_big_quiet_step (first | exact cB _ _ | exact cS _ _ | exact cW _ _ | exact cV _ _))
        refine wpQuiet_nil ?_
        intro _ hw'
        obtain ⟨⟨dq, osq⟩, hw''⟩ := hw'
        subst hw''
        go_wp2_with fail
        go_meet
        case rel => exact ⟨rfl, a5.later (below_regrown w5 dq osq), c5.trans ((below_regrown w5 dq osq).mono c5.size)⟩
      case rest =>
        obtain ⟨rfl, ac, bc⟩ := hcut
        clear HB HW SB SW a5 c5 x0 x1 x2
        go_wp2
        go_loopw [6, 7] (fun c i wr => ∃ j : Nat, j ≤ 71 ∧ i = .int .i64 ((j : Int) - 1) ∧ c = .int .i64 (cntF k j) ∧ A3 wr w1.heap.size k n p ∧ Below w.heap.size w wr) (fun _ i _ => (70 - intOf i).toNat)
        case atStart => exact ⟨0, by omega, rfl, rfl, ac, bc⟩
        case round =>
          clear ac bc
          obtain ⟨j, hj, rfl, rfl, aj, bj⟩ := hrel
          have hbd := cntF_bd k j
          obtain ⟨C, HC⟩ : ∃ C, Hid (C = cntF k j) := ⟨_, rfl⟩
          rw [← HC.out] at hbd ⊢
          have x0 := aj.c0
          by_cases hlt : j < 71
          · have hj2 : (j : Int) - 1 < 70 := by omega
            have HO : Hid (∀ W : World, KT W → Calls Tryd.prog 16 #[.agg #[.int .i64 k, .int .i64 ((j : Int) - 1), .int .i64 0]] W fun e w' => e = .returned (.bool (okA k ((j : Int) - 1) 0)) ∧ Below W.heap.size W w') := fun W hW => impl_ok k ((j : Int) - 1) 0 W hW
            have HN : Hid (cntF k (j + 1) = C + (if okA k ((j : Int) - 1) 0 then 1 else 0)) := by rw [HC.out]; rfl
            clear HC
            cases hb : okA k ((j : Int) - 1) 0 with
            | false =>
              rw [hb] at HO HN
              go_wp2_with fail
              refine (HO.out _ (hT.later bj)).mono ?_
              rintro e w6 ⟨rfl, g⟩
              have a6 := aj.later g
              have b6 := bj.trans (g.mono bj.size)
              clear g aj bj x0 HO
              go_wp2
              go_roundw
              case rel => exact ⟨j + 1, by omega, by go_num, by rw [HN.out]; simp, a6, b6⟩
              case measure => simp [intOf]; omega
            | true =>
              rw [hb] at HO HN
              go_wp2_with fail
              refine (HO.out _ (hT.later bj)).mono ?_
              rintro e w6 ⟨rfl, g⟩
              have a6 := aj.later g
              have b6 := bj.trans (g.mono bj.size)
              clear g aj bj x0 HO
              go_wp2
              go_roundw
              case rel => exact ⟨j + 1, by omega, by go_num, by rw [HN.out]; simp, a6, b6⟩
              case measure => simp [intOf]; omega
          · obtain rfl : j = 71 := by omega
            by_cases hk : 1 ≤ k ∧ k ≤ 10
            · obtain ⟨k1, k2⟩ := hk
              have hz : C = kS k := by rw [HC.out]; exact cntF_all k k1 k2
              have HZ : Hid (∀ W : World, KT W → Calls Tryd.prog 27 #[.int .i64 k] W fun e w' => e = .returned (.int .i64 C) ∧ Below W.heap.size W w') := fun W hW => by rw [hz]; exact impl_size k W hW
              have hL := kL_size k k1 k2
              have HL : Hid (∀ W : World, KT W → Calls Tryd.prog 28 #[.int .i64 k] W fun e w' => e = .returned (.string (kL k)) ∧ Below W.heap.size W w') := fun W hW => impl_letter k W hW
              obtain ⟨L, HLL⟩ : ∃ L, Hid (L = kL k) := ⟨_, rfl⟩
              rw [← HLL.out] at hL HL
              clear HLL HC hz
              have y1 : ¬ k < 1 := by omega
              have y2 : ¬ 10 < k := by omega
              go_wp2_with fail
              refine (HZ.out _ (hT.later bj)).mono ?_
              rintro e w6 ⟨rfl, g⟩
              have a6 := aj.later g
              have b6 := bj.trans (g.mono bj.size)
              clear g aj bj x0 HZ
              have x0 := a6.c0
              go_wp2_with fail
              refine (HL.out _ (hT.later b6)).mono ?_
              rintro e w7 ⟨rfl, g⟩
              have b7 := b6.trans (g.mono b6.size)
              clear g x0 HL b6 a6
              go_wp2
              go_ret
              exact ⟨rfl, b7⟩
            · by_cases k1 : k < 1
              · go_wp2
                go_ret
                exact ⟨rfl, bj⟩
              · have k2 : 10 < k := by omega
                go_wp2
                go_ret
                exact ⟨rfl, bj⟩
    · have hB0 : (true && kB k) = false := by rcases hk with rfl | rfl <;> rfl
      have hW0 : (true && kW k) = true := by rcases hk with rfl | rfl <;> rfl
      have hR0 : (true && kR k) = false := by rcases hk with rfl | rfl <;> rfl
      have e5 : (k == 5) = false := by rcases hk with rfl | rfl <;> rfl
      have e7 : (k == 7) = false := by rcases hk with rfl | rfl <;> rfl
      have e8 : (k == 8) = false := by rcases hk with rfl | rfl <;> rfl
      clear hk
      have HB : Hid (∀ W : World, KT W → Calls Tryd.prog 21 #[.agg #[.int .i64 k, .int .i64 n, .int .i64 p]] W fun e w' => e = .returned (.bool false) ∧ Below W.heap.size W w') := fun W hW => by have := impl_isbit k n p W hW; rwa [ho, hB0] at this
      have HW : Hid (∀ W : World, KT W → Calls Tryd.prog 22 #[.agg #[.int .i64 k, .int .i64 n, .int .i64 p]] W fun e w' => e = .returned (.bool true) ∧ Below W.heap.size W w') := fun W hW => by have := impl_iswhole k n p W hW; rwa [ho, hW0] at this
      have HR : Hid (∀ W : World, KT W → Calls Tryd.prog 23 #[.agg #[.int .i64 k, .int .i64 n, .int .i64 p]] W fun e w' => e = .returned (.bool false) ∧ Below W.heap.size W w') := fun W hW => by have := impl_isreal k n p W hW; rwa [ho, hR0] at this
      have SB : Hid (∀ W : World, Calls Tryd.prog 25 #[.agg #[.int .i64 k, .int .i64 n, .int .i64 p]] W fun e w' => e = .returned (.bool false) ∧ Below W.heap.size W w') := fun W => by have := spec_isbit k n p W; rwa [ho, hB0] at this
      have SW : Hid (∀ W : World, Calls Tryd.prog 26 #[.agg #[.int .i64 k, .int .i64 n, .int .i64 p]] W fun e w' => e = .returned (.bool true) ∧ Below W.heap.size W w') := fun W => by have := spec_iswhole k n p W; rwa [ho, hW0] at this
      have SO : Hid (∀ W : World, Calls Tryd.prog 24 #[.agg #[.int .i64 k, .int .i64 n, .int .i64 p]] W fun e w' => e = .returned (.bool true) ∧ Below W.heap.size W w') := fun W => by have := spec_ok k n p W; rwa [ho] at this
      have a1 : A3 (w1.alloc (.cells #[.int .i64 k, .int .i64 n, .int .i64 p] 24)) w1.heap.size k n p := A3.fresh w1 k n p 24
      have c1 : Below w.heap.size w (w1.alloc (.cells #[.int .i64 k, .int .i64 n, .int .i64 p] 24)) := b1.alloc b1.size _
      clear ho b1 hB0 hW0 hR0
      go_wp2_with fail
      refine (HB.out _ (hT.later c1)).mono ?_
      rintro e w2 ⟨rfl, g⟩
      have a2 := a1.later g
      have c2 := c1.trans (g.mono c1.size)
      have x0 := a2.c0
      have x1 := a2.c1
      have x2 := a2.c2
      clear g a1 c1
      go_wp2_with fail
      refine (HW.out _ (hT.later c2)).mono ?_
      rintro e w3 ⟨rfl, g⟩
      have a3 := a2.later g
      have c3 := c2.trans (g.mono c2.size)
      clear x0 x1 x2 g a2 c2
      have x0 := a3.c0
      have x1 := a3.c1
      have x2 := a3.c2
      go_wp2_with fail
      refine (HR.out _ (hT.later c3)).mono ?_
      rintro e w4 ⟨rfl, g⟩
      have a4 := a3.later g
      have c4 := c3.trans (g.mono c3.size)
      clear x0 x1 x2 g a3 c3
      have x0 := a4.c0
      have x1 := a4.c1
      have x2 := a4.c2
      go_wp2_with fail
      refine (SO.out _).mono ?_
      rintro e w5 ⟨rfl, g⟩
      have a5 := a4.later g
      have c5 := c4.trans (g.mono c4.size)
      clear x0 x1 x2 g a4 c4
      have x0 := a5.c0
      have x1 := a5.c1
      have x2 := a5.c2
      clear SO HR
      go_upto_region 18 with fail
      go_cut [54] from 38 to 54 (fun s wx => s = .bool false ∧ A3 wx w1.heap.size k n p ∧ Below w.heap.size w wx)
      case first =>
        have k0 := cell_regrown x0
        have k1 := cell_regrown x1
        have k2 := cell_regrown x2
        have cB : ∀ d os, Calls Tryd.prog 21 #[.agg #[.int .i64 k, .int .i64 n, .int .i64 p]] (Sort.grow (redrawn w5 d) os) fun e w'' => e = .returned (.bool false) ∧ ∃ p : Regrown, w'' = Sort.grow (redrawn w5 p.d) p.os := fun d os => Calls.regrown_of (HB.out _ ((hT.later c5).later (below_regrown w5 d os)))
        have cS : ∀ d os, Calls Tryd.prog 25 #[.agg #[.int .i64 k, .int .i64 n, .int .i64 p]] (Sort.grow (redrawn w5 d) os) fun e w'' => e = .returned (.bool false) ∧ ∃ p : Regrown, w'' = Sort.grow (redrawn w5 p.d) p.os := fun d os => Calls.regrown_of (SB.out _)
        have cW : ∀ d os, Calls Tryd.prog 22 #[.agg #[.int .i64 k, .int .i64 n, .int .i64 p]] (Sort.grow (redrawn w5 d) os) fun e w'' => e = .returned (.bool true) ∧ ∃ p : Regrown, w'' = Sort.grow (redrawn w5 p.d) p.os := fun d os => Calls.regrown_of (HW.out _ ((hT.later c5).later (below_regrown w5 d os)))
        have cV : ∀ d os, Calls Tryd.prog 26 #[.agg #[.int .i64 k, .int .i64 n, .int .i64 p]] (Sort.grow (redrawn w5 d) os) fun e w'' => e = .returned (.bool true) ∧ ∃ p : Regrown, w'' = Sort.grow (redrawn w5 p.d) p.os := fun d os => Calls.regrown_of (SW.out _)
        refine wp_region_quiet_below (by kernel_rfl) (by kernel_rfl) ?_
        repeat (go_big_quiet_step (first | exact cB _ _ | exact cS _ _ | exact cW _ _ | exact cV _ _))
        refine wpQuiet_nil ?_
        intro _ hw'
        obtain ⟨⟨dq, osq⟩, hw''⟩ := hw'
        subst hw''
        go_wp2_with fail
        go_meet
        case rel => exact ⟨rfl, a5.later (below_regrown w5 dq osq), c5.trans ((below_regrown w5 dq osq).mono c5.size)⟩
      case rest =>
        obtain ⟨rfl, ac, bc⟩ := hcut
        clear HB HW SB SW a5 c5 x0 x1 x2
        go_wp2
        go_loopw [6, 7] (fun c i wr => ∃ j : Nat, j ≤ 71 ∧ i = .int .i64 ((j : Int) - 1) ∧ c = .int .i64 (cntF k j) ∧ A3 wr w1.heap.size k n p ∧ Below w.heap.size w wr) (fun _ i _ => (70 - intOf i).toNat)
        case atStart => exact ⟨0, by omega, rfl, rfl, ac, bc⟩
        case round =>
          clear ac bc
          obtain ⟨j, hj, rfl, rfl, aj, bj⟩ := hrel
          have hbd := cntF_bd k j
          obtain ⟨C, HC⟩ : ∃ C, Hid (C = cntF k j) := ⟨_, rfl⟩
          rw [← HC.out] at hbd ⊢
          have x0 := aj.c0
          by_cases hlt : j < 71
          · have hj2 : (j : Int) - 1 < 70 := by omega
            have HO : Hid (∀ W : World, KT W → Calls Tryd.prog 16 #[.agg #[.int .i64 k, .int .i64 ((j : Int) - 1), .int .i64 0]] W fun e w' => e = .returned (.bool (okA k ((j : Int) - 1) 0)) ∧ Below W.heap.size W w') := fun W hW => impl_ok k ((j : Int) - 1) 0 W hW
            have HN : Hid (cntF k (j + 1) = C + (if okA k ((j : Int) - 1) 0 then 1 else 0)) := by rw [HC.out]; rfl
            clear HC
            cases hb : okA k ((j : Int) - 1) 0 with
            | false =>
              rw [hb] at HO HN
              go_wp2_with fail
              refine (HO.out _ (hT.later bj)).mono ?_
              rintro e w6 ⟨rfl, g⟩
              have a6 := aj.later g
              have b6 := bj.trans (g.mono bj.size)
              clear g aj bj x0 HO
              go_wp2
              go_roundw
              case rel => exact ⟨j + 1, by omega, by go_num, by rw [HN.out]; simp, a6, b6⟩
              case measure => simp [intOf]; omega
            | true =>
              rw [hb] at HO HN
              go_wp2_with fail
              refine (HO.out _ (hT.later bj)).mono ?_
              rintro e w6 ⟨rfl, g⟩
              have a6 := aj.later g
              have b6 := bj.trans (g.mono bj.size)
              clear g aj bj x0 HO
              go_wp2
              go_roundw
              case rel => exact ⟨j + 1, by omega, by go_num, by rw [HN.out]; simp, a6, b6⟩
              case measure => simp [intOf]; omega
          · obtain rfl : j = 71 := by omega
            by_cases hk : 1 ≤ k ∧ k ≤ 10
            · obtain ⟨k1, k2⟩ := hk
              have hz : C = kS k := by rw [HC.out]; exact cntF_all k k1 k2
              have HZ : Hid (∀ W : World, KT W → Calls Tryd.prog 27 #[.int .i64 k] W fun e w' => e = .returned (.int .i64 C) ∧ Below W.heap.size W w') := fun W hW => by rw [hz]; exact impl_size k W hW
              have hL := kL_size k k1 k2
              have HL : Hid (∀ W : World, KT W → Calls Tryd.prog 28 #[.int .i64 k] W fun e w' => e = .returned (.string (kL k)) ∧ Below W.heap.size W w') := fun W hW => impl_letter k W hW
              obtain ⟨L, HLL⟩ : ∃ L, Hid (L = kL k) := ⟨_, rfl⟩
              rw [← HLL.out] at hL HL
              clear HLL HC hz
              have y1 : ¬ k < 1 := by omega
              have y2 : ¬ 10 < k := by omega
              go_wp2_with fail
              refine (HZ.out _ (hT.later bj)).mono ?_
              rintro e w6 ⟨rfl, g⟩
              have a6 := aj.later g
              have b6 := bj.trans (g.mono bj.size)
              clear g aj bj x0 HZ
              have x0 := a6.c0
              go_wp2_with fail
              refine (HL.out _ (hT.later b6)).mono ?_
              rintro e w7 ⟨rfl, g⟩
              have b7 := b6.trans (g.mono b6.size)
              clear g x0 HL b6 a6
              go_wp2
              go_ret
              exact ⟨rfl, b7⟩
            · by_cases k1 : k < 1
              · go_wp2
                go_ret
                exact ⟨rfl, bj⟩
              · have k2 : 10 < k := by omega
                go_wp2
                go_ret
                exact ⟨rfl, bj⟩
    · have hB0 : (true && kB k) = false := by rcases hk with rfl | rfl | rfl <;> rfl
      have hW0 : (true && kW k) = false := by rcases hk with rfl | rfl | rfl <;> rfl
      have hR0 : (true && kR k) = true := by rcases hk with rfl | rfl | rfl <;> rfl
      have e5 : (k == 5) = false := by rcases hk with rfl | rfl | rfl <;> rfl
      have e7 : (k == 7) = false := by rcases hk with rfl | rfl | rfl <;> rfl
      have e8 : (k == 8) = false := by rcases hk with rfl | rfl | rfl <;> rfl
      clear hk
      have HB : Hid (∀ W : World, KT W → Calls Tryd.prog 21 #[.agg #[.int .i64 k, .int .i64 n, .int .i64 p]] W fun e w' => e = .returned (.bool false) ∧ Below W.heap.size W w') := fun W hW => by have := impl_isbit k n p W hW; rwa [ho, hB0] at this
      have HW : Hid (∀ W : World, KT W → Calls Tryd.prog 22 #[.agg #[.int .i64 k, .int .i64 n, .int .i64 p]] W fun e w' => e = .returned (.bool false) ∧ Below W.heap.size W w') := fun W hW => by have := impl_iswhole k n p W hW; rwa [ho, hW0] at this
      have HR : Hid (∀ W : World, KT W → Calls Tryd.prog 23 #[.agg #[.int .i64 k, .int .i64 n, .int .i64 p]] W fun e w' => e = .returned (.bool true) ∧ Below W.heap.size W w') := fun W hW => by have := impl_isreal k n p W hW; rwa [ho, hR0] at this
      have SB : Hid (∀ W : World, Calls Tryd.prog 25 #[.agg #[.int .i64 k, .int .i64 n, .int .i64 p]] W fun e w' => e = .returned (.bool false) ∧ Below W.heap.size W w') := fun W => by have := spec_isbit k n p W; rwa [ho, hB0] at this
      have SW : Hid (∀ W : World, Calls Tryd.prog 26 #[.agg #[.int .i64 k, .int .i64 n, .int .i64 p]] W fun e w' => e = .returned (.bool false) ∧ Below W.heap.size W w') := fun W => by have := spec_iswhole k n p W; rwa [ho, hW0] at this
      have SO : Hid (∀ W : World, Calls Tryd.prog 24 #[.agg #[.int .i64 k, .int .i64 n, .int .i64 p]] W fun e w' => e = .returned (.bool true) ∧ Below W.heap.size W w') := fun W => by have := spec_ok k n p W; rwa [ho] at this
      have a1 : A3 (w1.alloc (.cells #[.int .i64 k, .int .i64 n, .int .i64 p] 24)) w1.heap.size k n p := A3.fresh w1 k n p 24
      have c1 : Below w.heap.size w (w1.alloc (.cells #[.int .i64 k, .int .i64 n, .int .i64 p] 24)) := b1.alloc b1.size _
      clear ho b1 hB0 hW0 hR0
      go_wp2_with fail
      refine (HB.out _ (hT.later c1)).mono ?_
      rintro e w2 ⟨rfl, g⟩
      have a2 := a1.later g
      have c2 := c1.trans (g.mono c1.size)
      have x0 := a2.c0
      have x1 := a2.c1
      have x2 := a2.c2
      clear g a1 c1
      go_wp2_with fail
      refine (HW.out _ (hT.later c2)).mono ?_
      rintro e w3 ⟨rfl, g⟩
      have a3 := a2.later g
      have c3 := c2.trans (g.mono c2.size)
      clear x0 x1 x2 g a2 c2
      have x0 := a3.c0
      have x1 := a3.c1
      have x2 := a3.c2
      go_wp2_with fail
      refine (HR.out _ (hT.later c3)).mono ?_
      rintro e w4 ⟨rfl, g⟩
      have a4 := a3.later g
      have c4 := c3.trans (g.mono c3.size)
      clear x0 x1 x2 g a3 c3
      have x0 := a4.c0
      have x1 := a4.c1
      have x2 := a4.c2
      go_wp2_with fail
      refine (SO.out _).mono ?_
      rintro e w5 ⟨rfl, g⟩
      have a5 := a4.later g
      have c5 := c4.trans (g.mono c4.size)
      clear x0 x1 x2 g a4 c4
      have x0 := a5.c0
      have x1 := a5.c1
      have x2 := a5.c2
      clear SO HR
      go_upto_region 18 with fail
      go_cut [54] from 38 to 54 (fun s wx => s = .bool false ∧ A3 wx w1.heap.size k n p ∧ Below w.heap.size w wx)
      case first =>
        have k0 := cell_regrown x0
        have k1 := cell_regrown x1
        have k2 := cell_regrown x2
        have cB : ∀ d os, Calls Tryd.prog 21 #[.agg #[.int .i64 k, .int .i64 n, .int .i64 p]] (Sort.grow (redrawn w5 d) os) fun e w'' => e = .returned (.bool false) ∧ ∃ p : Regrown, w'' = Sort.grow (redrawn w5 p.d) p.os := fun d os => Calls.regrown_of (HB.out _ ((hT.later c5).later (below_regrown w5 d os)))
        have cS : ∀ d os, Calls Tryd.prog 25 #[.agg #[.int .i64 k, .int .i64 n, .int .i64 p]] (Sort.grow (redrawn w5 d) os) fun e w'' => e = .returned (.bool false) ∧ ∃ p : Regrown, w'' = Sort.grow (redrawn w5 p.d) p.os := fun d os => Calls.regrown_of (SB.out _)
        have cW : ∀ d os, Calls Tryd.prog 22 #[.agg #[.int .i64 k, .int .i64 n, .int .i64 p]] (Sort.grow (redrawn w5 d) os) fun e w'' => e = .returned (.bool false) ∧ ∃ p : Regrown, w'' = Sort.grow (redrawn w5 p.d) p.os := fun d os => Calls.regrown_of (HW.out _ ((hT.later c5).later (below_regrown w5 d os)))
        have cV : ∀ d os, Calls Tryd.prog 26 #[.agg #[.int .i64 k, .int .i64 n, .int .i64 p]] (Sort.grow (redrawn w5 d) os) fun e w'' => e = .returned (.bool false) ∧ ∃ p : Regrown, w'' = Sort.grow (redrawn w5 p.d) p.os := fun d os => Calls.regrown_of (SW.out _)
        refine wp_region_quiet_below (by kernel_rfl) (by kernel_rfl) ?_
        repeat (go_big_quiet_step (first | exact cB _ _ | exact cS _ _ | exact cW _ _ | exact cV _ _))
        refine wpQuiet_nil ?_
        intro _ hw'
        obtain ⟨⟨dq, osq⟩, hw''⟩ := hw'
        subst hw''
        go_wp2_with fail
        go_meet
        case rel => exact ⟨rfl, a5.later (below_regrown w5 dq osq), c5.trans ((below_regrown w5 dq osq).mono c5.size)⟩
      case rest =>
        obtain ⟨rfl, ac, bc⟩ := hcut
        clear HB HW SB SW a5 c5 x0 x1 x2
        go_wp2
        go_loopw [6, 7] (fun c i wr => ∃ j : Nat, j ≤ 71 ∧ i = .int .i64 ((j : Int) - 1) ∧ c = .int .i64 (cntF k j) ∧ A3 wr w1.heap.size k n p ∧ Below w.heap.size w wr) (fun _ i _ => (70 - intOf i).toNat)
        case atStart => exact ⟨0, by omega, rfl, rfl, ac, bc⟩
        case round =>
          clear ac bc
          obtain ⟨j, hj, rfl, rfl, aj, bj⟩ := hrel
          have hbd := cntF_bd k j
          obtain ⟨C, HC⟩ : ∃ C, Hid (C = cntF k j) := ⟨_, rfl⟩
          rw [← HC.out] at hbd ⊢
          have x0 := aj.c0
          by_cases hlt : j < 71
          · have hj2 : (j : Int) - 1 < 70 := by omega
            have HO : Hid (∀ W : World, KT W → Calls Tryd.prog 16 #[.agg #[.int .i64 k, .int .i64 ((j : Int) - 1), .int .i64 0]] W fun e w' => e = .returned (.bool (okA k ((j : Int) - 1) 0)) ∧ Below W.heap.size W w') := fun W hW => impl_ok k ((j : Int) - 1) 0 W hW
            have HN : Hid (cntF k (j + 1) = C + (if okA k ((j : Int) - 1) 0 then 1 else 0)) := by rw [HC.out]; rfl
            clear HC
            cases hb : okA k ((j : Int) - 1) 0 with
            | false =>
              rw [hb] at HO HN
              go_wp2_with fail
              refine (HO.out _ (hT.later bj)).mono ?_
              rintro e w6 ⟨rfl, g⟩
              have a6 := aj.later g
              have b6 := bj.trans (g.mono bj.size)
              clear g aj bj x0 HO
              go_wp2
              go_roundw
              case rel => exact ⟨j + 1, by omega, by go_num, by rw [HN.out]; simp, a6, b6⟩
              case measure => simp [intOf]; omega
            | true =>
              rw [hb] at HO HN
              go_wp2_with fail
              refine (HO.out _ (hT.later bj)).mono ?_
              rintro e w6 ⟨rfl, g⟩
              have a6 := aj.later g
              have b6 := bj.trans (g.mono bj.size)
              clear g aj bj x0 HO
              go_wp2
              go_roundw
              case rel => exact ⟨j + 1, by omega, by go_num, by rw [HN.out]; simp, a6, b6⟩
              case measure => simp [intOf]; omega
          · obtain rfl : j = 71 := by omega
            by_cases hk : 1 ≤ k ∧ k ≤ 10
            · obtain ⟨k1, k2⟩ := hk
              have hz : C = kS k := by rw [HC.out]; exact cntF_all k k1 k2
              have HZ : Hid (∀ W : World, KT W → Calls Tryd.prog 27 #[.int .i64 k] W fun e w' => e = .returned (.int .i64 C) ∧ Below W.heap.size W w') := fun W hW => by rw [hz]; exact impl_size k W hW
              have hL := kL_size k k1 k2
              have HL : Hid (∀ W : World, KT W → Calls Tryd.prog 28 #[.int .i64 k] W fun e w' => e = .returned (.string (kL k)) ∧ Below W.heap.size W w') := fun W hW => impl_letter k W hW
              obtain ⟨L, HLL⟩ : ∃ L, Hid (L = kL k) := ⟨_, rfl⟩
              rw [← HLL.out] at hL HL
              clear HLL HC hz
              have y1 : ¬ k < 1 := by omega
              have y2 : ¬ 10 < k := by omega
              go_wp2_with fail
              refine (HZ.out _ (hT.later bj)).mono ?_
              rintro e w6 ⟨rfl, g⟩
              have a6 := aj.later g
              have b6 := bj.trans (g.mono bj.size)
              clear g aj bj x0 HZ
              have x0 := a6.c0
              go_wp2_with fail
              refine (HL.out _ (hT.later b6)).mono ?_
              rintro e w7 ⟨rfl, g⟩
              have b7 := b6.trans (g.mono b6.size)
              clear g x0 HL b6 a6
              go_wp2
              go_ret
              exact ⟨rfl, b7⟩
            · by_cases k1 : k < 1
              · go_wp2
                go_ret
                exact ⟨rfl, bj⟩
              · have k2 : 10 < k := by omega
                go_wp2
                go_ret
                exact ⟨rfl, bj⟩

set_option maxHeartbeats 400000 in
theorem walk4 (a : Option Addr) (len cap : Nat) (zs : List Int) (w : World) (h : IsRow .u8 w a len cap zs) (hT : KT w) :
    Calls Tryd.prog 4 #[.slice a len cap] w fun e w' => e = .returned (.bool true) ∧ Below w.heap.size w w' := by
  by_cases hl : len ≤ 1048576
  · obtain ⟨blk, off, z, hc⟩ := h.code hl
    exact law4 w hT hc
  · have hcap : len ≤ maxLen := by
      rcases h with ⟨_, rfl, _⟩ | ⟨_, _, h1, h2, _⟩
      · omega
      · omega
    unfold maxLen at hcap
    have i1 : (1048576 : Int) < (len : Int) := by omega
    go_enter Tryd.func4, Tryd.ntmps4
    go_wp2
    go_ret
    exact ⟨rfl, Below.refl _ _⟩
end Go.Proofs.YtkaoajihpclpiaaDoor
