/- The law FnSureTop. -/
import Derived.Test.YtbncgacnikmomaaDoorYs
import Derived.Test.YtbncgacnikmomaaDoorYr
import Derived.Test.YtbncgacnikmomaaDoorBg
import Derived.Lib.QuietBelow
namespace Go.Proofs.YtbncgacnikmomaaDoor
open Go.RowKit
set_option linter.unusedVariables false

set_option maxRecDepth 10000 in
set_option maxHeartbeats 8000000 in
theorem law_stop {a : Option Addr} {len cap blk off : Nat} {zz : Nat → Int} (w : World) (hT : KT w) (hL : LT w) (h : Code0 w a len cap blk off zz) :
    Calls Tryd.prog 3 #[.slice a len cap] w fun e w' => e = .returned (.bool true) ∧ Below w.heap.size w w' := by
  have hl := h.short
  go_enter Tryd.func3, Tryd.ntmps3
  go_wp2_with fail
  refine (drawcheck_r w h).mono ?_
  rintro e w1 ⟨b, n, cp, xs, rfl, HX, hn, hs, g1⟩
  have his : InstsIs w1 0 (.slice b n cp) xs := HX.out.2.is (by have := HX.out.1; omega)
  have hxl : xs.length ≤ 1048576 := by have := HX.out.1; omega
  have hcp := check_pos xs
  obtain ⟨C, HC⟩ : ∃ q, Hid (q = (checkT xs).1) := ⟨_, rfl⟩
  obtain ⟨D, HD⟩ : ∃ q, Hid (q = (checkT xs).2) := ⟨_, rfl⟩
  obtain ⟨Z, HZ⟩ : ∃ q, Hid (q = decide ((checkT xs).1 = 0)) := ⟨_, rfl⟩
  rw [← HC.out, ← HD.out, ← HX.out.1] at hcp
  have HI1 : Hid (Calls Tryd.prog 6 #[.slice b n cp] w1 fun e w' => e = .returned (.agg #[.int .i64 C, .int .i64 D]) ∧ Below w1.heap.size w1 w') := by
    rw [HC.out, HD.out]; exact check_i _ xs w1 0 his hxl (hT.later g1) (hL.later g1)
  have HK : Hid (∀ W, Below w1.heap.size w1 W → Calls Tryd.prog 7 #[.slice b n cp] W fun e w' => e = .returned (.agg #[.int .i64 C, .int .i64 D]) ∧ Below W.heap.size W w') := fun W g => by
    rw [HC.out, HD.out]; exact check_s _ xs W 0 (instsIs_move (Keeps.of_below g 0) (Nat.le_refl _) his) hxl
  have HWs : Hid (∀ W, Below w1.heap.size w1 W → Calls Tryd.prog 8 #[.slice b n cp] W fun e w' => e = .returned (.bool Z) ∧ Below W.heap.size W w') := fun W g => by
    rw [HZ.out]; exact ws_s b n cp xs W (instsIs_move (Keeps.of_below g 0) (Nat.le_refl _) his) hn
  have HZC : Hid (Z = decide (C = 0)) := by show Z = decide (C = 0); rw [HZ.out, HC.out]
  have HG1 : Hid (Below w.heap.size w w1) := g1
  clear his hxl HX h g1 HC HD HZ hT hL
  go_wp2_with fail
  refine HI1.out.mono ?_
  rintro e w2 ⟨rfl, g2⟩
  have gA : Below w1.heap.size w1 (w2.alloc (.cells #[.int .i64 C, .int .i64 D] 26)) := g2.alloc g2.size _
  have kA : (w2.alloc (.cells #[.int .i64 C, .int .i64 D] 26)).heap[w2.heap.size]? = some (.cells #[.int .i64 C, .int .i64 D] 26 (0, 0)) := heap_alloc_last w2 _
  obtain ⟨W2, HW2⟩ : ∃ W, Hid (W = w2.alloc (.cells #[.int .i64 C, .int .i64 D] 26)) := ⟨_, rfl⟩
  rw [← HW2.out] at gA kA
  have HGA : Hid (Below w1.heap.size w1 W2) := gA
  have hs2 : w2.heap.size < W2.heap.size := (Array.getElem?_eq_some_iff.1 kA).1
  have HR2 : Hid (W2.rangeAt w2.heap.size 0 [.int .i64 C, .int .i64 D]) := fun i c hi => by
    rw [Nat.zero_add, cell_of_row _ _ _ _ _ _ kA]
    simpa using hi
  have cK : ∀ d os, Calls Tryd.prog 7 #[.slice b n cp] (Sort.grow (redrawn W2 d) os) fun e w'' => e = .returned (.agg #[.int .i64 C, .int .i64 D]) ∧ ∃ p : Regrown, w'' = Sort.grow (redrawn W2 p.d) p.os :=
    fun d os => Calls.regrown_of (HK.out _ (HGA.out.trans ((below_regrown W2 d os).mono HGA.out.size)))
  have cW : ∀ d os, Calls Tryd.prog 8 #[.slice b n cp] (Sort.grow (redrawn W2 d) os) fun e w'' => e = .returned (.bool Z) ∧ ∃ p : Regrown, w'' = Sort.grow (redrawn W2 p.d) p.os :=
    fun d os => Calls.regrown_of (HWs.out _ (HGA.out.trans ((below_regrown W2 d os).mono HGA.out.size)))
  have k0 : ∀ d os, (Sort.grow (redrawn W2 d) os).cell? ⟨w2.heap.size, 0, none⟩ = some (.int .i64 C) := fun d os => (Keeps.of_below (below_regrown W2 d os) 0) _ _ _ (Nat.zero_le _) (HR2.out 0 _ rfl)
  have k1 : ∀ d os, (Sort.grow (redrawn W2 d) os).cell? ⟨w2.heap.size, 1, none⟩ = some (.int .i64 D) := fun d os => (Keeps.of_below (below_regrown W2 d os) 0) _ _ _ (Nat.zero_le _) (HR2.out 1 _ rfl)
  have hD0 : 0 ≤ D := hcp.2.1
  have hD1 : D ≤ (n : Int) := hcp.2.2
  clear g2 gA kA HI1 hcp
  go_upto_region 5 with fail
  rw [← HW2.out]
  clear HW2
  by_cases hC : C = 0
  · have hc0 : (C == 0) = true := by simp [hC]
    have hZ : Z = true := by rw [HZC.out]; simp [hC]
    subst hZ
    clear HZC hC
    refine wp_region_quiet_below (by kernel_rfl) (by kernel_rfl) ?_
    refine wpQ_load rfl 26 _ rfl _ _ rfl (.agg #[.int .i64 C, .int .i64 D]) (fun W hW => run_loadVar_mid W w2.heap.size 0 26 [.int .i64 C, .int .i64 D] _ (range_regrown HR2.out hW) Tryd.underlying26 rfl (by kernel_rfl)) ?_
    simp only [Act.put, List.setIfInBounds_toArray, List.set_cons_succ, List.set_cons_zero]
    repeat go_big_quiet_step (first | with_reducible exact cK _ _ | with_reducible exact cW _ _)
    refine wpQuiet_nil ?_
    intro w7 hw'
    have g7 : Below W2.heap.size W2 w7 := by
      obtain ⟨⟨dq, osq⟩, rfl⟩ := hw'
      exact below_regrown W2 dq osq
    have HF : Hid (Below w.heap.size w w7) := (HG1.out.trans (HGA.out.mono HG1.out.size)).trans (g7.mono (Nat.le_trans HG1.out.size HGA.out.size))
    clear hw' g7 cK cW k0 k1
    go_wp2
    go_ret
    exact ⟨rfl, HF.out⟩
  · have hc0 : (C == 0) = false := by simp [hC]
    have hZ : Z = false := by rw [HZC.out]; simp [hC]
    subst hZ
    clear HZC hC
    refine wp_region_quiet_below (by kernel_rfl) (by kernel_rfl) ?_
    refine wpQ_load rfl 26 _ rfl _ _ rfl (.agg #[.int .i64 C, .int .i64 D]) (fun W hW => run_loadVar_mid W w2.heap.size 0 26 [.int .i64 C, .int .i64 D] _ (range_regrown HR2.out hW) Tryd.underlying26 rfl (by kernel_rfl)) ?_
    simp only [Act.put, List.setIfInBounds_toArray, List.set_cons_succ, List.set_cons_zero]
    repeat go_big_quiet_step (first | with_reducible exact cK _ _ | with_reducible exact cW _ _)
    refine wpQuiet_nil ?_
    intro w7 hw'
    have g7 : Below W2.heap.size W2 w7 := by
      obtain ⟨⟨dq, osq⟩, rfl⟩ := hw'
      exact below_regrown W2 dq osq
    have HF : Hid (Below w.heap.size w w7) := (HG1.out.trans (HGA.out.mono HG1.out.size)).trans (g7.mono (Nat.le_trans HG1.out.size HGA.out.size))
    clear hw' g7 cK cW k0 k1
    go_wp2
    go_ret
    exact ⟨rfl, HF.out⟩
theorem walk_stop (a : Option Addr) (len cap : Nat) (zs : List Int) (w : World) (h : IsRow .u8 w a len cap zs) (hL : LT w) (hT : KT w) :
    Calls Tryd.prog 3 #[.slice a len cap] w fun e w' => e = .returned (.bool true) ∧ Below w.heap.size w w' := by
  by_cases hl : len ≤ 1048576
  · obtain ⟨blk, off, z, hc⟩ := h.code hl
    exact law_stop w hT hL hc
  · have hcap : len ≤ maxLen := by
      rcases h with ⟨_, rfl, _⟩ | ⟨_, _, h1, h2, _⟩
      · omega
      · omega
    unfold maxLen at hcap
    have i1 : (1048576 : Int) < (len : Int) := by omega
    go_enter Tryd.func3, Tryd.ntmps3
    go_wp2
    go_ret
    exact ⟨rfl, Below.refl _ _⟩
end Go.Proofs.YtbncgacnikmomaaDoor
