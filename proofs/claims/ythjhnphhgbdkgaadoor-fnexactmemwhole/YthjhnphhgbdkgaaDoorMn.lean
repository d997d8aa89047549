/- The laws FnExactMemBit and FnExactMemWhole. -/
import Derived.Test.YthjhnphhgbdkgaaDoorMi
import Derived.Test.YthjhnphhgbdkgaaDoorMm
import Derived.Deep.Cut
namespace Go.Proofs.YthjhnphhgbdkgaaDoor
open Go.RowKit Go.Shelf
set_option linter.unusedVariables false

theorem mem_info : (Tryd.prog.info? 62).map (·.size) = some 136 := by kernel_rfl


set_option maxRecDepth 10000 in
set_option maxHeartbeats 1000000 in
theorem law_bit (c : Array Value) (k n p : Int) (w : World) (hc : MemOk c) (hk : (Lit.int .i64 k).wf = true) (hn : (Lit.int .i64 n).wf = true) (hp : (Lit.int .i64 p).wf = true) (hT : KT w) :
    Calls Tryd.prog 6 #[.agg c, .agg #[.int .i64 k, .int .i64 n, .int .i64 p]] w fun e w' => e = .returned (.bool true) ∧ Below w.heap.size w w' := by
  have HC : Hid (MemOk c) := hc
  have HT : Hid (KT w) := hT
  have HI : Hid ((Tryd.prog.info? 62).map (·.size) = some c.size) := by rw [HC.out.size]; exact mem_info
  obtain ⟨v, Hv⟩ : ∃ v, Hid (v = mbit c k n) := ⟨_, rfl⟩
  have HB1 : Hid (∀ W, Calls Tryd.prog 24 #[.agg c, .agg #[.int .i64 k, .int .i64 n, .int .i64 p]] W fun e w' => e = .returned (.bool v) ∧ Below W.heap.size W w') := fun W => by
    rw [Hv.out]; exact mbit_s c HC.out k n p W
  have HB2 : Hid (∀ W, KT W → Calls Tryd.prog 14 #[.agg c, .agg #[.int .i64 k, .int .i64 n, .int .i64 p]] W fun e w' => e = .returned (.bool v) ∧ Below W.heap.size W w') := fun W h => by
    rw [Hv.out]; exact mbit_i c HC.out k n p W h
  clear hc hT Hv hk hn hp
  go_enter Tryd.func6, Tryd.ntmps6
  go_upto_region 1 with fail
  have h1 := (rows2 w (.cells c 62) (.cells #[.int .i64 k, .int .i64 n, .int .i64 p] 63)).1
  have h2 := (rows2 w (.cells c 62) (.cells #[.int .i64 k, .int .i64 n, .int .i64 p] 63)).2
  have hb : Below w.heap.size w ((w.alloc (.cells c 62)).alloc (.cells #[.int .i64 k, .int .i64 n, .int .i64 p] 63)) := ((Below.refl _ _).alloc (Nat.le_refl _) _).alloc (by simp) _
  generalize ((w.alloc (.cells c 62)).alloc (.cells #[.int .i64 k, .int .i64 n, .int .i64 p] 63)) = w0 at h1 h2 hb ⊢
  have y0 : w0.cell? ⟨w.heap.size + 1, 0, none⟩ = some (.int .i64 k) := (cell_of_row _ _ _ _ _ _ h2).trans rfl
  have y1 : w0.cell? ⟨w.heap.size + 1, 1, none⟩ = some (.int .i64 n) := (cell_of_row _ _ _ _ _ _ h2).trans rfl
  have y2 : w0.cell? ⟨w.heap.size + 1, 2, none⟩ = some (.int .i64 p) := (cell_of_row _ _ _ _ _ _ h2).trans rfl
  have q0 := cell_regrown y0
  have q1 := cell_regrown y1
  have q2 := cell_regrown y2
  have cM : ∀ d os, Calls Tryd.prog 28 #[.agg c] (Sort.grow (redrawn w0 d) os) fun e w'' => e = .returned (.agg c) ∧ ∃ p : Regrown, w'' = Sort.grow (redrawn w0 p.d) p.os := fun d os => Calls.regrown_of (to_mem c HC.out _)
  have cA : ∀ d os, Calls Tryd.prog 29 #[.agg #[.int .i64 k, .int .i64 n, .int .i64 p]] (Sort.grow (redrawn w0 d) os) fun e w'' => e = .returned (.agg #[.int .i64 k, .int .i64 n, .int .i64 p]) ∧ ∃ p : Regrown, w'' = Sort.grow (redrawn w0 p.d) p.os := fun d os => Calls.regrown_of (to_arg k n p _)
  have cS : ∀ d os, Calls Tryd.prog 24 #[.agg c, .agg #[.int .i64 k, .int .i64 n, .int .i64 p]] (Sort.grow (redrawn w0 d) os) fun e w'' => e = .returned (.bool v) ∧ ∃ p : Regrown, w'' = Sort.grow (redrawn w0 p.d) p.os := fun d os => Calls.regrown_of (HB1.out _)
  refine wp_region_quiet_below (by kernel_rfl) (by kernel_rfl) ?_
  refine wpQ_load rfl 62 _ rfl _ _ rfl (.agg c) (fun W hW => load_all (row_regrown h1 hW) _ _ Tryd.underlying62 rfl HI.out) ?_
  simp only [Act.put, List.setIfInBounds_toArray, List.set_cons_succ, List.set_cons_zero]
  repeat (go_big_quiet_step (first | exact cM _ _ | exact cA _ _ | exact cS _ _))
  refine wpQuiet_nil ?_
  intro w1 hw1
  have h1' := row_regrown h1 hw1
  have h2' := row_regrown h2 hw1
  have hb1 : Below w.heap.size w w1 := by
    obtain ⟨⟨dq, osq⟩, rfl⟩ := hw1
    exact hb.trans ((below_regrown w0 dq osq).mono hb.size)
  clear hw1 h1 h2 hb q0 q1 q2 y0 y1 y2 cM cA cS
  have h1 := h1'
  have h2 := h2'
  have hb := hb1
  clear h1' h2' hb1
  go_upto_region 2 with fail
  have y0 : w1.cell? ⟨w.heap.size + 1, 0, none⟩ = some (.int .i64 k) := (cell_of_row _ _ _ _ _ _ h2).trans rfl
  have y1 : w1.cell? ⟨w.heap.size + 1, 1, none⟩ = some (.int .i64 n) := (cell_of_row _ _ _ _ _ _ h2).trans rfl
  have y2 : w1.cell? ⟨w.heap.size + 1, 2, none⟩ = some (.int .i64 p) := (cell_of_row _ _ _ _ _ _ h2).trans rfl
  have q0 := cell_regrown y0
  have q1 := cell_regrown y1
  have q2 := cell_regrown y2
  have cM : ∀ d os, Calls Tryd.prog 28 #[.agg c] (Sort.grow (redrawn w1 d) os) fun e w'' => e = .returned (.agg c) ∧ ∃ p : Regrown, w'' = Sort.grow (redrawn w1 p.d) p.os := fun d os => Calls.regrown_of (to_mem c HC.out _)
  have cA : ∀ d os, Calls Tryd.prog 29 #[.agg #[.int .i64 k, .int .i64 n, .int .i64 p]] (Sort.grow (redrawn w1 d) os) fun e w'' => e = .returned (.agg #[.int .i64 k, .int .i64 n, .int .i64 p]) ∧ ∃ p : Regrown, w'' = Sort.grow (redrawn w1 p.d) p.os := fun d os => Calls.regrown_of (to_arg k n p _)
  have cS : ∀ d os, Calls Tryd.prog 14 #[.agg c, .agg #[.int .i64 k, .int .i64 n, .int .i64 p]] (Sort.grow (redrawn w1 d) os) fun e w'' => e = .returned (.bool v) ∧ ∃ p : Regrown, w'' = Sort.grow (redrawn w1 p.d) p.os := fun d os => Calls.regrown_of (HB2.out _ ((HT.out.later hb).later (below_regrown w1 d os)))
  refine wp_region_quiet_below (by kernel_rfl) (by kernel_rfl) ?_
  refine wpQ_load rfl 62 _ rfl _ _ rfl (.agg c) (fun W hW => load_all (row_regrown h1 hW) _ _ Tryd.underlying62 rfl HI.out) ?_
  simp only [Act.put, List.setIfInBounds_toArray, List.set_cons_succ, List.set_cons_zero]
  repeat (go_big_quiet_step (first | exact cM _ _ | exact cA _ _ | exact cS _ _))
  refine wpQuiet_nil ?_
  intro w2 hw1
  have h1' := row_regrown h1 hw1
  have h2' := row_regrown h2 hw1
  have hb1 : Below w.heap.size w w2 := by
    obtain ⟨⟨dq, osq⟩, rfl⟩ := hw1
    exact hb.trans ((below_regrown w1 dq osq).mono hb.size)
  clear hw1 h1 h2 hb q0 q1 q2 y0 y1 y2 cM cA cS
  have h1 := h1'
  have h2 := h2'
  have hb := hb1
  clear h1' h2' hb1
  have hv : (v != v) = false := by simp
  go_wp2
  go_ret
  exact ⟨rfl, hb⟩

set_option maxRecDepth 10000 in
set_option maxHeartbeats 1000000 in
theorem law_whole (c : Array Value) (k n p : Int) (w : World) (hc : MemOk c) (hk : (Lit.int .i64 k).wf = true) (hn : (Lit.int .i64 n).wf = true) (hp : (Lit.int .i64 p).wf = true) (hT : KT w) :
    Calls Tryd.prog 8 #[.agg c, .agg #[.int .i64 k, .int .i64 n, .int .i64 p]] w fun e w' => e = .returned (.bool true) ∧ Below w.heap.size w w' := by
  have HC : Hid (MemOk c) := hc
  have HT : Hid (KT w) := hT
  have HI : Hid ((Tryd.prog.info? 62).map (·.size) = some c.size) := by rw [HC.out.size]; exact mem_info
  obtain ⟨v, Hv⟩ : ∃ v, Hid (v = mwhole c k n) := ⟨_, rfl⟩
  have HB1 : Hid (∀ W, Calls Tryd.prog 25 #[.agg c, .agg #[.int .i64 k, .int .i64 n, .int .i64 p]] W fun e w' => e = .returned (.int .i16 v) ∧ Below W.heap.size W w') := fun W => by
    rw [Hv.out]; exact mwhole_s c HC.out k n p W
  have HB2 : Hid (∀ W, KT W → Calls Tryd.prog 19 #[.agg c, .agg #[.int .i64 k, .int .i64 n, .int .i64 p]] W fun e w' => e = .returned (.int .i16 v) ∧ Below W.heap.size W w') := fun W h => by
    rw [Hv.out]; exact mwhole_i c HC.out k n p W h
  clear hc hT Hv hk hn hp
  go_enter Tryd.func8, Tryd.ntmps8
  go_upto_region 1 with fail
  have h1 := (rows2 w (.cells c 62) (.cells #[.int .i64 k, .int .i64 n, .int .i64 p] 63)).1
  have h2 := (rows2 w (.cells c 62) (.cells #[.int .i64 k, .int .i64 n, .int .i64 p] 63)).2
  have hb : Below w.heap.size w ((w.alloc (.cells c 62)).alloc (.cells #[.int .i64 k, .int .i64 n, .int .i64 p] 63)) := ((Below.refl _ _).alloc (Nat.le_refl _) _).alloc (by simp) _
  generalize ((w.alloc (.cells c 62)).alloc (.cells #[.int .i64 k, .int .i64 n, .int .i64 p] 63)) = w0 at h1 h2 hb ⊢
  have y0 : w0.cell? ⟨w.heap.size + 1, 0, none⟩ = some (.int .i64 k) := (cell_of_row _ _ _ _ _ _ h2).trans rfl
  have y1 : w0.cell? ⟨w.heap.size + 1, 1, none⟩ = some (.int .i64 n) := (cell_of_row _ _ _ _ _ _ h2).trans rfl
  have y2 : w0.cell? ⟨w.heap.size + 1, 2, none⟩ = some (.int .i64 p) := (cell_of_row _ _ _ _ _ _ h2).trans rfl
  have q0 := cell_regrown y0
  have q1 := cell_regrown y1
  have q2 := cell_regrown y2
  have cM : ∀ d os, Calls Tryd.prog 28 #[.agg c] (Sort.grow (redrawn w0 d) os) fun e w'' => e = .returned (.agg c) ∧ ∃ p : Regrown, w'' = Sort.grow (redrawn w0 p.d) p.os := fun d os => Calls.regrown_of (to_mem c HC.out _)
  have cA : ∀ d os, Calls Tryd.prog 29 #[.agg #[.int .i64 k, .int .i64 n, .int .i64 p]] (Sort.grow (redrawn w0 d) os) fun e w'' => e = .returned (.agg #[.int .i64 k, .int .i64 n, .int .i64 p]) ∧ ∃ p : Regrown, w'' = Sort.grow (redrawn w0 p.d) p.os := fun d os => Calls.regrown_of (to_arg k n p _)
  have cS : ∀ d os, Calls Tryd.prog 25 #[.agg c, .agg #[.int .i64 k, .int .i64 n, .int .i64 p]] (Sort.grow (redrawn w0 d) os) fun e w'' => e = .returned (.int .i16 v) ∧ ∃ p : Regrown, w'' = Sort.grow (redrawn w0 p.d) p.os := fun d os => Calls.regrown_of (HB1.out _)
  refine wp_region_quiet_below (by kernel_rfl) (by kernel_rfl) ?_
  refine wpQ_load rfl 62 _ rfl _ _ rfl (.agg c) (fun W hW => load_all (row_regrown h1 hW) _ _ Tryd.underlying62 rfl HI.out) ?_
  simp only [Act.put, List.setIfInBounds_toArray, List.set_cons_succ, List.set_cons_zero]
  repeat (go_big_quiet_step (first | exact cM _ _ | exact cA _ _ | exact cS _ _))
  refine wpQuiet_nil ?_
  intro w1 hw1
  have h1' := row_regrown h1 hw1
  have h2' := row_regrown h2 hw1
  have hb1 : Below w.heap.size w w1 := by
    obtain ⟨⟨dq, osq⟩, rfl⟩ := hw1
    exact hb.trans ((below_regrown w0 dq osq).mono hb.size)
  clear hw1 h1 h2 hb q0 q1 q2 y0 y1 y2 cM cA cS
  have h1 := h1'
  have h2 := h2'
  have hb := hb1
  clear h1' h2' hb1
  go_upto_region 2 with fail
  have y0 : w1.cell? ⟨w.heap.size + 1, 0, none⟩ = some (.int .i64 k) := (cell_of_row _ _ _ _ _ _ h2).trans rfl
  have y1 : w1.cell? ⟨w.heap.size + 1, 1, none⟩ = some (.int .i64 n) := (cell_of_row _ _ _ _ _ _ h2).trans rfl
  have y2 : w1.cell? ⟨w.heap.size + 1, 2, none⟩ = some (.int .i64 p) := (cell_of_row _ _ _ _ _ _ h2).trans rfl
  have q0 := cell_regrown y0
  have q1 := cell_regrown y1
  have q2 := cell_regrown y2
  have cM : ∀ d os, Calls Tryd.prog 28 #[.agg c] (Sort.grow (redrawn w1 d) os) fun e w'' => e = .returned (.agg c) ∧ ∃ p : Regrown, w'' = Sort.grow (redrawn w1 p.d) p.os := fun d os => Calls.regrown_of (to_mem c HC.out _)
  have cA : ∀ d os, Calls Tryd.prog 29 #[.agg #[.int .i64 k, .int .i64 n, .int .i64 p]] (Sort.grow (redrawn w1 d) os) fun e w'' => e = .returned (.agg #[.int .i64 k, .int .i64 n, .int .i64 p]) ∧ ∃ p : Regrown, w'' = Sort.grow (redrawn w1 p.d) p.os := fun d os => Calls.regrown_of (to_arg k n p _)
  have cS : ∀ d os, Calls Tryd.prog 19 #[.agg c, .agg #[.int .i64 k, .int .i64 n, .int .i64 p]] (Sort.grow (redrawn w1 d) os) fun e w'' => e = .returned (.int .i16 v) ∧ ∃ p : Regrown, w'' = Sort.grow (redrawn w1 p.d) p.os := fun d os => Calls.regrown_of (HB2.out _ ((HT.out.later hb).later (below_regrown w1 d os)))
  refine wp_region_quiet_below (by kernel_rfl) (by kernel_rfl) ?_
  refine wpQ_load rfl 62 _ rfl _ _ rfl (.agg c) (fun W hW => load_all (row_regrown h1 hW) _ _ Tryd.underlying62 rfl HI.out) ?_
  simp only [Act.put, List.setIfInBounds_toArray, List.set_cons_succ, List.set_cons_zero]
  repeat (go_big_quiet_step (first | exact cM _ _ | exact cA _ _ | exact cS _ _))
  refine wpQuiet_nil ?_
  intro w2 hw1
  have h1' := row_regrown h1 hw1
  have h2' := row_regrown h2 hw1
  have hb1 : Below w.heap.size w w2 := by
    obtain ⟨⟨dq, osq⟩, rfl⟩ := hw1
    exact hb.trans ((below_regrown w1 dq osq).mono hb.size)
  clear hw1 h1 h2 hb q0 q1 q2 y0 y1 y2 cM cA cS
  have h1 := h1'
  have h2 := h2'
  have hb := hb1
  clear h1' h2' hb1
  go_wp2
  go_ret
  exact ⟨rfl, hb⟩
end Go.Proofs.YthjhnphhgbdkgaaDoor
