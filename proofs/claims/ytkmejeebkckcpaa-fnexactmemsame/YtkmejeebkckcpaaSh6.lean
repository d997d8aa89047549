/- The law FnExactMemSame. -/
import Derived.Test.YtkmejeebkckcpaaSg6
import Derived.Test.YtkmejeebkckcpaaMo
namespace Go.Proofs.Ytkmejeebkckcpaa
open Go.RowKit
set_option linter.unusedVariables false

theorem sh_info : (Try.prog.info? 36).map (·.size) = some 136 := by kernel_rfl

set_option maxRecDepth 10000 in
set_option maxHeartbeats 1000000 in
theorem law_same (c d : Array Value) (w : World) (hc : MemOk c) (hd : MemOk d) :
    Calls Try.prog 3 #[.agg c, .agg d] w fun e w' => e = .returned (.bool true) ∧ Below w.heap.size w w' := by
  have HC : Hid (MemOk c) := hc
  have HD : Hid (MemOk d) := hd
  have HI : Hid ((Try.prog.info? 36).map (·.size) = some c.size) := by rw [HC.out.size]; exact sh_info
  have HJ : Hid ((Try.prog.info? 36).map (·.size) = some d.size) := by rw [HD.out.size]; exact sh_info
  obtain ⟨v, Hv⟩ : ∃ v : Bool, Hid (v = true ↔ MS c d) := by
    by_cases h : MS c d
    · exact ⟨true, (⟨fun _ => h, fun _ => rfl⟩ : true = true ↔ MS c d)⟩
    · exact ⟨false, (⟨fun e => Bool.noConfusion e, fun e => absurd e h⟩ : false = true ↔ MS c d)⟩
  have HB1 : Hid (∀ W, Calls Try.prog 4 #[.agg c, .agg d] W fun e w' => e = .returned (.bool v) ∧ Below W.heap.size W w') := fun W => same_m c d HC.out HD.out v Hv.out W
  have HB2 : Hid (∀ W, Calls Try.prog 6 #[.agg c, .agg d] W fun e w' => e = .returned (.bool v) ∧ Below W.heap.size W w') := fun W => same_i c d HC.out HD.out v Hv.out W
  clear hc hd Hv
  go_enter Try.func3, Try.ntmps3
  go_upto_region 1 with fail
  have h1 := (rows2 w (.cells c 36) (.cells d 36)).1
  have h2 := (rows2 w (.cells c 36) (.cells d 36)).2
  have hb : Below w.heap.size w ((w.alloc (.cells c 36)).alloc (.cells d 36)) := ((Below.refl _ _).alloc (Nat.le_refl _) _).alloc (by simp) _
  generalize ((w.alloc (.cells c 36)).alloc (.cells d 36)) = w0 at h1 h2 hb ⊢
  have cM : ∀ dd os, Calls Try.prog 5 #[.agg c] (Sort.grow (redrawn w0 dd) os) fun e w'' => e = .returned (.agg c) ∧ ∃ p : Regrown, w'' = Sort.grow (redrawn w0 p.d) p.os := fun dd os => Calls.regrown_of (to_mem c HC.out _)
  have cA : ∀ dd os, Calls Try.prog 5 #[.agg d] (Sort.grow (redrawn w0 dd) os) fun e w'' => e = .returned (.agg d) ∧ ∃ p : Regrown, w'' = Sort.grow (redrawn w0 p.d) p.os := fun dd os => Calls.regrown_of (to_mem d HD.out _)
  have cS : ∀ dd os, Calls Try.prog 4 #[.agg c, .agg d] (Sort.grow (redrawn w0 dd) os) fun e w'' => e = .returned (.bool v) ∧ ∃ p : Regrown, w'' = Sort.grow (redrawn w0 p.d) p.os := fun dd os => Calls.regrown_of (HB1.out _)
  refine wp_region_quiet_below (by kernel_rfl) (by kernel_rfl) ?_
  refine wpQ_load rfl 36 (.tmp 2) rfl _ _ rfl (.agg c) (fun W hW => load_all (row_regrown h1 hW) _ _ Try.underlying36 rfl HI.out) ?_
  simp only [Act.put, List.setIfInBounds_toArray, List.set_cons_succ, List.set_cons_zero]
  go_big_quiet_step (first | with_reducible exact cM _ _ | with_reducible exact cA _ _ | with_reducible exact cS _ _)
  refine wpQ_load rfl 36 (.tmp 3) rfl _ _ rfl (.agg d) (fun W hW => load_all (row_regrown h2 hW) _ _ Try.underlying36 rfl HJ.out) ?_
  simp only [Act.put, List.setIfInBounds_toArray, List.set_cons_succ, List.set_cons_zero]
  go_big_quiet_step (first | with_reducible exact cM _ _ | with_reducible exact cA _ _ | with_reducible exact cS _ _)
  go_big_quiet_step (first | with_reducible exact cM _ _ | with_reducible exact cA _ _ | with_reducible exact cS _ _)
  go_big_quiet_step (first | with_reducible exact cM _ _ | with_reducible exact cA _ _ | with_reducible exact cS _ _)
  refine wpQuiet_nil ?_
  intro w1 hw1
  have h1' := row_regrown h1 hw1
  have h2' := row_regrown h2 hw1
  have hb1 : Below w.heap.size w w1 := by
    obtain ⟨⟨dq, osq⟩, rfl⟩ := hw1
    exact hb.trans ((below_regrown w0 dq osq).mono hb.size)
  clear hw1 h1 h2 hb cM cA cS
  have h1 := h1'
  have h2 := h2'
  have hb := hb1
  clear h1' h2' hb1
  go_upto_region 2 with fail
  have cM : ∀ dd os, Calls Try.prog 5 #[.agg c] (Sort.grow (redrawn w1 dd) os) fun e w'' => e = .returned (.agg c) ∧ ∃ p : Regrown, w'' = Sort.grow (redrawn w1 p.d) p.os := fun dd os => Calls.regrown_of (to_mem c HC.out _)
  have cA : ∀ dd os, Calls Try.prog 5 #[.agg d] (Sort.grow (redrawn w1 dd) os) fun e w'' => e = .returned (.agg d) ∧ ∃ p : Regrown, w'' = Sort.grow (redrawn w1 p.d) p.os := fun dd os => Calls.regrown_of (to_mem d HD.out _)
  have cS : ∀ dd os, Calls Try.prog 6 #[.agg c, .agg d] (Sort.grow (redrawn w1 dd) os) fun e w'' => e = .returned (.bool v) ∧ ∃ p : Regrown, w'' = Sort.grow (redrawn w1 p.d) p.os := fun dd os => Calls.regrown_of (HB2.out _)
  refine wp_region_quiet_below (by kernel_rfl) (by kernel_rfl) ?_
  refine wpQ_load rfl 36 (.tmp 2) rfl _ _ rfl (.agg c) (fun W hW => load_all (row_regrown h1 hW) _ _ Try.underlying36 rfl HI.out) ?_
  simp only [Act.put, List.setIfInBounds_toArray, List.set_cons_succ, List.set_cons_zero]
  go_big_quiet_step (first | with_reducible exact cM _ _ | with_reducible exact cA _ _ | with_reducible exact cS _ _)
  refine wpQ_load rfl 36 (.tmp 3) rfl _ _ rfl (.agg d) (fun W hW => load_all (row_regrown h2 hW) _ _ Try.underlying36 rfl HJ.out) ?_
  simp only [Act.put, List.setIfInBounds_toArray, List.set_cons_succ, List.set_cons_zero]
  go_big_quiet_step (first | with_reducible exact cM _ _ | with_reducible exact cA _ _ | with_reducible exact cS _ _)
  go_big_quiet_step (first | with_reducible exact cM _ _ | with_reducible exact cA _ _ | with_reducible exact cS _ _)
  go_big_quiet_step (first | with_reducible exact cM _ _ | with_reducible exact cA _ _ | with_reducible exact cS _ _)
  refine wpQuiet_nil ?_
  intro w2 hw1
  have h1' := row_regrown h1 hw1
  have h2' := row_regrown h2 hw1
  have hb1 : Below w.heap.size w w2 := by
    obtain ⟨⟨dq, osq⟩, rfl⟩ := hw1
    exact hb.trans ((below_regrown w1 dq osq).mono hb.size)
  clear hw1 h1 h2 hb cM cA cS
  have h1 := h1'
  have h2 := h2'
  have hb := hb1
  clear h1' h2' hb1
  have hv : (v != v) = false := by simp
  go_wp2
  go_ret
  exact ⟨rfl, hb⟩
end Go.Proofs.Ytkmejeebkckcpaa
