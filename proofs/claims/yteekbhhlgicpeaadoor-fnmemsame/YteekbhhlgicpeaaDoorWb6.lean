/- The law FnMemSame: its walk. -/
import Derived.Test.YteekbhhlgicpeaaDoorWa6
import Derived.Test.YteekbhhlgicpeaaDoorVe6
import Derived.Test.YteekbhhlgicpeaaDoorVd6
import Derived.Test.YteekbhhlgicpeaaDoorSg6
import Derived.Lib.QuietBelow
namespace Go.Proofs.YteekbhhlgicpeaaDoor
open Go.RowKit Go.Shelf
set_option linter.unusedVariables false

set_option maxRecDepth 10000 in
set_option maxHeartbeats 8000000 in
theorem law_msame {a : Option Addr} {len cap blk off : Nat} {z : Nat → Int} (w : World) (hT : Tabs w) (h : Code0 w a len cap blk off z) :
    Calls Tryd.prog 3 #[.slice a len cap] w fun e w' => e = .returned (.bool true) ∧ Below w.heap.size w w' := by
  have HT : Hid (Tabs w) := hT
  obtain ⟨rt, hrt⟩ := rt_ok
  have HRT : Hid (RtOk rt) := hrt
  have hl := h.short
  have i1 : ¬ ((1048576 : Int) < (len : Int)) := by omega
  have hz := zero_mem.1
  obtain ⟨Z, HZ⟩ : ∃ Z, Hid (Z = memZero) := ⟨_, rfl⟩
  rw [← HZ.out] at hz
  have HZs : Hid (Z.size = 136) := (by rw [HZ.out, memZero_size] : Z.size = 136)
  clear hT hrt
  go_enter Tryd.func3, Tryd.ntmps3
  go_wp2_with fail
  refine (drawsame_r w h).mono ?_
  rintro e w1 ⟨⟨c, d, hc, hd, rfl⟩, b1⟩
  have HC : Hid (MemOk c) := hc
  have HD : Hid (MemOk d) := hd
  have HI : Hid ((Tryd.prog.info? 37).map (·.size) = some c.size) := by rw [HC.out.size]; exact zero_mem.2
  have HJ : Hid ((Tryd.prog.info? 37).map (·.size) = some d.size) := by rw [HD.out.size]; exact zero_mem.2
  have r0 := rows2 w1 (.cells Z 37) (.cells Z 37)
  obtain ⟨u1, HU1⟩ : ∃ u, Hid (u = ((w1.alloc (.cells Z 37)).alloc (.cells Z 37)).setRow w1.heap.size c) := ⟨_, rfl⟩
  have HS1 : Hid ((storeVar 37 ⟨w1.heap.size, 0, none⟩ (.agg c)).run Tryd.prog ((w1.alloc (.cells Z 37)).alloc (.cells Z 37)) = .ok () u1) := by
    rw [HU1.out]; exact store_all r0.1 _ _ (HZs.out.trans hc.size.symm) HI.out hc.one
  have k1 : u1.heap[w1.heap.size + 1]? = some (.cells Z 37 (0, 0)) := by rw [HU1.out]; exact row_beside r0.2 w1.heap.size (by omega) c
  obtain ⟨u2, HU2⟩ : ∃ u, Hid (u = u1.setRow (w1.heap.size + 1) d) := ⟨_, rfl⟩
  have HS2 : Hid ((storeVar 37 ⟨w1.heap.size + 1, 0, none⟩ (.agg d)).run Tryd.prog u1 = .ok () u2) := by
    rw [HU2.out]; exact store_all k1 _ _ (HZs.out.trans hd.size.symm) HJ.out hd.one
  have h1 : u2.heap[w1.heap.size]? = some (.cells c 37 (0, 0)) := by rw [HU2.out]; exact row_beside (by rw [HU1.out]; exact row_set r0.1 c) (w1.heap.size + 1) (by omega) _
  have h2 : u2.heap[w1.heap.size + 1]? = some (.cells d 37 (0, 0)) := by rw [HU2.out]; exact row_set k1 _
  have hb : Below w.heap.size w u2 := by rw [HU2.out, HU1.out]; exact below_setRow (below_setRow ((b1.alloc b1.size _).alloc (by have := b1.size; simp; omega) _) b1.size _) (by have := b1.size; omega) _
  have HL1 : Hid ((loadVar 37 ⟨w1.heap.size, 0, none⟩).run Tryd.prog u2 = .ok (.agg c) u2) := load_all h1 _ _ Tryd.underlying37 rfl HI.out
  have HL2 : Hid ((loadVar 37 ⟨w1.heap.size + 1, 0, none⟩).run Tryd.prog u2 = .ok (.agg d) u2) := load_all h2 _ _ Tryd.underlying37 rfl HJ.out
  have H1 : Hid (u2.heap[w1.heap.size]? = some (.cells c 37 (0, 0))) := h1
  have H2 : Hid (u2.heap[w1.heap.size + 1]? = some (.cells d 37 (0, 0))) := h2
  have HB : Hid (Below w.heap.size w u2) := hb
  obtain ⟨T, HTT⟩ : ∃ t, Hid (t = memT rt c) := ⟨_, rfl⟩
  have HTc : Hid (∀ W, Tabs W → Calls Tryd.prog 7 #[.agg c] W fun e w' => e = .returned (.string T) ∧ Below W.heap.size W w') := fun W hW => by rw [HTT.out]; exact text_i HRT.out c HC.out W hW
  have HAA : Hid (∀ W, Calls Tryd.prog 6 #[.agg c, .agg c] W fun e w' => e = .returned (.bool true) ∧ Below W.heap.size W w') := fun W => same_i c c HC.out HC.out true ⟨fun _ => ms_refl c, fun _ => rfl⟩ W
  obtain ⟨g1, HG1⟩ : ∃ g, Hid (g = w1.heap.size) := ⟨_, rfl⟩
  clear hc hd b1 HU1 HU2 h1 h2 hb h r0 k1
  by_cases hms : MS c d
  · have HAB : Hid (∀ W, Calls Tryd.prog 6 #[.agg c, .agg d] W fun e w' => e = .returned (.bool true) ∧ Below W.heap.size W w') := fun W => same_i c d HC.out HD.out true ⟨fun _ => hms, fun _ => rfl⟩ W
    have HBA : Hid (∀ W, Calls Tryd.prog 6 #[.agg d, .agg c] W fun e w' => e = .returned (.bool true) ∧ Below W.heap.size W w') := fun W => same_i d c HD.out HC.out true ⟨fun _ => ms_symm hms, fun _ => rfl⟩ W
    have HM : Hid (∀ W, Calls Tryd.prog 8 #[.agg c, .agg d] W fun e w' => e = .returned (.bool true) ∧ Below W.heap.size W w') := fun W => same_m c d HC.out HD.out true ⟨fun _ => hms, fun _ => rfl⟩ W
    have HTd : Hid (∀ W, Tabs W → Calls Tryd.prog 7 #[.agg d] W fun e w' => e = .returned (.string T) ∧ Below W.heap.size W w') := fun W hW => by rw [HTT.out, (text_iff HRT.out HC.out HD.out).2 hms]; exact text_i HRT.out d HD.out W hW
    clear hms HTT
    go_wp2_with (first | (refine wpL_store rfl 37 _ _ rfl _ _ rfl _ rfl _ HS1.out ?_) | (refine wpL_store rfl 37 _ _ rfl _ _ rfl _ rfl _ HS2.out ?_) | (refine wpL_load rfl 37 _ rfl _ _ rfl _ HL1.out ?_) | (refine wpL_load rfl 37 _ rfl _ _ rfl _ HL2.out ?_) | fail)
    refine (HAB.out _).mono ?_
    rintro e w3 ⟨rfl, g3⟩
    have K1 : Hid (w3.heap[w1.heap.size]? = some (.cells c 37 (0, 0))) := (g3.block _ (Array.getElem?_eq_some_iff.1 H1.out).1).trans H1.out
    have K2 : Hid (w3.heap[w1.heap.size + 1]? = some (.cells d 37 (0, 0))) := (g3.block _ (Array.getElem?_eq_some_iff.1 H2.out).1).trans H2.out
    have B3 : Hid (Below w.heap.size w w3) := HB.out.trans (g3.mono HB.out.size)
    clear g3 H1 H2 HB HS1 HS2 HL1 HL2 hz
    go_upto_region 5 with fail
    have kt : ∀ d os, Tabs (Sort.grow (redrawn w3 d) os) := fun d os => (HT.out.later B3.out).later (below_regrown w3 d os)
    have cBA : ∀ dd os, Calls Tryd.prog 6 #[.agg d, .agg c] (Sort.grow (redrawn w3 dd) os) fun e w'' => e = .returned (.bool true) ∧ ∃ p : Regrown, w'' = Sort.grow (redrawn w3 p.d) p.os := fun dd os => Calls.regrown_of (HBA.out _)
    have cAA : ∀ dd os, Calls Tryd.prog 6 #[.agg c, .agg c] (Sort.grow (redrawn w3 dd) os) fun e w'' => e = .returned (.bool true) ∧ ∃ p : Regrown, w'' = Sort.grow (redrawn w3 p.d) p.os := fun dd os => Calls.regrown_of (HAA.out _)
    have cM : ∀ dd os, Calls Tryd.prog 8 #[.agg c, .agg d] (Sort.grow (redrawn w3 dd) os) fun e w'' => e = .returned (.bool true) ∧ ∃ p : Regrown, w'' = Sort.grow (redrawn w3 p.d) p.os := fun dd os => Calls.regrown_of (HM.out _)
    have cTc : ∀ dd os, Calls Tryd.prog 7 #[.agg c] (Sort.grow (redrawn w3 dd) os) fun e w'' => e = .returned (.string T) ∧ ∃ p : Regrown, w'' = Sort.grow (redrawn w3 p.d) p.os := fun dd os => Calls.regrown_of (HTc.out _ (kt dd os))
    have cTd : ∀ dd os, Calls Tryd.prog 7 #[.agg d] (Sort.grow (redrawn w3 dd) os) fun e w'' => e = .returned (.string T) ∧ ∃ p : Regrown, w'' = Sort.grow (redrawn w3 p.d) p.os := fun dd os => Calls.regrown_of (HTd.out _ (kt dd os))
    refine wp_region_quiet_below (by kernel_rfl) (by kernel_rfl) ?_
    go_big_quiet_step (first | with_reducible exact cBA _ _ | with_reducible exact cTc _ _ | with_reducible exact cTd _ _ | with_reducible exact cM _ _ | with_reducible exact cAA _ _)
    refine wpQ_load rfl 37 (.tmp 4) rfl _ _ rfl (.agg d) (fun W hW => load_all (row_regrown K2.out hW) _ _ Tryd.underlying37 rfl HJ.out) ?_; simp only [Act.put, List.setIfInBounds_toArray, List.set_cons_succ, List.set_cons_zero]
    refine wpQ_load rfl 37 (.tmp 3) rfl _ _ rfl (.agg c) (fun W hW => load_all (row_regrown K1.out hW) _ _ Tryd.underlying37 rfl HI.out) ?_; simp only [Act.put, List.setIfInBounds_toArray, List.set_cons_succ, List.set_cons_zero]
    go_big_quiet_step (first | with_reducible exact cBA _ _ | with_reducible exact cTc _ _ | with_reducible exact cTd _ _ | with_reducible exact cM _ _ | with_reducible exact cAA _ _)
    go_big_quiet_step (first | with_reducible exact cBA _ _ | with_reducible exact cTc _ _ | with_reducible exact cTd _ _ | with_reducible exact cM _ _ | with_reducible exact cAA _ _)
    go_big_quiet_step (first | with_reducible exact cBA _ _ | with_reducible exact cTc _ _ | with_reducible exact cTd _ _ | with_reducible exact cM _ _ | with_reducible exact cAA _ _)
    go_big_quiet_step (first | with_reducible exact cBA _ _ | with_reducible exact cTc _ _ | with_reducible exact cTd _ _ | with_reducible exact cM _ _ | with_reducible exact cAA _ _)
    refine wpQ_load rfl 37 (.tmp 3) rfl _ _ rfl (.agg c) (fun W hW => load_all (row_regrown K1.out hW) _ _ Tryd.underlying37 rfl HI.out) ?_; simp only [Act.put, List.setIfInBounds_toArray, List.set_cons_succ, List.set_cons_zero]
    go_big_quiet_step (first | with_reducible exact cBA _ _ | with_reducible exact cTc _ _ | with_reducible exact cTd _ _ | with_reducible exact cM _ _ | with_reducible exact cAA _ _)
    refine wpQ_load rfl 37 (.tmp 4) rfl _ _ rfl (.agg d) (fun W hW => load_all (row_regrown K2.out hW) _ _ Tryd.underlying37 rfl HJ.out) ?_; simp only [Act.put, List.setIfInBounds_toArray, List.set_cons_succ, List.set_cons_zero]
    go_big_quiet_step (first | with_reducible exact cBA _ _ | with_reducible exact cTc _ _ | with_reducible exact cTd _ _ | with_reducible exact cM _ _ | with_reducible exact cAA _ _)
    go_big_quiet_step (first | with_reducible exact cBA _ _ | with_reducible exact cTc _ _ | with_reducible exact cTd _ _ | with_reducible exact cM _ _ | with_reducible exact cAA _ _)
    go_big_quiet_step (first | with_reducible exact cBA _ _ | with_reducible exact cTc _ _ | with_reducible exact cTd _ _ | with_reducible exact cM _ _ | with_reducible exact cAA _ _)
    go_big_quiet_step (first | with_reducible exact cBA _ _ | with_reducible exact cTc _ _ | with_reducible exact cTd _ _ | with_reducible exact cM _ _ | with_reducible exact cAA _ _)
    go_big_quiet_step (first | with_reducible exact cBA _ _ | with_reducible exact cTc _ _ | with_reducible exact cTd _ _ | with_reducible exact cM _ _ | with_reducible exact cAA _ _)
    go_big_quiet_step (first | with_reducible exact cBA _ _ | with_reducible exact cTc _ _ | with_reducible exact cTd _ _ | with_reducible exact cM _ _ | with_reducible exact cAA _ _)
    refine wpQ_load rfl 37 (.tmp 3) rfl _ _ rfl (.agg c) (fun W hW => load_all (row_regrown K1.out hW) _ _ Tryd.underlying37 rfl HI.out) ?_; simp only [Act.put, List.setIfInBounds_toArray, List.set_cons_succ, List.set_cons_zero]
    refine wpQ_load rfl 37 (.tmp 4) rfl _ _ rfl (.agg d) (fun W hW => load_all (row_regrown K2.out hW) _ _ Tryd.underlying37 rfl HJ.out) ?_; simp only [Act.put, List.setIfInBounds_toArray, List.set_cons_succ, List.set_cons_zero]
    go_big_quiet_step (first | with_reducible exact cBA _ _ | with_reducible exact cTc _ _ | with_reducible exact cTd _ _ | with_reducible exact cM _ _ | with_reducible exact cAA _ _)
    go_big_quiet_step (first | with_reducible exact cBA _ _ | with_reducible exact cTc _ _ | with_reducible exact cTd _ _ | with_reducible exact cM _ _ | with_reducible exact cAA _ _)
    go_big_quiet_step (first | with_reducible exact cBA _ _ | with_reducible exact cTc _ _ | with_reducible exact cTd _ _ | with_reducible exact cM _ _ | with_reducible exact cAA _ _)
    go_big_quiet_step (first | with_reducible exact cBA _ _ | with_reducible exact cTc _ _ | with_reducible exact cTd _ _ | with_reducible exact cM _ _ | with_reducible exact cAA _ _)
    refine wpQ_load rfl 37 (.tmp 3) rfl _ _ rfl (.agg c) (fun W hW => load_all (row_regrown K1.out hW) _ _ Tryd.underlying37 rfl HI.out) ?_; simp only [Act.put, List.setIfInBounds_toArray, List.set_cons_succ, List.set_cons_zero]
    refine wpQ_load rfl 37 (.tmp 3) rfl _ _ rfl (.agg c) (fun W hW => load_all (row_regrown K1.out hW) _ _ Tryd.underlying37 rfl HI.out) ?_; simp only [Act.put, List.setIfInBounds_toArray, List.set_cons_succ, List.set_cons_zero]
    go_big_quiet_step (first | with_reducible exact cBA _ _ | with_reducible exact cTc _ _ | with_reducible exact cTd _ _ | with_reducible exact cM _ _ | with_reducible exact cAA _ _)
    go_big_quiet_step (first | with_reducible exact cBA _ _ | with_reducible exact cTc _ _ | with_reducible exact cTd _ _ | with_reducible exact cM _ _ | with_reducible exact cAA _ _)
    go_big_quiet_step (first | with_reducible exact cBA _ _ | with_reducible exact cTc _ _ | with_reducible exact cTd _ _ | with_reducible exact cM _ _ | with_reducible exact cAA _ _)
    refine wpQuiet_nil ?_
    intro _ hw'
    obtain ⟨⟨dq, osq⟩, hw''⟩ := hw'
    subst hw''
    go_wp2
    go_ret
    exact ⟨by simp, B3.out.trans ((below_regrown w3 dq osq).mono B3.out.size)⟩
  · obtain ⟨U, HUU⟩ : ∃ t, Hid (t = memT rt d) := ⟨_, rfl⟩
    have HAB : Hid (∀ W, Calls Tryd.prog 6 #[.agg c, .agg d] W fun e w' => e = .returned (.bool false) ∧ Below W.heap.size W w') := fun W => same_i c d HC.out HD.out false ⟨fun h => (by cases h), fun h => absurd h hms⟩ W
    have HBA : Hid (∀ W, Calls Tryd.prog 6 #[.agg d, .agg c] W fun e w' => e = .returned (.bool false) ∧ Below W.heap.size W w') := fun W => same_i d c HD.out HC.out false ⟨fun h => (by cases h), fun h => absurd (ms_symm h) hms⟩ W
    have HM : Hid (∀ W, Calls Tryd.prog 8 #[.agg c, .agg d] W fun e w' => e = .returned (.bool false) ∧ Below W.heap.size W w') := fun W => same_m c d HC.out HD.out false ⟨fun h => (by cases h), fun h => absurd h hms⟩ W
    have HTd : Hid (∀ W, Tabs W → Calls Tryd.prog 7 #[.agg d] W fun e w' => e = .returned (.string U) ∧ Below W.heap.size W w') := fun W hW => by rw [HUU.out]; exact text_i HRT.out d HD.out W hW
    have hne : T ≠ U := by
      intro e
      apply hms
      rw [← text_iff HRT.out HC.out HD.out, ← HTT.out, ← HUU.out]
      exact e
    have hne2 : (T.toList == U.toList) = false := by
      rw [Lib.toList_data, Lib.toList_data]
      simp only [beq_eq_false_iff_ne]
      intro e
      apply hne
      cases T; cases U
      simp only at e
      rw [Array.toList_inj.1 e]
    have hne3 : ¬ (T.toList = U.toList) := by simpa using hne2
    clear hms HTT HUU hne
    go_wp2_with (first | (refine wpL_store rfl 37 _ _ rfl _ _ rfl _ rfl _ HS1.out ?_) | (refine wpL_store rfl 37 _ _ rfl _ _ rfl _ rfl _ HS2.out ?_) | (refine wpL_load rfl 37 _ rfl _ _ rfl _ HL1.out ?_) | (refine wpL_load rfl 37 _ rfl _ _ rfl _ HL2.out ?_) | fail)
    refine (HAB.out _).mono ?_
    rintro e w3 ⟨rfl, g3⟩
    have K1 : Hid (w3.heap[w1.heap.size]? = some (.cells c 37 (0, 0))) := (g3.block _ (Array.getElem?_eq_some_iff.1 H1.out).1).trans H1.out
    have K2 : Hid (w3.heap[w1.heap.size + 1]? = some (.cells d 37 (0, 0))) := (g3.block _ (Array.getElem?_eq_some_iff.1 H2.out).1).trans H2.out
    have B3 : Hid (Below w.heap.size w w3) := HB.out.trans (g3.mono HB.out.size)
    clear g3 H1 H2 HB HS1 HS2 HL1 HL2 hz
    go_upto_region 5 with fail
    have kt : ∀ d os, Tabs (Sort.grow (redrawn w3 d) os) := fun d os => (HT.out.later B3.out).later (below_regrown w3 d os)
    have cBA : ∀ dd os, Calls Tryd.prog 6 #[.agg d, .agg c] (Sort.grow (redrawn w3 dd) os) fun e w'' => e = .returned (.bool false) ∧ ∃ p : Regrown, w'' = Sort.grow (redrawn w3 p.d) p.os := fun dd os => Calls.regrown_of (HBA.out _)
    have cAA : ∀ dd os, Calls Tryd.prog 6 #[.agg c, .agg c] (Sort.grow (redrawn w3 dd) os) fun e w'' => e = .returned (.bool true) ∧ ∃ p : Regrown, w'' = Sort.grow (redrawn w3 p.d) p.os := fun dd os => Calls.regrown_of (HAA.out _)
    have cM : ∀ dd os, Calls Tryd.prog 8 #[.agg c, .agg d] (Sort.grow (redrawn w3 dd) os) fun e w'' => e = .returned (.bool false) ∧ ∃ p : Regrown, w'' = Sort.grow (redrawn w3 p.d) p.os := fun dd os => Calls.regrown_of (HM.out _)
    have cTc : ∀ dd os, Calls Tryd.prog 7 #[.agg c] (Sort.grow (redrawn w3 dd) os) fun e w'' => e = .returned (.string T) ∧ ∃ p : Regrown, w'' = Sort.grow (redrawn w3 p.d) p.os := fun dd os => Calls.regrown_of (HTc.out _ (kt dd os))
    have cTd : ∀ dd os, Calls Tryd.prog 7 #[.agg d] (Sort.grow (redrawn w3 dd) os) fun e w'' => e = .returned (.string U) ∧ ∃ p : Regrown, w'' = Sort.grow (redrawn w3 p.d) p.os := fun dd os => Calls.regrown_of (HTd.out _ (kt dd os))
    refine wp_region_quiet_below (by kernel_rfl) (by kernel_rfl) ?_
    go_big_quiet_step (first | with_reducible exact cBA _ _ | with_reducible exact cTc _ _ | with_reducible exact cTd _ _ | with_reducible exact cM _ _ | with_reducible exact cAA _ _)
    refine wpQ_load rfl 37 (.tmp 4) rfl _ _ rfl (.agg d) (fun W hW => load_all (row_regrown K2.out hW) _ _ Tryd.underlying37 rfl HJ.out) ?_; simp only [Act.put, List.setIfInBounds_toArray, List.set_cons_succ, List.set_cons_zero]
    refine wpQ_load rfl 37 (.tmp 3) rfl _ _ rfl (.agg c) (fun W hW => load_all (row_regrown K1.out hW) _ _ Tryd.underlying37 rfl HI.out) ?_; simp only [Act.put, List.setIfInBounds_toArray, List.set_cons_succ, List.set_cons_zero]
    go_big_quiet_step (first | with_reducible exact cBA _ _ | with_reducible exact cTc _ _ | with_reducible exact cTd _ _ | with_reducible exact cM _ _ | with_reducible exact cAA _ _)
    go_big_quiet_step (first | with_reducible exact cBA _ _ | with_reducible exact cTc _ _ | with_reducible exact cTd _ _ | with_reducible exact cM _ _ | with_reducible exact cAA _ _)
    go_big_quiet_step (first | with_reducible exact cBA _ _ | with_reducible exact cTc _ _ | with_reducible exact cTd _ _ | with_reducible exact cM _ _ | with_reducible exact cAA _ _)
    go_big_quiet_step (first | with_reducible exact cBA _ _ | with_reducible exact cTc _ _ | with_reducible exact cTd _ _ | with_reducible exact cM _ _ | with_reducible exact cAA _ _)
    refine wpQ_load rfl 37 (.tmp 3) rfl _ _ rfl (.agg c) (fun W hW => load_all (row_regrown K1.out hW) _ _ Tryd.underlying37 rfl HI.out) ?_; simp only [Act.put, List.setIfInBounds_toArray, List.set_cons_succ, List.set_cons_zero]
    go_big_quiet_step (first | with_reducible exact cBA _ _ | with_reducible exact cTc _ _ | with_reducible exact cTd _ _ | with_reducible exact cM _ _ | with_reducible exact cAA _ _)
    refine wpQ_load rfl 37 (.tmp 4) rfl _ _ rfl (.agg d) (fun W hW => load_all (row_regrown K2.out hW) _ _ Tryd.underlying37 rfl HJ.out) ?_; simp only [Act.put, List.setIfInBounds_toArray, List.set_cons_succ, List.set_cons_zero]
    go_big_quiet_step (first | with_reducible exact cBA _ _ | with_reducible exact cTc _ _ | with_reducible exact cTd _ _ | with_reducible exact cM _ _ | with_reducible exact cAA _ _)
    go_big_quiet_step (first | with_reducible exact cBA _ _ | with_reducible exact cTc _ _ | with_reducible exact cTd _ _ | with_reducible exact cM _ _ | with_reducible exact cAA _ _)
    go_big_quiet_step (first | with_reducible exact cBA _ _ | with_reducible exact cTc _ _ | with_reducible exact cTd _ _ | with_reducible exact cM _ _ | with_reducible exact cAA _ _)
    go_big_quiet_step (first | with_reducible exact cBA _ _ | with_reducible exact cTc _ _ | with_reducible exact cTd _ _ | with_reducible exact cM _ _ | with_reducible exact cAA _ _)
    go_big_quiet_step (first | with_reducible exact cBA _ _ | with_reducible exact cTc _ _ | with_reducible exact cTd _ _ | with_reducible exact cM _ _ | with_reducible exact cAA _ _)
    go_big_quiet_step (first | with_reducible exact cBA _ _ | with_reducible exact cTc _ _ | with_reducible exact cTd _ _ | with_reducible exact cM _ _ | with_reducible exact cAA _ _)
    refine wpQ_load rfl 37 (.tmp 3) rfl _ _ rfl (.agg c) (fun W hW => load_all (row_regrown K1.out hW) _ _ Tryd.underlying37 rfl HI.out) ?_; simp only [Act.put, List.setIfInBounds_toArray, List.set_cons_succ, List.set_cons_zero]
    refine wpQ_load rfl 37 (.tmp 4) rfl _ _ rfl (.agg d) (fun W hW => load_all (row_regrown K2.out hW) _ _ Tryd.underlying37 rfl HJ.out) ?_; simp only [Act.put, List.setIfInBounds_toArray, List.set_cons_succ, List.set_cons_zero]
    go_big_quiet_step (first | with_reducible exact cBA _ _ | with_reducible exact cTc _ _ | with_reducible exact cTd _ _ | with_reducible exact cM _ _ | with_reducible exact cAA _ _)
    go_big_quiet_step (first | with_reducible exact cBA _ _ | with_reducible exact cTc _ _ | with_reducible exact cTd _ _ | with_reducible exact cM _ _ | with_reducible exact cAA _ _)
    go_big_quiet_step (first | with_reducible exact cBA _ _ | with_reducible exact cTc _ _ | with_reducible exact cTd _ _ | with_reducible exact cM _ _ | with_reducible exact cAA _ _)
    go_big_quiet_step (first | with_reducible exact cBA _ _ | with_reducible exact cTc _ _ | with_reducible exact cTd _ _ | with_reducible exact cM _ _ | with_reducible exact cAA _ _)
    refine wpQ_load rfl 37 (.tmp 3) rfl _ _ rfl (.agg c) (fun W hW => load_all (row_regrown K1.out hW) _ _ Tryd.underlying37 rfl HI.out) ?_; simp only [Act.put, List.setIfInBounds_toArray, List.set_cons_succ, List.set_cons_zero]
    refine wpQ_load rfl 37 (.tmp 3) rfl _ _ rfl (.agg c) (fun W hW => load_all (row_regrown K1.out hW) _ _ Tryd.underlying37 rfl HI.out) ?_; simp only [Act.put, List.setIfInBounds_toArray, List.set_cons_succ, List.set_cons_zero]
    go_big_quiet_step (first | with_reducible exact cBA _ _ | with_reducible exact cTc _ _ | with_reducible exact cTd _ _ | with_reducible exact cM _ _ | with_reducible exact cAA _ _)
    go_big_quiet_step (first | with_reducible exact cBA _ _ | with_reducible exact cTc _ _ | with_reducible exact cTd _ _ | with_reducible exact cM _ _ | with_reducible exact cAA _ _)
    go_big_quiet_step (first | with_reducible exact cBA _ _ | with_reducible exact cTc _ _ | with_reducible exact cTd _ _ | with_reducible exact cM _ _ | with_reducible exact cAA _ _)
    refine wpQuiet_nil ?_
    intro _ hw'
    obtain ⟨⟨dq, osq⟩, hw''⟩ := hw'
    subst hw''
    go_wp2
    go_ret
    exact ⟨by simp, B3.out.trans ((below_regrown w3 dq osq).mono B3.out.size)⟩

set_option maxHeartbeats 400000 in
theorem walk_msame (a : Option Addr) (len cap : Nat) (zs : List Int) (w : World) (h : IsRow .u8 w a len cap zs) (hk : KT w) (hp : PT w) (hw : WT w) :
    Calls Tryd.prog 3 #[.slice a len cap] w fun e w' => e = .returned (.bool true) ∧ Below w.heap.size w w' := by
  by_cases hl : len ≤ 1048576
  · obtain ⟨blk, off, z, hc⟩ := h.code hl
    exact law_msame w ⟨hk, hp, hw⟩ hc
  · have hcap : len ≤ maxLen := by
      rcases h with ⟨_, rfl, _⟩ | ⟨_, _, h1, h2, _⟩
      · omega
      · omega
    unfold maxLen at hcap
    have i1 : (1048576 : Int) < (len : Int) := by omega
    clear h hk hp hw
    go_enter Tryd.func3, Tryd.ntmps3
    go_wp2
    go_ret
    exact ⟨rfl, Below.refl _ _⟩
end Go.Proofs.YteekbhhlgicpeaaDoor
