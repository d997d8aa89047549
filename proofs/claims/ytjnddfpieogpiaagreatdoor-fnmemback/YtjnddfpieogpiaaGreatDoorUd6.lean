/- Texts of memories, the program's memValue: registers, timers, counters. -/
import Derived.Test.YtjnddfpieogpiaaGreatDoorUb6M
import Derived.Test.YtjnddfpieogpiaaGreatDoorQbM
namespace Go.Proofs.YtjnddfpieogpiaaGreatDoor.Rr
open Go.RowKit
open Go.Lib (decDigits itoa)
set_option linter.unusedVariables false

set_option maxRecDepth 10000 in
set_option maxHeartbeats 1000000 in
theorem mval_9 {G : World → Prop} (hG : ∀ W W' : World, G W → Below W.heap.size W W' → G W') (c : Array Value) (n : Nat) (m : Int) (hn : n < 32) (hm : -32768 ≤ m ∧ m < 32768) (hx : c[85 + n]? = some (.int .i16 m)) (S : ByteArray) (hS : S.size ≤ 60)
    (HR : Hid (∀ W, G W → Calls Tryz.prog 72 #[.int .i64 m] W fun e w' => e = .returned (.string S) ∧ Below W.heap.size W w')) (w : World) (hw : G w) :
    Calls Tryz.prog 24 #[.agg c, .agg #[.int .i64 9, .int .i64 (n : Int), .int .i64 0]] w fun e w' => e = .returned (.tuple #[.string (⟨#[61]⟩ ++ S), .bool (m != 0)]) ∧ Below w.heap.size w w' := by
  have HG : Hid (∀ W W' : World, G W → Below W.heap.size W W' → G W') := hG
  have HW : Hid (G w) := hw
  have i1 : (n : Int) < 32 := by omega
  have i3 : (0 : Int) ≤ (n : Int) := by omega
  have m0 := hm.1
  have m1 := hm.2
  have z1 : ¬ 9223372036854775807 < 1 + S.size := by omega
  have c0 : ((w.alloc (.cells c 37)).alloc (.cells #[.int .i64 9, .int .i64 (n : Int), .int .i64 0] 54)).cell? ⟨w.heap.size, 85 + n, none⟩ = some (.int .i16 m) := (cell_of_row _ _ _ _ _ _ (rows2 w _ _).1).trans hx
  have c1 : ((w.alloc (.cells c 37)).alloc (.cells #[.int .i64 9, .int .i64 (n : Int), .int .i64 0] 54)).cell? ⟨w.heap.size + 1, 1, none⟩ = some (.int .i64 (n : Int)) := (cell_of_row _ _ _ _ _ _ (rows2 w _ _).2).trans rfl
  have b0 : Below w.heap.size w ((w.alloc (.cells c 37)).alloc (.cells #[.int .i64 9, .int .i64 (n : Int), .int .i64 0] 54)) := ((Below.refl _ _).alloc (Nat.le_refl _) _).alloc (by simp) _
  clear hG hw hx hS hn hm
  go_enter Tryz.func24, Tryz.ntmps24
  go_upto_region 15 with fail
  generalize ((w.alloc (.cells c 37)).alloc (.cells #[.int .i64 9, .int .i64 (n : Int), .int .i64 0] 54)) = w0 at c0 c1 b0 ⊢
  have q0 := cell_regrown c0
  have q1 := cell_regrown c1
  have HB : Hid (Below w.heap.size w w0) := b0
  have cI : ∀ dd os, Calls Tryz.prog 72 #[.int .i64 m] (Sort.grow (redrawn w0 dd) os) fun e w'' => e = .returned (.string S) ∧ ∃ p : Regrown, w'' = Sort.grow (redrawn w0 p.d) p.os := fun dd os => Calls.regrown_of (HR.out _ (HG.out _ _ HW.out (HB.out.trans ((below_regrown w0 dd os).mono HB.out.size))))
  clear b0
  refine wp_region_quiet_below (by kernel_rfl) (by kernel_rfl) ?_
  go_big_quiet_step (first | with_reducible exact cI _ _)
  go_big_quiet_step (first | with_reducible exact cI _ _)
  go_big_quiet_step (first | with_reducible exact cI _ _)
  go_big_quiet_step (first | with_reducible exact cI _ _)
  go_big_quiet_step (first | with_reducible exact cI _ _)
  go_big_quiet_step (first | with_reducible exact cI _ _)
  go_big_quiet_step (first | with_reducible exact cI _ _)
  go_big_quiet_step (first | with_reducible exact cI _ _)
  go_big_quiet_step (first | with_reducible exact cI _ _)
  go_big_quiet_step (first | with_reducible exact cI _ _)
  go_big_quiet_step (first | with_reducible exact cI _ _)
  go_big_quiet_step (first | with_reducible exact cI _ _)
  go_big_quiet_step (first | with_reducible exact cI _ _)
  go_big_quiet_step (first | with_reducible exact cI _ _)
  go_big_quiet_step (first | with_reducible exact cI _ _)
  go_big_quiet_step (first | with_reducible exact cI _ _)
  refine wpQuiet_nil ?_
  intro w7 hw'
  have b7 : Below w.heap.size w w7 := by
    obtain ⟨⟨dq, osq⟩, rfl⟩ := hw'
    exact HB.out.trans ((below_regrown w0 dq osq).mono HB.out.size)
  clear hw' cI q0 q1 c0 c1
  go_wp2
  refine bodyPost_ret (v := .tuple #[.string (⟨#[61]⟩ ++ S), .bool (m != 0)]) (by simp [results, Tryz.results24, go_sem]) rfl ⟨rfl, b7⟩

set_option maxRecDepth 10000 in
set_option maxHeartbeats 2000000 in
theorem mval_7 {G : World → Prop} (hG : ∀ W W' : World, G W → Below W.heap.size W W' → G W') (c : Array Value) (hc : c.size = 136) (n : Nat) (b : Bool) (m : Int) (hn : n < 16) (hmr : 0 ≤ m ∧ m < 65536) (hb : c[5 + n * 2]? = some (.bool b)) (hm : c[5 + n * 2 + 1]? = some (.int .u16 m)) (S : ByteArray) (hS : S.size ≤ 60)
    (HR : Hid (∀ W, G W → Calls Tryz.prog 26 #[.int .u32 m] W fun e w' => e = .returned (.string S) ∧ Below W.heap.size W w')) (w : World) (hw : G w) :
    Calls Tryz.prog 24 #[.agg c, .agg #[.int .i64 7, .int .i64 (n : Int), .int .i64 0]] w fun e w' => e = .returned (.tuple #[.string (⟨#[61]⟩ ++ S ++ markT b ⟨#[33]⟩), .bool (b || decide (0 < m))]) ∧ Below w.heap.size w w' := by
  have HG : Hid (∀ W W' : World, G W → Below W.heap.size W W' → G W') := hG
  have HW : Hid (G w) := hw
  have i1 : (n : Int) < 16 := by omega
  have i3 : (0 : Int) ≤ (n : Int) := by omega
  have m0 := hmr.1
  have m1 := hmr.2
  have HL : Hid ((loadVar 27 ⟨w.heap.size, 5 + n * 2, none⟩).run Tryz.prog ((w.alloc (.cells c 37)).alloc (.cells #[.int .i64 7, .int .i64 (n : Int), .int .i64 0] 54)) = .ok (.agg #[.bool b, .int .u16 m]) ((w.alloc (.cells c 37)).alloc (.cells #[.int .i64 7, .int .i64 (n : Int), .int .i64 0] 54))) := by
    rw [← ext_two hb hm]
    exact load_sub (rows2 w _ _).1 _ _ (5 + n * 2) 2 (by rw [hc]; omega) Tryz.underlying27 rfl infoT
  obtain ⟨r, hr, hr'⟩ := eqD_timer 9998 (x := #[.bool b, .int .u16 m]) (y := #[.bool false, .int .u16 0]) rfl rfl rfl rfl
  have HRB : Hid ((b || decide (0 < m)) = !r) := by
    have hag : AgreeOn #[.bool b, .int .u16 m] #[.bool false, .int .u16 0] 0 2 ↔ b = false ∧ m = 0 := by
      constructor
      · intro h
        have e0 := h 0 (by omega) (by omega)
        have e1 := h 1 (by omega) (by omega)
        simp at e0 e1
        exact ⟨e0, e1⟩
      · rintro ⟨rfl, rfl⟩ i _ _; rfl
    rw [hag] at hr'
    cases b with
    | true =>
      cases r with
      | true => exact absurd (hr'.1 rfl).1 (by decide)
      | false => rfl
    | false =>
      by_cases h0 : m = 0
      · rw [hr'.2 ⟨rfl, h0⟩, h0]; rfl
      · have : 0 < m := by omega
        cases r with
        | true => exact absurd (hr'.1 rfl).2 h0
        | false => rw [decide_eq_true this]; rfl
  obtain ⟨MK, HMK⟩ : ∃ s, Hid (s = markT b ⟨#[33]⟩) := ⟨_, rfl⟩
  have HMc : Hid (∀ W, Calls Tryz.prog 71 #[.bool b, .string ⟨#[33]⟩] W fun e w' => e = .returned (.string MK) ∧ Below W.heap.size W w') := fun W => by rw [HMK.out]; exact mark_i b _ W
  have y1 : MK.size ≤ 1 := by rw [HMK.out]; exact markT_size _ _
  rw [← HMK.out]
  have z1 : ¬ 9223372036854775807 < 1 + S.size := by omega
  have z2 : ¬ 9223372036854775807 < 1 + S.size + MK.size := by omega
  clear hr' y1 HMK
  clear hG hw hS hn hmr hc hb hm
  go_enter Tryz.func24, Tryz.ntmps24
  go_upto_region 10 with (first | (refine wpL_load rfl 27 _ rfl _ _ rfl _ HL.out ?_) | fail)
  have hk := (rows3 w (.cells c 37) (.cells #[.int .i64 7, .int .i64 (n : Int), .int .i64 0] 54) (.cells #[.bool b, .int .u16 m] 27)).2.2
  have b0 : Below w.heap.size w (((w.alloc (.cells c 37)).alloc (.cells #[.int .i64 7, .int .i64 (n : Int), .int .i64 0] 54)).alloc (.cells #[.bool b, .int .u16 m] 27)) := (((Below.refl _ _).alloc (Nat.le_refl _) _).alloc (by simp) _).alloc (by simp <;> omega) _
  clear HL
  generalize (((w.alloc (.cells c 37)).alloc (.cells #[.int .i64 7, .int .i64 (n : Int), .int .i64 0] 54)).alloc (.cells #[.bool b, .int .u16 m] 27)) = w0 at hk b0 ⊢
  have HK : Hid (w0.heap[w.heap.size + 1 + 1]? = some (.cells #[.bool b, .int .u16 m] 27 (0, 0))) := hk
  have HB : Hid (Below w.heap.size w w0) := b0
  have d0 : w0.cell? ⟨w.heap.size + 1 + 1, 0, none⟩ = some (.bool b) := (cell_of_row _ _ _ _ _ _ HK.out).trans rfl
  have q0 := cell_regrown d0
  have d1 : w0.cell? ⟨w.heap.size + 1 + 1, 1, none⟩ = some (.int .u16 m) := (cell_of_row _ _ _ _ _ _ HK.out).trans rfl
  have q1 := cell_regrown d1
  have cI : ∀ dd os, Calls Tryz.prog 26 #[.int .u32 m] (Sort.grow (redrawn w0 dd) os) fun e w'' => e = .returned (.string S) ∧ ∃ p : Regrown, w'' = Sort.grow (redrawn w0 p.d) p.os := fun dd os => Calls.regrown_of (HR.out _ (HG.out _ _ HW.out (HB.out.trans ((below_regrown w0 dd os).mono HB.out.size))))
  have cM : ∀ dd os, Calls Tryz.prog 71 #[.bool b, .string ⟨#[33]⟩] (Sort.grow (redrawn w0 dd) os) fun e w'' => e = .returned (.string MK) ∧ ∃ p : Regrown, w'' = Sort.grow (redrawn w0 p.d) p.os := fun dd os => Calls.regrown_of (HMc.out _)
  clear b0 hk
  refine wp_region_quiet_below (by kernel_rfl) (by kernel_rfl) ?_
  go_big_quiet_step (first | with_reducible exact cI _ _ | with_reducible exact cM _ _)
  go_big_quiet_step (first | with_reducible exact cI _ _ | with_reducible exact cM _ _)
  go_big_quiet_step (first | with_reducible exact cI _ _ | with_reducible exact cM _ _)
  go_big_quiet_step (first | with_reducible exact cI _ _ | with_reducible exact cM _ _)
  go_big_quiet_step (first | with_reducible exact cI _ _ | with_reducible exact cM _ _)
  go_big_quiet_step (first | with_reducible exact cI _ _ | with_reducible exact cM _ _)
  go_big_quiet_step (first | with_reducible exact cI _ _ | with_reducible exact cM _ _)
  go_big_quiet_step (first | with_reducible exact cI _ _ | with_reducible exact cM _ _)
  go_big_quiet_step (first | with_reducible exact cI _ _ | with_reducible exact cM _ _)
  refine wpQ_load rfl 27 _ rfl _ _ rfl (.agg #[.bool b, .int .u16 m]) (fun W hW => load_all (row_regrown HK.out hW) _ _ Tryz.underlying27 rfl infoT) ?_
  simp only [Act.put, List.setIfInBounds_toArray, List.set_cons_succ, List.set_cons_zero]
  go_big_quiet_step (first | with_reducible exact cI _ _ | with_reducible exact cM _ _)
  go_big_quiet_step (first | with_reducible exact cI _ _ | with_reducible exact cM _ _)
  go_big_quiet_step (first | with_reducible exact cI _ _ | with_reducible exact cM _ _)
  go_big_quiet_step (first | with_reducible exact cI _ _ | with_reducible exact cM _ _)
  refine wpQuiet_nil ?_
  intro w7 hw'
  have b7 : Below w.heap.size w w7 := by
    obtain ⟨⟨dq, osq⟩, rfl⟩ := hw'
    exact HB.out.trans ((below_regrown w0 dq osq).mono HB.out.size)
  clear hw' cI cM q0 d0 q1 d1
  go_wp2
  refine bodyPost_ret (v := .tuple #[.string (⟨#[61]⟩ ++ S ++ MK), .bool (!r)]) (by simp [results, Tryz.results24, go_sem]) rfl ⟨by rw [HRB.out], b7⟩

set_option maxRecDepth 10000 in
set_option maxHeartbeats 2000000 in
theorem mval_8 {G : World → Prop} (hG : ∀ W W' : World, G W → Below W.heap.size W W' → G W') (c : Array Value) (hc : c.size = 136) (n : Nat) (b : Bool) (l : Bool) (m : Int) (hn : n < 16) (hmr : 0 ≤ m ∧ m < 65536) (hb : c[37 + n * 3]? = some (.bool b)) (hl : c[37 + n * 3 + 1]? = some (.bool l)) (hm : c[37 + n * 3 + 2]? = some (.int .u16 m)) (S : ByteArray) (hS : S.size ≤ 60)
    (HR : Hid (∀ W, G W → Calls Tryz.prog 26 #[.int .u32 m] W fun e w' => e = .returned (.string S) ∧ Below W.heap.size W w')) (w : World) (hw : G w) :
    Calls Tryz.prog 24 #[.agg c, .agg #[.int .i64 8, .int .i64 (n : Int), .int .i64 0]] w fun e w' => e = .returned (.tuple #[.string (⟨#[61]⟩ ++ S ++ markT b ⟨#[33]⟩ ++ markT l ⟨#[43]⟩), .bool (b || l || decide (0 < m))]) ∧ Below w.heap.size w w' := by
  have HG : Hid (∀ W W' : World, G W → Below W.heap.size W W' → G W') := hG
  have HW : Hid (G w) := hw
  have i1 : (n : Int) < 16 := by omega
  have i3 : (0 : Int) ≤ (n : Int) := by omega
  have m0 := hmr.1
  have m1 := hmr.2
  have HL : Hid ((loadVar 30 ⟨w.heap.size, 37 + n * 3, none⟩).run Tryz.prog ((w.alloc (.cells c 37)).alloc (.cells #[.int .i64 8, .int .i64 (n : Int), .int .i64 0] 54)) = .ok (.agg #[.bool b, .bool l, .int .u16 m]) ((w.alloc (.cells c 37)).alloc (.cells #[.int .i64 8, .int .i64 (n : Int), .int .i64 0] 54))) := by
    rw [← ext_three hb hl hm]
    exact load_sub (rows2 w _ _).1 _ _ (37 + n * 3) 3 (by rw [hc]; omega) Tryz.underlying30 rfl infoC
  obtain ⟨r, hr, hr'⟩ := eqD_counter 9998 (x := #[.bool b, .bool l, .int .u16 m]) (y := #[.bool false, .bool false, .int .u16 0]) rfl rfl rfl rfl rfl rfl
  have HRB : Hid ((b || l || decide (0 < m)) = !r) := by
    have hag : AgreeOn #[.bool b, .bool l, .int .u16 m] #[.bool false, .bool false, .int .u16 0] 0 3 ↔ b = false ∧ l = false ∧ m = 0 := by
      constructor
      · intro h
        have e0 := h 0 (by omega) (by omega)
        have e1 := h 1 (by omega) (by omega)
        have e2 := h 2 (by omega) (by omega)
        simp at e0 e1 e2
        exact ⟨e0, e1, e2⟩
      · rintro ⟨rfl, rfl, rfl⟩ i _ _; rfl
    rw [hag] at hr'
    cases b with
    | true =>
      cases r with
      | true => exact absurd (hr'.1 rfl).1 (by decide)
      | false => rfl
    | false =>
      cases l with
      | true =>
        cases r with
        | true => exact absurd (hr'.1 rfl).2.1 (by decide)
        | false => rfl
      | false =>
        by_cases h0 : m = 0
        · rw [hr'.2 ⟨rfl, rfl, h0⟩, h0]; rfl
        · have : 0 < m := by omega
          cases r with
          | true => exact absurd (hr'.1 rfl).2.2 h0
          | false => rw [decide_eq_true this]; rfl
  obtain ⟨MK, HMK⟩ : ∃ s, Hid (s = markT b ⟨#[33]⟩) := ⟨_, rfl⟩
  have HMc : Hid (∀ W, Calls Tryz.prog 71 #[.bool b, .string ⟨#[33]⟩] W fun e w' => e = .returned (.string MK) ∧ Below W.heap.size W w') := fun W => by rw [HMK.out]; exact mark_i b _ W
  have y1 : MK.size ≤ 1 := by rw [HMK.out]; exact markT_size _ _
  obtain ⟨ML, HML⟩ : ∃ s, Hid (s = markT l ⟨#[43]⟩) := ⟨_, rfl⟩
  have HNc : Hid (∀ W, Calls Tryz.prog 71 #[.bool l, .string ⟨#[43]⟩] W fun e w' => e = .returned (.string ML) ∧ Below W.heap.size W w') := fun W => by rw [HML.out]; exact mark_i l _ W
  have y2 : ML.size ≤ 1 := by rw [HML.out]; exact markT_size _ _
  rw [← HMK.out, ← HML.out]
  have z3 : ¬ 9223372036854775807 < 1 + S.size + MK.size + ML.size := by omega
  have z1 : ¬ 9223372036854775807 < 1 + S.size := by omega
  have z2 : ¬ 9223372036854775807 < 1 + S.size + MK.size := by omega
  clear hr' y1 y2 HMK HML
  clear hG hw hS hn hmr hc hb hl hm
  go_enter Tryz.func24, Tryz.ntmps24
  go_upto_region 13 with (first | (refine wpL_load rfl 30 _ rfl _ _ rfl _ HL.out ?_) | fail)
  have hk := (rows3 w (.cells c 37) (.cells #[.int .i64 8, .int .i64 (n : Int), .int .i64 0] 54) (.cells #[.bool b, .bool l, .int .u16 m] 30)).2.2
  have b0 : Below w.heap.size w (((w.alloc (.cells c 37)).alloc (.cells #[.int .i64 8, .int .i64 (n : Int), .int .i64 0] 54)).alloc (.cells #[.bool b, .bool l, .int .u16 m] 30)) := (((Below.refl _ _).alloc (Nat.le_refl _) _).alloc (by simp) _).alloc (by simp <;> omega) _
  clear HL
  generalize (((w.alloc (.cells c 37)).alloc (.cells #[.int .i64 8, .int .i64 (n : Int), .int .i64 0] 54)).alloc (.cells #[.bool b, .bool l, .int .u16 m] 30)) = w0 at hk b0 ⊢
  have HK : Hid (w0.heap[w.heap.size + 1 + 1]? = some (.cells #[.bool b, .bool l, .int .u16 m] 30 (0, 0))) := hk
  have HB : Hid (Below w.heap.size w w0) := b0
  have d0 : w0.cell? ⟨w.heap.size + 1 + 1, 0, none⟩ = some (.bool b) := (cell_of_row _ _ _ _ _ _ HK.out).trans rfl
  have q0 := cell_regrown d0
  have d1 : w0.cell? ⟨w.heap.size + 1 + 1, 1, none⟩ = some (.bool l) := (cell_of_row _ _ _ _ _ _ HK.out).trans rfl
  have q1 := cell_regrown d1
  have d2 : w0.cell? ⟨w.heap.size + 1 + 1, 2, none⟩ = some (.int .u16 m) := (cell_of_row _ _ _ _ _ _ HK.out).trans rfl
  have q2 := cell_regrown d2
  have cI : ∀ dd os, Calls Tryz.prog 26 #[.int .u32 m] (Sort.grow (redrawn w0 dd) os) fun e w'' => e = .returned (.string S) ∧ ∃ p : Regrown, w'' = Sort.grow (redrawn w0 p.d) p.os := fun dd os => Calls.regrown_of (HR.out _ (HG.out _ _ HW.out (HB.out.trans ((below_regrown w0 dd os).mono HB.out.size))))
  have cM : ∀ dd os, Calls Tryz.prog 71 #[.bool b, .string ⟨#[33]⟩] (Sort.grow (redrawn w0 dd) os) fun e w'' => e = .returned (.string MK) ∧ ∃ p : Regrown, w'' = Sort.grow (redrawn w0 p.d) p.os := fun dd os => Calls.regrown_of (HMc.out _)
  have cN : ∀ dd os, Calls Tryz.prog 71 #[.bool l, .string ⟨#[43]⟩] (Sort.grow (redrawn w0 dd) os) fun e w'' => e = .returned (.string ML) ∧ ∃ p : Regrown, w'' = Sort.grow (redrawn w0 p.d) p.os := fun dd os => Calls.regrown_of (HNc.out _)
  clear b0 hk
  refine wp_region_quiet_below (by kernel_rfl) (by kernel_rfl) ?_
  go_big_quiet_step (first | with_reducible exact cI _ _ | with_reducible exact cM _ _ | with_reducible exact cN _ _)
  go_big_quiet_step (first | with_reducible exact cI _ _ | with_reducible exact cM _ _ | with_reducible exact cN _ _)
  go_big_quiet_step (first | with_reducible exact cI _ _ | with_reducible exact cM _ _ | with_reducible exact cN _ _)
  go_big_quiet_step (first | with_reducible exact cI _ _ | with_reducible exact cM _ _ | with_reducible exact cN _ _)
  go_big_quiet_step (first | with_reducible exact cI _ _ | with_reducible exact cM _ _ | with_reducible exact cN _ _)
  go_big_quiet_step (first | with_reducible exact cI _ _ | with_reducible exact cM _ _ | with_reducible exact cN _ _)
  go_big_quiet_step (first | with_reducible exact cI _ _ | with_reducible exact cM _ _ | with_reducible exact cN _ _)
  go_big_quiet_step (first | with_reducible exact cI _ _ | with_reducible exact cM _ _ | with_reducible exact cN _ _)
  go_big_quiet_step (first | with_reducible exact cI _ _ | with_reducible exact cM _ _ | with_reducible exact cN _ _)
  go_big_quiet_step (first | with_reducible exact cI _ _ | with_reducible exact cM _ _ | with_reducible exact cN _ _)
  go_big_quiet_step (first | with_reducible exact cI _ _ | with_reducible exact cM _ _ | with_reducible exact cN _ _)
  go_big_quiet_step (first | with_reducible exact cI _ _ | with_reducible exact cM _ _ | with_reducible exact cN _ _)
  go_big_quiet_step (first | with_reducible exact cI _ _ | with_reducible exact cM _ _ | with_reducible exact cN _ _)
  refine wpQ_load rfl 30 _ rfl _ _ rfl (.agg #[.bool b, .bool l, .int .u16 m]) (fun W hW => load_all (row_regrown HK.out hW) _ _ Tryz.underlying30 rfl infoC) ?_
  simp only [Act.put, List.setIfInBounds_toArray, List.set_cons_succ, List.set_cons_zero]
  go_big_quiet_step (first | with_reducible exact cI _ _ | with_reducible exact cM _ _ | with_reducible exact cN _ _)
  go_big_quiet_step (first | with_reducible exact cI _ _ | with_reducible exact cM _ _ | with_reducible exact cN _ _)
  go_big_quiet_step (first | with_reducible exact cI _ _ | with_reducible exact cM _ _ | with_reducible exact cN _ _)
  go_big_quiet_step (first | with_reducible exact cI _ _ | with_reducible exact cM _ _ | with_reducible exact cN _ _)
  refine wpQuiet_nil ?_
  intro w7 hw'
  have b7 : Below w.heap.size w w7 := by
    obtain ⟨⟨dq, osq⟩, rfl⟩ := hw'
    exact HB.out.trans ((below_regrown w0 dq osq).mono HB.out.size)
  clear hw' cI cM cN q0 d0 q1 d1 q2 d2
  go_wp2
  refine bodyPost_ret (v := .tuple #[.string (⟨#[61]⟩ ++ S ++ MK ++ ML), .bool (!r)]) (by simp [results, Tryz.results24, go_sem]) rfl ⟨by rw [HRB.out], b7⟩
end Go.Proofs.YtjnddfpieogpiaaGreatDoor.Rr
