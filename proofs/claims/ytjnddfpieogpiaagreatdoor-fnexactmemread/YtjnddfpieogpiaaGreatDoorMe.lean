/- Two memories compared field by field: the rows. -/
import Derived.Test.YtjnddfpieogpiaaGreatDoorMbM
import Derived.Test.YtjnddfpieogpiaaGreatDoorEM
import Derived.Lib.QuietBelow
import Derived.Deep.Cut
namespace Go.Proofs.YtjnddfpieogpiaaGreatDoor
open Go.RowKit
set_option linter.unusedVariables false

set_option maxHeartbeats 1000000 in
theorem eq_timer (b : Bool) (m : Int) (w : World) : Calls Tryz.prog 117 #[.agg #[.bool b, .int .u16 m], .agg #[.bool b, .int .u16 m]] w fun e w' => e = .returned (.bool true) ∧ Below w.heap.size w w' := by
  cases b <;>
  (go_enter Tryz.func117, Tryz.ntmps117
   go_wp2
   go_ret
   exact ⟨rfl, by go_grown⟩)

set_option maxHeartbeats 1000000 in
theorem eq_counter (b l : Bool) (m : Int) (w : World) : Calls Tryz.prog 118 #[.agg #[.bool b, .bool l, .int .u16 m], .agg #[.bool b, .bool l, .int .u16 m]] w fun e w' => e = .returned (.bool true) ∧ Below w.heap.size w w' := by
  cases b <;> cases l <;>
  (go_enter Tryz.func118, Tryz.ntmps118
   go_wp2
   go_ret
   exact ⟨rfl, by go_grown⟩)

set_option maxRecDepth 10000 in
set_option maxHeartbeats 1000000 in
theorem eq_timers (c : Array Value) (hk : ∀ k, k < 16 → ∃ b m, c[2 * k]? = some (.bool b) ∧ c[2 * k + 1]? = some (.int .u16 m)) (w : World) : Calls Tryz.prog 62 #[.agg c, .agg c] w fun e w' => e = .returned (.bool true) ∧ Below w.heap.size w w' := by
  have HK : Hid (∀ k, k < 16 → ∃ b m, c[2 * k]? = some (.bool b) ∧ c[2 * k + 1]? = some (.int .u16 m)) := hk
  clear hk
  go_enter Tryz.func62, Tryz.ntmps62
  go_wp2
  go_loopg [5] 16 (fun g i wr => ∃ n : Nat, n + g = 16 ∧ i = .int .i64 n ∧ Below w.heap.size w wr ∧ wr.heap[w.heap.size]? = some (.cells c 28 (0, 0)) ∧ wr.heap[w.heap.size + 1]? = some (.cells c 28 (0, 0)))
  case atStart => exact ⟨0, by omega, rfl, ((Below.refl _ _).alloc (Nat.le_refl _) _).alloc (by simp) _, (rows2 w _ _).1, (rows2 w _ _).2⟩
  case round =>
    obtain ⟨n, hn, rfl, hb, h1, h2⟩ := hrel
    by_cases hlt : n < 16
    · have i1 : (n : Int) < 16 := by omega
      have i3 : (0 : Int) ≤ (n : Int) := by omega
      have Bl : w.heap.size + 1 < wr.heap.size := (Array.getElem?_eq_some_iff.1 h2).1
      obtain ⟨b, m, k0, k1⟩ := HK.out n hlt
      have q0 := cell_regrown (show wr.cell? ⟨w.heap.size, n * 2, none⟩ = some (.bool b) by rw [cell_of_row _ _ _ _ _ _ h1, Nat.mul_comm]; exact k0)
      have q2 := cell_regrown (show wr.cell? ⟨w.heap.size + 1, n * 2, none⟩ = some (.bool b) by rw [cell_of_row _ _ _ _ _ _ h2, Nat.mul_comm]; exact k0)
      have q1 := cell_regrown (show wr.cell? ⟨w.heap.size, n * 2 + 1, none⟩ = some (.int .u16 m) by rw [cell_of_row _ _ _ _ _ _ h1, Nat.mul_comm]; exact k1)
      have q3 := cell_regrown (show wr.cell? ⟨w.heap.size + 1, n * 2 + 1, none⟩ = some (.int .u16 m) by rw [cell_of_row _ _ _ _ _ _ h2, Nat.mul_comm]; exact k1)
      have cE : ∀ d os, Calls Tryz.prog 117 #[.agg #[.bool b, .int .u16 m], .agg #[.bool b, .int .u16 m]] (Sort.grow (redrawn wr d) os) fun e w'' => e = .returned (.bool true) ∧ ∃ p : Regrown, w'' = Sort.grow (redrawn wr p.d) p.os :=
        fun d os => Calls.regrown_of (eq_timer b m _)
      clear k0 k1
      go_upto_region 4 with fail
      refine wp_region_quiet_below (by kernel_rfl) (by kernel_rfl) ?_
      repeat (go_big_quiet_step (first | exact cE _ _))
      refine wpQuiet_nil ?_
      intro _ hw'
      obtain ⟨⟨dq, osq⟩, hw''⟩ := hw'
      subst hw''
      go_wp2
      go_roundg (gk - 1)
      case measure => omega
      case rel =>
        have g := below_regrown wr dq osq
        exact ⟨n + 1, by omega, by simp, hb.trans (g.mono hb.size), (g.block _ (by omega)).trans h1, (g.block _ (by omega)).trans h2⟩
    · have i1 : ¬ ((n : Int) < 16) := by omega
      go_wp2
      go_ret
      exact ⟨rfl, hb⟩

set_option maxRecDepth 10000 in
set_option maxHeartbeats 1000000 in
theorem eq_counters (c : Array Value) (hk : ∀ k, k < 16 → ∃ b l m, c[3 * k]? = some (.bool b) ∧ c[3 * k + 1]? = some (.bool l) ∧ c[3 * k + 2]? = some (.int .u16 m)) (w : World) : Calls Tryz.prog 63 #[.agg c, .agg c] w fun e w' => e = .returned (.bool true) ∧ Below w.heap.size w w' := by
  have HK : Hid (∀ k, k < 16 → ∃ b l m, c[3 * k]? = some (.bool b) ∧ c[3 * k + 1]? = some (.bool l) ∧ c[3 * k + 2]? = some (.int .u16 m)) := hk
  clear hk
  go_enter Tryz.func63, Tryz.ntmps63
  go_wp2
  go_loopg [5] 16 (fun g i wr => ∃ n : Nat, n + g = 16 ∧ i = .int .i64 n ∧ Below w.heap.size w wr ∧ wr.heap[w.heap.size]? = some (.cells c 31 (0, 0)) ∧ wr.heap[w.heap.size + 1]? = some (.cells c 31 (0, 0)))
  case atStart => exact ⟨0, by omega, rfl, ((Below.refl _ _).alloc (Nat.le_refl _) _).alloc (by simp) _, (rows2 w _ _).1, (rows2 w _ _).2⟩
  case round =>
    obtain ⟨n, hn, rfl, hb, h1, h2⟩ := hrel
    by_cases hlt : n < 16
    · have i1 : (n : Int) < 16 := by omega
      have i3 : (0 : Int) ≤ (n : Int) := by omega
      have Bl : w.heap.size + 1 < wr.heap.size := (Array.getElem?_eq_some_iff.1 h2).1
      obtain ⟨b, l, m, k0, k1, k2⟩ := HK.out n hlt
      have q0 := cell_regrown (show wr.cell? ⟨w.heap.size, n * 3, none⟩ = some (.bool b) by rw [cell_of_row _ _ _ _ _ _ h1, Nat.mul_comm]; exact k0)
      have q3 := cell_regrown (show wr.cell? ⟨w.heap.size + 1, n * 3, none⟩ = some (.bool b) by rw [cell_of_row _ _ _ _ _ _ h2, Nat.mul_comm]; exact k0)
      have q1 := cell_regrown (show wr.cell? ⟨w.heap.size, n * 3 + 1, none⟩ = some (.bool l) by rw [cell_of_row _ _ _ _ _ _ h1, Nat.mul_comm]; exact k1)
      have q4 := cell_regrown (show wr.cell? ⟨w.heap.size + 1, n * 3 + 1, none⟩ = some (.bool l) by rw [cell_of_row _ _ _ _ _ _ h2, Nat.mul_comm]; exact k1)
      have q2 := cell_regrown (show wr.cell? ⟨w.heap.size, n * 3 + 2, none⟩ = some (.int .u16 m) by rw [cell_of_row _ _ _ _ _ _ h1, Nat.mul_comm]; exact k2)
      have q5 := cell_regrown (show wr.cell? ⟨w.heap.size + 1, n * 3 + 2, none⟩ = some (.int .u16 m) by rw [cell_of_row _ _ _ _ _ _ h2, Nat.mul_comm]; exact k2)
      have cE : ∀ d os, Calls Tryz.prog 118 #[.agg #[.bool b, .bool l, .int .u16 m], .agg #[.bool b, .bool l, .int .u16 m]] (Sort.grow (redrawn wr d) os) fun e w'' => e = .returned (.bool true) ∧ ∃ p : Regrown, w'' = Sort.grow (redrawn wr p.d) p.os :=
        fun d os => Calls.regrown_of (eq_counter b l m _)
      clear k0 k1 k2
      go_upto_region 4 with fail
      refine wp_region_quiet_below (by kernel_rfl) (by kernel_rfl) ?_
      repeat (go_big_quiet_step (first | exact cE _ _))
      refine wpQuiet_nil ?_
      intro _ hw'
      obtain ⟨⟨dq, osq⟩, hw''⟩ := hw'
      subst hw''
      go_wp2
      go_roundg (gk - 1)
      case measure => omega
      case rel =>
        have g := below_regrown wr dq osq
        exact ⟨n + 1, by omega, by simp, hb.trans (g.mono hb.size), (g.block _ (by omega)).trans h1, (g.block _ (by omega)).trans h2⟩
    · have i1 : ¬ ((n : Int) < 16) := by omega
      go_wp2
      go_ret
      exact ⟨rfl, hb⟩

set_option maxRecDepth 10000 in
set_option maxHeartbeats 1000000 in
theorem eq_wholes (c : Array Value) (hk : ∀ k, k < 32 → ∃ m, c[k]? = some (.int .i16 m)) (w : World) : Calls Tryz.prog 64 #[.agg c, .agg c] w fun e w' => e = .returned (.bool true) ∧ Below w.heap.size w w' := by
  have HK : Hid (∀ k, k < 32 → ∃ m, c[k]? = some (.int .i16 m)) := hk
  clear hk
  go_enter Tryz.func64, Tryz.ntmps64
  go_wp2
  go_loopg [5] 32 (fun g i wr => ∃ n : Nat, n + g = 32 ∧ i = .int .i64 n ∧ Below w.heap.size w wr ∧ wr.heap[w.heap.size]? = some (.cells c 33 (0, 0)) ∧ wr.heap[w.heap.size + 1]? = some (.cells c 33 (0, 0)))
  case atStart => exact ⟨0, by omega, rfl, ((Below.refl _ _).alloc (Nat.le_refl _) _).alloc (by simp) _, (rows2 w _ _).1, (rows2 w _ _).2⟩
  case round =>
    obtain ⟨n, hn, rfl, hb, h1, h2⟩ := hrel
    by_cases hlt : n < 32
    · have i1 : (n : Int) < 32 := by omega
      have i3 : (0 : Int) ≤ (n : Int) := by omega
      have Bl : w.heap.size + 1 < wr.heap.size := (Array.getElem?_eq_some_iff.1 h2).1
      obtain ⟨m, k0⟩ := HK.out n hlt
      have q0 := cell_regrown (show wr.cell? ⟨w.heap.size, n, none⟩ = some (.int .i16 m) by rw [cell_of_row _ _ _ _ _ _ h1]; exact k0)
      have q1 := cell_regrown (show wr.cell? ⟨w.heap.size + 1, n, none⟩ = some (.int .i16 m) by rw [cell_of_row _ _ _ _ _ _ h2]; exact k0)
      clear k0
      go_upto_region 4 with fail
      refine wp_region_quiet_below (by kernel_rfl) (by kernel_rfl) ?_
      repeat (go_big_quiet_step (fail))
      refine wpQuiet_nil ?_
      intro _ hw'
      obtain ⟨⟨dq, osq⟩, hw''⟩ := hw'
      subst hw''
      go_wp2
      go_roundg (gk - 1)
      case measure => omega
      case rel =>
        have g := below_regrown wr dq osq
        exact ⟨n + 1, by omega, by simp, hb.trans (g.mono hb.size), (g.block _ (by omega)).trans h1, (g.block _ (by omega)).trans h2⟩
    · have i1 : ¬ ((n : Int) < 32) := by omega
      go_wp2
      go_ret
      exact ⟨rfl, hb⟩

set_option maxRecDepth 10000 in
set_option maxHeartbeats 1000000 in
theorem eq_reals (c d : Array Value) (hk : ∀ k, k < 16 → ∃ x y, c[k]? = some (.float .f64 x) ∧ d[k]? = some (.float .f64 y) ∧ (Lit.float .f64 x).wf = true ∧ Same x y) (w : World) : Calls Tryz.prog 65 #[.agg c, .agg d] w fun e w' => e = .returned (.bool true) ∧ Below w.heap.size w w' := by
  have HK : Hid (∀ k, k < 16 → ∃ x y, c[k]? = some (.float .f64 x) ∧ d[k]? = some (.float .f64 y) ∧ (Lit.float .f64 x).wf = true ∧ Same x y) := hk
  clear hk
  go_enter Tryz.func65, Tryz.ntmps65
  go_wp2
  go_loopg [5] 16 (fun g i wr => ∃ n : Nat, n + g = 16 ∧ i = .int .i64 n ∧ Below w.heap.size w wr ∧ wr.heap[w.heap.size]? = some (.cells c 35 (0, 0)) ∧ wr.heap[w.heap.size + 1]? = some (.cells d 35 (0, 0)))
  case atStart => exact ⟨0, by omega, rfl, ((Below.refl _ _).alloc (Nat.le_refl _) _).alloc (by simp) _, (rows2 w _ _).1, (rows2 w _ _).2⟩
  case round =>
    obtain ⟨n, hn, rfl, hb, h1, h2⟩ := hrel
    by_cases hlt : n < 16
    · have i1 : (n : Int) < 16 := by omega
      have i3 : (0 : Int) ≤ (n : Int) := by omega
      have Bl : w.heap.size + 1 < wr.heap.size := (Array.getElem?_eq_some_iff.1 h2).1
      obtain ⟨x, y, k0, k1, hx, hs⟩ := HK.out n hlt
      have q0 := cell_regrown (show wr.cell? ⟨w.heap.size, n, none⟩ = some (.float .f64 x) by rw [cell_of_row _ _ _ _ _ _ h1]; exact k0)
      have q1 := cell_regrown (show wr.cell? ⟨w.heap.size + 1, n, none⟩ = some (.float .f64 y) by rw [cell_of_row _ _ _ _ _ _ h2]; exact k1)
      have cE : ∀ d os, Calls Tryz.prog 119 #[.float .f64 x, .float .f64 y] (Sort.grow (redrawn wr d) os) fun e w'' => e = .returned (.bool true) ∧ ∃ p : Regrown, w'' = Sort.grow (redrawn wr p.d) p.os :=
        fun d os => Calls.regrown_of ((same_r x y _ hx hs).mono fun e w1 h => ⟨h.1, by rw [h.2]; exact Below.refl _ _⟩)
      clear k0 k1 hx hs
      go_upto_region 4 with fail
      refine wp_region_quiet_below (by kernel_rfl) (by kernel_rfl) ?_
      repeat (go_big_quiet_step (first | exact cE _ _))
      refine wpQuiet_nil ?_
      intro _ hw'
      obtain ⟨⟨dq, osq⟩, hw''⟩ := hw'
      subst hw''
      go_wp2
      go_roundg (gk - 1)
      case measure => omega
      case rel =>
        have g := below_regrown wr dq osq
        exact ⟨n + 1, by omega, by simp, hb.trans (g.mono hb.size), (g.block _ (by omega)).trans h1, (g.block _ (by omega)).trans h2⟩
    · have i1 : ¬ ((n : Int) < 16) := by omega
      go_wp2
      go_ret
      exact ⟨rfl, hb⟩

end Go.Proofs.YtjnddfpieogpiaaGreatDoor
