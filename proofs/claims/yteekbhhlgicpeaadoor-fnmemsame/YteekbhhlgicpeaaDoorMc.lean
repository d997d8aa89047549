/- A memory copied field by field: toMem, toDevArg of the laws. -/
import Derived.Test.YteekbhhlgicpeaaDoorRows
import Derived.Test.YteekbhhlgicpeaaDoorMb
import Derived.WalkKit
import Derived.ProofKit
import Derived.Handy
import Derived.WalkLawsBesides
import Derived.Deep.QuietTactic
import Derived.BigQuiet
import Derived.Deep.RegionWith
import Derived.WalkSpells
import Derived.Deep.LoopGhost
namespace Go.Proofs.YteekbhhlgicpeaaDoor
open Go.RowKit
set_option linter.unusedVariables false

set_option maxHeartbeats 1000000 in
theorem to_timer (b : Bool) (n : Int) (w : World) : Calls Tryd.prog 59 #[.agg #[.bool b, .int .u16 n]] w fun e w' => e = .returned (.agg #[.bool b, .int .u16 n]) ∧ Below w.heap.size w w' := by
  go_enter Tryd.func59, Tryd.ntmps59
  go_wp2
  go_returns
  exact ⟨rfl, by go_grown⟩

set_option maxHeartbeats 1000000 in
theorem to_counter (b l : Bool) (n : Int) (w : World) : Calls Tryd.prog 60 #[.agg #[.bool b, .bool l, .int .u16 n]] w fun e w' => e = .returned (.agg #[.bool b, .bool l, .int .u16 n]) ∧ Below w.heap.size w w' := by
  go_enter Tryd.func60, Tryd.ntmps60
  go_wp2
  go_returns
  exact ⟨rfl, by go_grown⟩

set_option maxRecDepth 10000 in
set_option maxHeartbeats 1000000 in
theorem to_timers (c : Array Value) (hc : c.size = 32) (ho : c.all (·.oneCell') = true) (hk : ∀ k, k < 16 → ∃ b m, c[2 * k]? = some (.bool b) ∧ c[2 * k + 1]? = some (.int .u16 m)) (w : World) : Calls Tryd.prog 29 #[.agg c] w fun e w' => e = .returned (.agg c) ∧ Below w.heap.size w w' := by
  have HC : Hid (c.size = 32) := hc
  have HK : Hid (∀ k, k < 16 → ∃ b m, c[2 * k]? = some (.bool b) ∧ c[2 * k + 1]? = some (.int .u16 m)) := hk
  have HO : Hid (c.all (·.oneCell') = true) := ho
  clear hk hc ho
  go_enter Tryd.func29, Tryd.ntmps29
  go_wp2
  go_loopg [4] 16 (fun g i wr => ∃ n : Nat, n + g = 16 ∧ i = .int .i64 n ∧ Below w.heap.size w wr ∧ wr.heap[w.heap.size]? = some (.cells c 44 (0, 0)) ∧
    ∃ C D : Array Value, wr.heap[w.heap.size + 1]? = some (.cells D 28 (0, 0)) ∧ D.size = 32 ∧ wr.heap[w.heap.size + 1 + 1]? = some (.cells C 28 (0, 0)) ∧ C.size = 32 ∧ ∀ j, j < n * 2 → C[j]? = c[j]?)
  case atStart =>
    refine ⟨0, by omega, rfl, (((Below.refl _ _).alloc (Nat.le_refl _) _).alloc (by simp) _).alloc (by simp <;> omega) _, (rows3 w _ _ _).1, _, _, (rows3 w _ _ _).2.1, rfl, (rows3 w _ _ _).2.2, rfl, fun j hj => by omega⟩
  case round =>
    obtain ⟨n, hn, rfl, hb, h1, C, D, h2, hD, h3, hC, hcs⟩ := hrel
    by_cases hlt : n < 16
    · have i1 : (n : Int) < 16 := by omega
      have i3 : (0 : Int) ≤ (n : Int) := by omega
      obtain ⟨b, m, k0, k1⟩ := HK.out n hlt
      have r0 : wr.cell? ⟨w.heap.size, n * 2, none⟩ = some (.bool b) := by rw [cell_of_row _ _ _ _ _ _ h1, Nat.mul_comm]; exact k0
      have r1 : wr.cell? ⟨w.heap.size, n * 2 + 1, none⟩ = some (.int .u16 m) := by rw [cell_of_row _ _ _ _ _ _ h1, Nat.mul_comm]; exact k1
      have Bl : w.heap.size + 1 + 1 < wr.heap.size := (Array.getElem?_eq_some_iff.1 h3).1
      go_wp2_with fail
      refine (to_timer b m _).mono ?_
      rintro e w4 ⟨rfl, g4⟩
      have h1' := (g4.block _ (by omega)).trans h1
      have h2' := (g4.block _ (by omega)).trans h2
      have h3' := (g4.block _ (by omega)).trans h3
      have b4 := hb.trans (g4.mono hb.size)
      have c0 : w4.cell? ⟨w.heap.size + 1 + 1, n * 2, none⟩ = some (C[n * 2]'(by omega)) := by rw [cell_of_row _ _ _ _ _ _ h3']; exact Array.getElem?_eq_getElem (by omega)
      have f0 : w4.frozen? ⟨w.heap.size + 1 + 1, n * 2, none⟩ = false := by simp [World.frozen?, h3']
      have c1 : w4.cell? ⟨w.heap.size + 1 + 1, n * 2 + 1, none⟩ = some (C[n * 2 + 1]'(by omega)) := by rw [cell_of_row _ _ _ _ _ _ h3']; exact Array.getElem?_eq_getElem (by omega)
      have f1 : w4.frozen? ⟨w.heap.size + 1 + 1, n * 2 + 1, none⟩ = false := by simp [World.frozen?, h3']
      clear g4 r0 r1
      go_wp2
      go_roundg (gk - 1)
      case measure => omega
      case rel =>
        refine ⟨n + 1, by omega, by simp, ((b4.setCell (p := ⟨w.heap.size + 1 + 1, n * 2, none⟩) (by simp <;> omega) _).setCell (p := ⟨w.heap.size + 1 + 1, n * 2 + 1, none⟩) (by simp <;> omega) _), (row_other (row_other h1' _ _ (by omega) _) _ _ (by omega) _), _, _, (row_other (row_other h2' _ _ (by omega) _) _ _ (by omega) _), hD, (row_put (row_put h3' _ _) _ _), by simpa using hC, ?_⟩
        intro j hj
        by_cases j0 : j = n * 2
        · subst j0
          rw [Array.getElem?_setIfInBounds_ne (by omega), Array.getElem?_setIfInBounds_self_of_lt (by simpa using by omega), Nat.mul_comm]
          exact k0.symm
        by_cases j1 : j = n * 2 + 1
        · subst j1
          rw [Array.getElem?_setIfInBounds_self_of_lt (by simpa using by omega), Nat.mul_comm]
          exact k1.symm
        rw [Array.getElem?_setIfInBounds_ne (by omega), Array.getElem?_setIfInBounds_ne (by omega)]
        exact hcs j (by omega)
    · have i1 : ¬ ((n : Int) < 16) := by omega
      obtain rfl : C = c := by
        apply Array.ext_getElem?
        intro j
        by_cases hj : j < n * 2
        · exact hcs j hj
        · have := HC.out
          rw [Array.getElem?_eq_none (by omega), Array.getElem?_eq_none (by omega)]
      clear hcs
      have HD : Hid (D.size = 32) := hD
      clear hD hC
      have h1s : (Tryd.prog.info? 28).map (·.size) = some 32 := by kernel_rfl
      go_wp2_with (first | (refine wpL_load rfl 28 _ rfl _ _ rfl _ (load_all h3 _ _ Tryd.underlying28 rfl (by rw [HC.out]; exact h1s)) ?_) | (refine wpL_store rfl 28 _ _ rfl _ _ rfl _ rfl _ (store_all h2 _ _ (by rw [HC.out, HD.out]) (by rw [HC.out]; exact h1s) HO.out) ?_) | fail)
      exact ret_row rfl rfl (row_set h2 _) Tryd.underlying28 rfl (by rw [HC.out]; exact h1s) rfl ⟨rfl, below_setRow hb (by omega) _⟩

set_option maxRecDepth 10000 in
set_option maxHeartbeats 1000000 in
theorem to_counters (c : Array Value) (hc : c.size = 48) (ho : c.all (·.oneCell') = true) (hk : ∀ k, k < 16 → ∃ b l m, c[3 * k]? = some (.bool b) ∧ c[3 * k + 1]? = some (.bool l) ∧ c[3 * k + 2]? = some (.int .u16 m)) (w : World) : Calls Tryd.prog 30 #[.agg c] w fun e w' => e = .returned (.agg c) ∧ Below w.heap.size w w' := by
  have HC : Hid (c.size = 48) := hc
  have HK : Hid (∀ k, k < 16 → ∃ b l m, c[3 * k]? = some (.bool b) ∧ c[3 * k + 1]? = some (.bool l) ∧ c[3 * k + 2]? = some (.int .u16 m)) := hk
  have HO : Hid (c.all (·.oneCell') = true) := ho
  clear hk hc ho
  go_enter Tryd.func30, Tryd.ntmps30
  go_wp2
  go_loopg [4] 16 (fun g i wr => ∃ n : Nat, n + g = 16 ∧ i = .int .i64 n ∧ Below w.heap.size w wr ∧ wr.heap[w.heap.size]? = some (.cells c 46 (0, 0)) ∧
    ∃ C D : Array Value, wr.heap[w.heap.size + 1]? = some (.cells D 31 (0, 0)) ∧ D.size = 48 ∧ wr.heap[w.heap.size + 1 + 1]? = some (.cells C 31 (0, 0)) ∧ C.size = 48 ∧ ∀ j, j < n * 3 → C[j]? = c[j]?)
  case atStart =>
    refine ⟨0, by omega, rfl, (((Below.refl _ _).alloc (Nat.le_refl _) _).alloc (by simp) _).alloc (by simp <;> omega) _, (rows3 w _ _ _).1, _, _, (rows3 w _ _ _).2.1, rfl, (rows3 w _ _ _).2.2, rfl, fun j hj => by omega⟩
  case round =>
    obtain ⟨n, hn, rfl, hb, h1, C, D, h2, hD, h3, hC, hcs⟩ := hrel
    by_cases hlt : n < 16
    · have i1 : (n : Int) < 16 := by omega
      have i3 : (0 : Int) ≤ (n : Int) := by omega
      obtain ⟨b, l, m, k0, k1, k2⟩ := HK.out n hlt
      have r0 : wr.cell? ⟨w.heap.size, n * 3, none⟩ = some (.bool b) := by rw [cell_of_row _ _ _ _ _ _ h1, Nat.mul_comm]; exact k0
      have r1 : wr.cell? ⟨w.heap.size, n * 3 + 1, none⟩ = some (.bool l) := by rw [cell_of_row _ _ _ _ _ _ h1, Nat.mul_comm]; exact k1
      have r2 : wr.cell? ⟨w.heap.size, n * 3 + 2, none⟩ = some (.int .u16 m) := by rw [cell_of_row _ _ _ _ _ _ h1, Nat.mul_comm]; exact k2
      have Bl : w.heap.size + 1 + 1 < wr.heap.size := (Array.getElem?_eq_some_iff.1 h3).1
      go_wp2_with fail
      refine (to_counter b l m _).mono ?_
      rintro e w4 ⟨rfl, g4⟩
      have h1' := (g4.block _ (by omega)).trans h1
      have h2' := (g4.block _ (by omega)).trans h2
      have h3' := (g4.block _ (by omega)).trans h3
      have b4 := hb.trans (g4.mono hb.size)
      have c0 : w4.cell? ⟨w.heap.size + 1 + 1, n * 3, none⟩ = some (C[n * 3]'(by omega)) := by rw [cell_of_row _ _ _ _ _ _ h3']; exact Array.getElem?_eq_getElem (by omega)
      have f0 : w4.frozen? ⟨w.heap.size + 1 + 1, n * 3, none⟩ = false := by simp [World.frozen?, h3']
      have c1 : w4.cell? ⟨w.heap.size + 1 + 1, n * 3 + 1, none⟩ = some (C[n * 3 + 1]'(by omega)) := by rw [cell_of_row _ _ _ _ _ _ h3']; exact Array.getElem?_eq_getElem (by omega)
      have f1 : w4.frozen? ⟨w.heap.size + 1 + 1, n * 3 + 1, none⟩ = false := by simp [World.frozen?, h3']
      have c2 : w4.cell? ⟨w.heap.size + 1 + 1, n * 3 + 2, none⟩ = some (C[n * 3 + 2]'(by omega)) := by rw [cell_of_row _ _ _ _ _ _ h3']; exact Array.getElem?_eq_getElem (by omega)
      have f2 : w4.frozen? ⟨w.heap.size + 1 + 1, n * 3 + 2, none⟩ = false := by simp [World.frozen?, h3']
      clear g4 r0 r1 r2
      go_wp2
      go_roundg (gk - 1)
      case measure => omega
      case rel =>
        refine ⟨n + 1, by omega, by simp, (((b4.setCell (p := ⟨w.heap.size + 1 + 1, n * 3, none⟩) (by simp <;> omega) _).setCell (p := ⟨w.heap.size + 1 + 1, n * 3 + 1, none⟩) (by simp <;> omega) _).setCell (p := ⟨w.heap.size + 1 + 1, n * 3 + 2, none⟩) (by simp <;> omega) _), (row_other (row_other (row_other h1' _ _ (by omega) _) _ _ (by omega) _) _ _ (by omega) _), _, _, (row_other (row_other (row_other h2' _ _ (by omega) _) _ _ (by omega) _) _ _ (by omega) _), hD, (row_put (row_put (row_put h3' _ _) _ _) _ _), by simpa using hC, ?_⟩
        intro j hj
        by_cases j0 : j = n * 3
        · subst j0
          rw [Array.getElem?_setIfInBounds_ne (by omega), Array.getElem?_setIfInBounds_ne (by omega), Array.getElem?_setIfInBounds_self_of_lt (by simpa using by omega), Nat.mul_comm]
          exact k0.symm
        by_cases j1 : j = n * 3 + 1
        · subst j1
          rw [Array.getElem?_setIfInBounds_ne (by omega), Array.getElem?_setIfInBounds_self_of_lt (by simpa using by omega), Nat.mul_comm]
          exact k1.symm
        by_cases j2 : j = n * 3 + 2
        · subst j2
          rw [Array.getElem?_setIfInBounds_self_of_lt (by simpa using by omega), Nat.mul_comm]
          exact k2.symm
        rw [Array.getElem?_setIfInBounds_ne (by omega), Array.getElem?_setIfInBounds_ne (by omega), Array.getElem?_setIfInBounds_ne (by omega)]
        exact hcs j (by omega)
    · have i1 : ¬ ((n : Int) < 16) := by omega
      obtain rfl : C = c := by
        apply Array.ext_getElem?
        intro j
        by_cases hj : j < n * 3
        · exact hcs j hj
        · have := HC.out
          rw [Array.getElem?_eq_none (by omega), Array.getElem?_eq_none (by omega)]
      clear hcs
      have HD : Hid (D.size = 48) := hD
      clear hD hC
      have h1s : (Tryd.prog.info? 31).map (·.size) = some 48 := by kernel_rfl
      go_wp2_with (first | (refine wpL_load rfl 31 _ rfl _ _ rfl _ (load_all h3 _ _ Tryd.underlying31 rfl (by rw [HC.out]; exact h1s)) ?_) | (refine wpL_store rfl 31 _ _ rfl _ _ rfl _ rfl _ (store_all h2 _ _ (by rw [HC.out, HD.out]) (by rw [HC.out]; exact h1s) HO.out) ?_) | fail)
      exact ret_row rfl rfl (row_set h2 _) Tryd.underlying31 rfl (by rw [HC.out]; exact h1s) rfl ⟨rfl, below_setRow hb (by omega) _⟩

set_option maxRecDepth 10000 in
set_option maxHeartbeats 1000000 in
theorem to_wholes (c : Array Value) (hc : c.size = 32) (ho : c.all (·.oneCell') = true) (hk : ∀ k, k < 32 → ∃ m, c[k]? = some (.int .i16 m)) (w : World) : Calls Tryd.prog 31 #[.agg c] w fun e w' => e = .returned (.agg c) ∧ Below w.heap.size w w' := by
  have HC : Hid (c.size = 32) := hc
  have HK : Hid (∀ k, k < 32 → ∃ m, c[k]? = some (.int .i16 m)) := hk
  have HO : Hid (c.all (·.oneCell') = true) := ho
  clear hk hc ho
  go_enter Tryd.func31, Tryd.ntmps31
  go_wp2
  go_loopg [4] 32 (fun g i wr => ∃ n : Nat, n + g = 32 ∧ i = .int .i64 n ∧ Below w.heap.size w wr ∧ wr.heap[w.heap.size]? = some (.cells c 33 (0, 0)) ∧
    ∃ C D : Array Value, wr.heap[w.heap.size + 1]? = some (.cells D 33 (0, 0)) ∧ D.size = 32 ∧ wr.heap[w.heap.size + 1 + 1]? = some (.cells C 33 (0, 0)) ∧ C.size = 32 ∧ ∀ j, j < n → C[j]? = c[j]?)
  case atStart =>
    refine ⟨0, by omega, rfl, (((Below.refl _ _).alloc (Nat.le_refl _) _).alloc (by simp) _).alloc (by simp <;> omega) _, (rows3 w _ _ _).1, _, _, (rows3 w _ _ _).2.1, rfl, (rows3 w _ _ _).2.2, rfl, fun j hj => by omega⟩
  case round =>
    obtain ⟨n, hn, rfl, hb, h1, C, D, h2, hD, h3, hC, hcs⟩ := hrel
    by_cases hlt : n < 32
    · have i1 : (n : Int) < 32 := by omega
      have i3 : (0 : Int) ≤ (n : Int) := by omega
      obtain ⟨m, k0⟩ := HK.out n hlt
      have r0 : wr.cell? ⟨w.heap.size, n, none⟩ = some (.int .i16 m) := by rw [cell_of_row _ _ _ _ _ _ h1]; exact k0
      have Bl : w.heap.size + 1 + 1 < wr.heap.size := (Array.getElem?_eq_some_iff.1 h3).1
      have h1' := h1
      have h2' := h2
      have h3' := h3
      have b4 := hb
      have c0 : wr.cell? ⟨w.heap.size + 1 + 1, n, none⟩ = some (C[n]'(by omega)) := by rw [cell_of_row _ _ _ _ _ _ h3']; exact Array.getElem?_eq_getElem (by omega)
      have f0 : wr.frozen? ⟨w.heap.size + 1 + 1, n, none⟩ = false := by simp [World.frozen?, h3']
      go_wp2
      go_roundg (gk - 1)
      case measure => omega
      case rel =>
        refine ⟨n + 1, by omega, by simp, (b4.setCell (p := ⟨w.heap.size + 1 + 1, n, none⟩) (by simp <;> omega) _), (row_other h1' _ _ (by omega) _), _, _, (row_other h2' _ _ (by omega) _), hD, (row_put h3' _ _), by simpa using hC, ?_⟩
        intro j hj
        by_cases j0 : j = n
        · subst j0
          rw [Array.getElem?_setIfInBounds_self_of_lt (by simpa using by omega)]
          exact k0.symm
        rw [Array.getElem?_setIfInBounds_ne (by omega)]
        exact hcs j (by omega)
    · have i1 : ¬ ((n : Int) < 32) := by omega
      obtain rfl : C = c := by
        apply Array.ext_getElem?
        intro j
        by_cases hj : j < n
        · exact hcs j hj
        · have := HC.out
          rw [Array.getElem?_eq_none (by omega), Array.getElem?_eq_none (by omega)]
      clear hcs
      have HD : Hid (D.size = 32) := hD
      clear hD hC
      have h1s : (Tryd.prog.info? 33).map (·.size) = some 32 := by kernel_rfl
      go_wp2_with (first | (refine wpL_load rfl 33 _ rfl _ _ rfl _ (load_all h3 _ _ Tryd.underlying33 rfl (by rw [HC.out]; exact h1s)) ?_) | (refine wpL_store rfl 33 _ _ rfl _ _ rfl _ rfl _ (store_all h2 _ _ (by rw [HC.out, HD.out]) (by rw [HC.out]; exact h1s) HO.out) ?_) | fail)
      exact ret_row rfl rfl (row_set h2 _) Tryd.underlying33 rfl (by rw [HC.out]; exact h1s) rfl ⟨rfl, below_setRow hb (by omega) _⟩

set_option maxRecDepth 10000 in
set_option maxHeartbeats 1000000 in
theorem to_reals (c : Array Value) (hc : c.size = 16) (ho : c.all (·.oneCell') = true) (hk : ∀ k, k < 16 → ∃ x, c[k]? = some (.float .f64 x)) (w : World) : Calls Tryd.prog 32 #[.agg c] w fun e w' => e = .returned (.agg c) ∧ Below w.heap.size w w' := by
  have HC : Hid (c.size = 16) := hc
  have HK : Hid (∀ k, k < 16 → ∃ x, c[k]? = some (.float .f64 x)) := hk
  have HO : Hid (c.all (·.oneCell') = true) := ho
  clear hk hc ho
  go_enter Tryd.func32, Tryd.ntmps32
  go_wp2
  go_loopg [4] 16 (fun g i wr => ∃ n : Nat, n + g = 16 ∧ i = .int .i64 n ∧ Below w.heap.size w wr ∧ wr.heap[w.heap.size]? = some (.cells c 35 (0, 0)) ∧
    ∃ C D : Array Value, wr.heap[w.heap.size + 1]? = some (.cells D 35 (0, 0)) ∧ D.size = 16 ∧ wr.heap[w.heap.size + 1 + 1]? = some (.cells C 35 (0, 0)) ∧ C.size = 16 ∧ ∀ j, j < n → C[j]? = c[j]?)
  case atStart =>
    refine ⟨0, by omega, rfl, (((Below.refl _ _).alloc (Nat.le_refl _) _).alloc (by simp) _).alloc (by simp <;> omega) _, (rows3 w _ _ _).1, _, _, (rows3 w _ _ _).2.1, rfl, (rows3 w _ _ _).2.2, rfl, fun j hj => by omega⟩
  case round =>
    obtain ⟨n, hn, rfl, hb, h1, C, D, h2, hD, h3, hC, hcs⟩ := hrel
    by_cases hlt : n < 16
    · have i1 : (n : Int) < 16 := by omega
      have i3 : (0 : Int) ≤ (n : Int) := by omega
      obtain ⟨x, k0⟩ := HK.out n hlt
      have r0 : wr.cell? ⟨w.heap.size, n, none⟩ = some (.float .f64 x) := by rw [cell_of_row _ _ _ _ _ _ h1]; exact k0
      have Bl : w.heap.size + 1 + 1 < wr.heap.size := (Array.getElem?_eq_some_iff.1 h3).1
      have h1' := h1
      have h2' := h2
      have h3' := h3
      have b4 := hb
      have c0 : wr.cell? ⟨w.heap.size + 1 + 1, n, none⟩ = some (C[n]'(by omega)) := by rw [cell_of_row _ _ _ _ _ _ h3']; exact Array.getElem?_eq_getElem (by omega)
      have f0 : wr.frozen? ⟨w.heap.size + 1 + 1, n, none⟩ = false := by simp [World.frozen?, h3']
      have st0 : (store ⟨w.heap.size + 1 + 1, n, none⟩ (.float .f64 x)).run Tryd.prog wr = .ok () (wr.setCell ⟨w.heap.size + 1 + 1, n, none⟩ (.float .f64 x)) := by rw [run_store _ _ _ _ _ rfl, c0]; simp [f0]
      go_wp2
      go_roundg (gk - 1)
      case measure => omega
      case rel =>
        refine ⟨n + 1, by omega, by simp, (b4.setCell (p := ⟨w.heap.size + 1 + 1, n, none⟩) (by simp <;> omega) _), (row_other h1' _ _ (by omega) _), _, _, (row_other h2' _ _ (by omega) _), hD, (row_put h3' _ _), by simpa using hC, ?_⟩
        intro j hj
        by_cases j0 : j = n
        · subst j0
          rw [Array.getElem?_setIfInBounds_self_of_lt (by simpa using by omega)]
          exact k0.symm
        rw [Array.getElem?_setIfInBounds_ne (by omega)]
        exact hcs j (by omega)
    · have i1 : ¬ ((n : Int) < 16) := by omega
      obtain rfl : C = c := by
        apply Array.ext_getElem?
        intro j
        by_cases hj : j < n
        · exact hcs j hj
        · have := HC.out
          rw [Array.getElem?_eq_none (by omega), Array.getElem?_eq_none (by omega)]
      clear hcs
      have HD : Hid (D.size = 16) := hD
      clear hD hC
      have h1s : (Tryd.prog.info? 35).map (·.size) = some 16 := by kernel_rfl
      go_wp2_with (first | (refine wpL_load rfl 35 _ rfl _ _ rfl _ (load_all h3 _ _ Tryd.underlying35 rfl (by rw [HC.out]; exact h1s)) ?_) | (refine wpL_store rfl 35 _ _ rfl _ _ rfl _ rfl _ (store_all h2 _ _ (by rw [HC.out, HD.out]) (by rw [HC.out]; exact h1s) HO.out) ?_) | fail)
      exact ret_row rfl rfl (row_set h2 _) Tryd.underlying35 rfl (by rw [HC.out]; exact h1s) rfl ⟨rfl, below_setRow hb (by omega) _⟩

end Go.Proofs.YteekbhhlgicpeaaDoor
