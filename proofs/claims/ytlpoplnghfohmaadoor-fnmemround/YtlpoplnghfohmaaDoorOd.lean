/- The law FnMemRound: its walk. -/
import Derived.Test.YtlpoplnghfohmaaDoorOc
import Derived.Test.YtlpoplnghfohmaaDoorMi
import Derived.Test.YtlpoplnghfohmaaDoorMk
import Derived.Test.YtlpoplnghfohmaaDoorWs
import Derived.Lib.QuietBelow
namespace Go.Proofs.YtlpoplnghfohmaaDoor
open Go.RowKit Go.Shelf
set_option linter.unusedVariables false

theorem pl_on (k n : Int) (j : Int) : pl k (n + j * kZ k) = pl k n := by
  unfold pl
  split
  · rfl
  · exact Int.add_mul_emod_self_right n j (kZ k)
theorem pl_far (k n s : Int) (h : s = kZ k) : pl k (n + s) = pl k n ∧ pl k (n - 3 * s) = pl k n := by
  subst h
  refine ⟨?_, ?_⟩
  · have := pl_on k n 1
    rwa [Int.one_mul] at this
  · have := pl_on k n (-3)
    rwa [show n + -3 * kZ k = n - 3 * kZ k by omega] at this
theorem mbit_pl {c : Array Value} {k n n' : Int} (h : pl k n' = pl k n) : mbit c k n' = mbit c k n := by unfold mbit; rw [h]
theorem mwhole_pl {c : Array Value} {k n n' : Int} (h : pl k n' = pl k n) (hk : k ≠ 11) : mwhole c k n' = mwhole c k n := by unfold mwhole; rw [h, if_neg hk, if_neg hk]
/-- The real number that a device asks for. -/
def mreal (c : Array Value) (k n : Int) : Nat := if k = 10 then (match c[117 + (pl k n).toNat]? with | some (.float _ v) => v | _ => 0) else 0
theorem mreal_of {c : Array Value} {k n p : Int} {v : Nat} (h : MRv c k n p v) (h2 : k ≠ 12) (h3 : k ≠ 13) : v = mreal c k n := by
  unfold mreal
  rcases h with ⟨rfl, h⟩ | ⟨hk, h⟩
  · rw [if_pos rfl, h]
  · rw [if_neg hk]
    rcases h with ⟨_, h⟩ | ⟨_, h, _⟩ | ⟨_, h, _⟩ | ⟨_, _, _, h⟩
    · exact h
    · exact absurd h h3
    · exact absurd h h2
    · exact h
theorem mreal_pl {c : Array Value} {k n n' : Int} (h : pl k n' = pl k n) : mreal c k n' = mreal c k n := by unfold mreal; rw [h]
theorem kZ_in {k : Int} (h : kZ k ≠ 0) : 1 ≤ k ∧ k ≤ 10 := by
  unfold kZ kS at h
  by_cases h1 : 1 ≤ k ∧ k ≤ 10
  · exact h1
  · exfalso
    rw [if_neg (by omega), if_neg (by omega), if_neg (by omega), if_neg (by omega), if_neg (by omega), if_neg (by omega), if_neg (by omega), if_neg (by omega), if_neg (by omega), if_neg (by omega), if_neg (by omega)] at h
    exact h rfl

set_option maxRecDepth 10000 in
set_option maxHeartbeats 8000000 in
theorem law_round {a : Option Addr} {len cap blk off : Nat} {z : Nat → Int} (w : World) (hT : KT w) (h : Code0 w a len cap blk off z) :
    Calls Tryd.prog 4 #[.slice a len cap] w fun e w' => e = .returned (.bool true) ∧ Below w.heap.size w w' := by
  have HT : Hid (KT w) := hT
  have hl := h.short
  have hz := zero_mem.1
  obtain ⟨Z, HZ⟩ : ∃ Z, Hid (Z = memZero) := ⟨_, rfl⟩
  rw [← HZ.out] at hz
  have HZs : Hid (Z.size = 136) := (by rw [HZ.out, memZero_size] : Z.size = 136)
  clear hT
  go_enter Tryd.func4, Tryd.ntmps4
  go_wp2_with fail
  refine (drawbit_r w h).mono ?_
  rintro e w1 ⟨⟨c, k, n, m, hc, n0, n1, rfl⟩, b1⟩
  have HC : Hid (MemOk c) := hc
  have HI : Hid ((Tryd.prog.info? 37).map (·.size) = some c.size) := by rw [HC.out.size]; exact zero_mem.2
  obtain ⟨u1, HU1⟩ : ∃ u, Hid (u = ((w1.alloc (.cells Z 37)).alloc (.cells #[.int .i64 0, .int .i64 0, .int .i64 0] 39)).setRow w1.heap.size c) := ⟨_, rfl⟩
  have HS1 : Hid ((storeVar 37 ⟨w1.heap.size, 0, none⟩ (.agg c)).run Tryd.prog ((w1.alloc (.cells Z 37)).alloc (.cells #[.int .i64 0, .int .i64 0, .int .i64 0] 39)) = .ok () u1) := by
    rw [HU1.out]; exact store_all (rows2 w1 _ _).1 _ _ (HZs.out.trans hc.size.symm) HI.out hc.one
  obtain ⟨u2, HU2⟩ : ∃ u, Hid (u = u1.setRow (w1.heap.size + 1) #[.int .i64 k, .int .i64 n, .int .i64 m]) := ⟨_, rfl⟩
  have HS2 : Hid ((storeVar 39 ⟨w1.heap.size + 1, 0, none⟩ (.agg #[.int .i64 k, .int .i64 n, .int .i64 m])).run Tryd.prog u1 = .ok () u2) := by
    have hh : u1.heap[w1.heap.size + 1]? = some (.cells #[.int .i64 0, .int .i64 0, .int .i64 0] 39 (0, 0)) := by rw [HU1.out]; exact row_beside (rows2 w1 (.cells Z 37) (.cells #[.int .i64 0, .int .i64 0, .int .i64 0] 39)).2 w1.heap.size (by omega) c
    rw [HU2.out]; exact store_all hh _ _ rfl arg_size (int3_one k n m)
  have h1 : u2.heap[w1.heap.size]? = some (.cells c 37 (0, 0)) := by rw [HU2.out, HU1.out]; exact row_beside (row_set (rows2 w1 (.cells Z 37) (.cells #[.int .i64 0, .int .i64 0, .int .i64 0] 39)).1 c) (w1.heap.size + 1) (by omega) _
  have h2 : u2.heap[w1.heap.size + 1]? = some (.cells #[.int .i64 k, .int .i64 n, .int .i64 m] 39 (0, 0)) := by rw [HU2.out, HU1.out]; exact row_set (row_beside (rows2 w1 (.cells Z 37) (.cells #[.int .i64 0, .int .i64 0, .int .i64 0] 39)).2 w1.heap.size (by omega) c) _
  have hb : Below w.heap.size w u2 := by rw [HU2.out, HU1.out]; exact below_setRow (below_setRow ((b1.alloc b1.size _).alloc (by have := b1.size; simp; omega) _) b1.size _) (by have := b1.size; omega) _
  have y0 : u2.cell? ⟨w1.heap.size + 1, 0, none⟩ = some (.int .i64 k) := (cell_of_row _ _ _ _ _ _ h2).trans rfl
  have y1 : u2.cell? ⟨w1.heap.size + 1, 1, none⟩ = some (.int .i64 n) := (cell_of_row _ _ _ _ _ _ h2).trans rfl
  have y2 : u2.cell? ⟨w1.heap.size + 1, 2, none⟩ = some (.int .i64 m) := (cell_of_row _ _ _ _ _ _ h2).trans rfl
  have HB : Hid (Below w.heap.size w u2) := hb
  have H1 : Hid (u2.heap[w1.heap.size]? = some (.cells c 37 (0, 0))) := h1
  have H2 : Hid (u2.heap[w1.heap.size + 1]? = some (.cells #[.int .i64 k, .int .i64 n, .int .i64 m] 39 (0, 0))) := h2
  clear hc b1 HU1 HU2 h1 h2 hb h
  go_wp2_with (first | (refine wpL_store rfl 37 _ _ rfl _ _ rfl _ rfl _ HS1.out ?_) | (refine wpL_store rfl 39 _ _ rfl _ _ rfl _ rfl _ HS2.out ?_) | fail)
  refine (spec_size k _).mono ?_
  rintro e w2 ⟨rfl, hw2⟩
  subst hw2
  clear HS1 HS2 hz
  obtain ⟨s, HSZ0⟩ : ∃ s, Hid (s = kS k) := ⟨_, rfl⟩
  rw [← HSZ0.out]
  by_cases h6 : k = 6
  · have e6 : (k == 6) = true := by simp [h6]
    have HSZ : Hid ((8 : Int) = kZ k) := by rw [h6]; rfl
    clear h6 HSZ0
    by_cases hn1 : 1000 < n
    · skip
      go_upto_region 8 with fail
      obtain ⟨v, Hv⟩ : ∃ v, Hid (v = mbit c k n) := ⟨_, rfl⟩
      have q0 := cell_regrown y0
      have q1 := cell_regrown y1
      have q2 := cell_regrown y2
      have cS : ∀ d os, Calls Tryd.prog 15 #[.agg c, .agg #[.int .i64 k, .int .i64 n, .int .i64 m]] (Sort.grow (redrawn w2 d) os) fun e w'' => e = .returned (.bool v) ∧ ∃ p : Regrown, w'' = Sort.grow (redrawn w2 p.d) p.os := fun d os => Calls.regrown_of (by rw [Hv.out]; exact mbit_s c HC.out k n m _)
      have cI : ∀ d os, Calls Tryd.prog 8 #[.agg c, .agg #[.int .i64 k, .int .i64 n, .int .i64 m]] (Sort.grow (redrawn w2 d) os) fun e w'' => e = .returned (.bool v) ∧ ∃ p : Regrown, w'' = Sort.grow (redrawn w2 p.d) p.os := fun d os => Calls.regrown_of (by rw [Hv.out]; exact mbit_i c HC.out k n m _ ((HT.out.later HB.out).later (below_regrown w2 d os)))
      refine wp_region_quiet_below (by kernel_rfl) (by kernel_rfl) ?_
      repeat (first | (refine wpQ_load rfl 37 _ rfl _ _ rfl (.agg c) (fun W hW => load_all (row_regrown H1.out hW) _ _ Tryd.underlying37 rfl HI.out) ?_; simp only [Act.put, List.setIfInBounds_toArray, List.set_cons_succ, List.set_cons_zero]) | go_big_quiet_step (first | exact cS _ _ | exact cI _ _))
      refine wpQuiet_nil ?_
      intro _ hw'
      obtain ⟨⟨dq, osq⟩, hw''⟩ := hw'
      subst hw''
      go_wp2
      go_ret
      exact ⟨by simp, HB.out.trans ((below_regrown w2 dq osq).mono HB.out.size)⟩
    by_cases hn2 : n < -1000
    · skip
      go_upto_region 8 with fail
      obtain ⟨v, Hv⟩ : ∃ v, Hid (v = mbit c k n) := ⟨_, rfl⟩
      have q0 := cell_regrown y0
      have q1 := cell_regrown y1
      have q2 := cell_regrown y2
      have cS : ∀ d os, Calls Tryd.prog 15 #[.agg c, .agg #[.int .i64 k, .int .i64 n, .int .i64 m]] (Sort.grow (redrawn w2 d) os) fun e w'' => e = .returned (.bool v) ∧ ∃ p : Regrown, w'' = Sort.grow (redrawn w2 p.d) p.os := fun d os => Calls.regrown_of (by rw [Hv.out]; exact mbit_s c HC.out k n m _)
      have cI : ∀ d os, Calls Tryd.prog 8 #[.agg c, .agg #[.int .i64 k, .int .i64 n, .int .i64 m]] (Sort.grow (redrawn w2 d) os) fun e w'' => e = .returned (.bool v) ∧ ∃ p : Regrown, w'' = Sort.grow (redrawn w2 p.d) p.os := fun d os => Calls.regrown_of (by rw [Hv.out]; exact mbit_i c HC.out k n m _ ((HT.out.later HB.out).later (below_regrown w2 d os)))
      refine wp_region_quiet_below (by kernel_rfl) (by kernel_rfl) ?_
      repeat (first | (refine wpQ_load rfl 37 _ rfl _ _ rfl (.agg c) (fun W hW => load_all (row_regrown H1.out hW) _ _ Tryd.underlying37 rfl HI.out) ?_; simp only [Act.put, List.setIfInBounds_toArray, List.set_cons_succ, List.set_cons_zero]) | go_big_quiet_step (first | exact cS _ _ | exact cI _ _))
      refine wpQuiet_nil ?_
      intro _ hw'
      obtain ⟨⟨dq, osq⟩, hw''⟩ := hw'
      subst hw''
      go_wp2
      go_ret
      exact ⟨by simp, HB.out.trans ((below_regrown w2 dq osq).mono HB.out.size)⟩
    obtain ⟨f1, f2⟩ := pl_far k n 8 HSZ.out
    obtain ⟨v, Hv⟩ : ∃ v, Hid (v = mbit c k n) := ⟨_, rfl⟩
    obtain ⟨x, Hx⟩ : ∃ x, Hid (x = mwhole c k n) := ⟨_, rfl⟩
    obtain ⟨y, Hy⟩ : ∃ y, Hid (y = mreal c k n) := ⟨_, rfl⟩
    obtain ⟨k1, k2⟩ := kZ_in (k := k) (by rw [← HSZ.out]; omega)
    have HF1 : Hid (pl k (n + 8) = pl k n) := f1
    have HF2 : Hid (pl k (n - 24) = pl k n) := (by simpa using f2 : pl k (n - 24) = pl k n)
    have HBb : Hid (∀ W, KT W → Calls Tryd.prog 8 #[.agg c, .agg #[.int .i64 k, .int .i64 (n + 8), .int .i64 0]] W fun e w' => e = .returned (.bool v) ∧ Below W.heap.size W w') := fun W hW => by rw [Hv.out, ← mbit_pl HF1.out]; exact mbit_i c HC.out k _ 0 W hW
    have HBa : Hid (∀ W, KT W → Calls Tryd.prog 8 #[.agg c, .agg #[.int .i64 k, .int .i64 n, .int .i64 m]] W fun e w' => e = .returned (.bool v) ∧ Below W.heap.size W w') := fun W hW => by rw [Hv.out]; exact mbit_i c HC.out k n m W hW
    have HBc : Hid (∀ W, KT W → Calls Tryd.prog 8 #[.agg c, .agg #[.int .i64 k, .int .i64 (n - 24), .int .i64 0]] W fun e w' => e = .returned (.bool v) ∧ Below W.heap.size W w') := fun W hW => by rw [Hv.out, ← mbit_pl HF2.out]; exact mbit_i c HC.out k _ 0 W hW
    have HBs : Hid (∀ W, Calls Tryd.prog 15 #[.agg c, .agg #[.int .i64 k, .int .i64 n, .int .i64 m]] W fun e w' => e = .returned (.bool v) ∧ Below W.heap.size W w') := fun W => by rw [Hv.out]; exact mbit_s c HC.out k n m W
    have HWb : Hid (∀ W, KT W → Calls Tryd.prog 13 #[.agg c, .agg #[.int .i64 k, .int .i64 (n + 8), .int .i64 0]] W fun e w' => e = .returned (.int .i16 x) ∧ Below W.heap.size W w') := fun W hW => by rw [Hx.out, ← mwhole_pl HF1.out (by omega)]; exact mwhole_i c HC.out k _ 0 W hW
    have HWa : Hid (∀ W, KT W → Calls Tryd.prog 13 #[.agg c, .agg #[.int .i64 k, .int .i64 n, .int .i64 m]] W fun e w' => e = .returned (.int .i16 x) ∧ Below W.heap.size W w') := fun W hW => by rw [Hx.out]; exact mwhole_i c HC.out k n m W hW
    have HWc : Hid (∀ W, KT W → Calls Tryd.prog 13 #[.agg c, .agg #[.int .i64 k, .int .i64 (n - 24), .int .i64 0]] W fun e w' => e = .returned (.int .i16 x) ∧ Below W.heap.size W w') := fun W hW => by rw [Hx.out, ← mwhole_pl HF2.out (by omega)]; exact mwhole_i c HC.out k _ 0 W hW
    have HWs : Hid (∀ W, Calls Tryd.prog 16 #[.agg c, .agg #[.int .i64 k, .int .i64 n, .int .i64 m]] W fun e w' => e = .returned (.int .i16 x) ∧ Below W.heap.size W w') := fun W => by rw [Hx.out]; exact mwhole_s c HC.out k n m W
    have HRb : Hid (∀ W, KT W → Calls Tryd.prog 18 #[.agg c, .agg #[.int .i64 k, .int .i64 (n + 8), .int .i64 0]] W fun e w' => e = .returned (.float .f64 y) ∧ Below W.heap.size W w') := fun W hW => (real_i c HC.out k _ 0 W hW).mono fun e w' hh => by
      obtain ⟨v, he, hv, _, hb⟩ := hh
      rw [Hy.out, ← mreal_pl HF1.out, ← mreal_of hv (by omega) (by omega)]
      exact ⟨he, hb⟩
    have HRc : Hid (∀ W, KT W → Calls Tryd.prog 18 #[.agg c, .agg #[.int .i64 k, .int .i64 (n - 24), .int .i64 0]] W fun e w' => e = .returned (.float .f64 y) ∧ Below W.heap.size W w') := fun W hW => (real_i c HC.out k _ 0 W hW).mono fun e w' hh => by
      obtain ⟨v, he, hv, _, hb⟩ := hh
      rw [Hy.out, ← mreal_pl HF2.out, ← mreal_of hv (by omega) (by omega)]
      exact ⟨he, hb⟩
    have HSm : Hid (∀ W, Calls Tryd.prog 17 #[.float .f64 y, .float .f64 y] W fun e w' => e = .returned (.bool true) ∧ Below W.heap.size W w') := fun W => (ws_r y y W).mono fun e w' hh => by
      rw [decide_eq_true (ws_of_same (.inl rfl))] at hh
      obtain ⟨he, rfl⟩ := hh
      exact ⟨he, Below.refl _ _⟩
    obtain ⟨s1, s2⟩ : 0 < 8 ∧ 8 ≤ 64 := by have := kZ_le k; have := HSZ.out; omega
    clear f1 f2 Hv Hx Hy
    go_upto_region 10 with fail
    have b3 : Below w.heap.size w (w2.alloc (.cells #[.int .i64 k, .int .i64 (n + 8), .int .i64 0] 39)) := HB.out.alloc HB.out.size _
    have l2 : w1.heap.size + 1 < w2.heap.size := (Array.getElem?_eq_some_iff.1 H2.out).1
    have k1' : (w2.alloc (.cells #[.int .i64 k, .int .i64 (n + 8), .int .i64 0] 39)).heap[w1.heap.size]? = some (.cells c 37 (0, 0)) := (heap_alloc_old w2 _ (by omega)).trans H1.out
    have k2' : (w2.alloc (.cells #[.int .i64 k, .int .i64 (n + 8), .int .i64 0] 39)).heap[w1.heap.size + 1]? = some (.cells #[.int .i64 k, .int .i64 n, .int .i64 m] 39 (0, 0)) := (heap_alloc_old w2 _ (by omega)).trans H2.out
    have k3' : (w2.alloc (.cells #[.int .i64 k, .int .i64 (n + 8), .int .i64 0] 39)).heap[w2.heap.size]? = some (.cells #[.int .i64 k, .int .i64 (n + 8), .int .i64 0] 39 (0, 0)) := heap_alloc_last w2 _
    generalize w2.alloc (.cells #[.int .i64 k, .int .i64 (n + 8), .int .i64 0] 39) = w3 at b3 k1' k2' k3' ⊢
    have z0 : w3.cell? ⟨w1.heap.size + 1, 0, none⟩ = some (.int .i64 k) := (cell_of_row _ _ _ _ _ _ k2').trans rfl
    have z1 : w3.cell? ⟨w1.heap.size + 1, 1, none⟩ = some (.int .i64 n) := (cell_of_row _ _ _ _ _ _ k2').trans rfl
    have K1 : Hid (w3.heap[w1.heap.size]? = some (.cells c 37 (0, 0))) := k1'
    have K2 : Hid (w3.heap[w1.heap.size + 1]? = some (.cells #[.int .i64 k, .int .i64 n, .int .i64 m] 39 (0, 0))) := k2'
    have K3 : Hid (w3.heap[w2.heap.size]? = some (.cells #[.int .i64 k, .int .i64 (n + 8), .int .i64 0] 39 (0, 0))) := k3'
    have B3 : Hid (Below w.heap.size w w3) := b3
    clear y0 y1 y2 HB H1 H2 k1' k2' k3' b3
    generalize w2.heap.size = g2 at *
    go_upto_region 11 with fail
    have b4 : Below w.heap.size w (w3.alloc (.cells #[.int .i64 k, .int .i64 (n - 24), .int .i64 0] 39)) := B3.out.alloc B3.out.size _
    have l3 : g2 < w3.heap.size := (Array.getElem?_eq_some_iff.1 K3.out).1
    have k1' : (w3.alloc (.cells #[.int .i64 k, .int .i64 (n - 24), .int .i64 0] 39)).heap[w1.heap.size]? = some (.cells c 37 (0, 0)) := (heap_alloc_old w3 _ (by omega)).trans K1.out
    have k2' : (w3.alloc (.cells #[.int .i64 k, .int .i64 (n - 24), .int .i64 0] 39)).heap[w1.heap.size + 1]? = some (.cells #[.int .i64 k, .int .i64 n, .int .i64 m] 39 (0, 0)) := (heap_alloc_old w3 _ (by omega)).trans K2.out
    have k3' : (w3.alloc (.cells #[.int .i64 k, .int .i64 (n - 24), .int .i64 0] 39)).heap[g2]? = some (.cells #[.int .i64 k, .int .i64 (n + 8), .int .i64 0] 39 (0, 0)) := (heap_alloc_old w3 _ (by omega)).trans K3.out
    have k4' : (w3.alloc (.cells #[.int .i64 k, .int .i64 (n - 24), .int .i64 0] 39)).heap[w3.heap.size]? = some (.cells #[.int .i64 k, .int .i64 (n - 24), .int .i64 0] 39 (0, 0)) := heap_alloc_last w3 _
    generalize w3.alloc (.cells #[.int .i64 k, .int .i64 (n - 24), .int .i64 0] 39) = w4 at b4 k1' k2' k3' k4' ⊢
    generalize w3.heap.size = g3 at *
    have z0 : w4.cell? ⟨w1.heap.size + 1, 0, none⟩ = some (.int .i64 k) := (cell_of_row _ _ _ _ _ _ k2').trans rfl
    have z1 : w4.cell? ⟨w1.heap.size + 1, 1, none⟩ = some (.int .i64 n) := (cell_of_row _ _ _ _ _ _ k2').trans rfl
    have z2 : w4.cell? ⟨w1.heap.size + 1, 2, none⟩ = some (.int .i64 m) := (cell_of_row _ _ _ _ _ _ k2').trans rfl
    have z3 : w4.cell? ⟨g2, 0, none⟩ = some (.int .i64 k) := (cell_of_row _ _ _ _ _ _ k3').trans rfl
    have z4 : w4.cell? ⟨g2, 1, none⟩ = some (.int .i64 (n + 8)) := (cell_of_row _ _ _ _ _ _ k3').trans rfl
    have z5 : w4.cell? ⟨g2, 2, none⟩ = some (.int .i64 0) := (cell_of_row _ _ _ _ _ _ k3').trans rfl
    have z6 : w4.cell? ⟨g3, 0, none⟩ = some (.int .i64 k) := (cell_of_row _ _ _ _ _ _ k4').trans rfl
    have z7 : w4.cell? ⟨g3, 1, none⟩ = some (.int .i64 (n - 24)) := (cell_of_row _ _ _ _ _ _ k4').trans rfl
    have z8 : w4.cell? ⟨g3, 2, none⟩ = some (.int .i64 0) := (cell_of_row _ _ _ _ _ _ k4').trans rfl
    have q0 := cell_regrown z0
    have q1 := cell_regrown z1
    have q2 := cell_regrown z2
    have q3 := cell_regrown z3
    have q4 := cell_regrown z4
    have q5 := cell_regrown z5
    have q6 := cell_regrown z6
    have q7 := cell_regrown z7
    have q8 := cell_regrown z8
    have kt : ∀ d os, KT (Sort.grow (redrawn w4 d) os) := fun d os => (HT.out.later b4).later (below_regrown w4 d os)
    have cBb : ∀ d os, Calls Tryd.prog 8 #[.agg c, .agg #[.int .i64 k, .int .i64 (n + 8), .int .i64 0]] (Sort.grow (redrawn w4 d) os) fun e w'' => e = .returned (.bool v) ∧ ∃ p : Regrown, w'' = Sort.grow (redrawn w4 p.d) p.os := fun d os => Calls.regrown_of (HBb.out _ (kt d os))
    have cBa : ∀ d os, Calls Tryd.prog 8 #[.agg c, .agg #[.int .i64 k, .int .i64 n, .int .i64 m]] (Sort.grow (redrawn w4 d) os) fun e w'' => e = .returned (.bool v) ∧ ∃ p : Regrown, w'' = Sort.grow (redrawn w4 p.d) p.os := fun d os => Calls.regrown_of (HBa.out _ (kt d os))
    have cBc : ∀ d os, Calls Tryd.prog 8 #[.agg c, .agg #[.int .i64 k, .int .i64 (n - 24), .int .i64 0]] (Sort.grow (redrawn w4 d) os) fun e w'' => e = .returned (.bool v) ∧ ∃ p : Regrown, w'' = Sort.grow (redrawn w4 p.d) p.os := fun d os => Calls.regrown_of (HBc.out _ (kt d os))
    have cBs : ∀ d os, Calls Tryd.prog 15 #[.agg c, .agg #[.int .i64 k, .int .i64 n, .int .i64 m]] (Sort.grow (redrawn w4 d) os) fun e w'' => e = .returned (.bool v) ∧ ∃ p : Regrown, w'' = Sort.grow (redrawn w4 p.d) p.os := fun d os => Calls.regrown_of (HBs.out _)
    have cWb : ∀ d os, Calls Tryd.prog 13 #[.agg c, .agg #[.int .i64 k, .int .i64 (n + 8), .int .i64 0]] (Sort.grow (redrawn w4 d) os) fun e w'' => e = .returned (.int .i16 x) ∧ ∃ p : Regrown, w'' = Sort.grow (redrawn w4 p.d) p.os := fun d os => Calls.regrown_of (HWb.out _ (kt d os))
    have cWa : ∀ d os, Calls Tryd.prog 13 #[.agg c, .agg #[.int .i64 k, .int .i64 n, .int .i64 m]] (Sort.grow (redrawn w4 d) os) fun e w'' => e = .returned (.int .i16 x) ∧ ∃ p : Regrown, w'' = Sort.grow (redrawn w4 p.d) p.os := fun d os => Calls.regrown_of (HWa.out _ (kt d os))
    have cWc : ∀ d os, Calls Tryd.prog 13 #[.agg c, .agg #[.int .i64 k, .int .i64 (n - 24), .int .i64 0]] (Sort.grow (redrawn w4 d) os) fun e w'' => e = .returned (.int .i16 x) ∧ ∃ p : Regrown, w'' = Sort.grow (redrawn w4 p.d) p.os := fun d os => Calls.regrown_of (HWc.out _ (kt d os))
    have cWs : ∀ d os, Calls Tryd.prog 16 #[.agg c, .agg #[.int .i64 k, .int .i64 n, .int .i64 m]] (Sort.grow (redrawn w4 d) os) fun e w'' => e = .returned (.int .i16 x) ∧ ∃ p : Regrown, w'' = Sort.grow (redrawn w4 p.d) p.os := fun d os => Calls.regrown_of (HWs.out _)
    have cRb : ∀ d os, Calls Tryd.prog 18 #[.agg c, .agg #[.int .i64 k, .int .i64 (n + 8), .int .i64 0]] (Sort.grow (redrawn w4 d) os) fun e w'' => e = .returned (.float .f64 y) ∧ ∃ p : Regrown, w'' = Sort.grow (redrawn w4 p.d) p.os := fun d os => Calls.regrown_of (HRb.out _ (kt d os))
    have cRc : ∀ d os, Calls Tryd.prog 18 #[.agg c, .agg #[.int .i64 k, .int .i64 (n - 24), .int .i64 0]] (Sort.grow (redrawn w4 d) os) fun e w'' => e = .returned (.float .f64 y) ∧ ∃ p : Regrown, w'' = Sort.grow (redrawn w4 p.d) p.os := fun d os => Calls.regrown_of (HRc.out _ (kt d os))
    have cSm : ∀ d os, Calls Tryd.prog 17 #[.float .f64 y, .float .f64 y] (Sort.grow (redrawn w4 d) os) fun e w'' => e = .returned (.bool true) ∧ ∃ p : Regrown, w'' = Sort.grow (redrawn w4 p.d) p.os := fun d os => Calls.regrown_of (HSm.out _)
    clear kt HBb HBa HBc HBs HWb HWa HWc HWs HRb HRc HSm HF1 HF2 HSZ K1 K2 K3 B3 z0 z1 z2 z3 z4 z5 z6 z7 z8 k2' k3' k4'
    refine wp_region_quiet_below (by kernel_rfl) (by kernel_rfl) ?_
    repeat (first | (refine wpQ_load rfl 37 _ rfl _ _ rfl (.agg c) (fun W hW => load_all (row_regrown k1' hW) _ _ Tryd.underlying37 rfl HI.out) ?_; simp only [Act.put, List.setIfInBounds_toArray, List.set_cons_succ, List.set_cons_zero]) | go_big_quiet_step (first | with_reducible exact cBb _ _ | with_reducible exact cBa _ _ | with_reducible exact cBc _ _ | with_reducible exact cBs _ _ | with_reducible exact cWb _ _ | with_reducible exact cWa _ _ | with_reducible exact cWc _ _ | with_reducible exact cWs _ _ | with_reducible exact cRb _ _ | with_reducible exact cRc _ _ | with_reducible exact cSm _ _))
    refine wpQuiet_nil ?_
    intro _ hw'
    obtain ⟨⟨dq, osq⟩, hw''⟩ := hw'
    subst hw''
    go_wp2
    go_ret
    exact ⟨by simp, b4.trans ((below_regrown w4 dq osq).mono b4.size)⟩
  · have e6 : (k == 6) = false := by simp [h6]
    have HSZ : Hid (s = kZ k) := by rw [kZ_ne h6]; exact HSZ0.out
    clear h6 HSZ0
    by_cases hs0 : s = 0
    · have e0 : (s == 0) = true := by simp [hs0]
      clear hs0
      go_upto_region 8 with fail
      obtain ⟨v, Hv⟩ : ∃ v, Hid (v = mbit c k n) := ⟨_, rfl⟩
      have q0 := cell_regrown y0
      have q1 := cell_regrown y1
      have q2 := cell_regrown y2
      have cS : ∀ d os, Calls Tryd.prog 15 #[.agg c, .agg #[.int .i64 k, .int .i64 n, .int .i64 m]] (Sort.grow (redrawn w2 d) os) fun e w'' => e = .returned (.bool v) ∧ ∃ p : Regrown, w'' = Sort.grow (redrawn w2 p.d) p.os := fun d os => Calls.regrown_of (by rw [Hv.out]; exact mbit_s c HC.out k n m _)
      have cI : ∀ d os, Calls Tryd.prog 8 #[.agg c, .agg #[.int .i64 k, .int .i64 n, .int .i64 m]] (Sort.grow (redrawn w2 d) os) fun e w'' => e = .returned (.bool v) ∧ ∃ p : Regrown, w'' = Sort.grow (redrawn w2 p.d) p.os := fun d os => Calls.regrown_of (by rw [Hv.out]; exact mbit_i c HC.out k n m _ ((HT.out.later HB.out).later (below_regrown w2 d os)))
      refine wp_region_quiet_below (by kernel_rfl) (by kernel_rfl) ?_
      repeat (first | (refine wpQ_load rfl 37 _ rfl _ _ rfl (.agg c) (fun W hW => load_all (row_regrown H1.out hW) _ _ Tryd.underlying37 rfl HI.out) ?_; simp only [Act.put, List.setIfInBounds_toArray, List.set_cons_succ, List.set_cons_zero]) | go_big_quiet_step (first | exact cS _ _ | exact cI _ _))
      refine wpQuiet_nil ?_
      intro _ hw'
      obtain ⟨⟨dq, osq⟩, hw''⟩ := hw'
      subst hw''
      go_wp2
      go_ret
      exact ⟨by simp, HB.out.trans ((below_regrown w2 dq osq).mono HB.out.size)⟩
    have e0 : (s == 0) = false := by simp [hs0]
    by_cases hn1 : 1000 < n
    · skip
      go_upto_region 8 with fail
      obtain ⟨v, Hv⟩ : ∃ v, Hid (v = mbit c k n) := ⟨_, rfl⟩
      have q0 := cell_regrown y0
      have q1 := cell_regrown y1
      have q2 := cell_regrown y2
      have cS : ∀ d os, Calls Tryd.prog 15 #[.agg c, .agg #[.int .i64 k, .int .i64 n, .int .i64 m]] (Sort.grow (redrawn w2 d) os) fun e w'' => e = .returned (.bool v) ∧ ∃ p : Regrown, w'' = Sort.grow (redrawn w2 p.d) p.os := fun d os => Calls.regrown_of (by rw [Hv.out]; exact mbit_s c HC.out k n m _)
      have cI : ∀ d os, Calls Tryd.prog 8 #[.agg c, .agg #[.int .i64 k, .int .i64 n, .int .i64 m]] (Sort.grow (redrawn w2 d) os) fun e w'' => e = .returned (.bool v) ∧ ∃ p : Regrown, w'' = Sort.grow (redrawn w2 p.d) p.os := fun d os => Calls.regrown_of (by rw [Hv.out]; exact mbit_i c HC.out k n m _ ((HT.out.later HB.out).later (below_regrown w2 d os)))
      refine wp_region_quiet_below (by kernel_rfl) (by kernel_rfl) ?_
      repeat (first | (refine wpQ_load rfl 37 _ rfl _ _ rfl (.agg c) (fun W hW => load_all (row_regrown H1.out hW) _ _ Tryd.underlying37 rfl HI.out) ?_; simp only [Act.put, List.setIfInBounds_toArray, List.set_cons_succ, List.set_cons_zero]) | go_big_quiet_step (first | exact cS _ _ | exact cI _ _))
      refine wpQuiet_nil ?_
      intro _ hw'
      obtain ⟨⟨dq, osq⟩, hw''⟩ := hw'
      subst hw''
      go_wp2
      go_ret
      exact ⟨by simp, HB.out.trans ((below_regrown w2 dq osq).mono HB.out.size)⟩
    by_cases hn2 : n < -1000
    · skip
      go_upto_region 8 with fail
      obtain ⟨v, Hv⟩ : ∃ v, Hid (v = mbit c k n) := ⟨_, rfl⟩
      have q0 := cell_regrown y0
      have q1 := cell_regrown y1
      have q2 := cell_regrown y2
      have cS : ∀ d os, Calls Tryd.prog 15 #[.agg c, .agg #[.int .i64 k, .int .i64 n, .int .i64 m]] (Sort.grow (redrawn w2 d) os) fun e w'' => e = .returned (.bool v) ∧ ∃ p : Regrown, w'' = Sort.grow (redrawn w2 p.d) p.os := fun d os => Calls.regrown_of (by rw [Hv.out]; exact mbit_s c HC.out k n m _)
      have cI : ∀ d os, Calls Tryd.prog 8 #[.agg c, .agg #[.int .i64 k, .int .i64 n, .int .i64 m]] (Sort.grow (redrawn w2 d) os) fun e w'' => e = .returned (.bool v) ∧ ∃ p : Regrown, w'' = Sort.grow (redrawn w2 p.d) p.os := fun d os => Calls.regrown_of (by rw [Hv.out]; exact mbit_i c HC.out k n m _ ((HT.out.later HB.out).later (below_regrown w2 d os)))
      refine wp_region_quiet_below (by kernel_rfl) (by kernel_rfl) ?_
      repeat (first | (refine wpQ_load rfl 37 _ rfl _ _ rfl (.agg c) (fun W hW => load_all (row_regrown H1.out hW) _ _ Tryd.underlying37 rfl HI.out) ?_; simp only [Act.put, List.setIfInBounds_toArray, List.set_cons_succ, List.set_cons_zero]) | go_big_quiet_step (first | exact cS _ _ | exact cI _ _))
      refine wpQuiet_nil ?_
      intro _ hw'
      obtain ⟨⟨dq, osq⟩, hw''⟩ := hw'
      subst hw''
      go_wp2
      go_ret
      exact ⟨by simp, HB.out.trans ((below_regrown w2 dq osq).mono HB.out.size)⟩
    obtain ⟨f1, f2⟩ := pl_far k n s HSZ.out
    obtain ⟨v, Hv⟩ : ∃ v, Hid (v = mbit c k n) := ⟨_, rfl⟩
    obtain ⟨x, Hx⟩ : ∃ x, Hid (x = mwhole c k n) := ⟨_, rfl⟩
    obtain ⟨y, Hy⟩ : ∃ y, Hid (y = mreal c k n) := ⟨_, rfl⟩
    obtain ⟨k1, k2⟩ := kZ_in (k := k) (by rw [← HSZ.out]; omega)
    have HF1 : Hid (pl k (n + s) = pl k n) := f1
    have HF2 : Hid (pl k (n - 3 * s) = pl k n) := (by simpa using f2 : pl k (n - 3 * s) = pl k n)
    have HBb : Hid (∀ W, KT W → Calls Tryd.prog 8 #[.agg c, .agg #[.int .i64 k, .int .i64 (n + s), .int .i64 0]] W fun e w' => e = .returned (.bool v) ∧ Below W.heap.size W w') := fun W hW => by rw [Hv.out, ← mbit_pl HF1.out]; exact mbit_i c HC.out k _ 0 W hW
    have HBa : Hid (∀ W, KT W → Calls Tryd.prog 8 #[.agg c, .agg #[.int .i64 k, .int .i64 n, .int .i64 m]] W fun e w' => e = .returned (.bool v) ∧ Below W.heap.size W w') := fun W hW => by rw [Hv.out]; exact mbit_i c HC.out k n m W hW
    have HBc : Hid (∀ W, KT W → Calls Tryd.prog 8 #[.agg c, .agg #[.int .i64 k, .int .i64 (n - 3 * s), .int .i64 0]] W fun e w' => e = .returned (.bool v) ∧ Below W.heap.size W w') := fun W hW => by rw [Hv.out, ← mbit_pl HF2.out]; exact mbit_i c HC.out k _ 0 W hW
    have HBs : Hid (∀ W, Calls Tryd.prog 15 #[.agg c, .agg #[.int .i64 k, .int .i64 n, .int .i64 m]] W fun e w' => e = .returned (.bool v) ∧ Below W.heap.size W w') := fun W => by rw [Hv.out]; exact mbit_s c HC.out k n m W
    have HWb : Hid (∀ W, KT W → Calls Tryd.prog 13 #[.agg c, .agg #[.int .i64 k, .int .i64 (n + s), .int .i64 0]] W fun e w' => e = .returned (.int .i16 x) ∧ Below W.heap.size W w') := fun W hW => by rw [Hx.out, ← mwhole_pl HF1.out (by omega)]; exact mwhole_i c HC.out k _ 0 W hW
    have HWa : Hid (∀ W, KT W → Calls Tryd.prog 13 #[.agg c, .agg #[.int .i64 k, .int .i64 n, .int .i64 m]] W fun e w' => e = .returned (.int .i16 x) ∧ Below W.heap.size W w') := fun W hW => by rw [Hx.out]; exact mwhole_i c HC.out k n m W hW
    have HWc : Hid (∀ W, KT W → Calls Tryd.prog 13 #[.agg c, .agg #[.int .i64 k, .int .i64 (n - 3 * s), .int .i64 0]] W fun e w' => e = .returned (.int .i16 x) ∧ Below W.heap.size W w') := fun W hW => by rw [Hx.out, ← mwhole_pl HF2.out (by omega)]; exact mwhole_i c HC.out k _ 0 W hW
    have HWs : Hid (∀ W, Calls Tryd.prog 16 #[.agg c, .agg #[.int .i64 k, .int .i64 n, .int .i64 m]] W fun e w' => e = .returned (.int .i16 x) ∧ Below W.heap.size W w') := fun W => by rw [Hx.out]; exact mwhole_s c HC.out k n m W
    have HRb : Hid (∀ W, KT W → Calls Tryd.prog 18 #[.agg c, .agg #[.int .i64 k, .int .i64 (n + s), .int .i64 0]] W fun e w' => e = .returned (.float .f64 y) ∧ Below W.heap.size W w') := fun W hW => (real_i c HC.out k _ 0 W hW).mono fun e w' hh => by
      obtain ⟨v, he, hv, _, hb⟩ := hh
      rw [Hy.out, ← mreal_pl HF1.out, ← mreal_of hv (by omega) (by omega)]
      exact ⟨he, hb⟩
    have HRc : Hid (∀ W, KT W → Calls Tryd.prog 18 #[.agg c, .agg #[.int .i64 k, .int .i64 (n - 3 * s), .int .i64 0]] W fun e w' => e = .returned (.float .f64 y) ∧ Below W.heap.size W w') := fun W hW => (real_i c HC.out k _ 0 W hW).mono fun e w' hh => by
      obtain ⟨v, he, hv, _, hb⟩ := hh
      rw [Hy.out, ← mreal_pl HF2.out, ← mreal_of hv (by omega) (by omega)]
      exact ⟨he, hb⟩
    have HSm : Hid (∀ W, Calls Tryd.prog 17 #[.float .f64 y, .float .f64 y] W fun e w' => e = .returned (.bool true) ∧ Below W.heap.size W w') := fun W => (ws_r y y W).mono fun e w' hh => by
      rw [decide_eq_true (ws_of_same (.inl rfl))] at hh
      obtain ⟨he, rfl⟩ := hh
      exact ⟨he, Below.refl _ _⟩
    obtain ⟨s1, s2⟩ : 0 < s ∧ s ≤ 64 := by have := kZ_le k; have := HSZ.out; omega
    clear f1 f2 Hv Hx Hy
    go_upto_region 10 with fail
    have b3 : Below w.heap.size w (w2.alloc (.cells #[.int .i64 k, .int .i64 (n + s), .int .i64 0] 39)) := HB.out.alloc HB.out.size _
    have l2 : w1.heap.size + 1 < w2.heap.size := (Array.getElem?_eq_some_iff.1 H2.out).1
    have k1' : (w2.alloc (.cells #[.int .i64 k, .int .i64 (n + s), .int .i64 0] 39)).heap[w1.heap.size]? = some (.cells c 37 (0, 0)) := (heap_alloc_old w2 _ (by omega)).trans H1.out
    have k2' : (w2.alloc (.cells #[.int .i64 k, .int .i64 (n + s), .int .i64 0] 39)).heap[w1.heap.size + 1]? = some (.cells #[.int .i64 k, .int .i64 n, .int .i64 m] 39 (0, 0)) := (heap_alloc_old w2 _ (by omega)).trans H2.out
    have k3' : (w2.alloc (.cells #[.int .i64 k, .int .i64 (n + s), .int .i64 0] 39)).heap[w2.heap.size]? = some (.cells #[.int .i64 k, .int .i64 (n + s), .int .i64 0] 39 (0, 0)) := heap_alloc_last w2 _
    generalize w2.alloc (.cells #[.int .i64 k, .int .i64 (n + s), .int .i64 0] 39) = w3 at b3 k1' k2' k3' ⊢
    have z0 : w3.cell? ⟨w1.heap.size + 1, 0, none⟩ = some (.int .i64 k) := (cell_of_row _ _ _ _ _ _ k2').trans rfl
    have z1 : w3.cell? ⟨w1.heap.size + 1, 1, none⟩ = some (.int .i64 n) := (cell_of_row _ _ _ _ _ _ k2').trans rfl
    have K1 : Hid (w3.heap[w1.heap.size]? = some (.cells c 37 (0, 0))) := k1'
    have K2 : Hid (w3.heap[w1.heap.size + 1]? = some (.cells #[.int .i64 k, .int .i64 n, .int .i64 m] 39 (0, 0))) := k2'
    have K3 : Hid (w3.heap[w2.heap.size]? = some (.cells #[.int .i64 k, .int .i64 (n + s), .int .i64 0] 39 (0, 0))) := k3'
    have B3 : Hid (Below w.heap.size w w3) := b3
    clear y0 y1 y2 HB H1 H2 k1' k2' k3' b3
    generalize w2.heap.size = g2 at *
    go_upto_region 11 with fail
    have b4 : Below w.heap.size w (w3.alloc (.cells #[.int .i64 k, .int .i64 (n - 3 * s), .int .i64 0] 39)) := B3.out.alloc B3.out.size _
    have l3 : g2 < w3.heap.size := (Array.getElem?_eq_some_iff.1 K3.out).1
    have k1' : (w3.alloc (.cells #[.int .i64 k, .int .i64 (n - 3 * s), .int .i64 0] 39)).heap[w1.heap.size]? = some (.cells c 37 (0, 0)) := (heap_alloc_old w3 _ (by omega)).trans K1.out
    have k2' : (w3.alloc (.cells #[.int .i64 k, .int .i64 (n - 3 * s), .int .i64 0] 39)).heap[w1.heap.size + 1]? = some (.cells #[.int .i64 k, .int .i64 n, .int .i64 m] 39 (0, 0)) := (heap_alloc_old w3 _ (by omega)).trans K2.out
    have k3' : (w3.alloc (.cells #[.int .i64 k, .int .i64 (n - 3 * s), .int .i64 0] 39)).heap[g2]? = some (.cells #[.int .i64 k, .int .i64 (n + s), .int .i64 0] 39 (0, 0)) := (heap_alloc_old w3 _ (by omega)).trans K3.out
    have k4' : (w3.alloc (.cells #[.int .i64 k, .int .i64 (n - 3 * s), .int .i64 0] 39)).heap[w3.heap.size]? = some (.cells #[.int .i64 k, .int .i64 (n - 3 * s), .int .i64 0] 39 (0, 0)) := heap_alloc_last w3 _
    generalize w3.alloc (.cells #[.int .i64 k, .int .i64 (n - 3 * s), .int .i64 0] 39) = w4 at b4 k1' k2' k3' k4' ⊢
    generalize w3.heap.size = g3 at *
    have z0 : w4.cell? ⟨w1.heap.size + 1, 0, none⟩ = some (.int .i64 k) := (cell_of_row _ _ _ _ _ _ k2').trans rfl
    have z1 : w4.cell? ⟨w1.heap.size + 1, 1, none⟩ = some (.int .i64 n) := (cell_of_row _ _ _ _ _ _ k2').trans rfl
    have z2 : w4.cell? ⟨w1.heap.size + 1, 2, none⟩ = some (.int .i64 m) := (cell_of_row _ _ _ _ _ _ k2').trans rfl
    have z3 : w4.cell? ⟨g2, 0, none⟩ = some (.int .i64 k) := (cell_of_row _ _ _ _ _ _ k3').trans rfl
    have z4 : w4.cell? ⟨g2, 1, none⟩ = some (.int .i64 (n + s)) := (cell_of_row _ _ _ _ _ _ k3').trans rfl
    have z5 : w4.cell? ⟨g2, 2, none⟩ = some (.int .i64 0) := (cell_of_row _ _ _ _ _ _ k3').trans rfl
    have z6 : w4.cell? ⟨g3, 0, none⟩ = some (.int .i64 k) := (cell_of_row _ _ _ _ _ _ k4').trans rfl
    have z7 : w4.cell? ⟨g3, 1, none⟩ = some (.int .i64 (n - 3 * s)) := (cell_of_row _ _ _ _ _ _ k4').trans rfl
    have z8 : w4.cell? ⟨g3, 2, none⟩ = some (.int .i64 0) := (cell_of_row _ _ _ _ _ _ k4').trans rfl
    have q0 := cell_regrown z0
    have q1 := cell_regrown z1
    have q2 := cell_regrown z2
    have q3 := cell_regrown z3
    have q4 := cell_regrown z4
    have q5 := cell_regrown z5
    have q6 := cell_regrown z6
    have q7 := cell_regrown z7
    have q8 := cell_regrown z8
    have kt : ∀ d os, KT (Sort.grow (redrawn w4 d) os) := fun d os => (HT.out.later b4).later (below_regrown w4 d os)
    have cBb : ∀ d os, Calls Tryd.prog 8 #[.agg c, .agg #[.int .i64 k, .int .i64 (n + s), .int .i64 0]] (Sort.grow (redrawn w4 d) os) fun e w'' => e = .returned (.bool v) ∧ ∃ p : Regrown, w'' = Sort.grow (redrawn w4 p.d) p.os := fun d os => Calls.regrown_of (HBb.out _ (kt d os))
    have cBa : ∀ d os, Calls Tryd.prog 8 #[.agg c, .agg #[.int .i64 k, .int .i64 n, .int .i64 m]] (Sort.grow (redrawn w4 d) os) fun e w'' => e = .returned (.bool v) ∧ ∃ p : Regrown, w'' = Sort.grow (redrawn w4 p.d) p.os := fun d os => Calls.regrown_of (HBa.out _ (kt d os))
    have cBc : ∀ d os, Calls Tryd.prog 8 #[.agg c, .agg #[.int .i64 k, .int .i64 (n - 3 * s), .int .i64 0]] (Sort.grow (redrawn w4 d) os) fun e w'' => e = .returned (.bool v) ∧ ∃ p : Regrown, w'' = Sort.grow (redrawn w4 p.d) p.os := fun d os => Calls.regrown_of (HBc.out _ (kt d os))
    have cBs : ∀ d os, Calls Tryd.prog 15 #[.agg c, .agg #[.int .i64 k, .int .i64 n, .int .i64 m]] (Sort.grow (redrawn w4 d) os) fun e w'' => e = .returned (.bool v) ∧ ∃ p : Regrown, w'' = Sort.grow (redrawn w4 p.d) p.os := fun d os => Calls.regrown_of (HBs.out _)
    have cWb : ∀ d os, Calls Tryd.prog 13 #[.agg c, .agg #[.int .i64 k, .int .i64 (n + s), .int .i64 0]] (Sort.grow (redrawn w4 d) os) fun e w'' => e = .returned (.int .i16 x) ∧ ∃ p : Regrown, w'' = Sort.grow (redrawn w4 p.d) p.os := fun d os => Calls.regrown_of (HWb.out _ (kt d os))
    have cWa : ∀ d os, Calls Tryd.prog 13 #[.agg c, .agg #[.int .i64 k, .int .i64 n, .int .i64 m]] (Sort.grow (redrawn w4 d) os) fun e w'' => e = .returned (.int .i16 x) ∧ ∃ p : Regrown, w'' = Sort.grow (redrawn w4 p.d) p.os := fun d os => Calls.regrown_of (HWa.out _ (kt d os))
    have cWc : ∀ d os, Calls Tryd.prog 13 #[.agg c, .agg #[.int .i64 k, .int .i64 (n - 3 * s), .int .i64 0]] (Sort.grow (redrawn w4 d) os) fun e w'' => e = .returned (.int .i16 x) ∧ ∃ p : Regrown, w'' = Sort.grow (redrawn w4 p.d) p.os := fun d os => Calls.regrown_of (HWc.out _ (kt d os))
    have cWs : ∀ d os, Calls Tryd.prog 16 #[.agg c, .agg #[.int .i64 k, .int .i64 n, .int .i64 m]] (Sort.grow (redrawn w4 d) os) fun e w'' => e = .returned (.int .i16 x) ∧ ∃ p : Regrown, w'' = Sort.grow (redrawn w4 p.d) p.os := fun d os => Calls.regrown_of (HWs.out _)
    have cRb : ∀ d os, Calls Tryd.prog 18 #[.agg c, .agg #[.int .i64 k, .int .i64 (n + s), .int .i64 0]] (Sort.grow (redrawn w4 d) os) fun e w'' => e = .returned (.float .f64 y) ∧ ∃ p : Regrown, w'' = Sort.grow (redrawn w4 p.d) p.os := fun d os => Calls.regrown_of (HRb.out _ (kt d os))
    have cRc : ∀ d os, Calls Tryd.prog 18 #[.agg c, .agg #[.int .i64 k, .int .i64 (n - 3 * s), .int .i64 0]] (Sort.grow (redrawn w4 d) os) fun e w'' => e = .returned (.float .f64 y) ∧ ∃ p : Regrown, w'' = Sort.grow (redrawn w4 p.d) p.os := fun d os => Calls.regrown_of (HRc.out _ (kt d os))
    have cSm : ∀ d os, Calls Tryd.prog 17 #[.float .f64 y, .float .f64 y] (Sort.grow (redrawn w4 d) os) fun e w'' => e = .returned (.bool true) ∧ ∃ p : Regrown, w'' = Sort.grow (redrawn w4 p.d) p.os := fun d os => Calls.regrown_of (HSm.out _)
    clear kt HBb HBa HBc HBs HWb HWa HWc HWs HRb HRc HSm HF1 HF2 HSZ K1 K2 K3 B3 z0 z1 z2 z3 z4 z5 z6 z7 z8 k2' k3' k4'
    refine wp_region_quiet_below (by kernel_rfl) (by kernel_rfl) ?_
    repeat (first | (refine wpQ_load rfl 37 _ rfl _ _ rfl (.agg c) (fun W hW => load_all (row_regrown k1' hW) _ _ Tryd.underlying37 rfl HI.out) ?_; simp only [Act.put, List.setIfInBounds_toArray, List.set_cons_succ, List.set_cons_zero]) | go_big_quiet_step (first | with_reducible exact cBb _ _ | with_reducible exact cBa _ _ | with_reducible exact cBc _ _ | with_reducible exact cBs _ _ | with_reducible exact cWb _ _ | with_reducible exact cWa _ _ | with_reducible exact cWc _ _ | with_reducible exact cWs _ _ | with_reducible exact cRb _ _ | with_reducible exact cRc _ _ | with_reducible exact cSm _ _))
    refine wpQuiet_nil ?_
    intro _ hw'
    obtain ⟨⟨dq, osq⟩, hw''⟩ := hw'
    subst hw''
    go_wp2
    go_ret
    exact ⟨by simp, b4.trans ((below_regrown w4 dq osq).mono b4.size)⟩

set_option maxHeartbeats 400000 in
theorem walk_round (a : Option Addr) (len cap : Nat) (zs : List Int) (w : World) (h : IsRow .u8 w a len cap zs) (hk : KT w) :
    Calls Tryd.prog 4 #[.slice a len cap] w fun e w' => e = .returned (.bool true) ∧ Below w.heap.size w w' := by
  by_cases hl : len ≤ 1048576
  · obtain ⟨blk, off, z, hc⟩ := h.code hl
    exact law_round w hk hc
  · have hcap : len ≤ maxLen := by
      rcases h with ⟨_, rfl, _⟩ | ⟨_, _, h1, h2, _⟩
      · omega
      · omega
    unfold maxLen at hcap
    have i1 : (1048576 : Int) < (len : Int) := by omega
    go_enter Tryd.func4, Tryd.ntmps4
    go_wp2
    go_ret
    exact ⟨rfl, Below.refl _ _⟩
end Go.Proofs.YtlpoplnghfohmaaDoor
