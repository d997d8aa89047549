/- Two memories compared field by field: eqMem of the laws. -/
import Derived.Test.YtjnddfpieogpiaaGreatDoorMbM
import Derived.Test.YtjnddfpieogpiaaGreatDoorMe
namespace Go.Proofs.YtjnddfpieogpiaaGreatDoor
open Go.RowKit
set_option linter.unusedVariables false

/-- Two memories that are one, field by field: a nan is any nan. -/
structure MSame (c d : Array Value) : Prop where
  ok : MemOk c
  size : d.size = 136
  same : ∀ i, kd i ≠ 99 → d[i]? = c[i]?
  real : ∀ k, k < 16 → ∃ x y, c[117 + k]? = some (.float .f64 x) ∧ d[117 + k]? = some (.float .f64 y) ∧ (Lit.float .f64 x).wf = true ∧ Same x y

theorem wf_of_has {x : Nat} (h : FloatKind.has .f64 x) : (Lit.float .f64 x).wf = true := by
  simpa [Lit.wf, FloatKind.has] using h

theorem MSame.refl {c : Array Value} (h : MemOk c) : MSame c c :=
  ⟨h, h.size, fun _ _ => rfl, fun k hk => by
    obtain ⟨x, hx, hh⟩ := h.f64 (i := 117 + k) (by omega) (kd_r hk)
    exact ⟨x, x, hx, hx, wf_of_has hh, Or.inl rfl⟩⟩

theorem kd_lo {i : Nat} (h : i < 117 ∨ 133 ≤ i) : kd i ≠ 99 := by
  unfold kd
  repeat' split
  all_goals omega

theorem MSame.part {c d : Array Value} (h : MSame c d) (n m : Nat) (hm : m ≤ 117) : d.extract n m = c.extract n m := by
  apply Array.ext_getElem?
  intro i
  by_cases hi : i < m - n
  · rw [ext_get _ _ _ _ hi, ext_get _ _ _ _ hi]
    exact h.same _ (kd_lo (by omega))
  · rw [Array.getElem?_eq_none (by have := h.size; simp; omega), Array.getElem?_eq_none (by have := h.ok.size; simp; omega)]


set_option maxRecDepth 10000 in
set_option maxHeartbeats 4000000 in
theorem eq_mem (c d : Array Value) (hm : MSame c d) (w : World) : Calls Tryz.prog 20 #[.agg c, .agg d] w fun e w' => e = .returned (.bool true) ∧ Below w.heap.size w w' := by
  have HM : Hid (MSame c d) := hm
  have HC : Hid (MemOk c) := hm.ok
  obtain ⟨v0, x0, -⟩ := hm.ok.u32 (i := 0) (by omega) rfl
  have z0 : d[0]? = some (.int .u32 v0) := (hm.same 0 (by decide)).trans x0
  obtain ⟨v1, x1, -⟩ := hm.ok.u32 (i := 1) (by omega) rfl
  have z1 : d[1]? = some (.int .u32 v1) := (hm.same 1 (by decide)).trans x1
  obtain ⟨v2, x2, -⟩ := hm.ok.u64 (i := 2) (by omega) rfl
  have z2 : d[2]? = some (.int .u64 v2) := (hm.same 2 (by decide)).trans x2
  obtain ⟨v3, x3, -⟩ := hm.ok.u16 (i := 3) (by omega) rfl
  have z3 : d[3]? = some (.int .u16 v3) := (hm.same 3 (by decide)).trans x3
  obtain ⟨v4, x4, -⟩ := hm.ok.u32 (i := 4) (by omega) rfl
  have z4 : d[4]? = some (.int .u32 v4) := (hm.same 4 (by decide)).trans x4
  obtain ⟨v5, x5, -⟩ := hm.ok.u32 (i := 133) (by omega) rfl
  have z5 : d[133]? = some (.int .u32 v5) := (hm.same 133 (by decide)).trans x5
  obtain ⟨v6, x6⟩ := hm.ok.bool (i := 134) (by omega) rfl
  have z6 : d[134]? = some (.bool v6) := (hm.same 134 (by decide)).trans x6
  obtain ⟨v7, x7⟩ := hm.ok.bool (i := 135) (by omega) rfl
  have z7 : d[135]? = some (.bool v7) := (hm.same 135 (by decide)).trans x7
  clear hm
  obtain ⟨X0, HX0⟩ : ∃ X, Hid (X = c.extract 5 37) := ⟨_, rfl⟩
  have HT0 : Hid (∀ W, Calls Tryz.prog 62 #[.agg X0, .agg X0] W fun e w' => e = .returned (.bool true) ∧ Below W.heap.size W w') := fun W => by
    rw [HX0.out]; exact eq_timers (c.extract 5 37) (mem_t HC.out) W
  have HL0 : Hid (∀ W : World, W.heap[w.heap.size]? = some (.cells c 37 (0, 0)) → (loadVar 28 ⟨w.heap.size, 5, none⟩).run Tryz.prog W = .ok (.agg X0) W) := fun W h => by
    rw [HX0.out]; exact load_sub h _ _ 5 32 (by rw [HC.out.size]; omega) Tryz.underlying28 rfl (by kernel_rfl)
  have HR0 : Hid (∀ W : World, W.heap[w.heap.size + 1]? = some (.cells d 37 (0, 0)) → (loadVar 28 ⟨w.heap.size + 1, 5, none⟩).run Tryz.prog W = .ok (.agg X0) W) := fun W h => by
    rw [HX0.out, ← HM.out.part 5 37 (by omega)]; exact load_sub h _ _ 5 32 (by rw [HM.out.size]; omega) Tryz.underlying28 rfl (by kernel_rfl)
  obtain ⟨X1, HX1⟩ : ∃ X, Hid (X = c.extract 37 85) := ⟨_, rfl⟩
  have HT1 : Hid (∀ W, Calls Tryz.prog 63 #[.agg X1, .agg X1] W fun e w' => e = .returned (.bool true) ∧ Below W.heap.size W w') := fun W => by
    rw [HX1.out]; exact eq_counters (c.extract 37 85) (mem_c HC.out) W
  have HL1 : Hid (∀ W : World, W.heap[w.heap.size]? = some (.cells c 37 (0, 0)) → (loadVar 31 ⟨w.heap.size, 37, none⟩).run Tryz.prog W = .ok (.agg X1) W) := fun W h => by
    rw [HX1.out]; exact load_sub h _ _ 37 48 (by rw [HC.out.size]; omega) Tryz.underlying31 rfl (by kernel_rfl)
  have HR1 : Hid (∀ W : World, W.heap[w.heap.size + 1]? = some (.cells d 37 (0, 0)) → (loadVar 31 ⟨w.heap.size + 1, 37, none⟩).run Tryz.prog W = .ok (.agg X1) W) := fun W h => by
    rw [HX1.out, ← HM.out.part 37 85 (by omega)]; exact load_sub h _ _ 37 48 (by rw [HM.out.size]; omega) Tryz.underlying31 rfl (by kernel_rfl)
  obtain ⟨X2, HX2⟩ : ∃ X, Hid (X = c.extract 85 117) := ⟨_, rfl⟩
  have HT2 : Hid (∀ W, Calls Tryz.prog 64 #[.agg X2, .agg X2] W fun e w' => e = .returned (.bool true) ∧ Below W.heap.size W w') := fun W => by
    rw [HX2.out]; exact eq_wholes (c.extract 85 117) (mem_d HC.out) W
  have HL2 : Hid (∀ W : World, W.heap[w.heap.size]? = some (.cells c 37 (0, 0)) → (loadVar 33 ⟨w.heap.size, 85, none⟩).run Tryz.prog W = .ok (.agg X2) W) := fun W h => by
    rw [HX2.out]; exact load_sub h _ _ 85 32 (by rw [HC.out.size]; omega) Tryz.underlying33 rfl (by kernel_rfl)
  have HR2 : Hid (∀ W : World, W.heap[w.heap.size + 1]? = some (.cells d 37 (0, 0)) → (loadVar 33 ⟨w.heap.size + 1, 85, none⟩).run Tryz.prog W = .ok (.agg X2) W) := fun W h => by
    rw [HX2.out, ← HM.out.part 85 117 (by omega)]; exact load_sub h _ _ 85 32 (by rw [HM.out.size]; omega) Tryz.underlying33 rfl (by kernel_rfl)
  obtain ⟨X3, HX3⟩ : ∃ X, Hid (X = c.extract 117 133) := ⟨_, rfl⟩
  obtain ⟨Y3, HY3⟩ : ∃ X, Hid (X = d.extract 117 133) := ⟨_, rfl⟩
  have HT3 : Hid (∀ W, Calls Tryz.prog 65 #[.agg X3, .agg Y3] W fun e w' => e = .returned (.bool true) ∧ Below W.heap.size W w') := fun W => by
    rw [HX3.out, HY3.out]
    refine eq_reals _ _ (fun k hk => ?_) W
    obtain ⟨x, y, h1, h2, h3⟩ := HM.out.real k hk
    exact ⟨x, y, by rw [ext_get _ _ _ _ (by omega)]; exact h1, by rw [ext_get _ _ _ _ (by omega)]; exact h2, h3⟩
  have HL3 : Hid (∀ W : World, W.heap[w.heap.size]? = some (.cells c 37 (0, 0)) → (loadVar 35 ⟨w.heap.size, 117, none⟩).run Tryz.prog W = .ok (.agg X3) W) := fun W h => by
    rw [HX3.out]; exact load_sub h _ _ 117 16 (by rw [HC.out.size]; omega) Tryz.underlying35 rfl (by kernel_rfl)
  have HR3 : Hid (∀ W : World, W.heap[w.heap.size + 1]? = some (.cells d 37 (0, 0)) → (loadVar 35 ⟨w.heap.size + 1, 117, none⟩).run Tryz.prog W = .ok (.agg Y3) W) := fun W h => by
    rw [HY3.out]; exact load_sub h _ _ 117 16 (by rw [HM.out.size]; omega) Tryz.underlying35 rfl (by kernel_rfl)
  go_enter Tryz.func20, Tryz.ntmps20
  go_wp2_with (first | (refine wpL_load rfl 28 _ rfl _ _ rfl _ (HL0.out _ (rows2 w _ _).1) ?_) | (refine wpL_load rfl 28 _ rfl _ _ rfl _ (HR0.out _ (rows2 w _ _).2) ?_) | fail)
  refine (HT0.out _).mono ?_
  rintro e w1 ⟨rfl, g1⟩
  have h11 := (g1.block _ (by simp <;> omega)).trans (rows2 w _ _).1
  have h12 := (g1.block _ (by simp <;> omega)).trans (rows2 w _ _).2
  have b1 : Below w.heap.size w w1 := (((Below.refl _ _).alloc (Nat.le_refl _) _).alloc (by simp) _).trans (g1.mono (by simp <;> omega))
  clear g1 HT0 HL0 HR0 x0 x1 x2 x3 x4 z0 z1 z2 z3 z4
  have s1 : w.heap.size + 1 < w1.heap.size := (Array.getElem?_eq_some_iff.1 h12).1
  go_wp2_with (first | (refine wpL_load rfl 31 _ rfl _ _ rfl _ (HL1.out _ h11) ?_) | (refine wpL_load rfl 31 _ rfl _ _ rfl _ (HR1.out _ h12) ?_) | fail)
  refine (HT1.out _).mono ?_
  rintro e w2 ⟨rfl, g2⟩
  have h21 := (g2.block _ (by omega)).trans h11
  have h22 := (g2.block _ (by omega)).trans h12
  have b2 := b1.trans (g2.mono b1.size)
  clear g2 h11 h12 b1 s1 HT1 HL1 HR1
  have s2 : w.heap.size + 1 < w2.heap.size := (Array.getElem?_eq_some_iff.1 h22).1
  go_wp2_with (first | (refine wpL_load rfl 33 _ rfl _ _ rfl _ (HL2.out _ h21) ?_) | (refine wpL_load rfl 33 _ rfl _ _ rfl _ (HR2.out _ h22) ?_) | fail)
  refine (HT2.out _).mono ?_
  rintro e w3 ⟨rfl, g3⟩
  have h31 := (g3.block _ (by omega)).trans h21
  have h32 := (g3.block _ (by omega)).trans h22
  have b3 := b2.trans (g3.mono b2.size)
  clear g3 h21 h22 b2 s2 HT2 HL2 HR2
  have s3 : w.heap.size + 1 < w3.heap.size := (Array.getElem?_eq_some_iff.1 h32).1
  go_wp2_with (first | (refine wpL_load rfl 35 _ rfl _ _ rfl _ (HL3.out _ h31) ?_) | (refine wpL_load rfl 35 _ rfl _ _ rfl _ (HR3.out _ h32) ?_) | fail)
  refine (HT3.out _).mono ?_
  rintro e w4 ⟨rfl, g4⟩
  have h41 := (g4.block _ (by omega)).trans h31
  have h42 := (g4.block _ (by omega)).trans h32
  have b4 := b3.trans (g4.mono b3.size)
  clear g4 h31 h32 b3 s3 HT3 HL3 HR3
  have r5 : w4.cell? ⟨w.heap.size, 133, none⟩ = some (.int .u32 v5) := (cell_of_row _ _ _ _ _ _ h41).trans x5
  have y5 : w4.cell? ⟨w.heap.size + 1, 133, none⟩ = some (.int .u32 v5) := (cell_of_row _ _ _ _ _ _ h42).trans z5
  have r6 : w4.cell? ⟨w.heap.size, 134, none⟩ = some (.bool v6) := (cell_of_row _ _ _ _ _ _ h41).trans x6
  have y6 : w4.cell? ⟨w.heap.size + 1, 134, none⟩ = some (.bool v6) := (cell_of_row _ _ _ _ _ _ h42).trans z6
  have r7 : w4.cell? ⟨w.heap.size, 135, none⟩ = some (.bool v7) := (cell_of_row _ _ _ _ _ _ h41).trans x7
  have y7 : w4.cell? ⟨w.heap.size + 1, 135, none⟩ = some (.bool v7) := (cell_of_row _ _ _ _ _ _ h42).trans z7
  have e6 : (v6 != v6) = false := by simp
  have e7 : (v7 != v7) = false := by simp
  go_wp2
  go_ret
  exact ⟨rfl, b4⟩

end Go.Proofs.YtjnddfpieogpiaaGreatDoor
