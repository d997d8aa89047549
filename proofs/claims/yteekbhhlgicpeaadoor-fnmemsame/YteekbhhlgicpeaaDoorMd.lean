/- A memory copied field by field: toMem of the laws. -/
import Derived.Test.YteekbhhlgicpeaaDoorMc
namespace Go.Proofs.YteekbhhlgicpeaaDoor
open Go.RowKit
set_option linter.unusedVariables false

def zc (k : Nat) : Value := if k = 1 then .bool false else if k = 16 then .int .u16 0 else if k = 32 then .int .u32 0 else if k = 64 then .int .u64 0 else if k = 116 then .int .i16 0 else .float .f64 0
def memZero : Array Value := ((List.range 136).map fun i => zc (kd i)).toArray

theorem memZero_size : memZero.size = 136 := by simp [memZero]
theorem memZero_get {i : Nat} (h : i < 136) : memZero[i]? = some (zc (kd i)) := by simp [memZero, h]

theorem zero_mem : (∀ w, (zeroValue 37).run Tryd.prog w = .ok (.agg memZero) w) ∧ (Tryd.prog.info? 37).map (·.size) = some 136 := zero_of_info (by kernel_rfl)

/-- What the copying of a row has done so far: the first n cells are the old ones. -/
structure Upto (c D : Array Value) (n : Nat) : Prop where
  size : D.size = c.size
  same : ∀ j, j < n → D[j]? = c[j]?

theorem Upto.all {c D : Array Value} {n : Nat} (h : Upto c D n) (hn : c.size ≤ n) : D = c := by
  apply Array.ext_getElem?
  intro j
  by_cases hj : j < n
  · exact h.same j hj
  · have := h.size
    rw [Array.getElem?_eq_none (by omega), Array.getElem?_eq_none (by omega)]
theorem Upto.put {c D : Array Value} {n : Nat} (h : Upto c D n) (m : Nat) (hm : m ≤ c.size) (hn : n ≤ m) : Upto c (putAt D n (c.extract n m).toList) m := by
  have hl : (c.extract n m).toList.length = m - n := by simp; omega
  refine ⟨by rw [putAt_size]; exact h.size, fun j hj => ?_⟩
  rw [putAt_get _ _ _ (by rw [hl, h.size]; omega), hl]
  split
  · rename_i h1
    rw [Array.getElem?_toList, Array.getElem?_extract, if_pos (by omega)]
    congr 1; omega
  · exact h.same j (by omega)
theorem Upto.set {c D : Array Value} {n : Nat} (h : Upto c D n) {v : Value} (hv : c[n]? = some v) : Upto c (D.setIfInBounds n v) (n + 1) := by
  have hn : n < c.size := (Array.getElem?_eq_some_iff.1 hv).1
  refine ⟨by simpa using h.size, fun j hj => ?_⟩
  by_cases hjn : j = n
  · subst hjn
    rw [Array.getElem?_setIfInBounds_self_of_lt (by rw [h.size]; exact hn)]
    exact hv.symm
  · rw [Array.getElem?_setIfInBounds_ne (by omega)]
    exact h.same j (by omega)

theorem ext_get (c : Array Value) (n m i : Nat) (h : i < m - n) : (c.extract n m)[i]? = c[n + i]? := by
  by_cases hs : n + i < c.size
  · rw [Array.getElem?_extract, if_pos (by omega)]
  · rw [Array.getElem?_extract, if_neg (by omega), Array.getElem?_eq_none (by omega)]
theorem mem_t {c : Array Value} (h : MemOk c) : ∀ k, k < 16 → ∃ b m, (c.extract 5 37)[2 * k]? = some (.bool b) ∧ (c.extract 5 37)[2 * k + 1]? = some (.int .u16 m) := fun k hk => by
  obtain ⟨b, hb⟩ := h.bool (i := 5 + 2 * k) (by omega) (kd_t hk).1
  obtain ⟨m, hm, -⟩ := h.u16 (i := 5 + 2 * k + 1) (by omega) (kd_t hk).2
  exact ⟨b, m, by rw [ext_get _ _ _ _ (by omega)]; exact hb, by rw [ext_get _ _ _ _ (by omega)]; exact hm⟩
theorem mem_c {c : Array Value} (h : MemOk c) : ∀ k, k < 16 → ∃ b l m, (c.extract 37 85)[3 * k]? = some (.bool b) ∧ (c.extract 37 85)[3 * k + 1]? = some (.bool l) ∧ (c.extract 37 85)[3 * k + 2]? = some (.int .u16 m) := fun k hk => by
  obtain ⟨b, hb⟩ := h.bool (i := 37 + 3 * k) (by omega) (kd_c hk).1
  obtain ⟨l, hl⟩ := h.bool (i := 37 + 3 * k + 1) (by omega) (kd_c hk).2.1
  obtain ⟨m, hm, -⟩ := h.u16 (i := 37 + 3 * k + 2) (by omega) (kd_c hk).2.2
  exact ⟨b, l, m, by rw [ext_get _ _ _ _ (by omega)]; exact hb, by rw [ext_get _ _ _ _ (by omega)]; exact hl, by rw [ext_get _ _ _ _ (by omega)]; exact hm⟩
theorem mem_d {c : Array Value} (h : MemOk c) : ∀ k, k < 32 → ∃ m, (c.extract 85 117)[k]? = some (.int .i16 m) := fun k hk => by
  obtain ⟨m, hm, -⟩ := h.i16 (i := 85 + k) (by omega) (kd_d hk)
  exact ⟨m, by rw [ext_get _ _ _ _ (by omega)]; exact hm⟩
theorem mem_r {c : Array Value} (h : MemOk c) : ∀ k, k < 16 → ∃ x, (c.extract 117 133)[k]? = some (.float .f64 x) := fun k hk => by
  obtain ⟨m, hm, -⟩ := h.f64 (i := 117 + k) (by omega) (kd_r hk)
  exact ⟨m, by rw [ext_get _ _ _ _ (by omega)]; exact hm⟩
theorem MemOk.esize {c : Array Value} (h : MemOk c) (n m : Nat) (hm : m ≤ 136) : (c.extract n m).size = m - n := by
  have := h.size
  simp; omega

set_option maxRecDepth 10000 in
set_option maxHeartbeats 6000000 in
theorem to_mem (c : Array Value) (hc : MemOk c) (w : World) : Calls Tryd.prog 10 #[.agg c] w fun e w' => e = .returned (.agg c) ∧ Below w.heap.size w w' := by
  obtain ⟨v0, x0, -⟩ := hc.u32 (i := 0) (by omega) rfl
  obtain ⟨v1, x1, -⟩ := hc.u32 (i := 1) (by omega) rfl
  obtain ⟨v2, x2, -⟩ := hc.u64 (i := 2) (by omega) rfl
  obtain ⟨v3, x3, -⟩ := hc.u16 (i := 3) (by omega) rfl
  obtain ⟨v4, x4, -⟩ := hc.u32 (i := 4) (by omega) rfl
  obtain ⟨v5, x5, -⟩ := hc.u32 (i := 133) (by omega) rfl
  obtain ⟨v6, x6⟩ := hc.bool (i := 134) (by omega) rfl
  obtain ⟨v7, x7⟩ := hc.bool (i := 135) (by omega) rfl
  have HC : Hid (MemOk c) := hc
  clear hc
  have hz := zero_mem.1
  obtain ⟨Z, HZ⟩ : ∃ Z, Hid (Z = memZero) := ⟨_, rfl⟩
  rw [← HZ.out] at hz
  have z0 : Z[0]? = some (.int .u32 0) := by rw [HZ.out]; exact memZero_get (by omega)
  have z1 : Z[1]? = some (.int .u32 0) := by rw [HZ.out]; exact memZero_get (by omega)
  have z2 : Z[2]? = some (.int .u64 0) := by rw [HZ.out]; exact memZero_get (by omega)
  have z3 : Z[3]? = some (.int .u16 0) := by rw [HZ.out]; exact memZero_get (by omega)
  have z4 : Z[4]? = some (.int .u32 0) := by rw [HZ.out]; exact memZero_get (by omega)
  obtain ⟨X0, HX0⟩ : ∃ X, Hid (X = c.extract 5 37) := ⟨_, rfl⟩
  have HT0 : Hid (∀ W, Calls Tryd.prog 29 #[.agg X0] W fun e w' => e = .returned (.agg X0) ∧ Below W.heap.size W w') := fun W => by
    rw [HX0.out]; exact to_timers (c.extract 5 37) (HC.out.esize _ _ (by omega)) (one_extract HC.out.one _ _) (mem_t HC.out) W
  have HL0 : Hid (∀ W : World, W.heap[w.heap.size]? = some (.cells c 48 (0, 0)) → (loadVar 44 ⟨w.heap.size, 5, none⟩).run Tryd.prog W = .ok (.agg X0) W) := fun W h => by
    rw [HX0.out]; exact load_sub h _ _ 5 32 (by rw [HC.out.size]; omega) Tryd.underlying44 rfl (by kernel_rfl)
  have HS0 : Hid (∀ (W : World) (D : Array Value), D.size = 136 → W.heap[w.heap.size + 1 + 1]? = some (.cells D 37 (0, 0)) → (storeVar 28 ⟨w.heap.size + 1 + 1, 5, none⟩ (.agg X0)).run Tryd.prog W = .ok () (W.setRow (w.heap.size + 1 + 1) (putAt D 5 X0.toList))) := fun W D hD h => by
    rw [HX0.out]; exact store_sub h _ 5 _ (by rw [HC.out.esize _ _ (by omega), hD]; omega) (by rw [HC.out.esize _ _ (by omega)]; kernel_rfl) (one_extract HC.out.one _ _)
  obtain ⟨X1, HX1⟩ : ∃ X, Hid (X = c.extract 37 85) := ⟨_, rfl⟩
  have HT1 : Hid (∀ W, Calls Tryd.prog 30 #[.agg X1] W fun e w' => e = .returned (.agg X1) ∧ Below W.heap.size W w') := fun W => by
    rw [HX1.out]; exact to_counters (c.extract 37 85) (HC.out.esize _ _ (by omega)) (one_extract HC.out.one _ _) (mem_c HC.out) W
  have HL1 : Hid (∀ W : World, W.heap[w.heap.size]? = some (.cells c 48 (0, 0)) → (loadVar 46 ⟨w.heap.size, 37, none⟩).run Tryd.prog W = .ok (.agg X1) W) := fun W h => by
    rw [HX1.out]; exact load_sub h _ _ 37 48 (by rw [HC.out.size]; omega) Tryd.underlying46 rfl (by kernel_rfl)
  have HS1 : Hid (∀ (W : World) (D : Array Value), D.size = 136 → W.heap[w.heap.size + 1 + 1]? = some (.cells D 37 (0, 0)) → (storeVar 31 ⟨w.heap.size + 1 + 1, 37, none⟩ (.agg X1)).run Tryd.prog W = .ok () (W.setRow (w.heap.size + 1 + 1) (putAt D 37 X1.toList))) := fun W D hD h => by
    rw [HX1.out]; exact store_sub h _ 37 _ (by rw [HC.out.esize _ _ (by omega), hD]; omega) (by rw [HC.out.esize _ _ (by omega)]; kernel_rfl) (one_extract HC.out.one _ _)
  obtain ⟨X2, HX2⟩ : ∃ X, Hid (X = c.extract 85 117) := ⟨_, rfl⟩
  have HT2 : Hid (∀ W, Calls Tryd.prog 31 #[.agg X2] W fun e w' => e = .returned (.agg X2) ∧ Below W.heap.size W w') := fun W => by
    rw [HX2.out]; exact to_wholes (c.extract 85 117) (HC.out.esize _ _ (by omega)) (one_extract HC.out.one _ _) (mem_d HC.out) W
  have HL2 : Hid (∀ W : World, W.heap[w.heap.size]? = some (.cells c 48 (0, 0)) → (loadVar 33 ⟨w.heap.size, 85, none⟩).run Tryd.prog W = .ok (.agg X2) W) := fun W h => by
    rw [HX2.out]; exact load_sub h _ _ 85 32 (by rw [HC.out.size]; omega) Tryd.underlying33 rfl (by kernel_rfl)
  have HS2 : Hid (∀ (W : World) (D : Array Value), D.size = 136 → W.heap[w.heap.size + 1 + 1]? = some (.cells D 37 (0, 0)) → (storeVar 33 ⟨w.heap.size + 1 + 1, 85, none⟩ (.agg X2)).run Tryd.prog W = .ok () (W.setRow (w.heap.size + 1 + 1) (putAt D 85 X2.toList))) := fun W D hD h => by
    rw [HX2.out]; exact store_sub h _ 85 _ (by rw [HC.out.esize _ _ (by omega), hD]; omega) (by rw [HC.out.esize _ _ (by omega)]; kernel_rfl) (one_extract HC.out.one _ _)
  obtain ⟨X3, HX3⟩ : ∃ X, Hid (X = c.extract 117 133) := ⟨_, rfl⟩
  have HT3 : Hid (∀ W, Calls Tryd.prog 32 #[.agg X3] W fun e w' => e = .returned (.agg X3) ∧ Below W.heap.size W w') := fun W => by
    rw [HX3.out]; exact to_reals (c.extract 117 133) (HC.out.esize _ _ (by omega)) (one_extract HC.out.one _ _) (mem_r HC.out) W
  have HL3 : Hid (∀ W : World, W.heap[w.heap.size]? = some (.cells c 48 (0, 0)) → (loadVar 35 ⟨w.heap.size, 117, none⟩).run Tryd.prog W = .ok (.agg X3) W) := fun W h => by
    rw [HX3.out]; exact load_sub h _ _ 117 16 (by rw [HC.out.size]; omega) Tryd.underlying35 rfl (by kernel_rfl)
  have HS3 : Hid (∀ (W : World) (D : Array Value), D.size = 136 → W.heap[w.heap.size + 1 + 1]? = some (.cells D 37 (0, 0)) → (storeVar 35 ⟨w.heap.size + 1 + 1, 117, none⟩ (.agg X3)).run Tryd.prog W = .ok () (W.setRow (w.heap.size + 1 + 1) (putAt D 117 X3.toList))) := fun W D hD h => by
    rw [HX3.out]; exact store_sub h _ 117 _ (by rw [HC.out.esize _ _ (by omega), hD]; omega) (by rw [HC.out.esize _ _ (by omega)]; kernel_rfl) (one_extract HC.out.one _ _)
  go_enter Tryd.func10, Tryd.ntmps10
  go_wp2_with (first | (refine wpL_load rfl 44 _ rfl _ _ rfl _ (HL0.out _ (rows3 w _ _ _).1) ?_) | fail)
  refine (HT0.out _).mono ?_
  rintro e w1 ⟨rfl, g1⟩
  obtain ⟨C1, HC1, h11, h12, h13, b1⟩ : ∃ C1, Hid (Upto c C1 5) ∧ w1.heap[w.heap.size]? = some (.cells c 48 (0, 0)) ∧ w1.heap[w.heap.size + 1]? = some (.cells Z 37 (0, 0)) ∧ w1.heap[w.heap.size + 1 + 1]? = some (.cells C1 37 (0, 0)) ∧ Below w.heap.size w w1 := by
    refine ⟨_, ?_, (g1.block _ (by simp <;> omega)).trans (rows3 w _ _ _).1, (g1.block _ (by simp <;> omega)).trans (rows3 w _ _ _).2.1, (g1.block _ (by simp <;> omega)).trans (rows3 w _ _ _).2.2, ?_⟩
    · have u0 : Upto c Z 0 := ⟨by rw [HZ.out, memZero_size, HC.out.size], fun j hj => by omega⟩
      exact ((((u0.set x0).set x1).set x2).set x3).set x4
    · exact ((((Below.refl _ _).alloc (Nat.le_refl _) _).alloc (by simp) _).alloc (by simp <;> omega) _).trans (g1.mono (by simp <;> omega))
  clear g1 z0 z1 z2 z3 z4 x0 x1 x2 x3 x4 hz HT0 HL0
  obtain ⟨C2, HD1⟩ : ∃ D, Hid (D = putAt C1 5 X0.toList) := ⟨_, rfl⟩
  have HC2 : Hid (Upto c C2 37) := by rw [HD1.out, HX0.out]; exact HC1.out.put 37 (by rw [HC.out.size]; omega) (by omega)
  obtain ⟨u1, HW1⟩ : ∃ u, Hid (u = w1.setRow (w.heap.size + 1 + 1) C2) := ⟨_, rfl⟩
  have HST : Hid ((storeVar 28 ⟨w.heap.size + 1 + 1, 5, none⟩ (.agg X0)).run Tryd.prog w1 = .ok () u1) := by
    rw [HW1.out, HD1.out]
    exact HS0.out _ _ (HC1.out.size.trans HC.out.size) h13
  have p1 : u1.heap[w.heap.size]? = some (.cells c 48 (0, 0)) := by rw [HW1.out]; exact row_beside h11 _ (by omega) _
  have p2 : u1.heap[w.heap.size + 1]? = some (.cells Z 37 (0, 0)) := by rw [HW1.out]; exact row_beside h12 _ (by omega) _
  have p3 : u1.heap[w.heap.size + 1 + 1]? = some (.cells C2 37 (0, 0)) := by rw [HW1.out]; exact row_set h13 _
  have pb : Below w.heap.size w u1 := by rw [HW1.out]; exact below_setRow b1 (by omega) _
  have ps : w.heap.size + 1 + 1 < u1.heap.size := (Array.getElem?_eq_some_iff.1 p3).1
  clear h11 h12 h13 b1 HC1 HD1 HW1 HS0 HX0
  go_wp2_with (first | (refine wpL_store rfl 28 _ _ rfl _ _ rfl _ rfl _ HST.out ?_) | (refine wpL_load rfl 46 _ rfl _ _ rfl _ (HL1.out _ p1) ?_) | fail)
  refine (HT1.out _).mono ?_
  rintro e w2 ⟨rfl, g2⟩
  have h21 := (g2.block _ (by omega)).trans p1
  have h22 := (g2.block _ (by omega)).trans p2
  have h23 := (g2.block _ (by omega)).trans p3
  have b2 := pb.trans (g2.mono (by omega))
  clear g2 p1 p2 p3 pb ps HST HL1 HT1
  obtain ⟨C3, HD2⟩ : ∃ D, Hid (D = putAt C2 37 X1.toList) := ⟨_, rfl⟩
  have HC3 : Hid (Upto c C3 85) := by rw [HD2.out, HX1.out]; exact HC2.out.put 85 (by rw [HC.out.size]; omega) (by omega)
  obtain ⟨u2, HW2⟩ : ∃ u, Hid (u = w2.setRow (w.heap.size + 1 + 1) C3) := ⟨_, rfl⟩
  have HST : Hid ((storeVar 31 ⟨w.heap.size + 1 + 1, 37, none⟩ (.agg X1)).run Tryd.prog w2 = .ok () u2) := by
    rw [HW2.out, HD2.out]
    exact HS1.out _ _ (HC2.out.size.trans HC.out.size) h23
  have p1 : u2.heap[w.heap.size]? = some (.cells c 48 (0, 0)) := by rw [HW2.out]; exact row_beside h21 _ (by omega) _
  have p2 : u2.heap[w.heap.size + 1]? = some (.cells Z 37 (0, 0)) := by rw [HW2.out]; exact row_beside h22 _ (by omega) _
  have p3 : u2.heap[w.heap.size + 1 + 1]? = some (.cells C3 37 (0, 0)) := by rw [HW2.out]; exact row_set h23 _
  have pb : Below w.heap.size w u2 := by rw [HW2.out]; exact below_setRow b2 (by omega) _
  have ps : w.heap.size + 1 + 1 < u2.heap.size := (Array.getElem?_eq_some_iff.1 p3).1
  clear h21 h22 h23 b2 HC2 HD2 HW2 HS1 HX1
  go_wp2_with (first | (refine wpL_store rfl 31 _ _ rfl _ _ rfl _ rfl _ HST.out ?_) | (refine wpL_load rfl 33 _ rfl _ _ rfl _ (HL2.out _ p1) ?_) | fail)
  refine (HT2.out _).mono ?_
  rintro e w3 ⟨rfl, g3⟩
  have h31 := (g3.block _ (by omega)).trans p1
  have h32 := (g3.block _ (by omega)).trans p2
  have h33 := (g3.block _ (by omega)).trans p3
  have b3 := pb.trans (g3.mono (by omega))
  clear g3 p1 p2 p3 pb ps HST HL2 HT2
  obtain ⟨C4, HD3⟩ : ∃ D, Hid (D = putAt C3 85 X2.toList) := ⟨_, rfl⟩
  have HC4 : Hid (Upto c C4 117) := by rw [HD3.out, HX2.out]; exact HC3.out.put 117 (by rw [HC.out.size]; omega) (by omega)
  obtain ⟨u3, HW3⟩ : ∃ u, Hid (u = w3.setRow (w.heap.size + 1 + 1) C4) := ⟨_, rfl⟩
  have HST : Hid ((storeVar 33 ⟨w.heap.size + 1 + 1, 85, none⟩ (.agg X2)).run Tryd.prog w3 = .ok () u3) := by
    rw [HW3.out, HD3.out]
    exact HS2.out _ _ (HC3.out.size.trans HC.out.size) h33
  have p1 : u3.heap[w.heap.size]? = some (.cells c 48 (0, 0)) := by rw [HW3.out]; exact row_beside h31 _ (by omega) _
  have p2 : u3.heap[w.heap.size + 1]? = some (.cells Z 37 (0, 0)) := by rw [HW3.out]; exact row_beside h32 _ (by omega) _
  have p3 : u3.heap[w.heap.size + 1 + 1]? = some (.cells C4 37 (0, 0)) := by rw [HW3.out]; exact row_set h33 _
  have pb : Below w.heap.size w u3 := by rw [HW3.out]; exact below_setRow b3 (by omega) _
  have ps : w.heap.size + 1 + 1 < u3.heap.size := (Array.getElem?_eq_some_iff.1 p3).1
  clear h31 h32 h33 b3 HC3 HD3 HW3 HS2 HX2
  go_wp2_with (first | (refine wpL_store rfl 33 _ _ rfl _ _ rfl _ rfl _ HST.out ?_) | (refine wpL_load rfl 35 _ rfl _ _ rfl _ (HL3.out _ p1) ?_) | fail)
  refine (HT3.out _).mono ?_
  rintro e w4 ⟨rfl, g4⟩
  have h41 := (g4.block _ (by omega)).trans p1
  have h42 := (g4.block _ (by omega)).trans p2
  have h43 := (g4.block _ (by omega)).trans p3
  have b4 := pb.trans (g4.mono (by omega))
  clear g4 p1 p2 p3 pb ps HST HL3 HT3
  obtain ⟨C5, HD5⟩ : ∃ C5, Hid (C5 = putAt C4 117 X3.toList) := ⟨_, rfl⟩
  have HU5 : Hid (Upto c C5 133) := by rw [HD5.out, HX3.out]; exact HC4.out.put 133 (by rw [HC.out.size]; omega) (by omega)
  have HS5 : Hid (C5.size = 136) := HU5.out.size.trans HC.out.size
  obtain ⟨w5, HW5⟩ : ∃ w5, Hid (w5 = w4.setRow (w.heap.size + 1 + 1) C5) := ⟨_, rfl⟩
  have HST : Hid ((storeVar 35 ⟨w.heap.size + 1 + 1, 117, none⟩ (.agg X3)).run Tryd.prog w4 = .ok () w5) := by
    rw [HW5.out, HD5.out]
    exact HS3.out _ _ (HC4.out.size.trans HC.out.size) h43
  have h51 : w5.heap[w.heap.size]? = some (.cells c 48 (0, 0)) := by rw [HW5.out]; exact row_beside h41 _ (by omega) _
  have h52 : w5.heap[w.heap.size + 1]? = some (.cells Z 37 (0, 0)) := by rw [HW5.out]; exact row_beside h42 _ (by omega) _
  have h53 : w5.heap[w.heap.size + 1 + 1]? = some (.cells C5 37 (0, 0)) := by rw [HW5.out]; exact row_set h43 _
  have b5 : Below w.heap.size w w5 := by rw [HW5.out]; exact below_setRow b4 (by omega) _
  clear h41 h42 h43 b4 HC4 HD5 HW5 HS3 HX3
  have r133 : w5.cell? ⟨w.heap.size, 133, none⟩ = c[133]? := cell_of_row _ _ _ _ _ _ h51
  rw [x5] at r133
  have q133 : w5.cell? ⟨w.heap.size + 1 + 1, 133, none⟩ = some (C5[133]'(by rw [HS5.out]; omega)) := by rw [cell_of_row _ _ _ _ _ _ h53]; exact Array.getElem?_eq_getElem (by rw [HS5.out]; omega)
  have f133 : w5.frozen? ⟨w.heap.size + 1 + 1, 133, none⟩ = false := by simp [World.frozen?, h53]
  have r134 : w5.cell? ⟨w.heap.size, 134, none⟩ = c[134]? := cell_of_row _ _ _ _ _ _ h51
  rw [x6] at r134
  have q134 : w5.cell? ⟨w.heap.size + 1 + 1, 134, none⟩ = some (C5[134]'(by rw [HS5.out]; omega)) := by rw [cell_of_row _ _ _ _ _ _ h53]; exact Array.getElem?_eq_getElem (by rw [HS5.out]; omega)
  have f134 : w5.frozen? ⟨w.heap.size + 1 + 1, 134, none⟩ = false := by simp [World.frozen?, h53]
  have r135 : w5.cell? ⟨w.heap.size, 135, none⟩ = c[135]? := cell_of_row _ _ _ _ _ _ h51
  rw [x7] at r135
  have q135 : w5.cell? ⟨w.heap.size + 1 + 1, 135, none⟩ = some (C5[135]'(by rw [HS5.out]; omega)) := by rw [cell_of_row _ _ _ _ _ _ h53]; exact Array.getElem?_eq_getElem (by rw [HS5.out]; omega)
  have f135 : w5.frozen? ⟨w.heap.size + 1 + 1, 135, none⟩ = false := by simp [World.frozen?, h53]
  have HX : Hid ((((C5.setIfInBounds 133 (.int .u32 v5)).setIfInBounds 134 (.bool v6)).setIfInBounds 135 (.bool v7)) = c) :=
    (((HU5.out.set x5).set x6).set x7).all (by rw [HC.out.size]; omega)
  have HZs : Hid (Z.size = c.size) := (by rw [HZ.out, memZero_size, HC.out.size] : Z.size = c.size)
  have his : (Tryd.prog.info? 37).map (·.size) = some c.size := by rw [HC.out.size]; exact zero_mem.2
  have HL : Hid (∀ W : World, W.heap[w.heap.size + 1 + 1]? = some (.cells (((C5.setIfInBounds 133 (.int .u32 v5)).setIfInBounds 134 (.bool v6)).setIfInBounds 135 (.bool v7)) 37 (0, 0)) → (loadVar 37 ⟨w.heap.size + 1 + 1, 0, none⟩).run Tryd.prog W = .ok (.agg c) W) := fun W h => by
    rw [HX.out] at h
    exact load_all h _ _ Tryd.underlying37 rfl his
  have HLD : Hid ((loadVar 37 ⟨w.heap.size + 1 + 1, 0, none⟩).run Tryd.prog (((w5.setCell ⟨w.heap.size + 1 + 1, 133, none⟩ (.int .u32 v5)).setCell ⟨w.heap.size + 1 + 1, 134, none⟩ (.bool v6)).setCell ⟨w.heap.size + 1 + 1, 135, none⟩ (.bool v7)) = .ok (.agg c) (((w5.setCell ⟨w.heap.size + 1 + 1, 133, none⟩ (.int .u32 v5)).setCell ⟨w.heap.size + 1 + 1, 134, none⟩ (.bool v6)).setCell ⟨w.heap.size + 1 + 1, 135, none⟩ (.bool v7))) := HL.out _ (row_put (row_put (row_put h53 _ _) _ _) _ _)
  have HR : Hid (((((w5.setCell ⟨w.heap.size + 1 + 1, 133, none⟩ (.int .u32 v5)).setCell ⟨w.heap.size + 1 + 1, 134, none⟩ (.bool v6)).setCell ⟨w.heap.size + 1 + 1, 135, none⟩ (.bool v7))).heap[w.heap.size + 1]? = some (.cells Z 37 (0, 0))) := (row_other (row_other (row_other h52 _ _ (by omega) _) _ _ (by omega) _) _ _ (by omega) _)
  have HSD : Hid ((storeVar 37 ⟨w.heap.size + 1, 0, none⟩ (.agg c)).run Tryd.prog (((w5.setCell ⟨w.heap.size + 1 + 1, 133, none⟩ (.int .u32 v5)).setCell ⟨w.heap.size + 1 + 1, 134, none⟩ (.bool v6)).setCell ⟨w.heap.size + 1 + 1, 135, none⟩ (.bool v7)) = .ok () (((((w5.setCell ⟨w.heap.size + 1 + 1, 133, none⟩ (.int .u32 v5)).setCell ⟨w.heap.size + 1 + 1, 134, none⟩ (.bool v6)).setCell ⟨w.heap.size + 1 + 1, 135, none⟩ (.bool v7))).setRow (w.heap.size + 1) c)) := store_all HR.out _ _ HZs.out his HC.out.one
  have HB : Hid (Below w.heap.size w (((((w5.setCell ⟨w.heap.size + 1 + 1, 133, none⟩ (.int .u32 v5)).setCell ⟨w.heap.size + 1 + 1, 134, none⟩ (.bool v6)).setCell ⟨w.heap.size + 1 + 1, 135, none⟩ (.bool v7))).setRow (w.heap.size + 1) c)) := below_setRow (((b5.setCell (p := ⟨w.heap.size + 1 + 1, 133, none⟩) (by simp <;> omega) _).setCell (p := ⟨w.heap.size + 1 + 1, 134, none⟩) (by simp <;> omega) _).setCell (p := ⟨w.heap.size + 1 + 1, 135, none⟩) (by simp <;> omega) _) (by omega) _
  have HI : Hid ((Tryd.prog.info? 37).map (·.size) = some c.size) := his
  clear his HL HX HZs h51 h52 h53 b5
  go_wp2_with (first | (refine wpL_store rfl 35 _ _ rfl _ _ rfl _ rfl _ HST.out ?_) | (refine wpL_load rfl 37 _ rfl _ _ rfl _ HLD.out ?_) | (refine wpL_store rfl 37 _ _ rfl _ _ rfl _ rfl _ HSD.out ?_) | exact ret_row rfl rfl (row_set HR.out _) Tryd.underlying37 rfl HI.out rfl ⟨rfl, HB.out⟩ | fail)
end Go.Proofs.YteekbhhlgicpeaaDoor
