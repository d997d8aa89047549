/- MemPutWhole and MemPutReal, the program's and the specification's. -/
import Derived.Test.YtlgacbjopobeoaaGreatDoorMbM
import Derived.Test.YtlgacbjopobeoaaGreatDoorMfM
namespace Go.Proofs.YtlgacbjopobeoaaGreatDoor
open Go.RowKit Go.Shelf
set_option linter.unusedVariables false

/-- The memory with a cell put, if the operand is of that kind. -/
def putk (c : Array Value) (K : Int) (base : Nat) (k n : Int) (v : Value) : Array Value := if k = K then c.setIfInBounds (base + (pl k n).toNat) v else c

theorem one_set {D : Array Value} (h : D.all (·.oneCell') = true) (i : Nat) {v : Value} (hv : v.oneCell' = true) : (D.setIfInBounds i v).all (·.oneCell') = true := by
  rw [Array.all_eq_true_iff_forall_mem] at h ⊢
  intro u hu
  obtain ⟨j, hj, rfl⟩ := Array.mem_iff_getElem.1 hu
  rw [Array.getElem_setIfInBounds (by simpa using hj)]
  split
  · exact hv
  · exact h _ (Array.getElem_mem _)


set_option maxRecDepth 10000 in
set_option maxHeartbeats 2000000 in
theorem putw_i (c : Array Value) (hc : MemOk c) (k n p : Int) (v : Int) (w : World) (hT : KT w) : Calls Tryz.prog 370 #[.agg c, .agg #[.int .i64 k, .int .i64 n, .int .i64 p], .int .i16 v] w fun e w' => e = .returned (.agg (putk c 9 85 k n (.int .i16 v))) ∧ Below w.heap.size w w' := by
  have HT : Hid (KT w) := hT
  clear hT
  have HC : Hid (MemOk c) := hc
  clear hc
  have hz := zero_mem.1
  obtain ⟨Z, HZ⟩ : ∃ Z, Hid (Z = memZero) := ⟨_, rfl⟩
  rw [← HZ.out] at hz
  have HZs : Hid (Z.size = 136) := (by rw [HZ.out, memZero_size] : Z.size = 136)
  by_cases hk : k = 9
  · subst hk
    obtain ⟨q0, q1⟩ := pl_lt 9 n (by decide)
    rw [show kZ 9 = 32 from rfl] at q1
    obtain ⟨q, hq⟩ : ∃ q : Nat, pl 9 n = q := ⟨(pl 9 n).toNat, by omega⟩
    rw [hq] at q0 q1
    obtain ⟨C, HCC⟩ : ∃ C, Hid (C = c.setIfInBounds (85 + q) (.int .i16 v)) := ⟨_, rfl⟩
    have hp : putk c 9 85 9 n (.int .i16 v) = C := by
      unfold putk
      rw [if_pos rfl, hq, Int.toNat_natCast, HCC.out]
    rw [hp]
    have HCs : Hid (C.size = 136) := (by rw [HCC.out]; simpa using HC.out.size : C.size = 136)
    have HCo : Hid (C.all (·.oneCell') = true) := (by rw [HCC.out]; exact one_set HC.out.one _ rfl : C.all (·.oneCell') = true)
    have HI : Hid ((Tryz.prog.info? 39).map (·.size) = some C.size) := (by rw [HCs.out]; exact zero_mem.2 : (Tryz.prog.info? 39).map (·.size) = some C.size)
    clear hp
    go_enter Tryz.func370, Tryz.ntmps370
    go_wp2_with fail
    refine (place_r _ _ _ _ (((HT.out.alloc _).alloc _).alloc _)).mono ?_
    rintro e w1 ⟨rfl, g1⟩
    have b1 : Below w.heap.size w w1 := ((((Below.refl _ _).alloc (Nat.le_refl _) _).alloc (by simp) _).alloc (by simp <;> omega) _).trans (g1.mono (by simp <;> omega))
    have h1 : w1.heap[w.heap.size]? = some (.cells c 39 (0, 0)) := (g1.block _ (by simp <;> omega)).trans (rows3 w _ _ _).1
    have h3 : w1.heap[w.heap.size + 1 + 1]? = some (.cells Z 39 (0, 0)) := (g1.block _ (by simp <;> omega)).trans (rows3 w _ _ _).2.2
    clear g1
    rw [hq]
    have r1 : w1.cell? ⟨w.heap.size, 85 + q, none⟩ = some (c[85 + q]'(by rw [HC.out.size]; omega)) := by rw [cell_of_row _ _ _ _ _ _ h1]; exact Array.getElem?_eq_getElem (by rw [HC.out.size]; omega)
    have f1 : w1.frozen? ⟨w.heap.size, 85 + q, none⟩ = false := by simp [World.frozen?, h1]
    have HR1 : Hid ((w1.setCell ⟨w.heap.size, 85 + q, none⟩ (.int .i16 v)).heap[w.heap.size]? = some (.cells C 39 (0, 0))) := (by rw [HCC.out]; exact row_put h1 _ _ : (w1.setCell ⟨w.heap.size, 85 + q, none⟩ (.int .i16 v)).heap[w.heap.size]? = some (.cells C 39 (0, 0)))
    have HR3 : Hid ((w1.setCell ⟨w.heap.size, 85 + q, none⟩ (.int .i16 v)).heap[w.heap.size + 1 + 1]? = some (.cells Z 39 (0, 0))) := row_other h3 _ _ (by omega) _
    have HLD : Hid ((loadVar 39 ⟨w.heap.size, 0, none⟩).run Tryz.prog (w1.setCell ⟨w.heap.size, 85 + q, none⟩ (.int .i16 v)) = .ok (.agg C) (w1.setCell ⟨w.heap.size, 85 + q, none⟩ (.int .i16 v))) := load_all HR1.out _ _ Tryz.underlying39 rfl HI.out
    have HSD : Hid ((storeVar 39 ⟨w.heap.size + 1 + 1, 0, none⟩ (.agg C)).run Tryz.prog (w1.setCell ⟨w.heap.size, 85 + q, none⟩ (.int .i16 v)) = .ok () ((w1.setCell ⟨w.heap.size, 85 + q, none⟩ (.int .i16 v)).setRow (w.heap.size + 1 + 1) C)) := store_all HR3.out _ _ (HZs.out.trans HCs.out.symm) HI.out HCo.out
    have HB : Hid (Below w.heap.size w ((w1.setCell ⟨w.heap.size, 85 + q, none⟩ (.int .i16 v)).setRow (w.heap.size + 1 + 1) C)) := below_setRow (b1.setCell (p := ⟨w.heap.size, 85 + q, none⟩) (by simp) _) (by omega) _
    clear h1 h3 b1 hz
    go_wp2_with (first | (refine wpL_load rfl 39 _ rfl _ _ rfl _ HLD.out ?_) | (refine wpL_store rfl 39 _ _ rfl _ _ rfl _ rfl _ HSD.out ?_) | exact ret_row rfl rfl (row_set HR3.out _) Tryz.underlying39 rfl HI.out rfl ⟨rfl, HB.out⟩ | fail)
  · have hp : putk c 9 85 k n (.int .i16 v) = c := if_neg hk
    rw [hp]
    have e1 : (k == 9) = false := by simp [hk]
    have HI : Hid ((Tryz.prog.info? 39).map (·.size) = some c.size) := (by rw [HC.out.size]; exact zero_mem.2 : (Tryz.prog.info? 39).map (·.size) = some c.size)
    clear hk hp
    go_enter Tryz.func370, Tryz.ntmps370
    go_wp2_with (first | (refine wpL_load rfl 39 _ rfl _ _ rfl _ (load_all (rows3 w _ _ _).1 _ _ Tryz.underlying39 rfl HI.out) ?_) | (refine wpL_store rfl 39 _ _ rfl _ _ rfl _ rfl _ (store_all (rows3 w _ _ _).2.2 _ _ (HZs.out.trans HC.out.size.symm) HI.out HC.out.one) ?_) | exact ret_row rfl rfl (row_set (rows3 w _ _ _).2.2 _) Tryz.underlying39 rfl HI.out rfl ⟨rfl, below_setRow ((((Below.refl _ _).alloc (Nat.le_refl _) _).alloc (by simp) _).alloc (by simp <;> omega) _) (by omega) _⟩ | fail)

set_option maxRecDepth 10000 in
set_option maxHeartbeats 2000000 in
theorem putw_s (c : Array Value) (hc : MemOk c) (k n p : Int) (v : Int) (w : World) : Calls Tryz.prog 288 #[.agg c, .agg #[.int .i64 k, .int .i64 n, .int .i64 p], .int .i16 v] w fun e w' => e = .returned (.agg (putk c 9 85 k n (.int .i16 v))) ∧ Below w.heap.size w w' := by
  have HC : Hid (MemOk c) := hc
  clear hc
  have hz := zero_mem.1
  obtain ⟨Z, HZ⟩ : ∃ Z, Hid (Z = memZero) := ⟨_, rfl⟩
  rw [← HZ.out] at hz
  have HZs : Hid (Z.size = 136) := (by rw [HZ.out, memZero_size] : Z.size = 136)
  by_cases hk : k = 9
  · subst hk
    obtain ⟨q0, q1⟩ := pl_lt 9 n (by decide)
    rw [show kZ 9 = 32 from rfl] at q1
    obtain ⟨q, hq⟩ : ∃ q : Nat, pl 9 n = q := ⟨(pl 9 n).toNat, by omega⟩
    rw [hq] at q0 q1
    obtain ⟨C, HCC⟩ : ∃ C, Hid (C = c.setIfInBounds (85 + q) (.int .i16 v)) := ⟨_, rfl⟩
    have hp : putk c 9 85 9 n (.int .i16 v) = C := by
      unfold putk
      rw [if_pos rfl, hq, Int.toNat_natCast, HCC.out]
    rw [hp]
    have HCs : Hid (C.size = 136) := (by rw [HCC.out]; simpa using HC.out.size : C.size = 136)
    have HCo : Hid (C.all (·.oneCell') = true) := (by rw [HCC.out]; exact one_set HC.out.one _ rfl : C.all (·.oneCell') = true)
    have HI : Hid ((Tryz.prog.info? 39).map (·.size) = some C.size) := (by rw [HCs.out]; exact zero_mem.2 : (Tryz.prog.info? 39).map (·.size) = some C.size)
    clear hp
    go_enter Tryz.func288, Tryz.ntmps288
    go_wp2_with fail
    refine (at_r _ _ _ _).mono ?_
    rintro e w1 ⟨rfl, g1⟩
    have b1 : Below w.heap.size w w1 := ((((Below.refl _ _).alloc (Nat.le_refl _) _).alloc (by simp) _).alloc (by simp <;> omega) _).trans (g1.mono (by simp <;> omega))
    have h1 : w1.heap[w.heap.size]? = some (.cells c 39 (0, 0)) := (g1.block _ (by simp <;> omega)).trans (rows3 w _ _ _).1
    have h3 : w1.heap[w.heap.size + 1 + 1]? = some (.cells Z 39 (0, 0)) := (g1.block _ (by simp <;> omega)).trans (rows3 w _ _ _).2.2
    clear g1
    rw [hq]
    have r1 : w1.cell? ⟨w.heap.size, 85 + q, none⟩ = some (c[85 + q]'(by rw [HC.out.size]; omega)) := by rw [cell_of_row _ _ _ _ _ _ h1]; exact Array.getElem?_eq_getElem (by rw [HC.out.size]; omega)
    have f1 : w1.frozen? ⟨w.heap.size, 85 + q, none⟩ = false := by simp [World.frozen?, h1]
    have HR1 : Hid ((w1.setCell ⟨w.heap.size, 85 + q, none⟩ (.int .i16 v)).heap[w.heap.size]? = some (.cells C 39 (0, 0))) := (by rw [HCC.out]; exact row_put h1 _ _ : (w1.setCell ⟨w.heap.size, 85 + q, none⟩ (.int .i16 v)).heap[w.heap.size]? = some (.cells C 39 (0, 0)))
    have HR3 : Hid ((w1.setCell ⟨w.heap.size, 85 + q, none⟩ (.int .i16 v)).heap[w.heap.size + 1 + 1]? = some (.cells Z 39 (0, 0))) := row_other h3 _ _ (by omega) _
    have HLD : Hid ((loadVar 39 ⟨w.heap.size, 0, none⟩).run Tryz.prog (w1.setCell ⟨w.heap.size, 85 + q, none⟩ (.int .i16 v)) = .ok (.agg C) (w1.setCell ⟨w.heap.size, 85 + q, none⟩ (.int .i16 v))) := load_all HR1.out _ _ Tryz.underlying39 rfl HI.out
    have HSD : Hid ((storeVar 39 ⟨w.heap.size + 1 + 1, 0, none⟩ (.agg C)).run Tryz.prog (w1.setCell ⟨w.heap.size, 85 + q, none⟩ (.int .i16 v)) = .ok () ((w1.setCell ⟨w.heap.size, 85 + q, none⟩ (.int .i16 v)).setRow (w.heap.size + 1 + 1) C)) := store_all HR3.out _ _ (HZs.out.trans HCs.out.symm) HI.out HCo.out
    have HB : Hid (Below w.heap.size w ((w1.setCell ⟨w.heap.size, 85 + q, none⟩ (.int .i16 v)).setRow (w.heap.size + 1 + 1) C)) := below_setRow (b1.setCell (p := ⟨w.heap.size, 85 + q, none⟩) (by simp) _) (by omega) _
    clear h1 h3 b1 hz
    go_wp2_with (first | (refine wpL_load rfl 39 _ rfl _ _ rfl _ HLD.out ?_) | (refine wpL_store rfl 39 _ _ rfl _ _ rfl _ rfl _ HSD.out ?_) | exact ret_row rfl rfl (row_set HR3.out _) Tryz.underlying39 rfl HI.out rfl ⟨rfl, HB.out⟩ | fail)
  · have hp : putk c 9 85 k n (.int .i16 v) = c := if_neg hk
    rw [hp]
    have e1 : (k == 9) = false := by simp [hk]
    have HI : Hid ((Tryz.prog.info? 39).map (·.size) = some c.size) := (by rw [HC.out.size]; exact zero_mem.2 : (Tryz.prog.info? 39).map (·.size) = some c.size)
    clear hk hp
    go_enter Tryz.func288, Tryz.ntmps288
    go_wp2_with (first | (refine wpL_load rfl 39 _ rfl _ _ rfl _ (load_all (rows3 w _ _ _).1 _ _ Tryz.underlying39 rfl HI.out) ?_) | (refine wpL_store rfl 39 _ _ rfl _ _ rfl _ rfl _ (store_all (rows3 w _ _ _).2.2 _ _ (HZs.out.trans HC.out.size.symm) HI.out HC.out.one) ?_) | exact ret_row rfl rfl (row_set (rows3 w _ _ _).2.2 _) Tryz.underlying39 rfl HI.out rfl ⟨rfl, below_setRow ((((Below.refl _ _).alloc (Nat.le_refl _) _).alloc (by simp) _).alloc (by simp <;> omega) _) (by omega) _⟩ | fail)

set_option maxRecDepth 10000 in
set_option maxHeartbeats 2000000 in
theorem putr_i (c : Array Value) (hc : MemOk c) (k n p : Int) (v : Nat) (w : World) (hT : KT w) : Calls Tryz.prog 369 #[.agg c, .agg #[.int .i64 k, .int .i64 n, .int .i64 p], .float .f64 v] w fun e w' => e = .returned (.agg (putk c 10 117 k n (.float .f64 v))) ∧ Below w.heap.size w w' := by
  have HT : Hid (KT w) := hT
  clear hT
  have HC : Hid (MemOk c) := hc
  clear hc
  have hz := zero_mem.1
  obtain ⟨Z, HZ⟩ : ∃ Z, Hid (Z = memZero) := ⟨_, rfl⟩
  rw [← HZ.out] at hz
  have HZs : Hid (Z.size = 136) := (by rw [HZ.out, memZero_size] : Z.size = 136)
  by_cases hk : k = 10
  · subst hk
    obtain ⟨q0, q1⟩ := pl_lt 10 n (by decide)
    rw [show kZ 10 = 16 from rfl] at q1
    obtain ⟨q, hq⟩ : ∃ q : Nat, pl 10 n = q := ⟨(pl 10 n).toNat, by omega⟩
    rw [hq] at q0 q1
    obtain ⟨C, HCC⟩ : ∃ C, Hid (C = c.setIfInBounds (117 + q) (.float .f64 v)) := ⟨_, rfl⟩
    have hp : putk c 10 117 10 n (.float .f64 v) = C := by
      unfold putk
      rw [if_pos rfl, hq, Int.toNat_natCast, HCC.out]
    rw [hp]
    have HCs : Hid (C.size = 136) := (by rw [HCC.out]; simpa using HC.out.size : C.size = 136)
    have HCo : Hid (C.all (·.oneCell') = true) := (by rw [HCC.out]; exact one_set HC.out.one _ rfl : C.all (·.oneCell') = true)
    have HI : Hid ((Tryz.prog.info? 39).map (·.size) = some C.size) := (by rw [HCs.out]; exact zero_mem.2 : (Tryz.prog.info? 39).map (·.size) = some C.size)
    clear hp
    go_enter Tryz.func369, Tryz.ntmps369
    go_wp2_with fail
    refine (place_r _ _ _ _ (((HT.out.alloc _).alloc _).alloc _)).mono ?_
    rintro e w1 ⟨rfl, g1⟩
    have b1 : Below w.heap.size w w1 := ((((Below.refl _ _).alloc (Nat.le_refl _) _).alloc (by simp) _).alloc (by simp <;> omega) _).trans (g1.mono (by simp <;> omega))
    have h1 : w1.heap[w.heap.size]? = some (.cells c 39 (0, 0)) := (g1.block _ (by simp <;> omega)).trans (rows3 w _ _ _).1
    have h3 : w1.heap[w.heap.size + 1 + 1]? = some (.cells Z 39 (0, 0)) := (g1.block _ (by simp <;> omega)).trans (rows3 w _ _ _).2.2
    clear g1
    rw [hq]
    have r1 : w1.cell? ⟨w.heap.size, 117 + q, none⟩ = some (c[117 + q]'(by rw [HC.out.size]; omega)) := by rw [cell_of_row _ _ _ _ _ _ h1]; exact Array.getElem?_eq_getElem (by rw [HC.out.size]; omega)
    have f1 : w1.frozen? ⟨w.heap.size, 117 + q, none⟩ = false := by simp [World.frozen?, h1]
    have s0 : (store ⟨w.heap.size, 117 + q, none⟩ (.float .f64 v)).run Tryz.prog w1 = .ok () (w1.setCell ⟨w.heap.size, 117 + q, none⟩ (.float .f64 v)) := by rw [run_store _ _ _ _ _ rfl, r1]; simp [f1]
    have HR1 : Hid ((w1.setCell ⟨w.heap.size, 117 + q, none⟩ (.float .f64 v)).heap[w.heap.size]? = some (.cells C 39 (0, 0))) := (by rw [HCC.out]; exact row_put h1 _ _ : (w1.setCell ⟨w.heap.size, 117 + q, none⟩ (.float .f64 v)).heap[w.heap.size]? = some (.cells C 39 (0, 0)))
    have HR3 : Hid ((w1.setCell ⟨w.heap.size, 117 + q, none⟩ (.float .f64 v)).heap[w.heap.size + 1 + 1]? = some (.cells Z 39 (0, 0))) := row_other h3 _ _ (by omega) _
    have HLD : Hid ((loadVar 39 ⟨w.heap.size, 0, none⟩).run Tryz.prog (w1.setCell ⟨w.heap.size, 117 + q, none⟩ (.float .f64 v)) = .ok (.agg C) (w1.setCell ⟨w.heap.size, 117 + q, none⟩ (.float .f64 v))) := load_all HR1.out _ _ Tryz.underlying39 rfl HI.out
    have HSD : Hid ((storeVar 39 ⟨w.heap.size + 1 + 1, 0, none⟩ (.agg C)).run Tryz.prog (w1.setCell ⟨w.heap.size, 117 + q, none⟩ (.float .f64 v)) = .ok () ((w1.setCell ⟨w.heap.size, 117 + q, none⟩ (.float .f64 v)).setRow (w.heap.size + 1 + 1) C)) := store_all HR3.out _ _ (HZs.out.trans HCs.out.symm) HI.out HCo.out
    have HB : Hid (Below w.heap.size w ((w1.setCell ⟨w.heap.size, 117 + q, none⟩ (.float .f64 v)).setRow (w.heap.size + 1 + 1) C)) := below_setRow (b1.setCell (p := ⟨w.heap.size, 117 + q, none⟩) (by simp) _) (by omega) _
    clear h1 h3 b1 hz
    go_wp2_with (first | (refine wpL_load rfl 39 _ rfl _ _ rfl _ HLD.out ?_) | (refine wpL_store rfl 39 _ _ rfl _ _ rfl _ rfl _ HSD.out ?_) | exact ret_row rfl rfl (row_set HR3.out _) Tryz.underlying39 rfl HI.out rfl ⟨rfl, HB.out⟩ | fail)
  · have hp : putk c 10 117 k n (.float .f64 v) = c := if_neg hk
    rw [hp]
    have e1 : (k == 10) = false := by simp [hk]
    have HI : Hid ((Tryz.prog.info? 39).map (·.size) = some c.size) := (by rw [HC.out.size]; exact zero_mem.2 : (Tryz.prog.info? 39).map (·.size) = some c.size)
    clear hk hp
    go_enter Tryz.func369, Tryz.ntmps369
    go_wp2_with (first | (refine wpL_load rfl 39 _ rfl _ _ rfl _ (load_all (rows3 w _ _ _).1 _ _ Tryz.underlying39 rfl HI.out) ?_) | (refine wpL_store rfl 39 _ _ rfl _ _ rfl _ rfl _ (store_all (rows3 w _ _ _).2.2 _ _ (HZs.out.trans HC.out.size.symm) HI.out HC.out.one) ?_) | exact ret_row rfl rfl (row_set (rows3 w _ _ _).2.2 _) Tryz.underlying39 rfl HI.out rfl ⟨rfl, below_setRow ((((Below.refl _ _).alloc (Nat.le_refl _) _).alloc (by simp) _).alloc (by simp <;> omega) _) (by omega) _⟩ | fail)

set_option maxRecDepth 10000 in
set_option maxHeartbeats 2000000 in
theorem putr_s (c : Array Value) (hc : MemOk c) (k n p : Int) (v : Nat) (w : World) : Calls Tryz.prog 286 #[.agg c, .agg #[.int .i64 k, .int .i64 n, .int .i64 p], .float .f64 v] w fun e w' => e = .returned (.agg (putk c 10 117 k n (.float .f64 v))) ∧ Below w.heap.size w w' := by
  have HC : Hid (MemOk c) := hc
  clear hc
  have hz := zero_mem.1
  obtain ⟨Z, HZ⟩ : ∃ Z, Hid (Z = memZero) := ⟨_, rfl⟩
  rw [← HZ.out] at hz
  have HZs : Hid (Z.size = 136) := (by rw [HZ.out, memZero_size] : Z.size = 136)
  by_cases hk : k = 10
  · subst hk
    obtain ⟨q0, q1⟩ := pl_lt 10 n (by decide)
    rw [show kZ 10 = 16 from rfl] at q1
    obtain ⟨q, hq⟩ : ∃ q : Nat, pl 10 n = q := ⟨(pl 10 n).toNat, by omega⟩
    rw [hq] at q0 q1
    obtain ⟨C, HCC⟩ : ∃ C, Hid (C = c.setIfInBounds (117 + q) (.float .f64 v)) := ⟨_, rfl⟩
    have hp : putk c 10 117 10 n (.float .f64 v) = C := by
      unfold putk
      rw [if_pos rfl, hq, Int.toNat_natCast, HCC.out]
    rw [hp]
    have HCs : Hid (C.size = 136) := (by rw [HCC.out]; simpa using HC.out.size : C.size = 136)
    have HCo : Hid (C.all (·.oneCell') = true) := (by rw [HCC.out]; exact one_set HC.out.one _ rfl : C.all (·.oneCell') = true)
    have HI : Hid ((Tryz.prog.info? 39).map (·.size) = some C.size) := (by rw [HCs.out]; exact zero_mem.2 : (Tryz.prog.info? 39).map (·.size) = some C.size)
    clear hp
    go_enter Tryz.func286, Tryz.ntmps286
    go_wp2_with fail
    refine (at_r _ _ _ _).mono ?_
    rintro e w1 ⟨rfl, g1⟩
    have b1 : Below w.heap.size w w1 := ((((Below.refl _ _).alloc (Nat.le_refl _) _).alloc (by simp) _).alloc (by simp <;> omega) _).trans (g1.mono (by simp <;> omega))
    have h1 : w1.heap[w.heap.size]? = some (.cells c 39 (0, 0)) := (g1.block _ (by simp <;> omega)).trans (rows3 w _ _ _).1
    have h3 : w1.heap[w.heap.size + 1 + 1]? = some (.cells Z 39 (0, 0)) := (g1.block _ (by simp <;> omega)).trans (rows3 w _ _ _).2.2
    clear g1
    rw [hq]
    have r1 : w1.cell? ⟨w.heap.size, 117 + q, none⟩ = some (c[117 + q]'(by rw [HC.out.size]; omega)) := by rw [cell_of_row _ _ _ _ _ _ h1]; exact Array.getElem?_eq_getElem (by rw [HC.out.size]; omega)
    have f1 : w1.frozen? ⟨w.heap.size, 117 + q, none⟩ = false := by simp [World.frozen?, h1]
    have s0 : (store ⟨w.heap.size, 117 + q, none⟩ (.float .f64 v)).run Tryz.prog w1 = .ok () (w1.setCell ⟨w.heap.size, 117 + q, none⟩ (.float .f64 v)) := by rw [run_store _ _ _ _ _ rfl, r1]; simp [f1]
    have HR1 : Hid ((w1.setCell ⟨w.heap.size, 117 + q, none⟩ (.float .f64 v)).heap[w.heap.size]? = some (.cells C 39 (0, 0))) := (by rw [HCC.out]; exact row_put h1 _ _ : (w1.setCell ⟨w.heap.size, 117 + q, none⟩ (.float .f64 v)).heap[w.heap.size]? = some (.cells C 39 (0, 0)))
    have HR3 : Hid ((w1.setCell ⟨w.heap.size, 117 + q, none⟩ (.float .f64 v)).heap[w.heap.size + 1 + 1]? = some (.cells Z 39 (0, 0))) := row_other h3 _ _ (by omega) _
    have HLD : Hid ((loadVar 39 ⟨w.heap.size, 0, none⟩).run Tryz.prog (w1.setCell ⟨w.heap.size, 117 + q, none⟩ (.float .f64 v)) = .ok (.agg C) (w1.setCell ⟨w.heap.size, 117 + q, none⟩ (.float .f64 v))) := load_all HR1.out _ _ Tryz.underlying39 rfl HI.out
    have HSD : Hid ((storeVar 39 ⟨w.heap.size + 1 + 1, 0, none⟩ (.agg C)).run Tryz.prog (w1.setCell ⟨w.heap.size, 117 + q, none⟩ (.float .f64 v)) = .ok () ((w1.setCell ⟨w.heap.size, 117 + q, none⟩ (.float .f64 v)).setRow (w.heap.size + 1 + 1) C)) := store_all HR3.out _ _ (HZs.out.trans HCs.out.symm) HI.out HCo.out
    have HB : Hid (Below w.heap.size w ((w1.setCell ⟨w.heap.size, 117 + q, none⟩ (.float .f64 v)).setRow (w.heap.size + 1 + 1) C)) := below_setRow (b1.setCell (p := ⟨w.heap.size, 117 + q, none⟩) (by simp) _) (by omega) _
    clear h1 h3 b1 hz
    go_wp2_with (first | (refine wpL_load rfl 39 _ rfl _ _ rfl _ HLD.out ?_) | (refine wpL_store rfl 39 _ _ rfl _ _ rfl _ rfl _ HSD.out ?_) | exact ret_row rfl rfl (row_set HR3.out _) Tryz.underlying39 rfl HI.out rfl ⟨rfl, HB.out⟩ | fail)
  · have hp : putk c 10 117 k n (.float .f64 v) = c := if_neg hk
    rw [hp]
    have e1 : (k == 10) = false := by simp [hk]
    have HI : Hid ((Tryz.prog.info? 39).map (·.size) = some c.size) := (by rw [HC.out.size]; exact zero_mem.2 : (Tryz.prog.info? 39).map (·.size) = some c.size)
    clear hk hp
    go_enter Tryz.func286, Tryz.ntmps286
    go_wp2_with (first | (refine wpL_load rfl 39 _ rfl _ _ rfl _ (load_all (rows3 w _ _ _).1 _ _ Tryz.underlying39 rfl HI.out) ?_) | (refine wpL_store rfl 39 _ _ rfl _ _ rfl _ rfl _ (store_all (rows3 w _ _ _).2.2 _ _ (HZs.out.trans HC.out.size.symm) HI.out HC.out.one) ?_) | exact ret_row rfl rfl (row_set (rows3 w _ _ _).2.2 _) Tryz.underlying39 rfl HI.out rfl ⟨rfl, below_setRow ((((Below.refl _ _).alloc (Nat.le_refl _) _).alloc (by simp) _).alloc (by simp <;> omega) _) (by omega) _⟩ | fail)
end Go.Proofs.YtlgacbjopobeoaaGreatDoor
