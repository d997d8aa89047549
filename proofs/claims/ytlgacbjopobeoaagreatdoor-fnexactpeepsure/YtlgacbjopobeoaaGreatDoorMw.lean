/- MemPut, the program's and the specification's. -/
import Derived.Test.YtlgacbjopobeoaaGreatDoorMfM
import Derived.Test.YtlgacbjopobeoaaGreatDoorMhM
import Derived.Test.YtlgacbjopobeoaaGreatDoorMj
namespace Go.Proofs.YtlgacbjopobeoaaGreatDoor
open Go.RowKit Go.Shelf
set_option linter.unusedVariables false

/-- The memory with a bit put. -/
def putb (c : Array Value) (k n : Int) (b : Bool) : Array Value :=
  if k = 2 then c.setIfInBounds 1 (.int .u32 (bput (word c 1) (pl k n) b)) else if k = 3 then c.setIfInBounds 2 (.int .u64 (bput (word c 2) (pl k n) b))
  else if k = 4 then c.setIfInBounds 3 (.int .u16 (bput (word c 3) (pl k n) b)) else if k = 5 then c.setIfInBounds 4 (.int .u32 (bput (word c 4) (pl k n) b)) else c

theorem pl_all (k n : Int) : 0 ≤ pl k n ∧ pl k n < 64 := by
  by_cases h : kZ k = 0
  · unfold pl; rw [if_pos h]; omega
  · have := pl_lt k n h
    have := kZ_le k
    omega


set_option maxRecDepth 10000 in
set_option maxHeartbeats 2000000 in
theorem putb2_i (c : Array Value) (hc : MemOk c) (n p : Int) (b : Bool) (w : World) (hT : KT w) : Calls Tryz.prog 328 #[.agg c, .agg #[.int .i64 2, .int .i64 n, .int .i64 p], .bool b] w fun e w' => e = .returned (.agg (c.setIfInBounds 1 (.int .u32 (bput (word c 1) (pl 2 n) b)))) ∧ Below w.heap.size w w' := by
  have HT : Hid (KT w) := hT
  clear hT
  have HC : Hid (MemOk c) := hc
  obtain ⟨X, hx, x0, x1⟩ := hc.u32 (i := 1) (by omega) rfl
  rw [word_of hx]
  obtain ⟨x, rfl⟩ : ∃ x : Nat, X = x := ⟨X.toNat, by omega⟩
  have hx1 : x < 4294967296 := by omega
  obtain ⟨q0, q1⟩ := pl_lt 2 n (by decide)
  rw [show kZ 2 = 32 from rfl] at q1
  obtain ⟨q, hq⟩ : ∃ q : Nat, pl 2 n = q := ⟨(pl 2 n).toNat, by omega⟩
  rw [hq] at q0 q1
  rw [hq]
  obtain ⟨y, Hy⟩ : ∃ y, Hid (y = bput x q b) := ⟨_, rfl⟩
  rw [← Hy.out]
  have yb := bput_bd x q 32 b (by omega) (by simpa using hx1) (by omega)
  rw [← Hy.out] at yb
  obtain ⟨y0, y1⟩ := yb
  have y2 : y < 4294967296 := by simpa using y1
  obtain ⟨M, HM⟩ : ∃ M : Int, Hid (M = ((2 ^ q : Nat) : Int)) := ⟨_, rfl⟩
  have hm : IntKind.u64.wrap (2 ^ q) = M := by rw [HM.out]; exact mask_eq q (by omega)
  have HTT : Hid (∀ V, Calls Tryz.prog 330 #[.int .u32 (x : Int), .func (.func 329) #[.agg #[.int .u64 M, .bool b]] #[]] V fun e w' => e = .returned (.int .u32 y) ∧ Below V.heap.size V w') := fun V => by
    rw [HM.out, Hy.out]; exact turned32 x q b hx1 (by omega) V
  obtain ⟨C, HCC⟩ : ∃ C, Hid (C = c.setIfInBounds 1 (.int .u32 y)) := ⟨_, rfl⟩
  rw [← HCC.out]
  have HCs : Hid (C.size = 136) := (by rw [HCC.out]; simpa using HC.out.size : C.size = 136)
  have HCo : Hid (C.all (·.oneCell') = true) := (by rw [HCC.out]; exact one_set HC.out.one _ rfl : C.all (·.oneCell') = true)
  have HI : Hid ((Tryz.prog.info? 39).map (·.size) = some C.size) := (by rw [HCs.out]; exact zero_mem.2 : (Tryz.prog.info? 39).map (·.size) = some C.size)
  have hz := zero_mem.1
  obtain ⟨Z, HZ⟩ : ∃ Z, Hid (Z = memZero) := ⟨_, rfl⟩
  rw [← HZ.out] at hz
  have HZs : Hid (Z.size = 136) := (by rw [HZ.out, memZero_size] : Z.size = 136)
  clear hc y1
  go_enter Tryz.func328, Tryz.ntmps328
  go_wp2_with fail
  refine (place_r _ _ _ _ (((HT.out.alloc _).alloc _).alloc _)).mono ?_
  rintro e w1 ⟨rfl, g1⟩
  have b1 : Below w.heap.size w w1 := ((((Below.refl _ _).alloc (Nat.le_refl _) _).alloc (by simp) _).alloc (by simp <;> omega) _).trans (g1.mono (by simp <;> omega))
  have h1 : w1.heap[w.heap.size]? = some (.cells c 39 (0, 0)) := (g1.block _ (by simp <;> omega)).trans (rows3 w _ _ _).1
  have h2 := (g1.block _ (by simp <;> omega)).trans (rows3 w _ _ _).2.1
  have h3 : w1.heap[w.heap.size + 1 + 1]? = some (.cells Z 39 (0, 0)) := (g1.block _ (by simp <;> omega)).trans (rows3 w _ _ _).2.2
  have s3 : w.heap.size + 1 + 1 < w1.heap.size := (Array.getElem?_eq_some_iff.1 h3).1
  have r0 : w1.cell? ⟨w.heap.size + 1, 0, none⟩ = some (.int .i64 2) := (cell_of_row _ _ _ _ _ _ h2).trans rfl
  have r1 : w1.cell? ⟨w.heap.size, 1, none⟩ = some (.int .u32 (x : Int)) := (cell_of_row _ _ _ _ _ _ h1).trans hx
  clear g1 h2 hz
  rw [hq]
  go_wp2_with fail
  refine (HTT.out _).mono ?_
  rintro e w2 ⟨rfl, g2⟩
  have h1' := (g2.block _ (by omega)).trans h1
  have h3' := (g2.block _ (by omega)).trans h3
  have b2 := b1.trans (g2.mono b1.size)
  have r2 : w2.cell? ⟨w.heap.size, 1, none⟩ = some (.int .u32 (x : Int)) := (cell_of_row _ _ _ _ _ _ h1').trans hx
  have f2 : w2.frozen? ⟨w.heap.size, 1, none⟩ = false := by simp [World.frozen?, h1']
  have HR1 : Hid ((w2.setCell ⟨w.heap.size, 1, none⟩ (.int .u32 y)).heap[w.heap.size]? = some (.cells C 39 (0, 0))) := (by rw [HCC.out]; exact row_put h1' _ _ : (w2.setCell ⟨w.heap.size, 1, none⟩ (.int .u32 y)).heap[w.heap.size]? = some (.cells C 39 (0, 0)))
  have HR3 : Hid ((w2.setCell ⟨w.heap.size, 1, none⟩ (.int .u32 y)).heap[w.heap.size + 1 + 1]? = some (.cells Z 39 (0, 0))) := row_other h3' _ _ (by omega) _
  have HLD : Hid ((loadVar 39 ⟨w.heap.size, 0, none⟩).run Tryz.prog (w2.setCell ⟨w.heap.size, 1, none⟩ (.int .u32 y)) = .ok (.agg C) (w2.setCell ⟨w.heap.size, 1, none⟩ (.int .u32 y))) := load_all HR1.out _ _ Tryz.underlying39 rfl HI.out
  have HSD : Hid ((storeVar 39 ⟨w.heap.size + 1 + 1, 0, none⟩ (.agg C)).run Tryz.prog (w2.setCell ⟨w.heap.size, 1, none⟩ (.int .u32 y)) = .ok () ((w2.setCell ⟨w.heap.size, 1, none⟩ (.int .u32 y)).setRow (w.heap.size + 1 + 1) C)) := store_all HR3.out _ _ (HZs.out.trans HCs.out.symm) HI.out HCo.out
  have HB : Hid (Below w.heap.size w ((w2.setCell ⟨w.heap.size, 1, none⟩ (.int .u32 y)).setRow (w.heap.size + 1 + 1) C)) := below_setRow (b2.setCell (p := ⟨w.heap.size, 1, none⟩) (by simp) _) (by omega) _
  clear g2 h1 h3 h1' h3' b1 b2 r0 r1 hq s3
  go_wp2_with (first | (refine wpL_load rfl 39 _ rfl _ _ rfl _ HLD.out ?_) | (refine wpL_store rfl 39 _ _ rfl _ _ rfl _ rfl _ HSD.out ?_) | exact ret_row rfl rfl (row_set HR3.out _) Tryz.underlying39 rfl HI.out rfl ⟨rfl, HB.out⟩ | fail)

set_option maxRecDepth 10000 in
set_option maxHeartbeats 2000000 in
theorem putb3_i (c : Array Value) (hc : MemOk c) (n p : Int) (b : Bool) (w : World) (hT : KT w) : Calls Tryz.prog 328 #[.agg c, .agg #[.int .i64 3, .int .i64 n, .int .i64 p], .bool b] w fun e w' => e = .returned (.agg (c.setIfInBounds 2 (.int .u64 (bput (word c 2) (pl 3 n) b)))) ∧ Below w.heap.size w w' := by
  have HT : Hid (KT w) := hT
  clear hT
  have HC : Hid (MemOk c) := hc
  obtain ⟨X, hx, x0, x1⟩ := hc.u64 (i := 2) (by omega) rfl
  rw [word_of hx]
  obtain ⟨x, rfl⟩ : ∃ x : Nat, X = x := ⟨X.toNat, by omega⟩
  have hx1 : x < 18446744073709551616 := by omega
  obtain ⟨q0, q1⟩ := pl_lt 3 n (by decide)
  rw [show kZ 3 = 64 from rfl] at q1
  obtain ⟨q, hq⟩ : ∃ q : Nat, pl 3 n = q := ⟨(pl 3 n).toNat, by omega⟩
  rw [hq] at q0 q1
  rw [hq]
  obtain ⟨y, Hy⟩ : ∃ y, Hid (y = bput x q b) := ⟨_, rfl⟩
  rw [← Hy.out]
  have yb := bput_bd x q 64 b (by omega) (by simpa using hx1) (by omega)
  rw [← Hy.out] at yb
  obtain ⟨y0, y1⟩ := yb
  have y2 : y < 18446744073709551616 := by simpa using y1
  obtain ⟨M, HM⟩ : ∃ M : Int, Hid (M = ((2 ^ q : Nat) : Int)) := ⟨_, rfl⟩
  have hm : IntKind.u64.wrap (2 ^ q) = M := by rw [HM.out]; exact mask_eq q (by omega)
  have HTT : Hid (∀ V, Calls Tryz.prog 331 #[.int .u64 (x : Int), .func (.func 329) #[.agg #[.int .u64 M, .bool b]] #[]] V fun e w' => e = .returned (.int .u64 y) ∧ Below V.heap.size V w') := fun V => by
    rw [HM.out, Hy.out]; exact turned64 x q b hx1 (by omega) V
  obtain ⟨C, HCC⟩ : ∃ C, Hid (C = c.setIfInBounds 2 (.int .u64 y)) := ⟨_, rfl⟩
  rw [← HCC.out]
  have HCs : Hid (C.size = 136) := (by rw [HCC.out]; simpa using HC.out.size : C.size = 136)
  have HCo : Hid (C.all (·.oneCell') = true) := (by rw [HCC.out]; exact one_set HC.out.one _ rfl : C.all (·.oneCell') = true)
  have HI : Hid ((Tryz.prog.info? 39).map (·.size) = some C.size) := (by rw [HCs.out]; exact zero_mem.2 : (Tryz.prog.info? 39).map (·.size) = some C.size)
  have hz := zero_mem.1
  obtain ⟨Z, HZ⟩ : ∃ Z, Hid (Z = memZero) := ⟨_, rfl⟩
  rw [← HZ.out] at hz
  have HZs : Hid (Z.size = 136) := (by rw [HZ.out, memZero_size] : Z.size = 136)
  clear hc y1
  go_enter Tryz.func328, Tryz.ntmps328
  go_wp2_with fail
  refine (place_r _ _ _ _ (((HT.out.alloc _).alloc _).alloc _)).mono ?_
  rintro e w1 ⟨rfl, g1⟩
  have b1 : Below w.heap.size w w1 := ((((Below.refl _ _).alloc (Nat.le_refl _) _).alloc (by simp) _).alloc (by simp <;> omega) _).trans (g1.mono (by simp <;> omega))
  have h1 : w1.heap[w.heap.size]? = some (.cells c 39 (0, 0)) := (g1.block _ (by simp <;> omega)).trans (rows3 w _ _ _).1
  have h2 := (g1.block _ (by simp <;> omega)).trans (rows3 w _ _ _).2.1
  have h3 : w1.heap[w.heap.size + 1 + 1]? = some (.cells Z 39 (0, 0)) := (g1.block _ (by simp <;> omega)).trans (rows3 w _ _ _).2.2
  have s3 : w.heap.size + 1 + 1 < w1.heap.size := (Array.getElem?_eq_some_iff.1 h3).1
  have r0 : w1.cell? ⟨w.heap.size + 1, 0, none⟩ = some (.int .i64 3) := (cell_of_row _ _ _ _ _ _ h2).trans rfl
  have r1 : w1.cell? ⟨w.heap.size, 2, none⟩ = some (.int .u64 (x : Int)) := (cell_of_row _ _ _ _ _ _ h1).trans hx
  clear g1 h2 hz
  rw [hq]
  go_wp2_with fail
  refine (HTT.out _).mono ?_
  rintro e w2 ⟨rfl, g2⟩
  have h1' := (g2.block _ (by omega)).trans h1
  have h3' := (g2.block _ (by omega)).trans h3
  have b2 := b1.trans (g2.mono b1.size)
  have r2 : w2.cell? ⟨w.heap.size, 2, none⟩ = some (.int .u64 (x : Int)) := (cell_of_row _ _ _ _ _ _ h1').trans hx
  have f2 : w2.frozen? ⟨w.heap.size, 2, none⟩ = false := by simp [World.frozen?, h1']
  have HR1 : Hid ((w2.setCell ⟨w.heap.size, 2, none⟩ (.int .u64 y)).heap[w.heap.size]? = some (.cells C 39 (0, 0))) := (by rw [HCC.out]; exact row_put h1' _ _ : (w2.setCell ⟨w.heap.size, 2, none⟩ (.int .u64 y)).heap[w.heap.size]? = some (.cells C 39 (0, 0)))
  have HR3 : Hid ((w2.setCell ⟨w.heap.size, 2, none⟩ (.int .u64 y)).heap[w.heap.size + 1 + 1]? = some (.cells Z 39 (0, 0))) := row_other h3' _ _ (by omega) _
  have HLD : Hid ((loadVar 39 ⟨w.heap.size, 0, none⟩).run Tryz.prog (w2.setCell ⟨w.heap.size, 2, none⟩ (.int .u64 y)) = .ok (.agg C) (w2.setCell ⟨w.heap.size, 2, none⟩ (.int .u64 y))) := load_all HR1.out _ _ Tryz.underlying39 rfl HI.out
  have HSD : Hid ((storeVar 39 ⟨w.heap.size + 1 + 1, 0, none⟩ (.agg C)).run Tryz.prog (w2.setCell ⟨w.heap.size, 2, none⟩ (.int .u64 y)) = .ok () ((w2.setCell ⟨w.heap.size, 2, none⟩ (.int .u64 y)).setRow (w.heap.size + 1 + 1) C)) := store_all HR3.out _ _ (HZs.out.trans HCs.out.symm) HI.out HCo.out
  have HB : Hid (Below w.heap.size w ((w2.setCell ⟨w.heap.size, 2, none⟩ (.int .u64 y)).setRow (w.heap.size + 1 + 1) C)) := below_setRow (b2.setCell (p := ⟨w.heap.size, 2, none⟩) (by simp) _) (by omega) _
  clear g2 h1 h3 h1' h3' b1 b2 r0 r1 hq s3
  go_wp2_with (first | (refine wpL_load rfl 39 _ rfl _ _ rfl _ HLD.out ?_) | (refine wpL_store rfl 39 _ _ rfl _ _ rfl _ rfl _ HSD.out ?_) | exact ret_row rfl rfl (row_set HR3.out _) Tryz.underlying39 rfl HI.out rfl ⟨rfl, HB.out⟩ | fail)

set_option maxRecDepth 10000 in
set_option maxHeartbeats 2000000 in
theorem putb4_i (c : Array Value) (hc : MemOk c) (n p : Int) (b : Bool) (w : World) (hT : KT w) : Calls Tryz.prog 328 #[.agg c, .agg #[.int .i64 4, .int .i64 n, .int .i64 p], .bool b] w fun e w' => e = .returned (.agg (c.setIfInBounds 3 (.int .u16 (bput (word c 3) (pl 4 n) b)))) ∧ Below w.heap.size w w' := by
  have HT : Hid (KT w) := hT
  clear hT
  have HC : Hid (MemOk c) := hc
  obtain ⟨X, hx, x0, x1⟩ := hc.u16 (i := 3) (by omega) rfl
  rw [word_of hx]
  obtain ⟨x, rfl⟩ : ∃ x : Nat, X = x := ⟨X.toNat, by omega⟩
  have hx1 : x < 65536 := by omega
  obtain ⟨q0, q1⟩ := pl_lt 4 n (by decide)
  rw [show kZ 4 = 16 from rfl] at q1
  obtain ⟨q, hq⟩ : ∃ q : Nat, pl 4 n = q := ⟨(pl 4 n).toNat, by omega⟩
  rw [hq] at q0 q1
  rw [hq]
  obtain ⟨y, Hy⟩ : ∃ y, Hid (y = bput x q b) := ⟨_, rfl⟩
  rw [← Hy.out]
  have yb := bput_bd x q 16 b (by omega) (by simpa using hx1) (by omega)
  rw [← Hy.out] at yb
  obtain ⟨y0, y1⟩ := yb
  have y2 : y < 65536 := by simpa using y1
  obtain ⟨M, HM⟩ : ∃ M : Int, Hid (M = ((2 ^ q : Nat) : Int)) := ⟨_, rfl⟩
  have hm : IntKind.u64.wrap (2 ^ q) = M := by rw [HM.out]; exact mask_eq q (by omega)
  have HTT : Hid (∀ V, Calls Tryz.prog 332 #[.int .u16 (x : Int), .func (.func 329) #[.agg #[.int .u64 M, .bool b]] #[]] V fun e w' => e = .returned (.int .u16 y) ∧ Below V.heap.size V w') := fun V => by
    rw [HM.out, Hy.out]; exact turned16 x q b hx1 (by omega) V
  obtain ⟨C, HCC⟩ : ∃ C, Hid (C = c.setIfInBounds 3 (.int .u16 y)) := ⟨_, rfl⟩
  rw [← HCC.out]
  have HCs : Hid (C.size = 136) := (by rw [HCC.out]; simpa using HC.out.size : C.size = 136)
  have HCo : Hid (C.all (·.oneCell') = true) := (by rw [HCC.out]; exact one_set HC.out.one _ rfl : C.all (·.oneCell') = true)
  have HI : Hid ((Tryz.prog.info? 39).map (·.size) = some C.size) := (by rw [HCs.out]; exact zero_mem.2 : (Tryz.prog.info? 39).map (·.size) = some C.size)
  have hz := zero_mem.1
  obtain ⟨Z, HZ⟩ : ∃ Z, Hid (Z = memZero) := ⟨_, rfl⟩
  rw [← HZ.out] at hz
  have HZs : Hid (Z.size = 136) := (by rw [HZ.out, memZero_size] : Z.size = 136)
  clear hc y1
  go_enter Tryz.func328, Tryz.ntmps328
  go_wp2_with fail
  refine (place_r _ _ _ _ (((HT.out.alloc _).alloc _).alloc _)).mono ?_
  rintro e w1 ⟨rfl, g1⟩
  have b1 : Below w.heap.size w w1 := ((((Below.refl _ _).alloc (Nat.le_refl _) _).alloc (by simp) _).alloc (by simp <;> omega) _).trans (g1.mono (by simp <;> omega))
  have h1 : w1.heap[w.heap.size]? = some (.cells c 39 (0, 0)) := (g1.block _ (by simp <;> omega)).trans (rows3 w _ _ _).1
  have h2 := (g1.block _ (by simp <;> omega)).trans (rows3 w _ _ _).2.1
  have h3 : w1.heap[w.heap.size + 1 + 1]? = some (.cells Z 39 (0, 0)) := (g1.block _ (by simp <;> omega)).trans (rows3 w _ _ _).2.2
  have s3 : w.heap.size + 1 + 1 < w1.heap.size := (Array.getElem?_eq_some_iff.1 h3).1
  have r0 : w1.cell? ⟨w.heap.size + 1, 0, none⟩ = some (.int .i64 4) := (cell_of_row _ _ _ _ _ _ h2).trans rfl
  have r1 : w1.cell? ⟨w.heap.size, 3, none⟩ = some (.int .u16 (x : Int)) := (cell_of_row _ _ _ _ _ _ h1).trans hx
  clear g1 h2 hz
  rw [hq]
  go_wp2_with fail
  refine (HTT.out _).mono ?_
  rintro e w2 ⟨rfl, g2⟩
  have h1' := (g2.block _ (by omega)).trans h1
  have h3' := (g2.block _ (by omega)).trans h3
  have b2 := b1.trans (g2.mono b1.size)
  have r2 : w2.cell? ⟨w.heap.size, 3, none⟩ = some (.int .u16 (x : Int)) := (cell_of_row _ _ _ _ _ _ h1').trans hx
  have f2 : w2.frozen? ⟨w.heap.size, 3, none⟩ = false := by simp [World.frozen?, h1']
  have HR1 : Hid ((w2.setCell ⟨w.heap.size, 3, none⟩ (.int .u16 y)).heap[w.heap.size]? = some (.cells C 39 (0, 0))) := (by rw [HCC.out]; exact row_put h1' _ _ : (w2.setCell ⟨w.heap.size, 3, none⟩ (.int .u16 y)).heap[w.heap.size]? = some (.cells C 39 (0, 0)))
  have HR3 : Hid ((w2.setCell ⟨w.heap.size, 3, none⟩ (.int .u16 y)).heap[w.heap.size + 1 + 1]? = some (.cells Z 39 (0, 0))) := row_other h3' _ _ (by omega) _
  have HLD : Hid ((loadVar 39 ⟨w.heap.size, 0, none⟩).run Tryz.prog (w2.setCell ⟨w.heap.size, 3, none⟩ (.int .u16 y)) = .ok (.agg C) (w2.setCell ⟨w.heap.size, 3, none⟩ (.int .u16 y))) := load_all HR1.out _ _ Tryz.underlying39 rfl HI.out
  have HSD : Hid ((storeVar 39 ⟨w.heap.size + 1 + 1, 0, none⟩ (.agg C)).run Tryz.prog (w2.setCell ⟨w.heap.size, 3, none⟩ (.int .u16 y)) = .ok () ((w2.setCell ⟨w.heap.size, 3, none⟩ (.int .u16 y)).setRow (w.heap.size + 1 + 1) C)) := store_all HR3.out _ _ (HZs.out.trans HCs.out.symm) HI.out HCo.out
  have HB : Hid (Below w.heap.size w ((w2.setCell ⟨w.heap.size, 3, none⟩ (.int .u16 y)).setRow (w.heap.size + 1 + 1) C)) := below_setRow (b2.setCell (p := ⟨w.heap.size, 3, none⟩) (by simp) _) (by omega) _
  clear g2 h1 h3 h1' h3' b1 b2 r0 r1 hq s3
  go_wp2_with (first | (refine wpL_load rfl 39 _ rfl _ _ rfl _ HLD.out ?_) | (refine wpL_store rfl 39 _ _ rfl _ _ rfl _ rfl _ HSD.out ?_) | exact ret_row rfl rfl (row_set HR3.out _) Tryz.underlying39 rfl HI.out rfl ⟨rfl, HB.out⟩ | fail)

set_option maxRecDepth 10000 in
set_option maxHeartbeats 2000000 in
theorem putb5_i (c : Array Value) (hc : MemOk c) (n p : Int) (b : Bool) (w : World) (hT : KT w) : Calls Tryz.prog 328 #[.agg c, .agg #[.int .i64 5, .int .i64 n, .int .i64 p], .bool b] w fun e w' => e = .returned (.agg (c.setIfInBounds 4 (.int .u32 (bput (word c 4) (pl 5 n) b)))) ∧ Below w.heap.size w w' := by
  have HT : Hid (KT w) := hT
  clear hT
  have HC : Hid (MemOk c) := hc
  obtain ⟨X, hx, x0, x1⟩ := hc.u32 (i := 4) (by omega) rfl
  rw [word_of hx]
  obtain ⟨x, rfl⟩ : ∃ x : Nat, X = x := ⟨X.toNat, by omega⟩
  have hx1 : x < 4294967296 := by omega
  obtain ⟨q0, q1⟩ := pl_lt 5 n (by decide)
  rw [show kZ 5 = 32 from rfl] at q1
  obtain ⟨q, hq⟩ : ∃ q : Nat, pl 5 n = q := ⟨(pl 5 n).toNat, by omega⟩
  rw [hq] at q0 q1
  rw [hq]
  obtain ⟨y, Hy⟩ : ∃ y, Hid (y = bput x q b) := ⟨_, rfl⟩
  rw [← Hy.out]
  have yb := bput_bd x q 32 b (by omega) (by simpa using hx1) (by omega)
  rw [← Hy.out] at yb
  obtain ⟨y0, y1⟩ := yb
  have y2 : y < 4294967296 := by simpa using y1
  obtain ⟨M, HM⟩ : ∃ M : Int, Hid (M = ((2 ^ q : Nat) : Int)) := ⟨_, rfl⟩
  have hm : IntKind.u64.wrap (2 ^ q) = M := by rw [HM.out]; exact mask_eq q (by omega)
  have HTT : Hid (∀ V, Calls Tryz.prog 330 #[.int .u32 (x : Int), .func (.func 329) #[.agg #[.int .u64 M, .bool b]] #[]] V fun e w' => e = .returned (.int .u32 y) ∧ Below V.heap.size V w') := fun V => by
    rw [HM.out, Hy.out]; exact turned32 x q b hx1 (by omega) V
  obtain ⟨C, HCC⟩ : ∃ C, Hid (C = c.setIfInBounds 4 (.int .u32 y)) := ⟨_, rfl⟩
  rw [← HCC.out]
  have HCs : Hid (C.size = 136) := (by rw [HCC.out]; simpa using HC.out.size : C.size = 136)
  have HCo : Hid (C.all (·.oneCell') = true) := (by rw [HCC.out]; exact one_set HC.out.one _ rfl : C.all (·.oneCell') = true)
  have HI : Hid ((Tryz.prog.info? 39).map (·.size) = some C.size) := (by rw [HCs.out]; exact zero_mem.2 : (Tryz.prog.info? 39).map (·.size) = some C.size)
  have hz := zero_mem.1
  obtain ⟨Z, HZ⟩ : ∃ Z, Hid (Z = memZero) := ⟨_, rfl⟩
  rw [← HZ.out] at hz
  have HZs : Hid (Z.size = 136) := (by rw [HZ.out, memZero_size] : Z.size = 136)
  clear hc y1
  go_enter Tryz.func328, Tryz.ntmps328
  go_wp2_with fail
  refine (place_r _ _ _ _ (((HT.out.alloc _).alloc _).alloc _)).mono ?_
  rintro e w1 ⟨rfl, g1⟩
  have b1 : Below w.heap.size w w1 := ((((Below.refl _ _).alloc (Nat.le_refl _) _).alloc (by simp) _).alloc (by simp <;> omega) _).trans (g1.mono (by simp <;> omega))
  have h1 : w1.heap[w.heap.size]? = some (.cells c 39 (0, 0)) := (g1.block _ (by simp <;> omega)).trans (rows3 w _ _ _).1
  have h2 := (g1.block _ (by simp <;> omega)).trans (rows3 w _ _ _).2.1
  have h3 : w1.heap[w.heap.size + 1 + 1]? = some (.cells Z 39 (0, 0)) := (g1.block _ (by simp <;> omega)).trans (rows3 w _ _ _).2.2
  have s3 : w.heap.size + 1 + 1 < w1.heap.size := (Array.getElem?_eq_some_iff.1 h3).1
  have r0 : w1.cell? ⟨w.heap.size + 1, 0, none⟩ = some (.int .i64 5) := (cell_of_row _ _ _ _ _ _ h2).trans rfl
  have r1 : w1.cell? ⟨w.heap.size, 4, none⟩ = some (.int .u32 (x : Int)) := (cell_of_row _ _ _ _ _ _ h1).trans hx
  clear g1 h2 hz
  rw [hq]
  go_wp2_with fail
  refine (HTT.out _).mono ?_
  rintro e w2 ⟨rfl, g2⟩
  have h1' := (g2.block _ (by omega)).trans h1
  have h3' := (g2.block _ (by omega)).trans h3
  have b2 := b1.trans (g2.mono b1.size)
  have r2 : w2.cell? ⟨w.heap.size, 4, none⟩ = some (.int .u32 (x : Int)) := (cell_of_row _ _ _ _ _ _ h1').trans hx
  have f2 : w2.frozen? ⟨w.heap.size, 4, none⟩ = false := by simp [World.frozen?, h1']
  have HR1 : Hid ((w2.setCell ⟨w.heap.size, 4, none⟩ (.int .u32 y)).heap[w.heap.size]? = some (.cells C 39 (0, 0))) := (by rw [HCC.out]; exact row_put h1' _ _ : (w2.setCell ⟨w.heap.size, 4, none⟩ (.int .u32 y)).heap[w.heap.size]? = some (.cells C 39 (0, 0)))
  have HR3 : Hid ((w2.setCell ⟨w.heap.size, 4, none⟩ (.int .u32 y)).heap[w.heap.size + 1 + 1]? = some (.cells Z 39 (0, 0))) := row_other h3' _ _ (by omega) _
  have HLD : Hid ((loadVar 39 ⟨w.heap.size, 0, none⟩).run Tryz.prog (w2.setCell ⟨w.heap.size, 4, none⟩ (.int .u32 y)) = .ok (.agg C) (w2.setCell ⟨w.heap.size, 4, none⟩ (.int .u32 y))) := load_all HR1.out _ _ Tryz.underlying39 rfl HI.out
  have HSD : Hid ((storeVar 39 ⟨w.heap.size + 1 + 1, 0, none⟩ (.agg C)).run Tryz.prog (w2.setCell ⟨w.heap.size, 4, none⟩ (.int .u32 y)) = .ok () ((w2.setCell ⟨w.heap.size, 4, none⟩ (.int .u32 y)).setRow (w.heap.size + 1 + 1) C)) := store_all HR3.out _ _ (HZs.out.trans HCs.out.symm) HI.out HCo.out
  have HB : Hid (Below w.heap.size w ((w2.setCell ⟨w.heap.size, 4, none⟩ (.int .u32 y)).setRow (w.heap.size + 1 + 1) C)) := below_setRow (b2.setCell (p := ⟨w.heap.size, 4, none⟩) (by simp) _) (by omega) _
  clear g2 h1 h3 h1' h3' b1 b2 r0 r1 hq s3
  go_wp2_with (first | (refine wpL_load rfl 39 _ rfl _ _ rfl _ HLD.out ?_) | (refine wpL_store rfl 39 _ _ rfl _ _ rfl _ rfl _ HSD.out ?_) | exact ret_row rfl rfl (row_set HR3.out _) Tryz.underlying39 rfl HI.out rfl ⟨rfl, HB.out⟩ | fail)

set_option maxRecDepth 10000 in
set_option maxHeartbeats 2000000 in
theorem putb0_i (C : Array Value) (hc : MemOk C) (k n p : Int) (h1 : k ≠ 1) (h2 : k ≠ 2) (h3 : k ≠ 3) (h4 : k ≠ 4) (h5 : k ≠ 5) (b : Bool) (w : World) (hT : KT w) : Calls Tryz.prog 328 #[.agg C, .agg #[.int .i64 k, .int .i64 n, .int .i64 p], .bool b] w fun e w' => e = .returned (.agg C) ∧ Below w.heap.size w w' := by
  have HT : Hid (KT w) := hT
  clear hT
  have n1 : (k == 1) = false := by simp [h1]
  have n2 : (k == 2) = false := by simp [h2]
  have n3 : (k == 3) = false := by simp [h3]
  have n4 : (k == 4) = false := by simp [h4]
  have n5 : (k == 5) = false := by simp [h5]
  have HCs : Hid (C.size = 136) := hc.size
  have HCo : Hid (C.all (·.oneCell') = true) := hc.one
  have HI : Hid ((Tryz.prog.info? 39).map (·.size) = some C.size) := (by rw [HCs.out]; exact zero_mem.2 : (Tryz.prog.info? 39).map (·.size) = some C.size)
  have hz := zero_mem.1
  obtain ⟨Z, HZ⟩ : ∃ Z, Hid (Z = memZero) := ⟨_, rfl⟩
  rw [← HZ.out] at hz
  have HZs : Hid (Z.size = 136) := (by rw [HZ.out, memZero_size] : Z.size = 136)
  obtain ⟨q0, q1⟩ := pl_all k n
  obtain ⟨q, hq⟩ : ∃ q : Nat, pl k n = q := ⟨(pl k n).toNat, by omega⟩
  rw [hq] at q0 q1
  clear hc h1 h2 h3 h4 h5
  go_enter Tryz.func328, Tryz.ntmps328
  go_wp2_with fail
  refine (place_r _ _ _ _ (((HT.out.alloc _).alloc _).alloc _)).mono ?_
  rintro e w1 ⟨rfl, g1⟩
  have b1 : Below w.heap.size w w1 := ((((Below.refl _ _).alloc (Nat.le_refl _) _).alloc (by simp) _).alloc (by simp <;> omega) _).trans (g1.mono (by simp <;> omega))
  have h1 : w1.heap[w.heap.size]? = some (.cells C 39 (0, 0)) := (g1.block _ (by simp <;> omega)).trans (rows3 w _ _ _).1
  have h2 := (g1.block _ (by simp <;> omega)).trans (rows3 w _ _ _).2.1
  have h3 : w1.heap[w.heap.size + 1 + 1]? = some (.cells Z 39 (0, 0)) := (g1.block _ (by simp <;> omega)).trans (rows3 w _ _ _).2.2
  have s3 : w.heap.size + 1 + 1 < w1.heap.size := (Array.getElem?_eq_some_iff.1 h3).1
  have r0 : w1.cell? ⟨w.heap.size + 1, 0, none⟩ = some (.int .i64 k) := (cell_of_row _ _ _ _ _ _ h2).trans rfl
  have HR1 : Hid (w1.heap[w.heap.size]? = some (.cells C 39 (0, 0))) := h1
  have HR3 : Hid (w1.heap[w.heap.size + 1 + 1]? = some (.cells Z 39 (0, 0))) := h3
  have HLD : Hid ((loadVar 39 ⟨w.heap.size, 0, none⟩).run Tryz.prog w1 = .ok (.agg C) w1) := load_all HR1.out _ _ Tryz.underlying39 rfl HI.out
  have HSD : Hid ((storeVar 39 ⟨w.heap.size + 1 + 1, 0, none⟩ (.agg C)).run Tryz.prog w1 = .ok () (w1.setRow (w.heap.size + 1 + 1) C)) := store_all HR3.out _ _ (HZs.out.trans HCs.out.symm) HI.out HCo.out
  have HB : Hid (Below w.heap.size w (w1.setRow (w.heap.size + 1 + 1) C)) := below_setRow b1 (by omega) _
  rw [hq]
  clear g1 h1 h2 h3 b1 hz hq s3
  go_wp2_with (first | (refine wpL_load rfl 39 _ rfl _ _ rfl _ HLD.out ?_) | (refine wpL_store rfl 39 _ _ rfl _ _ rfl _ rfl _ HSD.out ?_) | exact ret_row rfl rfl (row_set HR3.out _) Tryz.underlying39 rfl HI.out rfl ⟨rfl, HB.out⟩ | fail)

set_option maxRecDepth 10000 in
set_option maxHeartbeats 2000000 in
theorem putb2_s (c : Array Value) (hc : MemOk c) (n p : Int) (b : Bool) (w : World) : Calls Tryz.prog 225 #[.agg c, .agg #[.int .i64 2, .int .i64 n, .int .i64 p], .bool b] w fun e w' => e = .returned (.agg (c.setIfInBounds 1 (.int .u32 (bput (word c 1) (pl 2 n) b)))) ∧ Below w.heap.size w w' := by
  have HC : Hid (MemOk c) := hc
  obtain ⟨X, hx, x0, x1⟩ := hc.u32 (i := 1) (by omega) rfl
  rw [word_of hx]
  obtain ⟨x, rfl⟩ : ∃ x : Nat, X = x := ⟨X.toNat, by omega⟩
  have hx1 : x < 4294967296 := by omega
  obtain ⟨q0, q1⟩ := pl_lt 2 n (by decide)
  rw [show kZ 2 = 32 from rfl] at q1
  obtain ⟨q, hq⟩ : ∃ q : Nat, pl 2 n = q := ⟨(pl 2 n).toNat, by omega⟩
  rw [hq] at q0 q1
  rw [hq]
  obtain ⟨y, Hy⟩ : ∃ y, Hid (y = bput x q b) := ⟨_, rfl⟩
  rw [← Hy.out]
  have yb := bput_bd x q 32 b (by omega) (by simpa using hx1) (by omega)
  rw [← Hy.out] at yb
  obtain ⟨y0, y1⟩ := yb
  have y2 : y < 4294967296 := by simpa using y1
  obtain ⟨M, HM⟩ : ∃ M : Int, Hid (M = ((2 ^ q : Nat) : Int)) := ⟨_, rfl⟩
  have hm : IntKind.u64.wrap (2 ^ q) = M := by rw [HM.out]; exact mask_eq q (by omega)
  have HTT : Hid (∀ V, Calls Tryz.prog 259 #[.int .u64 (x : Int), .int .i64 (q : Int), .bool b] V fun e w' => e = .returned (.int .u64 y) ∧ Below V.heap.size V w') := fun V => by
    rw [Hy.out]; exact (lturned x q b (by omega) (by omega) V).mono fun e w1 h => ⟨h.1, by rw [h.2]; exact Below.refl _ _⟩
  obtain ⟨C, HCC⟩ : ∃ C, Hid (C = c.setIfInBounds 1 (.int .u32 y)) := ⟨_, rfl⟩
  rw [← HCC.out]
  have HCs : Hid (C.size = 136) := (by rw [HCC.out]; simpa using HC.out.size : C.size = 136)
  have HCo : Hid (C.all (·.oneCell') = true) := (by rw [HCC.out]; exact one_set HC.out.one _ rfl : C.all (·.oneCell') = true)
  have HI : Hid ((Tryz.prog.info? 39).map (·.size) = some C.size) := (by rw [HCs.out]; exact zero_mem.2 : (Tryz.prog.info? 39).map (·.size) = some C.size)
  have hz := zero_mem.1
  obtain ⟨Z, HZ⟩ : ∃ Z, Hid (Z = memZero) := ⟨_, rfl⟩
  rw [← HZ.out] at hz
  have HZs : Hid (Z.size = 136) := (by rw [HZ.out, memZero_size] : Z.size = 136)
  clear hc y1
  go_enter Tryz.func225, Tryz.ntmps225
  go_wp2_with fail
  refine (at_r _ _ _ _).mono ?_
  rintro e w1 ⟨rfl, g1⟩
  have b1 : Below w.heap.size w w1 := ((((Below.refl _ _).alloc (Nat.le_refl _) _).alloc (by simp) _).alloc (by simp <;> omega) _).trans (g1.mono (by simp <;> omega))
  have h1 : w1.heap[w.heap.size]? = some (.cells c 39 (0, 0)) := (g1.block _ (by simp <;> omega)).trans (rows3 w _ _ _).1
  have h2 := (g1.block _ (by simp <;> omega)).trans (rows3 w _ _ _).2.1
  have h3 : w1.heap[w.heap.size + 1 + 1]? = some (.cells Z 39 (0, 0)) := (g1.block _ (by simp <;> omega)).trans (rows3 w _ _ _).2.2
  have s3 : w.heap.size + 1 + 1 < w1.heap.size := (Array.getElem?_eq_some_iff.1 h3).1
  have r0 : w1.cell? ⟨w.heap.size + 1, 0, none⟩ = some (.int .i64 2) := (cell_of_row _ _ _ _ _ _ h2).trans rfl
  have r1 : w1.cell? ⟨w.heap.size, 1, none⟩ = some (.int .u32 (x : Int)) := (cell_of_row _ _ _ _ _ _ h1).trans hx
  clear g1 h2 hz
  rw [hq]
  go_wp2_with fail
  refine (HTT.out _).mono ?_
  rintro e w2 ⟨rfl, g2⟩
  have h1' := (g2.block _ (by omega)).trans h1
  have h3' := (g2.block _ (by omega)).trans h3
  have b2 := b1.trans (g2.mono b1.size)
  have r2 : w2.cell? ⟨w.heap.size, 1, none⟩ = some (.int .u32 (x : Int)) := (cell_of_row _ _ _ _ _ _ h1').trans hx
  have f2 : w2.frozen? ⟨w.heap.size, 1, none⟩ = false := by simp [World.frozen?, h1']
  have HR1 : Hid ((w2.setCell ⟨w.heap.size, 1, none⟩ (.int .u32 y)).heap[w.heap.size]? = some (.cells C 39 (0, 0))) := (by rw [HCC.out]; exact row_put h1' _ _ : (w2.setCell ⟨w.heap.size, 1, none⟩ (.int .u32 y)).heap[w.heap.size]? = some (.cells C 39 (0, 0)))
  have HR3 : Hid ((w2.setCell ⟨w.heap.size, 1, none⟩ (.int .u32 y)).heap[w.heap.size + 1 + 1]? = some (.cells Z 39 (0, 0))) := row_other h3' _ _ (by omega) _
  have HLD : Hid ((loadVar 39 ⟨w.heap.size, 0, none⟩).run Tryz.prog (w2.setCell ⟨w.heap.size, 1, none⟩ (.int .u32 y)) = .ok (.agg C) (w2.setCell ⟨w.heap.size, 1, none⟩ (.int .u32 y))) := load_all HR1.out _ _ Tryz.underlying39 rfl HI.out
  have HSD : Hid ((storeVar 39 ⟨w.heap.size + 1 + 1, 0, none⟩ (.agg C)).run Tryz.prog (w2.setCell ⟨w.heap.size, 1, none⟩ (.int .u32 y)) = .ok () ((w2.setCell ⟨w.heap.size, 1, none⟩ (.int .u32 y)).setRow (w.heap.size + 1 + 1) C)) := store_all HR3.out _ _ (HZs.out.trans HCs.out.symm) HI.out HCo.out
  have HB : Hid (Below w.heap.size w ((w2.setCell ⟨w.heap.size, 1, none⟩ (.int .u32 y)).setRow (w.heap.size + 1 + 1) C)) := below_setRow (b2.setCell (p := ⟨w.heap.size, 1, none⟩) (by simp) _) (by omega) _
  clear g2 h1 h3 h1' h3' b1 b2 r0 r1 hq s3
  go_wp2_with (first | (refine wpL_load rfl 39 _ rfl _ _ rfl _ HLD.out ?_) | (refine wpL_store rfl 39 _ _ rfl _ _ rfl _ rfl _ HSD.out ?_) | exact ret_row rfl rfl (row_set HR3.out _) Tryz.underlying39 rfl HI.out rfl ⟨rfl, HB.out⟩ | fail)

set_option maxRecDepth 10000 in
set_option maxHeartbeats 2000000 in
theorem putb3_s (c : Array Value) (hc : MemOk c) (n p : Int) (b : Bool) (w : World) : Calls Tryz.prog 225 #[.agg c, .agg #[.int .i64 3, .int .i64 n, .int .i64 p], .bool b] w fun e w' => e = .returned (.agg (c.setIfInBounds 2 (.int .u64 (bput (word c 2) (pl 3 n) b)))) ∧ Below w.heap.size w w' := by
  have HC : Hid (MemOk c) := hc
  obtain ⟨X, hx, x0, x1⟩ := hc.u64 (i := 2) (by omega) rfl
  rw [word_of hx]
  obtain ⟨x, rfl⟩ : ∃ x : Nat, X = x := ⟨X.toNat, by omega⟩
  have hx1 : x < 18446744073709551616 := by omega
  obtain ⟨q0, q1⟩ := pl_lt 3 n (by decide)
  rw [show kZ 3 = 64 from rfl] at q1
  obtain ⟨q, hq⟩ : ∃ q : Nat, pl 3 n = q := ⟨(pl 3 n).toNat, by omega⟩
  rw [hq] at q0 q1
  rw [hq]
  obtain ⟨y, Hy⟩ : ∃ y, Hid (y = bput x q b) := ⟨_, rfl⟩
  rw [← Hy.out]
  have yb := bput_bd x q 64 b (by omega) (by simpa using hx1) (by omega)
  rw [← Hy.out] at yb
  obtain ⟨y0, y1⟩ := yb
  have y2 : y < 18446744073709551616 := by simpa using y1
  obtain ⟨M, HM⟩ : ∃ M : Int, Hid (M = ((2 ^ q : Nat) : Int)) := ⟨_, rfl⟩
  have hm : IntKind.u64.wrap (2 ^ q) = M := by rw [HM.out]; exact mask_eq q (by omega)
  have HTT : Hid (∀ V, Calls Tryz.prog 259 #[.int .u64 (x : Int), .int .i64 (q : Int), .bool b] V fun e w' => e = .returned (.int .u64 y) ∧ Below V.heap.size V w') := fun V => by
    rw [Hy.out]; exact (lturned x q b (by omega) (by omega) V).mono fun e w1 h => ⟨h.1, by rw [h.2]; exact Below.refl _ _⟩
  obtain ⟨C, HCC⟩ : ∃ C, Hid (C = c.setIfInBounds 2 (.int .u64 y)) := ⟨_, rfl⟩
  rw [← HCC.out]
  have HCs : Hid (C.size = 136) := (by rw [HCC.out]; simpa using HC.out.size : C.size = 136)
  have HCo : Hid (C.all (·.oneCell') = true) := (by rw [HCC.out]; exact one_set HC.out.one _ rfl : C.all (·.oneCell') = true)
  have HI : Hid ((Tryz.prog.info? 39).map (·.size) = some C.size) := (by rw [HCs.out]; exact zero_mem.2 : (Tryz.prog.info? 39).map (·.size) = some C.size)
  have hz := zero_mem.1
  obtain ⟨Z, HZ⟩ : ∃ Z, Hid (Z = memZero) := ⟨_, rfl⟩
  rw [← HZ.out] at hz
  have HZs : Hid (Z.size = 136) := (by rw [HZ.out, memZero_size] : Z.size = 136)
  clear hc y1
  go_enter Tryz.func225, Tryz.ntmps225
  go_wp2_with fail
  refine (at_r _ _ _ _).mono ?_
  rintro e w1 ⟨rfl, g1⟩
  have b1 : Below w.heap.size w w1 := ((((Below.refl _ _).alloc (Nat.le_refl _) _).alloc (by simp) _).alloc (by simp <;> omega) _).trans (g1.mono (by simp <;> omega))
  have h1 : w1.heap[w.heap.size]? = some (.cells c 39 (0, 0)) := (g1.block _ (by simp <;> omega)).trans (rows3 w _ _ _).1
  have h2 := (g1.block _ (by simp <;> omega)).trans (rows3 w _ _ _).2.1
  have h3 : w1.heap[w.heap.size + 1 + 1]? = some (.cells Z 39 (0, 0)) := (g1.block _ (by simp <;> omega)).trans (rows3 w _ _ _).2.2
  have s3 : w.heap.size + 1 + 1 < w1.heap.size := (Array.getElem?_eq_some_iff.1 h3).1
  have r0 : w1.cell? ⟨w.heap.size + 1, 0, none⟩ = some (.int .i64 3) := (cell_of_row _ _ _ _ _ _ h2).trans rfl
  have r1 : w1.cell? ⟨w.heap.size, 2, none⟩ = some (.int .u64 (x : Int)) := (cell_of_row _ _ _ _ _ _ h1).trans hx
  clear g1 h2 hz
  rw [hq]
  go_wp2_with fail
  refine (HTT.out _).mono ?_
  rintro e w2 ⟨rfl, g2⟩
  have h1' := (g2.block _ (by omega)).trans h1
  have h3' := (g2.block _ (by omega)).trans h3
  have b2 := b1.trans (g2.mono b1.size)
  have r2 : w2.cell? ⟨w.heap.size, 2, none⟩ = some (.int .u64 (x : Int)) := (cell_of_row _ _ _ _ _ _ h1').trans hx
  have f2 : w2.frozen? ⟨w.heap.size, 2, none⟩ = false := by simp [World.frozen?, h1']
  have HR1 : Hid ((w2.setCell ⟨w.heap.size, 2, none⟩ (.int .u64 y)).heap[w.heap.size]? = some (.cells C 39 (0, 0))) := (by rw [HCC.out]; exact row_put h1' _ _ : (w2.setCell ⟨w.heap.size, 2, none⟩ (.int .u64 y)).heap[w.heap.size]? = some (.cells C 39 (0, 0)))
  have HR3 : Hid ((w2.setCell ⟨w.heap.size, 2, none⟩ (.int .u64 y)).heap[w.heap.size + 1 + 1]? = some (.cells Z 39 (0, 0))) := row_other h3' _ _ (by omega) _
  have HLD : Hid ((loadVar 39 ⟨w.heap.size, 0, none⟩).run Tryz.prog (w2.setCell ⟨w.heap.size, 2, none⟩ (.int .u64 y)) = .ok (.agg C) (w2.setCell ⟨w.heap.size, 2, none⟩ (.int .u64 y))) := load_all HR1.out _ _ Tryz.underlying39 rfl HI.out
  have HSD : Hid ((storeVar 39 ⟨w.heap.size + 1 + 1, 0, none⟩ (.agg C)).run Tryz.prog (w2.setCell ⟨w.heap.size, 2, none⟩ (.int .u64 y)) = .ok () ((w2.setCell ⟨w.heap.size, 2, none⟩ (.int .u64 y)).setRow (w.heap.size + 1 + 1) C)) := store_all HR3.out _ _ (HZs.out.trans HCs.out.symm) HI.out HCo.out
  have HB : Hid (Below w.heap.size w ((w2.setCell ⟨w.heap.size, 2, none⟩ (.int .u64 y)).setRow (w.heap.size + 1 + 1) C)) := below_setRow (b2.setCell (p := ⟨w.heap.size, 2, none⟩) (by simp) _) (by omega) _
  clear g2 h1 h3 h1' h3' b1 b2 r0 r1 hq s3
  go_wp2_with (first | (refine wpL_load rfl 39 _ rfl _ _ rfl _ HLD.out ?_) | (refine wpL_store rfl 39 _ _ rfl _ _ rfl _ rfl _ HSD.out ?_) | exact ret_row rfl rfl (row_set HR3.out _) Tryz.underlying39 rfl HI.out rfl ⟨rfl, HB.out⟩ | fail)

set_option maxRecDepth 10000 in
set_option maxHeartbeats 2000000 in
theorem putb4_s (c : Array Value) (hc : MemOk c) (n p : Int) (b : Bool) (w : World) : Calls Tryz.prog 225 #[.agg c, .agg #[.int .i64 4, .int .i64 n, .int .i64 p], .bool b] w fun e w' => e = .returned (.agg (c.setIfInBounds 3 (.int .u16 (bput (word c 3) (pl 4 n) b)))) ∧ Below w.heap.size w w' := by
  have HC : Hid (MemOk c) := hc
  obtain ⟨X, hx, x0, x1⟩ := hc.u16 (i := 3) (by omega) rfl
  rw [word_of hx]
  obtain ⟨x, rfl⟩ : ∃ x : Nat, X = x := ⟨X.toNat, by omega⟩
  have hx1 : x < 65536 := by omega
  obtain ⟨q0, q1⟩ := pl_lt 4 n (by decide)
  rw [show kZ 4 = 16 from rfl] at q1
  obtain ⟨q, hq⟩ : ∃ q : Nat, pl 4 n = q := ⟨(pl 4 n).toNat, by omega⟩
  rw [hq] at q0 q1
  rw [hq]
  obtain ⟨y, Hy⟩ : ∃ y, Hid (y = bput x q b) := ⟨_, rfl⟩
  rw [← Hy.out]
  have yb := bput_bd x q 16 b (by omega) (by simpa using hx1) (by omega)
  rw [← Hy.out] at yb
  obtain ⟨y0, y1⟩ := yb
  have y2 : y < 65536 := by simpa using y1
  obtain ⟨M, HM⟩ : ∃ M : Int, Hid (M = ((2 ^ q : Nat) : Int)) := ⟨_, rfl⟩
  have hm : IntKind.u64.wrap (2 ^ q) = M := by rw [HM.out]; exact mask_eq q (by omega)
  have HTT : Hid (∀ V, Calls Tryz.prog 259 #[.int .u64 (x : Int), .int .i64 (q : Int), .bool b] V fun e w' => e = .returned (.int .u64 y) ∧ Below V.heap.size V w') := fun V => by
    rw [Hy.out]; exact (lturned x q b (by omega) (by omega) V).mono fun e w1 h => ⟨h.1, by rw [h.2]; exact Below.refl _ _⟩
  obtain ⟨C, HCC⟩ : ∃ C, Hid (C = c.setIfInBounds 3 (.int .u16 y)) := ⟨_, rfl⟩
  rw [← HCC.out]
  have HCs : Hid (C.size = 136) := (by rw [HCC.out]; simpa using HC.out.size : C.size = 136)
  have HCo : Hid (C.all (·.oneCell') = true) := (by rw [HCC.out]; exact one_set HC.out.one _ rfl : C.all (·.oneCell') = true)
  have HI : Hid ((Tryz.prog.info? 39).map (·.size) = some C.size) := (by rw [HCs.out]; exact zero_mem.2 : (Tryz.prog.info? 39).map (·.size) = some C.size)
  have hz := zero_mem.1
  obtain ⟨Z, HZ⟩ : ∃ Z, Hid (Z = memZero) := ⟨_, rfl⟩
  rw [← HZ.out] at hz
  have HZs : Hid (Z.size = 136) := (by rw [HZ.out, memZero_size] : Z.size = 136)
  clear hc y1
  go_enter Tryz.func225, Tryz.ntmps225
  go_wp2_with fail
  refine (at_r _ _ _ _).mono ?_
  rintro e w1 ⟨rfl, g1⟩
  have b1 : Below w.heap.size w w1 := ((((Below.refl _ _).alloc (Nat.le_refl _) _).alloc (by simp) _).alloc (by simp <;> omega) _).trans (g1.mono (by simp <;> omega))
  have h1 : w1.heap[w.heap.size]? = some (.cells c 39 (0, 0)) := (g1.block _ (by simp <;> omega)).trans (rows3 w _ _ _).1
  have h2 := (g1.block _ (by simp <;> omega)).trans (rows3 w _ _ _).2.1
  have h3 : w1.heap[w.heap.size + 1 + 1]? = some (.cells Z 39 (0, 0)) := (g1.block _ (by simp <;> omega)).trans (rows3 w _ _ _).2.2
  have s3 : w.heap.size + 1 + 1 < w1.heap.size := (Array.getElem?_eq_some_iff.1 h3).1
  have r0 : w1.cell? ⟨w.heap.size + 1, 0, none⟩ = some (.int .i64 4) := (cell_of_row _ _ _ _ _ _ h2).trans rfl
  have r1 : w1.cell? ⟨w.heap.size, 3, none⟩ = some (.int .u16 (x : Int)) := (cell_of_row _ _ _ _ _ _ h1).trans hx
  clear g1 h2 hz
  rw [hq]
  go_wp2_with fail
  refine (HTT.out _).mono ?_
  rintro e w2 ⟨rfl, g2⟩
  have h1' := (g2.block _ (by omega)).trans h1
  have h3' := (g2.block _ (by omega)).trans h3
  have b2 := b1.trans (g2.mono b1.size)
  have r2 : w2.cell? ⟨w.heap.size, 3, none⟩ = some (.int .u16 (x : Int)) := (cell_of_row _ _ _ _ _ _ h1').trans hx
  have f2 : w2.frozen? ⟨w.heap.size, 3, none⟩ = false := by simp [World.frozen?, h1']
  have HR1 : Hid ((w2.setCell ⟨w.heap.size, 3, none⟩ (.int .u16 y)).heap[w.heap.size]? = some (.cells C 39 (0, 0))) := (by rw [HCC.out]; exact row_put h1' _ _ : (w2.setCell ⟨w.heap.size, 3, none⟩ (.int .u16 y)).heap[w.heap.size]? = some (.cells C 39 (0, 0)))
  have HR3 : Hid ((w2.setCell ⟨w.heap.size, 3, none⟩ (.int .u16 y)).heap[w.heap.size + 1 + 1]? = some (.cells Z 39 (0, 0))) := row_other h3' _ _ (by omega) _
  have HLD : Hid ((loadVar 39 ⟨w.heap.size, 0, none⟩).run Tryz.prog (w2.setCell ⟨w.heap.size, 3, none⟩ (.int .u16 y)) = .ok (.agg C) (w2.setCell ⟨w.heap.size, 3, none⟩ (.int .u16 y))) := load_all HR1.out _ _ Tryz.underlying39 rfl HI.out
  have HSD : Hid ((storeVar 39 ⟨w.heap.size + 1 + 1, 0, none⟩ (.agg C)).run Tryz.prog (w2.setCell ⟨w.heap.size, 3, none⟩ (.int .u16 y)) = .ok () ((w2.setCell ⟨w.heap.size, 3, none⟩ (.int .u16 y)).setRow (w.heap.size + 1 + 1) C)) := store_all HR3.out _ _ (HZs.out.trans HCs.out.symm) HI.out HCo.out
  have HB : Hid (Below w.heap.size w ((w2.setCell ⟨w.heap.size, 3, none⟩ (.int .u16 y)).setRow (w.heap.size + 1 + 1) C)) := below_setRow (b2.setCell (p := ⟨w.heap.size, 3, none⟩) (by simp) _) (by omega) _
  clear g2 h1 h3 h1' h3' b1 b2 r0 r1 hq s3
  go_wp2_with (first | (refine wpL_load rfl 39 _ rfl _ _ rfl _ HLD.out ?_) | (refine wpL_store rfl 39 _ _ rfl _ _ rfl _ rfl _ HSD.out ?_) | exact ret_row rfl rfl (row_set HR3.out _) Tryz.underlying39 rfl HI.out rfl ⟨rfl, HB.out⟩ | fail)

set_option maxRecDepth 10000 in
set_option maxHeartbeats 2000000 in
theorem putb5_s (c : Array Value) (hc : MemOk c) (n p : Int) (b : Bool) (w : World) : Calls Tryz.prog 225 #[.agg c, .agg #[.int .i64 5, .int .i64 n, .int .i64 p], .bool b] w fun e w' => e = .returned (.agg (c.setIfInBounds 4 (.int .u32 (bput (word c 4) (pl 5 n) b)))) ∧ Below w.heap.size w w' := by
  have HC : Hid (MemOk c) := hc
  obtain ⟨X, hx, x0, x1⟩ := hc.u32 (i := 4) (by omega) rfl
  rw [word_of hx]
  obtain ⟨x, rfl⟩ : ∃ x : Nat, X = x := ⟨X.toNat, by omega⟩
  have hx1 : x < 4294967296 := by omega
  obtain ⟨q0, q1⟩ := pl_lt 5 n (by decide)
  rw [show kZ 5 = 32 from rfl] at q1
  obtain ⟨q, hq⟩ : ∃ q : Nat, pl 5 n = q := ⟨(pl 5 n).toNat, by omega⟩
  rw [hq] at q0 q1
  rw [hq]
  obtain ⟨y, Hy⟩ : ∃ y, Hid (y = bput x q b) := ⟨_, rfl⟩
  rw [← Hy.out]
  have yb := bput_bd x q 32 b (by omega) (by simpa using hx1) (by omega)
  rw [← Hy.out] at yb
  obtain ⟨y0, y1⟩ := yb
  have y2 : y < 4294967296 := by simpa using y1
  obtain ⟨M, HM⟩ : ∃ M : Int, Hid (M = ((2 ^ q : Nat) : Int)) := ⟨_, rfl⟩
  have hm : IntKind.u64.wrap (2 ^ q) = M := by rw [HM.out]; exact mask_eq q (by omega)
  have HTT : Hid (∀ V, Calls Tryz.prog 259 #[.int .u64 (x : Int), .int .i64 (q : Int), .bool b] V fun e w' => e = .returned (.int .u64 y) ∧ Below V.heap.size V w') := fun V => by
    rw [Hy.out]; exact (lturned x q b (by omega) (by omega) V).mono fun e w1 h => ⟨h.1, by rw [h.2]; exact Below.refl _ _⟩
  obtain ⟨C, HCC⟩ : ∃ C, Hid (C = c.setIfInBounds 4 (.int .u32 y)) := ⟨_, rfl⟩
  rw [← HCC.out]
  have HCs : Hid (C.size = 136) := (by rw [HCC.out]; simpa using HC.out.size : C.size = 136)
  have HCo : Hid (C.all (·.oneCell') = true) := (by rw [HCC.out]; exact one_set HC.out.one _ rfl : C.all (·.oneCell') = true)
  have HI : Hid ((Tryz.prog.info? 39).map (·.size) = some C.size) := (by rw [HCs.out]; exact zero_mem.2 : (Tryz.prog.info? 39).map (·.size) = some C.size)
  have hz := zero_mem.1
  obtain ⟨Z, HZ⟩ : ∃ Z, Hid (Z = memZero) := ⟨_, rfl⟩
  rw [← HZ.out] at hz
  have HZs : Hid (Z.size = 136) := (by rw [HZ.out, memZero_size] : Z.size = 136)
  clear hc y1
  go_enter Tryz.func225, Tryz.ntmps225
  go_wp2_with fail
  refine (at_r _ _ _ _).mono ?_
  rintro e w1 ⟨rfl, g1⟩
  have b1 : Below w.heap.size w w1 := ((((Below.refl _ _).alloc (Nat.le_refl _) _).alloc (by simp) _).alloc (by simp <;> omega) _).trans (g1.mono (by simp <;> omega))
  have h1 : w1.heap[w.heap.size]? = some (.cells c 39 (0, 0)) := (g1.block _ (by simp <;> omega)).trans (rows3 w _ _ _).1
  have h2 := (g1.block _ (by simp <;> omega)).trans (rows3 w _ _ _).2.1
  have h3 : w1.heap[w.heap.size + 1 + 1]? = some (.cells Z 39 (0, 0)) := (g1.block _ (by simp <;> omega)).trans (rows3 w _ _ _).2.2
  have s3 : w.heap.size + 1 + 1 < w1.heap.size := (Array.getElem?_eq_some_iff.1 h3).1
  have r0 : w1.cell? ⟨w.heap.size + 1, 0, none⟩ = some (.int .i64 5) := (cell_of_row _ _ _ _ _ _ h2).trans rfl
  have r1 : w1.cell? ⟨w.heap.size, 4, none⟩ = some (.int .u32 (x : Int)) := (cell_of_row _ _ _ _ _ _ h1).trans hx
  clear g1 h2 hz
  rw [hq]
  go_wp2_with fail
  refine (HTT.out _).mono ?_
  rintro e w2 ⟨rfl, g2⟩
  have h1' := (g2.block _ (by omega)).trans h1
  have h3' := (g2.block _ (by omega)).trans h3
  have b2 := b1.trans (g2.mono b1.size)
  have r2 : w2.cell? ⟨w.heap.size, 4, none⟩ = some (.int .u32 (x : Int)) := (cell_of_row _ _ _ _ _ _ h1').trans hx
  have f2 : w2.frozen? ⟨w.heap.size, 4, none⟩ = false := by simp [World.frozen?, h1']
  have HR1 : Hid ((w2.setCell ⟨w.heap.size, 4, none⟩ (.int .u32 y)).heap[w.heap.size]? = some (.cells C 39 (0, 0))) := (by rw [HCC.out]; exact row_put h1' _ _ : (w2.setCell ⟨w.heap.size, 4, none⟩ (.int .u32 y)).heap[w.heap.size]? = some (.cells C 39 (0, 0)))
  have HR3 : Hid ((w2.setCell ⟨w.heap.size, 4, none⟩ (.int .u32 y)).heap[w.heap.size + 1 + 1]? = some (.cells Z 39 (0, 0))) := row_other h3' _ _ (by omega) _
  have HLD : Hid ((loadVar 39 ⟨w.heap.size, 0, none⟩).run Tryz.prog (w2.setCell ⟨w.heap.size, 4, none⟩ (.int .u32 y)) = .ok (.agg C) (w2.setCell ⟨w.heap.size, 4, none⟩ (.int .u32 y))) := load_all HR1.out _ _ Tryz.underlying39 rfl HI.out
  have HSD : Hid ((storeVar 39 ⟨w.heap.size + 1 + 1, 0, none⟩ (.agg C)).run Tryz.prog (w2.setCell ⟨w.heap.size, 4, none⟩ (.int .u32 y)) = .ok () ((w2.setCell ⟨w.heap.size, 4, none⟩ (.int .u32 y)).setRow (w.heap.size + 1 + 1) C)) := store_all HR3.out _ _ (HZs.out.trans HCs.out.symm) HI.out HCo.out
  have HB : Hid (Below w.heap.size w ((w2.setCell ⟨w.heap.size, 4, none⟩ (.int .u32 y)).setRow (w.heap.size + 1 + 1) C)) := below_setRow (b2.setCell (p := ⟨w.heap.size, 4, none⟩) (by simp) _) (by omega) _
  clear g2 h1 h3 h1' h3' b1 b2 r0 r1 hq s3
  go_wp2_with (first | (refine wpL_load rfl 39 _ rfl _ _ rfl _ HLD.out ?_) | (refine wpL_store rfl 39 _ _ rfl _ _ rfl _ rfl _ HSD.out ?_) | exact ret_row rfl rfl (row_set HR3.out _) Tryz.underlying39 rfl HI.out rfl ⟨rfl, HB.out⟩ | fail)

set_option maxRecDepth 10000 in
set_option maxHeartbeats 2000000 in
theorem putb0_s (C : Array Value) (hc : MemOk C) (k n p : Int) (h2 : k ≠ 2) (h3 : k ≠ 3) (h4 : k ≠ 4) (h5 : k ≠ 5) (b : Bool) (w : World) : Calls Tryz.prog 225 #[.agg C, .agg #[.int .i64 k, .int .i64 n, .int .i64 p], .bool b] w fun e w' => e = .returned (.agg C) ∧ Below w.heap.size w w' := by
  have n2 : (k == 2) = false := by simp [h2]
  have n3 : (k == 3) = false := by simp [h3]
  have n4 : (k == 4) = false := by simp [h4]
  have n5 : (k == 5) = false := by simp [h5]
  have HCs : Hid (C.size = 136) := hc.size
  have HCo : Hid (C.all (·.oneCell') = true) := hc.one
  have HI : Hid ((Tryz.prog.info? 39).map (·.size) = some C.size) := (by rw [HCs.out]; exact zero_mem.2 : (Tryz.prog.info? 39).map (·.size) = some C.size)
  have hz := zero_mem.1
  obtain ⟨Z, HZ⟩ : ∃ Z, Hid (Z = memZero) := ⟨_, rfl⟩
  rw [← HZ.out] at hz
  have HZs : Hid (Z.size = 136) := (by rw [HZ.out, memZero_size] : Z.size = 136)
  obtain ⟨q0, q1⟩ := pl_all k n
  obtain ⟨q, hq⟩ : ∃ q : Nat, pl k n = q := ⟨(pl k n).toNat, by omega⟩
  rw [hq] at q0 q1
  clear hc h2 h3 h4 h5
  go_enter Tryz.func225, Tryz.ntmps225
  go_wp2_with fail
  refine (at_r _ _ _ _).mono ?_
  rintro e w1 ⟨rfl, g1⟩
  have b1 : Below w.heap.size w w1 := ((((Below.refl _ _).alloc (Nat.le_refl _) _).alloc (by simp) _).alloc (by simp <;> omega) _).trans (g1.mono (by simp <;> omega))
  have h1 : w1.heap[w.heap.size]? = some (.cells C 39 (0, 0)) := (g1.block _ (by simp <;> omega)).trans (rows3 w _ _ _).1
  have h2 := (g1.block _ (by simp <;> omega)).trans (rows3 w _ _ _).2.1
  have h3 : w1.heap[w.heap.size + 1 + 1]? = some (.cells Z 39 (0, 0)) := (g1.block _ (by simp <;> omega)).trans (rows3 w _ _ _).2.2
  have s3 : w.heap.size + 1 + 1 < w1.heap.size := (Array.getElem?_eq_some_iff.1 h3).1
  have r0 : w1.cell? ⟨w.heap.size + 1, 0, none⟩ = some (.int .i64 k) := (cell_of_row _ _ _ _ _ _ h2).trans rfl
  have HR1 : Hid (w1.heap[w.heap.size]? = some (.cells C 39 (0, 0))) := h1
  have HR3 : Hid (w1.heap[w.heap.size + 1 + 1]? = some (.cells Z 39 (0, 0))) := h3
  have HLD : Hid ((loadVar 39 ⟨w.heap.size, 0, none⟩).run Tryz.prog w1 = .ok (.agg C) w1) := load_all HR1.out _ _ Tryz.underlying39 rfl HI.out
  have HSD : Hid ((storeVar 39 ⟨w.heap.size + 1 + 1, 0, none⟩ (.agg C)).run Tryz.prog w1 = .ok () (w1.setRow (w.heap.size + 1 + 1) C)) := store_all HR3.out _ _ (HZs.out.trans HCs.out.symm) HI.out HCo.out
  have HB : Hid (Below w.heap.size w (w1.setRow (w.heap.size + 1 + 1) C)) := below_setRow b1 (by omega) _
  rw [hq]
  clear g1 h1 h2 h3 b1 hz hq s3
  go_wp2_with (first | (refine wpL_load rfl 39 _ rfl _ _ rfl _ HLD.out ?_) | (refine wpL_store rfl 39 _ _ rfl _ _ rfl _ rfl _ HSD.out ?_) | exact ret_row rfl rfl (row_set HR3.out _) Tryz.underlying39 rfl HI.out rfl ⟨rfl, HB.out⟩ | fail)

set_option maxRecDepth 10000 in
theorem withbit (c : Array Value) (hc : MemOk c) (k n p : Int) (h1 : k ≠ 1) (b : Bool) (w : World) (hT : KT w) : Calls Tryz.prog 328 #[.agg c, .agg #[.int .i64 k, .int .i64 n, .int .i64 p], .bool b] w fun e w' => e = .returned (.agg (putb c k n b)) ∧ Below w.heap.size w w' := by
  by_cases h2 : k = 2
  · subst h2; exact putb2_i c hc n p b w hT
  by_cases h3 : k = 3
  · subst h3; exact putb3_i c hc n p b w hT
  by_cases h4 : k = 4
  · subst h4; exact putb4_i c hc n p b w hT
  by_cases h5 : k = 5
  · subst h5; exact putb5_i c hc n p b w hT
  have : putb c k n b = c := by unfold putb; rw [if_neg h2, if_neg h3, if_neg h4, if_neg h5]
  rw [this]
  exact putb0_i c hc k n p h1 h2 h3 h4 h5 b w hT
theorem putb_s (c : Array Value) (hc : MemOk c) (k n p : Int) (b : Bool) (w : World) : Calls Tryz.prog 225 #[.agg c, .agg #[.int .i64 k, .int .i64 n, .int .i64 p], .bool b] w fun e w' => e = .returned (.agg (putb c k n b)) ∧ Below w.heap.size w w' := by
  by_cases h2 : k = 2
  · subst h2; exact putb2_s c hc n p b w
  by_cases h3 : k = 3
  · subst h3; exact putb3_s c hc n p b w
  by_cases h4 : k = 4
  · subst h4; exact putb4_s c hc n p b w
  by_cases h5 : k = 5
  · subst h5; exact putb5_s c hc n p b w
  have : putb c k n b = c := by unfold putb; rw [if_neg h2, if_neg h3, if_neg h4, if_neg h5]
  rw [this]
  exact putb0_s c hc k n p h2 h3 h4 h5 b w
end Go.Proofs.YtlgacbjopobeoaaGreatDoor
