/- The specification's l5Word: what a word of a memory's text puts. -/
import Derived.Test.YtjnddfpieogpiaaGreatDoorHi
import Derived.Test.YtjnddfpieogpiaaGreatDoorMw
import Derived.Test.YtjnddfpieogpiaaGreatDoorMmM
namespace Go.Proofs.YtjnddfpieogpiaaGreatDoor
open Go.RowKit
set_option linter.unusedVariables false
theorem zero_da : (∀ w, (zeroValue 54).run Tryz.prog w = .ok (.agg #[.int .i64 0, .int .i64 0, .int .i64 0]) w) ∧ (Tryz.prog.info? 54).map (·.size) = some 3 := zero_of_info (by kernel_rfl)
theorem wrapH (n : Int) (h0 : 0 ≤ n) (h1 : n ≤ 4611686018427387904) : IntKind.i64.wrap n = n := by
  have e : IntKind.i64.wrap n = if n % 18446744073709551616 ≥ 9223372036854775808 then n % 18446744073709551616 - 18446744073709551616 else n % 18446744073709551616 := by simp [IntKind.wrap, IntKind.bits, IntKind.signed]
  rw [e]; split <;> omega
section
variable {P : Program} {ops : Array Oper} {Q : Exit → Act → World → Prop} {S : World → Prop} {md : Region.Mode}
theorem tkH_val {i : Nat} {oi : Oper} {fuel : Nat} {listed : Array Bool} {a : Act} {w : World} (hi : ops[i]? = some oi)
    (hs : Region.noSelect ops = true) (hf : Region.free md ops listed i = true) (hr : (Region.ready md ops listed).contains i = true)
    (hQ : ∀ (v : Value) c a w, Q (.panic c) (a.put oi.dst v) w → Q (.panic c) a w) (hw : Region.wanted oi (yielded ops a.tmps) = true) (v : Value) (hrun : ∀ w, S w → (execOp a.eval oi).run P w = .ok (.value v) w) (hS : S w)
    (l' : Array Bool) (hl : listed.setIfInBounds i true = l') (a' : Act) (ha : a.put oi.dst v = a')
    (h : wpAnyH P md ops Q S fuel l' a' w) : wpAnyH P md ops Q S (fuel + 1) listed a w := by
  subst hl ha
  exact wpAnyH_take hi hs hf hr (hQ v) (.inl ⟨hw, hrun⟩) hS h
/-- A load when it comes up, in the world as it is then. -/
theorem upH_load {i : Nat} {o : Oper} {fuel : Nat} {listed : Array Bool} {a : Act} {w : World} (ho : ops[i]? = some o) (hw : Region.wanted o (yielded ops a.tmps) = true) (ty : TypeId) (x : Operand) (hop : o.op = .load ty x)
    (g f : Nat) (hx : a.eval x = .pointer (some ⟨g, f, none⟩)) (v : Value) (hrun : (loadVar ty ⟨g, f, none⟩).run P w = .ok v w) (hS : S w) (l' : Array Bool) (hl : listed.setIfInBounds i true = l') (a' : Act) (ha : a.put o.dst v = a')
    (h : wpAnyH P md ops Q S fuel l' a' w) :
    wpOp P ops Q i (fun a' w' => S w' ∧ wpAnyH P md ops Q S fuel (listed.setIfInBounds i true) a' w') a w := by
  subst hl ha
  exact up_value ho hw v w (by
    unfold execOp
    simp only [hop, hx, Instr.loadAt, Instr.sureAddr, Sem.run_bind, Sem.run_pure, Result.andThen_ok, hrun]) hS h
theorem heldH_start {id : Nat} {a : Act} {w : World} (hm : P.follows .mixedOrders = true) (hS : S w.drew) (n : Nat) (hn : ops.size = n) (l : Array Bool) (hl : Array.replicate n false = l)
    (h : S w.drew → wpAnyH P .any ops Q S n l a w.drew) : (Code.region id ops true).wp P Q a w := by
  subst hn hl
  exact wp_region_held_drew hm hS h
end

set_option maxRecDepth 10000 in
set_option maxHeartbeats 2000000 in
theorem word_ran (c : Array Value) (hc : MemOk c) (s : ByteArray) (hs : s.size ≤ 1048576) (w : World) (h1 : (s.toList == [114, 97, 110]) = true) :
    Calls Tryz.prog 35 #[.agg c, .string s] w fun e w' => e = .returned (.agg (c.setIfInBounds 134 (.bool true))) ∧ Below w.heap.size w w' := by
  have HC : Hid (MemOk c) := hc
  clear hc
  have hz := zero_mem.1
  obtain ⟨Z, HZ⟩ : ∃ Z, Hid (Z = memZero) := ⟨_, rfl⟩
  rw [← HZ.out] at hz
  have HZs : Hid (Z.size = 136) := (by rw [HZ.out, memZero_size] : Z.size = 136)
  have HF : Hid (∀ W, Calls Tryz.prog 94 #[.string s, .int .u8 61] W fun e w' => e = .returned (.int .i64 (Lib.index s.data.toList [61])) ∧ w' = W) := fun W => find_s s 61 W (by omega)
  obtain ⟨AT, HAT⟩ : ∃ AT : Int, Hid (AT = Lib.index s.data.toList [61]) := ⟨_, rfl⟩
  rw [← HAT.out] at HF
  obtain ⟨W0, HW0⟩ : ∃ W0, Hid (W0 = (w.alloc (.cells c 37)).alloc (.cells Z 37)) := ⟨_, rfl⟩
  have HH1 : Hid (W0.heap[w.heap.size]? = some (.cells c 37 (0, 0))) := (by rw [HW0.out]; exact (rows2 w _ _).1 : W0.heap[w.heap.size]? = some (.cells c 37 (0, 0)))
  have HH2 : Hid (W0.heap[w.heap.size + 1]? = some (.cells Z 37 (0, 0))) := (by rw [HW0.out]; exact (rows2 w _ _).2 : W0.heap[w.heap.size + 1]? = some (.cells Z 37 (0, 0)))
  have z1 : W0.heap.size = w.heap.size + 2 := by rw [HW0.out]; simp
  have HbW : Hid (Below w.heap.size w W0) := (by rw [HW0.out]; exact ((Below.refl _ _).alloc (Nat.le_refl _) _).alloc (by simp) _ : Below w.heap.size w W0)
  obtain ⟨C, HCC⟩ : ∃ C, Hid (C = c.setIfInBounds 134 (.bool true)) := ⟨_, rfl⟩
  rw [← HCC.out]
  have HCs : Hid (C.size = 136) := (by rw [HCC.out]; simpa using HC.out.size : C.size = 136)
  have HCo : Hid (C.all (·.oneCell') = true) := (by rw [HCC.out]; exact one_set HC.out.one _ rfl : C.all (·.oneCell') = true)
  have HI : Hid ((Tryz.prog.info? 37).map (·.size) = some C.size) := (by rw [HCs.out]; exact zero_mem.2 : (Tryz.prog.info? 37).map (·.size) = some C.size)
  have r1 : W0.cell? ⟨w.heap.size, 134, none⟩ = some (c[134]'(by rw [HC.out.size]; omega)) := by rw [cell_of_row _ _ _ _ _ _ HH1.out]; exact Array.getElem?_eq_getElem (by rw [HC.out.size]; omega)
  have f1 : W0.frozen? ⟨w.heap.size, 134, none⟩ = false := by have := HH1.out; simp [World.frozen?, this]
  have HR1 : Hid ((W0.setCell ⟨w.heap.size, 134, none⟩ (.bool true)).heap[w.heap.size]? = some (.cells C 37 (0, 0))) := (by rw [HCC.out]; exact row_put HH1.out _ _ : (W0.setCell ⟨w.heap.size, 134, none⟩ (.bool true)).heap[w.heap.size]? = some (.cells C 37 (0, 0)))
  have HR3 : Hid ((W0.setCell ⟨w.heap.size, 134, none⟩ (.bool true)).heap[w.heap.size + 1]? = some (.cells Z 37 (0, 0))) := row_other HH2.out _ _ (by omega) _
  have HB0 : Hid (Below w.heap.size w (W0.setCell ⟨w.heap.size, 134, none⟩ (.bool true))) := HbW.out.setCell (p := ⟨w.heap.size, 134, none⟩) (by simp) _
  have HLD : Hid ((loadVar 37 ⟨w.heap.size, 0, none⟩).run Tryz.prog (W0.setCell ⟨w.heap.size, 134, none⟩ (.bool true)) = .ok (.agg C) (W0.setCell ⟨w.heap.size, 134, none⟩ (.bool true))) := load_all HR1.out _ _ Tryz.underlying37 rfl HI.out
  have HSD : Hid ((storeVar 37 ⟨w.heap.size + 1, 0, none⟩ (.agg C)).run Tryz.prog (W0.setCell ⟨w.heap.size, 134, none⟩ (.bool true)) = .ok () ((W0.setCell ⟨w.heap.size, 134, none⟩ (.bool true)).setRow (w.heap.size + 1) C)) := store_all HR3.out _ _ (HZs.out.trans HCs.out.symm) HI.out HCo.out
  have HB : Hid (Below w.heap.size w ((W0.setCell ⟨w.heap.size, 134, none⟩ (.bool true)).setRow (w.heap.size + 1) C)) := below_setRow HB0.out (by omega) _
  go_enter Tryz.func35, Tryz.ntmps35
  go_wp2_with fail
  rw [← HW0.out]
  refine (HF.out _).mono ?_
  rintro e w1 ⟨rfl, hw⟩
  rw [hw]
  clear hw w1 HF HW0
  clear HH1 HH2 HbW hz
  go_wp2_with (first | (refine wpL_load rfl 37 _ rfl _ _ rfl _ HLD.out ?_) | (refine wpL_store rfl 37 _ _ rfl _ _ rfl _ rfl _ HSD.out ?_) | exact ret_row rfl rfl (row_set HR3.out _) Tryz.underlying37 rfl HI.out rfl ⟨rfl, HB.out⟩ | fail)

set_option maxRecDepth 10000 in
set_option maxHeartbeats 2000000 in
theorem word_fault (c : Array Value) (hc : MemOk c) (s : ByteArray) (hs : s.size ≤ 1048576) (w : World) (h1 : (s.toList == [114, 97, 110]) = false) (h2 : (s.toList == [102, 97, 117, 108, 116]) = true) :
    Calls Tryz.prog 35 #[.agg c, .string s] w fun e w' => e = .returned (.agg (c.setIfInBounds 135 (.bool true))) ∧ Below w.heap.size w w' := by
  have HC : Hid (MemOk c) := hc
  clear hc
  have hz := zero_mem.1
  obtain ⟨Z, HZ⟩ : ∃ Z, Hid (Z = memZero) := ⟨_, rfl⟩
  rw [← HZ.out] at hz
  have HZs : Hid (Z.size = 136) := (by rw [HZ.out, memZero_size] : Z.size = 136)
  have HF : Hid (∀ W, Calls Tryz.prog 94 #[.string s, .int .u8 61] W fun e w' => e = .returned (.int .i64 (Lib.index s.data.toList [61])) ∧ w' = W) := fun W => find_s s 61 W (by omega)
  obtain ⟨AT, HAT⟩ : ∃ AT : Int, Hid (AT = Lib.index s.data.toList [61]) := ⟨_, rfl⟩
  rw [← HAT.out] at HF
  obtain ⟨W0, HW0⟩ : ∃ W0, Hid (W0 = (w.alloc (.cells c 37)).alloc (.cells Z 37)) := ⟨_, rfl⟩
  have HH1 : Hid (W0.heap[w.heap.size]? = some (.cells c 37 (0, 0))) := (by rw [HW0.out]; exact (rows2 w _ _).1 : W0.heap[w.heap.size]? = some (.cells c 37 (0, 0)))
  have HH2 : Hid (W0.heap[w.heap.size + 1]? = some (.cells Z 37 (0, 0))) := (by rw [HW0.out]; exact (rows2 w _ _).2 : W0.heap[w.heap.size + 1]? = some (.cells Z 37 (0, 0)))
  have z1 : W0.heap.size = w.heap.size + 2 := by rw [HW0.out]; simp
  have HbW : Hid (Below w.heap.size w W0) := (by rw [HW0.out]; exact ((Below.refl _ _).alloc (Nat.le_refl _) _).alloc (by simp) _ : Below w.heap.size w W0)
  obtain ⟨C, HCC⟩ : ∃ C, Hid (C = c.setIfInBounds 135 (.bool true)) := ⟨_, rfl⟩
  rw [← HCC.out]
  have HCs : Hid (C.size = 136) := (by rw [HCC.out]; simpa using HC.out.size : C.size = 136)
  have HCo : Hid (C.all (·.oneCell') = true) := (by rw [HCC.out]; exact one_set HC.out.one _ rfl : C.all (·.oneCell') = true)
  have HI : Hid ((Tryz.prog.info? 37).map (·.size) = some C.size) := (by rw [HCs.out]; exact zero_mem.2 : (Tryz.prog.info? 37).map (·.size) = some C.size)
  have r1 : W0.cell? ⟨w.heap.size, 135, none⟩ = some (c[135]'(by rw [HC.out.size]; omega)) := by rw [cell_of_row _ _ _ _ _ _ HH1.out]; exact Array.getElem?_eq_getElem (by rw [HC.out.size]; omega)
  have f1 : W0.frozen? ⟨w.heap.size, 135, none⟩ = false := by have := HH1.out; simp [World.frozen?, this]
  have HR1 : Hid ((W0.setCell ⟨w.heap.size, 135, none⟩ (.bool true)).heap[w.heap.size]? = some (.cells C 37 (0, 0))) := (by rw [HCC.out]; exact row_put HH1.out _ _ : (W0.setCell ⟨w.heap.size, 135, none⟩ (.bool true)).heap[w.heap.size]? = some (.cells C 37 (0, 0)))
  have HR3 : Hid ((W0.setCell ⟨w.heap.size, 135, none⟩ (.bool true)).heap[w.heap.size + 1]? = some (.cells Z 37 (0, 0))) := row_other HH2.out _ _ (by omega) _
  have HB0 : Hid (Below w.heap.size w (W0.setCell ⟨w.heap.size, 135, none⟩ (.bool true))) := HbW.out.setCell (p := ⟨w.heap.size, 135, none⟩) (by simp) _
  have HLD : Hid ((loadVar 37 ⟨w.heap.size, 0, none⟩).run Tryz.prog (W0.setCell ⟨w.heap.size, 135, none⟩ (.bool true)) = .ok (.agg C) (W0.setCell ⟨w.heap.size, 135, none⟩ (.bool true))) := load_all HR1.out _ _ Tryz.underlying37 rfl HI.out
  have HSD : Hid ((storeVar 37 ⟨w.heap.size + 1, 0, none⟩ (.agg C)).run Tryz.prog (W0.setCell ⟨w.heap.size, 135, none⟩ (.bool true)) = .ok () ((W0.setCell ⟨w.heap.size, 135, none⟩ (.bool true)).setRow (w.heap.size + 1) C)) := store_all HR3.out _ _ (HZs.out.trans HCs.out.symm) HI.out HCo.out
  have HB : Hid (Below w.heap.size w ((W0.setCell ⟨w.heap.size, 135, none⟩ (.bool true)).setRow (w.heap.size + 1) C)) := below_setRow HB0.out (by omega) _
  go_enter Tryz.func35, Tryz.ntmps35
  go_wp2_with fail
  rw [← HW0.out]
  refine (HF.out _).mono ?_
  rintro e w1 ⟨rfl, hw⟩
  rw [hw]
  clear hw w1 HF HW0
  clear HH1 HH2 HbW hz
  go_wp2_with (first | (refine wpL_load rfl 37 _ rfl _ _ rfl _ HLD.out ?_) | (refine wpL_store rfl 37 _ _ rfl _ _ rfl _ rfl _ HSD.out ?_) | exact ret_row rfl rfl (row_set HR3.out _) Tryz.underlying37 rfl HI.out rfl ⟨rfl, HB.out⟩ | fail)

set_option maxRecDepth 10000 in
set_option maxHeartbeats 2000000 in
theorem word_time (c : Array Value) (hc : MemOk c) (s : ByteArray) (hs : s.size ≤ 1048576) (w : World) (h1 : (s.toList == [114, 97, 110]) = false) (h2 : (s.toList == [102, 97, 117, 108, 116]) = false) (h3 : Lib.index s.data.toList [61] = 4) (h5 : 5 ≤ s.size) (h4 : ((s.extract 0 4).toList == [116, 105, 109, 101]) = true) (num : Int) (ok : Bool) (HN : Hid (∀ W, Calls Tryz.prog 95 #[.string (s.extract 5 s.size)] W fun e w' => e = .returned (.tuple #[.int .i64 num, .bool ok]) ∧ w' = W)) (hok : ok = true) (n0 : 0 ≤ num) (n1 : num ≤ 4294967295) :
    Calls Tryz.prog 35 #[.agg c, .string s] w fun e w' => e = .returned (.agg (c.setIfInBounds 133 (.int .u32 num))) ∧ Below w.heap.size w w' := by
  have HC : Hid (MemOk c) := hc
  clear hc
  have hz := zero_mem.1
  obtain ⟨Z, HZ⟩ : ∃ Z, Hid (Z = memZero) := ⟨_, rfl⟩
  rw [← HZ.out] at hz
  have HZs : Hid (Z.size = 136) := (by rw [HZ.out, memZero_size] : Z.size = 136)
  have HF : Hid (∀ W, Calls Tryz.prog 94 #[.string s, .int .u8 61] W fun e w' => e = .returned (.int .i64 (Lib.index s.data.toList [61])) ∧ w' = W) := fun W => find_s s 61 W (by omega)
  obtain ⟨AT, HAT⟩ : ∃ AT : Int, Hid (AT = Lib.index s.data.toList [61]) := ⟨_, rfl⟩
  rw [← HAT.out] at HF
  obtain ⟨W0, HW0⟩ : ∃ W0, Hid (W0 = (w.alloc (.cells c 37)).alloc (.cells Z 37)) := ⟨_, rfl⟩
  have HH1 : Hid (W0.heap[w.heap.size]? = some (.cells c 37 (0, 0))) := (by rw [HW0.out]; exact (rows2 w _ _).1 : W0.heap[w.heap.size]? = some (.cells c 37 (0, 0)))
  have HH2 : Hid (W0.heap[w.heap.size + 1]? = some (.cells Z 37 (0, 0))) := (by rw [HW0.out]; exact (rows2 w _ _).2 : W0.heap[w.heap.size + 1]? = some (.cells Z 37 (0, 0)))
  have z1 : W0.heap.size = w.heap.size + 2 := by rw [HW0.out]; simp
  have HbW : Hid (Below w.heap.size w W0) := (by rw [HW0.out]; exact ((Below.refl _ _).alloc (Nat.le_refl _) _).alloc (by simp) _ : Below w.heap.size w W0)
  rw [h3] at HAT
  obtain rfl : AT = 4 := HAT.out
  clear h3
  have i5 : (5 : Int) ≤ (s.size : Int) := by omega
  have i4 : (4 : Int) ≤ (s.size : Int) := by omega
  subst hok
  have wr : IntKind.u32.wrap num = num := by simp [IntKind.wrap, IntKind.bits, IntKind.signed]; omega
  obtain ⟨C, HCC⟩ : ∃ C, Hid (C = c.setIfInBounds 133 (.int .u32 num)) := ⟨_, rfl⟩
  rw [← HCC.out]
  have HCs : Hid (C.size = 136) := (by rw [HCC.out]; simpa using HC.out.size : C.size = 136)
  have HCo : Hid (C.all (·.oneCell') = true) := (by rw [HCC.out]; exact one_set HC.out.one _ rfl : C.all (·.oneCell') = true)
  have HI : Hid ((Tryz.prog.info? 37).map (·.size) = some C.size) := (by rw [HCs.out]; exact zero_mem.2 : (Tryz.prog.info? 37).map (·.size) = some C.size)
  have r1 : W0.cell? ⟨w.heap.size, 133, none⟩ = some (c[133]'(by rw [HC.out.size]; omega)) := by rw [cell_of_row _ _ _ _ _ _ HH1.out]; exact Array.getElem?_eq_getElem (by rw [HC.out.size]; omega)
  have f1 : W0.frozen? ⟨w.heap.size, 133, none⟩ = false := by have := HH1.out; simp [World.frozen?, this]
  have HR1 : Hid ((W0.setCell ⟨w.heap.size, 133, none⟩ (.int .u32 num)).heap[w.heap.size]? = some (.cells C 37 (0, 0))) := (by rw [HCC.out]; exact row_put HH1.out _ _ : (W0.setCell ⟨w.heap.size, 133, none⟩ (.int .u32 num)).heap[w.heap.size]? = some (.cells C 37 (0, 0)))
  have HR3 : Hid ((W0.setCell ⟨w.heap.size, 133, none⟩ (.int .u32 num)).heap[w.heap.size + 1]? = some (.cells Z 37 (0, 0))) := row_other HH2.out _ _ (by omega) _
  have HB0 : Hid (Below w.heap.size w (W0.setCell ⟨w.heap.size, 133, none⟩ (.int .u32 num))) := HbW.out.setCell (p := ⟨w.heap.size, 133, none⟩) (by simp) _
  have HLD : Hid ((loadVar 37 ⟨w.heap.size, 0, none⟩).run Tryz.prog (W0.setCell ⟨w.heap.size, 133, none⟩ (.int .u32 num)) = .ok (.agg C) (W0.setCell ⟨w.heap.size, 133, none⟩ (.int .u32 num))) := load_all HR1.out _ _ Tryz.underlying37 rfl HI.out
  have HSD : Hid ((storeVar 37 ⟨w.heap.size + 1, 0, none⟩ (.agg C)).run Tryz.prog (W0.setCell ⟨w.heap.size, 133, none⟩ (.int .u32 num)) = .ok () ((W0.setCell ⟨w.heap.size, 133, none⟩ (.int .u32 num)).setRow (w.heap.size + 1) C)) := store_all HR3.out _ _ (HZs.out.trans HCs.out.symm) HI.out HCo.out
  have HB : Hid (Below w.heap.size w ((W0.setCell ⟨w.heap.size, 133, none⟩ (.int .u32 num)).setRow (w.heap.size + 1) C)) := below_setRow HB0.out (by omega) _
  go_enter Tryz.func35, Tryz.ntmps35
  go_wp2_with fail
  rw [← HW0.out]
  refine (HF.out _).mono ?_
  rintro e w1 ⟨rfl, hw⟩
  rw [hw]
  clear hw w1 HF HW0
  clear HH1 HH2 HbW hz
  go_wp2_with fail
  refine (HN.out _).mono ?_
  rintro e w1 ⟨rfl, hw⟩
  rw [hw]
  clear hw w1 HN
  go_wp2_with (first | (refine wpL_load rfl 37 _ rfl _ _ rfl _ HLD.out ?_) | (refine wpL_store rfl 37 _ _ rfl _ _ rfl _ rfl _ HSD.out ?_) | exact ret_row rfl rfl (row_set HR3.out _) Tryz.underlying37 rfl HI.out rfl ⟨rfl, HB.out⟩ | fail)

set_option maxRecDepth 10000 in
set_option maxHeartbeats 2000000 in
theorem word_time_no (c : Array Value) (hc : MemOk c) (s : ByteArray) (hs : s.size ≤ 1048576) (w : World) (h1 : (s.toList == [114, 97, 110]) = false) (h2 : (s.toList == [102, 97, 117, 108, 116]) = false) (h3 : Lib.index s.data.toList [61] = 4) (h5 : 5 ≤ s.size) (h4 : ((s.extract 0 4).toList == [116, 105, 109, 101]) = true) (num : Int) (ok : Bool) (HN : Hid (∀ W, Calls Tryz.prog 95 #[.string (s.extract 5 s.size)] W fun e w' => e = .returned (.tuple #[.int .i64 num, .bool ok]) ∧ w' = W)) (hbad : ok = false ∨ num < 0 ∨ 4294967295 < num) :
    Calls Tryz.prog 35 #[.agg c, .string s] w fun e w' => e = .returned (.agg (c)) ∧ Below w.heap.size w w' := by
  have HC : Hid (MemOk c) := hc
  clear hc
  have hz := zero_mem.1
  obtain ⟨Z, HZ⟩ : ∃ Z, Hid (Z = memZero) := ⟨_, rfl⟩
  rw [← HZ.out] at hz
  have HZs : Hid (Z.size = 136) := (by rw [HZ.out, memZero_size] : Z.size = 136)
  have HF : Hid (∀ W, Calls Tryz.prog 94 #[.string s, .int .u8 61] W fun e w' => e = .returned (.int .i64 (Lib.index s.data.toList [61])) ∧ w' = W) := fun W => find_s s 61 W (by omega)
  obtain ⟨AT, HAT⟩ : ∃ AT : Int, Hid (AT = Lib.index s.data.toList [61]) := ⟨_, rfl⟩
  rw [← HAT.out] at HF
  obtain ⟨W0, HW0⟩ : ∃ W0, Hid (W0 = (w.alloc (.cells c 37)).alloc (.cells Z 37)) := ⟨_, rfl⟩
  have HH1 : Hid (W0.heap[w.heap.size]? = some (.cells c 37 (0, 0))) := (by rw [HW0.out]; exact (rows2 w _ _).1 : W0.heap[w.heap.size]? = some (.cells c 37 (0, 0)))
  have HH2 : Hid (W0.heap[w.heap.size + 1]? = some (.cells Z 37 (0, 0))) := (by rw [HW0.out]; exact (rows2 w _ _).2 : W0.heap[w.heap.size + 1]? = some (.cells Z 37 (0, 0)))
  have z1 : W0.heap.size = w.heap.size + 2 := by rw [HW0.out]; simp
  have HbW : Hid (Below w.heap.size w W0) := (by rw [HW0.out]; exact ((Below.refl _ _).alloc (Nat.le_refl _) _).alloc (by simp) _ : Below w.heap.size w W0)
  rw [h3] at HAT
  obtain rfl : AT = 4 := HAT.out
  clear h3
  have i5 : (5 : Int) ≤ (s.size : Int) := by omega
  have i4 : (4 : Int) ≤ (s.size : Int) := by omega
  have HCs : Hid (c.size = 136) := HC.out.size
  have HCo : Hid (c.all (·.oneCell') = true) := HC.out.one
  have HI : Hid ((Tryz.prog.info? 37).map (·.size) = some c.size) := (by rw [HCs.out]; exact zero_mem.2 : (Tryz.prog.info? 37).map (·.size) = some c.size)
  have HR1 : Hid (W0.heap[w.heap.size]? = some (.cells c 37 (0, 0))) := HH1.out
  have HR3 : Hid (W0.heap[w.heap.size + 1]? = some (.cells Z 37 (0, 0))) := HH2.out
  have HB0 : Hid (Below w.heap.size w W0) := HbW.out
  have HLD : Hid ((loadVar 37 ⟨w.heap.size, 0, none⟩).run Tryz.prog W0 = .ok (.agg c) W0) := load_all HR1.out _ _ Tryz.underlying37 rfl HI.out
  have HSD : Hid ((storeVar 37 ⟨w.heap.size + 1, 0, none⟩ (.agg c)).run Tryz.prog W0 = .ok () (W0.setRow (w.heap.size + 1) c)) := store_all HR3.out _ _ (HZs.out.trans HCs.out.symm) HI.out HCo.out
  have HB : Hid (Below w.heap.size w (W0.setRow (w.heap.size + 1) c)) := below_setRow HB0.out (by omega) _
  go_enter Tryz.func35, Tryz.ntmps35
  go_wp2_with fail
  rw [← HW0.out]
  refine (HF.out _).mono ?_
  rintro e w1 ⟨rfl, hw⟩
  rw [hw]
  clear hw w1 HF HW0
  clear HH1 HH2 HbW hz
  go_wp2_with fail
  refine (HN.out _).mono ?_
  rintro e w1 ⟨rfl, hw⟩
  rw [hw]
  clear hw w1 HN
  cases ok with
  | false =>
    clear hbad
    go_wp2_with (first | (refine wpL_load rfl 37 _ rfl _ _ rfl _ HLD.out ?_) | (refine wpL_store rfl 37 _ _ rfl _ _ rfl _ rfl _ HSD.out ?_) | exact ret_row rfl rfl (row_set HR3.out _) Tryz.underlying37 rfl HI.out rfl ⟨rfl, HB.out⟩ | fail)
  | true =>
    by_cases g1 : num < 0
    · clear hbad
      go_wp2_with (first | (refine wpL_load rfl 37 _ rfl _ _ rfl _ HLD.out ?_) | (refine wpL_store rfl 37 _ _ rfl _ _ rfl _ rfl _ HSD.out ?_) | exact ret_row rfl rfl (row_set HR3.out _) Tryz.underlying37 rfl HI.out rfl ⟨rfl, HB.out⟩ | fail)
    · have g2 : 4294967295 < num := by rcases hbad with h | h | h <;> first | exact absurd h (by decide) | omega
      clear hbad
      go_wp2_with (first | (refine wpL_load rfl 37 _ rfl _ _ rfl _ HLD.out ?_) | (refine wpL_store rfl 37 _ _ rfl _ _ rfl _ rfl _ HSD.out ?_) | exact ret_row rfl rfl (row_set HR3.out _) Tryz.underlying37 rfl HI.out rfl ⟨rfl, HB.out⟩ | fail)

set_option maxRecDepth 10000 in
set_option maxHeartbeats 2000000 in
theorem word_eq_no (c : Array Value) (hc : MemOk c) (s : ByteArray) (hs : s.size ≤ 1048576) (w : World) (h1 : (s.toList == [114, 97, 110]) = false) (h2 : (s.toList == [102, 97, 117, 108, 116]) = false) (a : Nat) (h3 : Lib.index s.data.toList [61] = (a : Int)) (a0 : 0 < a) (a1 : a + 1 ≤ s.size) (hT : a = 4 → ((s.extract 0 4).toList == [116, 105, 109, 101]) = false) (k n q : Int) (ok : Bool) (HD : Hid (∀ W, Calls Tryz.prog 96 #[.string (s.extract 0 a)] W fun e w' => e = .returned (.tuple #[.agg #[.int .i64 k, .int .i64 n, .int .i64 q], .bool ok]) ∧ Below W.heap.size W w')) (hok : ok = false) :
    Calls Tryz.prog 35 #[.agg c, .string s] w fun e w' => e = .returned (.agg (c)) ∧ Below w.heap.size w w' := by
  have HC : Hid (MemOk c) := hc
  clear hc
  have hz := zero_mem.1
  obtain ⟨Z, HZ⟩ : ∃ Z, Hid (Z = memZero) := ⟨_, rfl⟩
  rw [← HZ.out] at hz
  have HZs : Hid (Z.size = 136) := (by rw [HZ.out, memZero_size] : Z.size = 136)
  have HF : Hid (∀ W, Calls Tryz.prog 94 #[.string s, .int .u8 61] W fun e w' => e = .returned (.int .i64 (Lib.index s.data.toList [61])) ∧ w' = W) := fun W => find_s s 61 W (by omega)
  obtain ⟨AT, HAT⟩ : ∃ AT : Int, Hid (AT = Lib.index s.data.toList [61]) := ⟨_, rfl⟩
  rw [← HAT.out] at HF
  obtain ⟨W0, HW0⟩ : ∃ W0, Hid (W0 = (w.alloc (.cells c 37)).alloc (.cells Z 37)) := ⟨_, rfl⟩
  have HH1 : Hid (W0.heap[w.heap.size]? = some (.cells c 37 (0, 0))) := (by rw [HW0.out]; exact (rows2 w _ _).1 : W0.heap[w.heap.size]? = some (.cells c 37 (0, 0)))
  have HH2 : Hid (W0.heap[w.heap.size + 1]? = some (.cells Z 37 (0, 0))) := (by rw [HW0.out]; exact (rows2 w _ _).2 : W0.heap[w.heap.size + 1]? = some (.cells Z 37 (0, 0)))
  have z1 : W0.heap.size = w.heap.size + 2 := by rw [HW0.out]; simp
  have HbW : Hid (Below w.heap.size w W0) := (by rw [HW0.out]; exact ((Below.refl _ _).alloc (Nat.le_refl _) _).alloc (by simp) _ : Below w.heap.size w W0)
  rw [h3] at HAT
  obtain rfl : AT = (a : Int) := HAT.out
  clear h3
  have i1 : (0 : Int) < (a : Int) := by omega
  have i2 : (a : Int) ≤ (s.size : Int) := by omega
  have i3 : (a : Int) + 1 ≤ (s.size : Int) := by omega
  have s0 : s.extract 0 (Int.toNat (a : Int)) = s.extract 0 a := rfl
  subst hok
  by_cases ha : a = 4
  · have t4 := hT ha
    clear hT
    subst ha
    go_enter Tryz.func35, Tryz.ntmps35
    go_wp2_with fail
    rw [← HW0.out]
    refine (HF.out _).mono ?_
    rintro e w1 ⟨rfl, hw⟩
    rw [hw]
    clear hw w1 HF HW0
    go_wp2_with fail
    refine (HD.out _).mono ?_
    rintro e w1 ⟨rfl, g1⟩
    clear HD
    have HR1 : Hid (w1.heap[w.heap.size]? = some (.cells c 37 (0, 0))) := (g1.block _ (by omega)).trans HH1.out
    have HR3 : Hid (w1.heap[w.heap.size + 1]? = some (.cells Z 37 (0, 0))) := (g1.block _ (by omega)).trans HH2.out
    have HB0 : Hid (Below w.heap.size w w1) := HbW.out.trans (g1.mono (by omega))
    have z2 : w.heap.size + 2 ≤ w1.heap.size := by have := g1.size; omega
    have HSZ : Hid (4 + 1 ≤ s.size ∧ s.size ≤ 1048576) := ⟨a1, hs⟩
    have HZ2 : Hid (w.heap.size + 2 ≤ w1.heap.size) := z2
    clear g1 z1 z2 i1 i2 i3 s0 h1 h2 t4 hs a1 HH1 HH2 HbW hz
    have hzd := zero_da.1
    have HY1 : Hid (w1.heap[w.heap.size]? = some (.cells c 37 (0, 0))) := HR1.out
    have HY3 : Hid (w1.heap[w.heap.size + 1]? = some (.cells Z 37 (0, 0))) := HR3.out
    have HY0 : Hid (Below w.heap.size w w1) := HB0.out
    clear HR1 HR3 HB0
    obtain ⟨X, HX⟩ : ∃ X, Hid (X = w1.alloc (.cells #[.int .i64 k, .int .i64 n, .int .i64 q] 54)) := ⟨_, rfl⟩
    have HR1 : Hid (X.heap[w.heap.size]? = some (.cells c 37 (0, 0))) := (by rw [HX.out, ((Below.refl w1.heap.size w1).alloc (Nat.le_refl _) _).block _ (by have := HZ2.out; omega)]; exact HY1.out : X.heap[w.heap.size]? = some (.cells c 37 (0, 0)))
    have HR3 : Hid (X.heap[w.heap.size + 1]? = some (.cells Z 37 (0, 0))) := (by rw [HX.out, ((Below.refl w1.heap.size w1).alloc (Nat.le_refl _) _).block _ (by have := HZ2.out; omega)]; exact HY3.out : X.heap[w.heap.size + 1]? = some (.cells Z 37 (0, 0)))
    have HB0 : Hid (Below w.heap.size w X) := (by rw [HX.out]; exact HY0.out.alloc (by have := HZ2.out; omega) _ : Below w.heap.size w X)
    have HCs : Hid (c.size = 136) := HC.out.size
    have HCo : Hid (c.all (·.oneCell') = true) := HC.out.one
    have HI : Hid ((Tryz.prog.info? 37).map (·.size) = some c.size) := (by rw [HCs.out]; exact zero_mem.2 : (Tryz.prog.info? 37).map (·.size) = some c.size)
    rw [HX.out] at HR1 HR3 HB0
    clear HX X HY1 HY3 HY0 HZ2
    have HLD : Hid ((loadVar 37 ⟨w.heap.size, 0, none⟩).run Tryz.prog (w1.alloc (.cells #[.int .i64 k, .int .i64 n, .int .i64 q] 54)) = .ok (.agg c) (w1.alloc (.cells #[.int .i64 k, .int .i64 n, .int .i64 q] 54))) := load_all HR1.out _ _ Tryz.underlying37 rfl HI.out
    have HSD : Hid ((storeVar 37 ⟨w.heap.size + 1, 0, none⟩ (.agg c)).run Tryz.prog (w1.alloc (.cells #[.int .i64 k, .int .i64 n, .int .i64 q] 54)) = .ok () ((w1.alloc (.cells #[.int .i64 k, .int .i64 n, .int .i64 q] 54)).setRow (w.heap.size + 1) c)) := store_all HR3.out _ _ (HZs.out.trans HCs.out.symm) HI.out HCo.out
    have HB : Hid (Below w.heap.size w ((w1.alloc (.cells #[.int .i64 k, .int .i64 n, .int .i64 q] 54)).setRow (w.heap.size + 1) c)) := below_setRow HB0.out (by omega) _
    go_wp2_with (first | (refine wpL_load rfl 37 _ rfl _ _ rfl _ HLD.out ?_) | (refine wpL_store rfl 37 _ _ rfl _ _ rfl _ rfl _ HSD.out ?_) | exact ret_row rfl rfl (row_set HR3.out _) Tryz.underlying37 rfl HI.out rfl ⟨rfl, HB.out⟩ | fail)
  · have t4 : ((a : Int) == 4) = false := by simp; omega
    clear hT ha
    go_enter Tryz.func35, Tryz.ntmps35
    go_wp2_with fail
    rw [← HW0.out]
    refine (HF.out _).mono ?_
    rintro e w1 ⟨rfl, hw⟩
    rw [hw]
    clear hw w1 HF HW0
    go_wp2_with fail
    refine (HD.out _).mono ?_
    rintro e w1 ⟨rfl, g1⟩
    clear HD
    have HR1 : Hid (w1.heap[w.heap.size]? = some (.cells c 37 (0, 0))) := (g1.block _ (by omega)).trans HH1.out
    have HR3 : Hid (w1.heap[w.heap.size + 1]? = some (.cells Z 37 (0, 0))) := (g1.block _ (by omega)).trans HH2.out
    have HB0 : Hid (Below w.heap.size w w1) := HbW.out.trans (g1.mono (by omega))
    have z2 : w.heap.size + 2 ≤ w1.heap.size := by have := g1.size; omega
    have HSZ : Hid (a + 1 ≤ s.size ∧ s.size ≤ 1048576) := ⟨a1, hs⟩
    have HZ2 : Hid (w.heap.size + 2 ≤ w1.heap.size) := z2
    clear g1 z1 z2 i1 i2 i3 s0 h1 h2 t4 hs a1 HH1 HH2 HbW hz
    have hzd := zero_da.1
    have HY1 : Hid (w1.heap[w.heap.size]? = some (.cells c 37 (0, 0))) := HR1.out
    have HY3 : Hid (w1.heap[w.heap.size + 1]? = some (.cells Z 37 (0, 0))) := HR3.out
    have HY0 : Hid (Below w.heap.size w w1) := HB0.out
    clear HR1 HR3 HB0
    obtain ⟨X, HX⟩ : ∃ X, Hid (X = w1.alloc (.cells #[.int .i64 k, .int .i64 n, .int .i64 q] 54)) := ⟨_, rfl⟩
    have HR1 : Hid (X.heap[w.heap.size]? = some (.cells c 37 (0, 0))) := (by rw [HX.out, ((Below.refl w1.heap.size w1).alloc (Nat.le_refl _) _).block _ (by have := HZ2.out; omega)]; exact HY1.out : X.heap[w.heap.size]? = some (.cells c 37 (0, 0)))
    have HR3 : Hid (X.heap[w.heap.size + 1]? = some (.cells Z 37 (0, 0))) := (by rw [HX.out, ((Below.refl w1.heap.size w1).alloc (Nat.le_refl _) _).block _ (by have := HZ2.out; omega)]; exact HY3.out : X.heap[w.heap.size + 1]? = some (.cells Z 37 (0, 0)))
    have HB0 : Hid (Below w.heap.size w X) := (by rw [HX.out]; exact HY0.out.alloc (by have := HZ2.out; omega) _ : Below w.heap.size w X)
    have HCs : Hid (c.size = 136) := HC.out.size
    have HCo : Hid (c.all (·.oneCell') = true) := HC.out.one
    have HI : Hid ((Tryz.prog.info? 37).map (·.size) = some c.size) := (by rw [HCs.out]; exact zero_mem.2 : (Tryz.prog.info? 37).map (·.size) = some c.size)
    rw [HX.out] at HR1 HR3 HB0
    clear HX X HY1 HY3 HY0 HZ2
    have HLD : Hid ((loadVar 37 ⟨w.heap.size, 0, none⟩).run Tryz.prog (w1.alloc (.cells #[.int .i64 k, .int .i64 n, .int .i64 q] 54)) = .ok (.agg c) (w1.alloc (.cells #[.int .i64 k, .int .i64 n, .int .i64 q] 54))) := load_all HR1.out _ _ Tryz.underlying37 rfl HI.out
    have HSD : Hid ((storeVar 37 ⟨w.heap.size + 1, 0, none⟩ (.agg c)).run Tryz.prog (w1.alloc (.cells #[.int .i64 k, .int .i64 n, .int .i64 q] 54)) = .ok () ((w1.alloc (.cells #[.int .i64 k, .int .i64 n, .int .i64 q] 54)).setRow (w.heap.size + 1) c)) := store_all HR3.out _ _ (HZs.out.trans HCs.out.symm) HI.out HCo.out
    have HB : Hid (Below w.heap.size w ((w1.alloc (.cells #[.int .i64 k, .int .i64 n, .int .i64 q] 54)).setRow (w.heap.size + 1) c)) := below_setRow HB0.out (by omega) _
    go_wp2_with (first | (refine wpL_load rfl 37 _ rfl _ _ rfl _ HLD.out ?_) | (refine wpL_store rfl 37 _ _ rfl _ _ rfl _ rfl _ HSD.out ?_) | exact ret_row rfl rfl (row_set HR3.out _) Tryz.underlying37 rfl HI.out rfl ⟨rfl, HB.out⟩ | fail)

set_option maxRecDepth 10000 in
set_option maxHeartbeats 2000000 in
theorem word_eq (c : Array Value) (hc : MemOk c) (s : ByteArray) (hs : s.size ≤ 1048576) (w : World) (h1 : (s.toList == [114, 97, 110]) = false) (h2 : (s.toList == [102, 97, 117, 108, 116]) = false) (a : Nat) (h3 : Lib.index s.data.toList [61] = (a : Int)) (a0 : 0 < a) (a1 : a + 1 ≤ s.size) (hT : a = 4 → ((s.extract 0 4).toList == [116, 105, 109, 101]) = false) (k n q : Int) (ok : Bool) (HD : Hid (∀ W, Calls Tryz.prog 96 #[.string (s.extract 0 a)] W fun e w' => e = .returned (.tuple #[.agg #[.int .i64 k, .int .i64 n, .int .i64 q], .bool ok]) ∧ Below W.heap.size W w')) (hok : ok = true) (QQ : Array Value → Prop) (HQ : Hid (∀ C, QQ C → MemOk C)) (HV : Hid (∀ W, Calls Tryz.prog 97 #[.agg c, .agg #[.int .i64 k, .int .i64 n, .int .i64 q], .string (s.extract (a + 1) s.size)] W fun e w' => ∃ C, e = .returned (.agg C) ∧ QQ C ∧ Below W.heap.size W w')) :
    Calls Tryz.prog 35 #[.agg c, .string s] w fun e w' => ∃ C, e = .returned (.agg C) ∧ QQ C ∧ Below w.heap.size w w' := by
  have HC : Hid (MemOk c) := hc
  clear hc
  have hz := zero_mem.1
  obtain ⟨Z, HZ⟩ : ∃ Z, Hid (Z = memZero) := ⟨_, rfl⟩
  rw [← HZ.out] at hz
  have HZs : Hid (Z.size = 136) := (by rw [HZ.out, memZero_size] : Z.size = 136)
  have HF : Hid (∀ W, Calls Tryz.prog 94 #[.string s, .int .u8 61] W fun e w' => e = .returned (.int .i64 (Lib.index s.data.toList [61])) ∧ w' = W) := fun W => find_s s 61 W (by omega)
  obtain ⟨AT, HAT⟩ : ∃ AT : Int, Hid (AT = Lib.index s.data.toList [61]) := ⟨_, rfl⟩
  rw [← HAT.out] at HF
  obtain ⟨W0, HW0⟩ : ∃ W0, Hid (W0 = (w.alloc (.cells c 37)).alloc (.cells Z 37)) := ⟨_, rfl⟩
  have HH1 : Hid (W0.heap[w.heap.size]? = some (.cells c 37 (0, 0))) := (by rw [HW0.out]; exact (rows2 w _ _).1 : W0.heap[w.heap.size]? = some (.cells c 37 (0, 0)))
  have HH2 : Hid (W0.heap[w.heap.size + 1]? = some (.cells Z 37 (0, 0))) := (by rw [HW0.out]; exact (rows2 w _ _).2 : W0.heap[w.heap.size + 1]? = some (.cells Z 37 (0, 0)))
  have z1 : W0.heap.size = w.heap.size + 2 := by rw [HW0.out]; simp
  have HbW : Hid (Below w.heap.size w W0) := (by rw [HW0.out]; exact ((Below.refl _ _).alloc (Nat.le_refl _) _).alloc (by simp) _ : Below w.heap.size w W0)
  rw [h3] at HAT
  obtain rfl : AT = (a : Int) := HAT.out
  clear h3
  have i1 : (0 : Int) < (a : Int) := by omega
  have i2 : (a : Int) ≤ (s.size : Int) := by omega
  have i3 : (a : Int) + 1 ≤ (s.size : Int) := by omega
  have s0 : s.extract 0 (Int.toNat (a : Int)) = s.extract 0 a := rfl
  subst hok
  by_cases ha : a = 4
  · have t4 := hT ha
    clear hT
    subst ha
    go_enter Tryz.func35, Tryz.ntmps35
    go_wp2_with fail
    rw [← HW0.out]
    refine (HF.out _).mono ?_
    rintro e w1 ⟨rfl, hw⟩
    rw [hw]
    clear hw w1 HF HW0
    go_wp2_with fail
    refine (HD.out _).mono ?_
    rintro e w1 ⟨rfl, g1⟩
    clear HD
    have HR1 : Hid (w1.heap[w.heap.size]? = some (.cells c 37 (0, 0))) := (g1.block _ (by omega)).trans HH1.out
    have HR3 : Hid (w1.heap[w.heap.size + 1]? = some (.cells Z 37 (0, 0))) := (g1.block _ (by omega)).trans HH2.out
    have HB0 : Hid (Below w.heap.size w w1) := HbW.out.trans (g1.mono (by omega))
    have z2 : w.heap.size + 2 ≤ w1.heap.size := by have := g1.size; omega
    have HSZ : Hid (4 + 1 ≤ s.size ∧ s.size ≤ 1048576) := ⟨a1, hs⟩
    have HZ2 : Hid (w.heap.size + 2 ≤ w1.heap.size) := z2
    clear g1 z1 z2 i1 i2 i3 s0 h1 h2 t4 hs a1 HH1 HH2 HbW hz
    have hzd := zero_da.1
    go_upto_region 18 with fail
    have HA1 : Hid ((w1.alloc (.cells #[.int .i64 k, .int .i64 n, .int .i64 q] 54)).heap[w.heap.size]? = some (.cells c 37 (0, 0))) := (((Below.refl w1.heap.size w1).alloc (Nat.le_refl _) _).block _ (by have := HZ2.out; omega)).trans HR1.out
    have HA3 : Hid ((w1.alloc (.cells #[.int .i64 k, .int .i64 n, .int .i64 q] 54)).heap[w.heap.size + 1]? = some (.cells Z 37 (0, 0))) := (((Below.refl w1.heap.size w1).alloc (Nat.le_refl _) _).block _ (by have := HZ2.out; omega)).trans HR3.out
    have HAD : Hid ((w1.alloc (.cells #[.int .i64 k, .int .i64 n, .int .i64 q] 54)).heap[w1.heap.size]? = some (.cells #[.int .i64 k, .int .i64 n, .int .i64 q] 54 (0, 0))) := heap_alloc_last _ _
    have HAB : Hid (Below w.heap.size w (w1.alloc (.cells #[.int .i64 k, .int .i64 n, .int .i64 q] 54))) := HB0.out.alloc (by have := HZ2.out; omega) _
    generalize (w1.alloc (.cells #[.int .i64 k, .int .i64 n, .int .i64 q] 54)) = X at HA1 HA3 HAD HAB ⊢
    have HL1 : Hid (w.heap.size + 2 ≤ w1.heap.size) := HZ2.out
    generalize w1.heap.size = gd at HAD HL1 ⊢
    clear HR1 HR3 HB0 HZ2
    obtain ⟨S, HS⟩ : ∃ S : World → Prop, Hid (∀ W, S W ↔ ((∃ E, E.size = 136 ∧ W.heap[w.heap.size]? = some (.cells E 37 (0, 0))) ∧ W.heap[w.heap.size + 1]? = some (.cells Z 37 (0, 0)) ∧ W.heap[gd]? = some (.cells #[.int .i64 k, .int .i64 n, .int .i64 q] 54 (0, 0)) ∧ Below w.heap.size w W)) := ⟨_, fun W => Iff.rfl⟩
    have hSc : Hid (∀ W W', S W → Below W.heap.size W W' → S W') := fun W W' h g => by
      obtain ⟨⟨E, hE, h1⟩, h2, h3, h4⟩ := (HS.out W).1 h
      have l1 := (Array.getElem?_eq_some_iff.1 h3).1
      have l2 := HL1.out
      exact (HS.out W').2 ⟨⟨E, hE, (g.block _ (by omega)).trans h1⟩, (g.block _ (by omega)).trans h2, (g.block _ (by omega)).trans h3, h4.trans (g.mono h4.size)⟩
    have hLD : Hid (∀ W, S W → (loadVar 54 ⟨gd, 0, none⟩).run Tryz.prog W = .ok (.agg #[.int .i64 k, .int .i64 n, .int .i64 q]) W) := fun W h => load_all ((HS.out W).1 h).2.2.1 _ _ Tryz.underlying54 rfl zero_da.2
    have HIc : Hid ((Tryz.prog.info? 37).map (·.size) = some c.size) := (by rw [HC.out.size]; exact zero_mem.2 : (Tryz.prog.info? 37).map (·.size) = some c.size)
    refine region_cut (R := fun a' W => ∃ C, QQ C ∧ W.heap[w.heap.size]? = some (.cells C 37 (0, 0)) ∧ W.heap[w.heap.size + 1]? = some (.cells Z 37 (0, 0)) ∧ Below w.heap.size w W ∧ a' = ⟨#[.agg c, .string s, .pointer (some ⟨w.heap.size, 0, none⟩), undef, .pointer (some ⟨w.heap.size + 1, 0, none⟩), .int .i64 (4 : Int), undef, undef, .pointer (some ⟨gd, 0, none⟩), .bool true, undef, undef, .string s, .int .i64 (4 : Int), undef, undef, undef, undef, undef, undef, undef, undef, undef, undef, undef, undef, undef, undef, undef, undef, undef, undef, undef, undef, undef, undef, undef, .bool false, .string s, .bool false, undef, .bool false, .string s, .bool false, undef, .bool false, .int .i64 (4 : Int), .bool true, .bool true, .string s, .string (s.extract 0 4), .bool false, .bool false, undef, undef, undef, undef, undef, undef, undef, undef, undef, undef, undef, undef, undef, undef, undef, undef, undef, undef, .bool true, .int .i64 (4 : Int), .bool true, .tuple #[.agg #[.int .i64 k, .int .i64 n, .int .i64 q], .bool true], .string s, .int .i64 (4 : Int), .string (s.extract 0 4), .tuple #[.agg #[.int .i64 k, .int .i64 n, .int .i64 q], .bool true], .agg #[.int .i64 k, .int .i64 n, .int .i64 q], .bool true, .bool true, .agg c, .agg #[.int .i64 k, .int .i64 n, .int .i64 q], .string s, .int .i64 (4 : Int), .int .i64 5, .string (s.extract 5 s.size), .agg C, undef], []⟩) ?_ ?_
    · have S0 : S X.drew := (HS.out _).2 ⟨⟨c, HC.out.size, HA1.out⟩, HA3.out, HAD.out, HAB.out.drew⟩
      refine heldH_start (S := S) (by kernel_rfl) S0 8 rfl #[false, false, false, false, false, false, false, false] rfl (fun S0 => ?_)
      have HRc : Hid (X.drew.heap[w.heap.size]? = some (.cells c 37 (0, 0))) := HA1.out
      generalize X.drew = Y at S0 HRc ⊢
      refine tk_load' (i := 1) rfl (by kernel_rfl) (by kernel_rfl) (by kernel_rfl) (fun _ _ _ _ h => nomatch h.1) rfl 54 _ rfl _ _ rfl (.agg #[.int .i64 k, .int .i64 n, .int .i64 q]) hLD.out S0 #[false, true, false, false, false, false, false, false] rfl ⟨#[.agg c, .string s, .pointer (some ⟨w.heap.size, 0, none⟩), undef, .pointer (some ⟨w.heap.size + 1, 0, none⟩), .int .i64 (4 : Int), undef, undef, .pointer (some ⟨gd, 0, none⟩), .bool true, undef, undef, .string s, .int .i64 (4 : Int), undef, undef, undef, undef, undef, undef, undef, undef, undef, undef, undef, undef, undef, undef, undef, undef, undef, undef, undef, undef, undef, undef, undef, .bool false, .string s, .bool false, undef, .bool false, .string s, .bool false, undef, .bool false, .int .i64 (4 : Int), .bool true, .bool true, .string s, .string (s.extract 0 4), .bool false, .bool false, undef, undef, undef, undef, undef, undef, undef, undef, undef, undef, undef, undef, undef, undef, undef, undef, undef, undef, .bool true, .int .i64 (4 : Int), .bool true, .tuple #[.agg #[.int .i64 k, .int .i64 n, .int .i64 q], .bool true], .string s, .int .i64 (4 : Int), .string (s.extract 0 4), .tuple #[.agg #[.int .i64 k, .int .i64 n, .int .i64 q], .bool true], .agg #[.int .i64 k, .int .i64 n, .int .i64 q], .bool true, .bool true, undef, .agg #[.int .i64 k, .int .i64 n, .int .i64 q], undef, undef, undef, undef, undef, undef], []⟩ rfl ?_
      refine tkH_val (i := 2) rfl (by kernel_rfl) (by kernel_rfl) (by kernel_rfl) (fun _ _ _ _ h => nomatch h.1) rfl (.string s) (fun W _ => by go_simp) S0 #[false, true, true, false, false, false, false, false] rfl ⟨#[.agg c, .string s, .pointer (some ⟨w.heap.size, 0, none⟩), undef, .pointer (some ⟨w.heap.size + 1, 0, none⟩), .int .i64 (4 : Int), undef, undef, .pointer (some ⟨gd, 0, none⟩), .bool true, undef, undef, .string s, .int .i64 (4 : Int), undef, undef, undef, undef, undef, undef, undef, undef, undef, undef, undef, undef, undef, undef, undef, undef, undef, undef, undef, undef, undef, undef, undef, .bool false, .string s, .bool false, undef, .bool false, .string s, .bool false, undef, .bool false, .int .i64 (4 : Int), .bool true, .bool true, .string s, .string (s.extract 0 4), .bool false, .bool false, undef, undef, undef, undef, undef, undef, undef, undef, undef, undef, undef, undef, undef, undef, undef, undef, undef, undef, .bool true, .int .i64 (4 : Int), .bool true, .tuple #[.agg #[.int .i64 k, .int .i64 n, .int .i64 q], .bool true], .string s, .int .i64 (4 : Int), .string (s.extract 0 4), .tuple #[.agg #[.int .i64 k, .int .i64 n, .int .i64 q], .bool true], .agg #[.int .i64 k, .int .i64 n, .int .i64 q], .bool true, .bool true, undef, .agg #[.int .i64 k, .int .i64 n, .int .i64 q], .string s, undef, undef, undef, undef, undef], []⟩ rfl ?_
      refine tkH_val (i := 3) rfl (by kernel_rfl) (by kernel_rfl) (by kernel_rfl) (fun _ _ _ _ h => nomatch h.1) rfl (.int .i64 (4 : Int)) (fun W _ => by go_simp) S0 #[false, true, true, true, false, false, false, false] rfl ⟨#[.agg c, .string s, .pointer (some ⟨w.heap.size, 0, none⟩), undef, .pointer (some ⟨w.heap.size + 1, 0, none⟩), .int .i64 (4 : Int), undef, undef, .pointer (some ⟨gd, 0, none⟩), .bool true, undef, undef, .string s, .int .i64 (4 : Int), undef, undef, undef, undef, undef, undef, undef, undef, undef, undef, undef, undef, undef, undef, undef, undef, undef, undef, undef, undef, undef, undef, undef, .bool false, .string s, .bool false, undef, .bool false, .string s, .bool false, undef, .bool false, .int .i64 (4 : Int), .bool true, .bool true, .string s, .string (s.extract 0 4), .bool false, .bool false, undef, undef, undef, undef, undef, undef, undef, undef, undef, undef, undef, undef, undef, undef, undef, undef, undef, undef, .bool true, .int .i64 (4 : Int), .bool true, .tuple #[.agg #[.int .i64 k, .int .i64 n, .int .i64 q], .bool true], .string s, .int .i64 (4 : Int), .string (s.extract 0 4), .tuple #[.agg #[.int .i64 k, .int .i64 n, .int .i64 q], .bool true], .agg #[.int .i64 k, .int .i64 n, .int .i64 q], .bool true, .bool true, undef, .agg #[.int .i64 k, .int .i64 n, .int .i64 q], .string s, .int .i64 (4 : Int), undef, undef, undef, undef], []⟩ rfl ?_
      refine tkH_val (i := 4) rfl (by kernel_rfl) (by kernel_rfl) (by kernel_rfl) (fun _ _ _ _ h => nomatch h.1) rfl (.int .i64 5) (fun W _ => by have := HSZ.out; go_simp; first | rfl | exact wrapH _ (by omega) (by omega)) S0 #[false, true, true, true, true, false, false, false] rfl ⟨#[.agg c, .string s, .pointer (some ⟨w.heap.size, 0, none⟩), undef, .pointer (some ⟨w.heap.size + 1, 0, none⟩), .int .i64 (4 : Int), undef, undef, .pointer (some ⟨gd, 0, none⟩), .bool true, undef, undef, .string s, .int .i64 (4 : Int), undef, undef, undef, undef, undef, undef, undef, undef, undef, undef, undef, undef, undef, undef, undef, undef, undef, undef, undef, undef, undef, undef, undef, .bool false, .string s, .bool false, undef, .bool false, .string s, .bool false, undef, .bool false, .int .i64 (4 : Int), .bool true, .bool true, .string s, .string (s.extract 0 4), .bool false, .bool false, undef, undef, undef, undef, undef, undef, undef, undef, undef, undef, undef, undef, undef, undef, undef, undef, undef, undef, .bool true, .int .i64 (4 : Int), .bool true, .tuple #[.agg #[.int .i64 k, .int .i64 n, .int .i64 q], .bool true], .string s, .int .i64 (4 : Int), .string (s.extract 0 4), .tuple #[.agg #[.int .i64 k, .int .i64 n, .int .i64 q], .bool true], .agg #[.int .i64 k, .int .i64 n, .int .i64 q], .bool true, .bool true, undef, .agg #[.int .i64 k, .int .i64 n, .int .i64 q], .string s, .int .i64 (4 : Int), .int .i64 5, undef, undef, undef], []⟩ rfl ?_
      refine tkH_val (i := 5) rfl (by kernel_rfl) (by kernel_rfl) (by kernel_rfl) (fun _ _ _ _ h => nomatch h.1) rfl (.string (s.extract 5 s.size)) (fun W _ => by have hq := HSZ.out; have iq : ¬ ((s.size : Int) < 5) := (by omega); go_simp; try (intro hh; omega)) S0 #[false, true, true, true, true, true, false, false] rfl ⟨#[.agg c, .string s, .pointer (some ⟨w.heap.size, 0, none⟩), undef, .pointer (some ⟨w.heap.size + 1, 0, none⟩), .int .i64 (4 : Int), undef, undef, .pointer (some ⟨gd, 0, none⟩), .bool true, undef, undef, .string s, .int .i64 (4 : Int), undef, undef, undef, undef, undef, undef, undef, undef, undef, undef, undef, undef, undef, undef, undef, undef, undef, undef, undef, undef, undef, undef, undef, .bool false, .string s, .bool false, undef, .bool false, .string s, .bool false, undef, .bool false, .int .i64 (4 : Int), .bool true, .bool true, .string s, .string (s.extract 0 4), .bool false, .bool false, undef, undef, undef, undef, undef, undef, undef, undef, undef, undef, undef, undef, undef, undef, undef, undef, undef, undef, .bool true, .int .i64 (4 : Int), .bool true, .tuple #[.agg #[.int .i64 k, .int .i64 n, .int .i64 q], .bool true], .string s, .int .i64 (4 : Int), .string (s.extract 0 4), .tuple #[.agg #[.int .i64 k, .int .i64 n, .int .i64 q], .bool true], .agg #[.int .i64 k, .int .i64 n, .int .i64 q], .bool true, .bool true, undef, .agg #[.int .i64 k, .int .i64 n, .int .i64 q], .string s, .int .i64 (4 : Int), .int .i64 5, .string (s.extract 5 s.size), undef, undef], []⟩ rfl ?_
      refine wpAnyH_all (rs := [0]) (by kernel_rfl) (by simp) (fun i hi => ?_)
      obtain rfl := List.mem_singleton.1 hi
      refine upH_load rfl rfl 37 _ rfl _ _ rfl (.agg c) (load_all HRc.out _ _ Tryz.underlying37 rfl HIc.out) S0 #[true, true, true, true, true, true, false, false] rfl ⟨#[.agg c, .string s, .pointer (some ⟨w.heap.size, 0, none⟩), undef, .pointer (some ⟨w.heap.size + 1, 0, none⟩), .int .i64 (4 : Int), undef, undef, .pointer (some ⟨gd, 0, none⟩), .bool true, undef, undef, .string s, .int .i64 (4 : Int), undef, undef, undef, undef, undef, undef, undef, undef, undef, undef, undef, undef, undef, undef, undef, undef, undef, undef, undef, undef, undef, undef, undef, .bool false, .string s, .bool false, undef, .bool false, .string s, .bool false, undef, .bool false, .int .i64 (4 : Int), .bool true, .bool true, .string s, .string (s.extract 0 4), .bool false, .bool false, undef, undef, undef, undef, undef, undef, undef, undef, undef, undef, undef, undef, undef, undef, undef, undef, undef, undef, .bool true, .int .i64 (4 : Int), .bool true, .tuple #[.agg #[.int .i64 k, .int .i64 n, .int .i64 q], .bool true], .string s, .int .i64 (4 : Int), .string (s.extract 0 4), .tuple #[.agg #[.int .i64 k, .int .i64 n, .int .i64 q], .bool true], .agg #[.int .i64 k, .int .i64 n, .int .i64 q], .bool true, .bool true, .agg c, .agg #[.int .i64 k, .int .i64 n, .int .i64 q], .string s, .int .i64 (4 : Int), .int .i64 5, .string (s.extract 5 s.size), undef, undef], []⟩ rfl ?_
      refine wpAnyH_all (rs := [6]) (by kernel_rfl) (by simp) (fun i hi => ?_)
      obtain rfl := List.mem_singleton.1 hi
      refine up_fcallV rfl rfl Tryz.func97 (by kernel_rfl) (by kernel_rfl) rfl [.agg c, .agg #[.int .i64 k, .int .i64 n, .int .i64 q], .string (s.extract 5 s.size)] rfl #[true, true, true, true, true, true, true, false] rfl (fun v => ⟨#[.agg c, .string s, .pointer (some ⟨w.heap.size, 0, none⟩), undef, .pointer (some ⟨w.heap.size + 1, 0, none⟩), .int .i64 (4 : Int), undef, undef, .pointer (some ⟨gd, 0, none⟩), .bool true, undef, undef, .string s, .int .i64 (4 : Int), undef, undef, undef, undef, undef, undef, undef, undef, undef, undef, undef, undef, undef, undef, undef, undef, undef, undef, undef, undef, undef, undef, undef, .bool false, .string s, .bool false, undef, .bool false, .string s, .bool false, undef, .bool false, .int .i64 (4 : Int), .bool true, .bool true, .string s, .string (s.extract 0 4), .bool false, .bool false, undef, undef, undef, undef, undef, undef, undef, undef, undef, undef, undef, undef, undef, undef, undef, undef, undef, undef, .bool true, .int .i64 (4 : Int), .bool true, .tuple #[.agg #[.int .i64 k, .int .i64 n, .int .i64 q], .bool true], .string s, .int .i64 (4 : Int), .string (s.extract 0 4), .tuple #[.agg #[.int .i64 k, .int .i64 n, .int .i64 q], .bool true], .agg #[.int .i64 k, .int .i64 n, .int .i64 q], .bool true, .bool true, .agg c, .agg #[.int .i64 k, .int .i64 n, .int .i64 q], .string s, .int .i64 (4 : Int), .int .i64 5, .string (s.extract 5 s.size), v, undef], []⟩) (fun v => rfl) (fun v W' => ∃ C, v = .agg C ∧ QQ C ∧ Below Y.heap.size Y W') ((HV.out Y).mono fun e w' ⟨C, h1, h2, h3⟩ => ⟨_, h1, C, rfl, h2, h3⟩) ?_
      rintro v w2 ⟨C, rfl, hQC, g2⟩
      have S2 := hSc.out _ _ S0 g2
      refine ⟨S2, ?_⟩
      have HCM := HQ.out C hQC
      have HI : (Tryz.prog.info? 37).map (·.size) = some C.size := by rw [HCM.size]; exact zero_mem.2
      refine wpAnyH_all (rs := [7]) (by kernel_rfl) (by simp) (fun i hi => ?_)
      obtain rfl := List.mem_singleton.1 hi
      obtain ⟨⟨E, hE, p1⟩, p2, p3, p4⟩ := (HS.out _).1 S2
      have l2 := HL1.out
      have S3 : S (w2.setRow w.heap.size C) := (HS.out _).2 ⟨⟨C, HCM.size, row_set p1 _⟩, row_beside p2 _ (by omega) _, row_beside p3 _ (by omega) _, below_setRow p4 (Nat.le_refl _) _⟩
      refine up_store' rfl rfl 37 _ _ rfl _ _ rfl _ rfl _ (store_all p1 _ _ (hE.trans HCM.size.symm) HI HCM.one) S3 #[true, true, true, true, true, true, true, true] rfl ⟨#[.agg c, .string s, .pointer (some ⟨w.heap.size, 0, none⟩), undef, .pointer (some ⟨w.heap.size + 1, 0, none⟩), .int .i64 (4 : Int), undef, undef, .pointer (some ⟨gd, 0, none⟩), .bool true, undef, undef, .string s, .int .i64 (4 : Int), undef, undef, undef, undef, undef, undef, undef, undef, undef, undef, undef, undef, undef, undef, undef, undef, undef, undef, undef, undef, undef, undef, undef, .bool false, .string s, .bool false, undef, .bool false, .string s, .bool false, undef, .bool false, .int .i64 (4 : Int), .bool true, .bool true, .string s, .string (s.extract 0 4), .bool false, .bool false, undef, undef, undef, undef, undef, undef, undef, undef, undef, undef, undef, undef, undef, undef, undef, undef, undef, undef, .bool true, .int .i64 (4 : Int), .bool true, .tuple #[.agg #[.int .i64 k, .int .i64 n, .int .i64 q], .bool true], .string s, .int .i64 (4 : Int), .string (s.extract 0 4), .tuple #[.agg #[.int .i64 k, .int .i64 n, .int .i64 q], .bool true], .agg #[.int .i64 k, .int .i64 n, .int .i64 q], .bool true, .bool true, .agg c, .agg #[.int .i64 k, .int .i64 n, .int .i64 q], .string s, .int .i64 (4 : Int), .int .i64 5, .string (s.extract 5 s.size), .agg C, undef], []⟩ rfl ?_
      exact wpAnyH_done (by kernel_rfl) ⟨rfl, C, hQC, row_set p1 _, row_beside p2 _ (by omega) _, below_setRow p4 (Nat.le_refl _) _, rfl⟩ _
    · rintro a' W ⟨C, hQC, k1, k3, k4, rfl⟩
      have HCM : Hid (MemOk C) := HQ.out C hQC
      have HQC : Hid (QQ C) := hQC
      have HCs : Hid (C.size = 136) := HCM.out.size
      have HCo : Hid (C.all (·.oneCell') = true) := HCM.out.one
      have HI : Hid ((Tryz.prog.info? 37).map (·.size) = some C.size) := (by rw [HCs.out]; exact zero_mem.2 : (Tryz.prog.info? 37).map (·.size) = some C.size)
      have HR1 : Hid (W.heap[w.heap.size]? = some (.cells C 37 (0, 0))) := k1
      have HR3 : Hid (W.heap[w.heap.size + 1]? = some (.cells Z 37 (0, 0))) := k3
      have HB0 : Hid (Below w.heap.size w W) := k4
      clear hQC k1 k3 k4 HA1 HA3 HAD HAB HL1 HS hSc hLD HIc HQ HV
      have HLD : Hid ((loadVar 37 ⟨w.heap.size, 0, none⟩).run Tryz.prog W = .ok (.agg C) W) := load_all HR1.out _ _ Tryz.underlying37 rfl HI.out
      have HSD : Hid ((storeVar 37 ⟨w.heap.size + 1, 0, none⟩ (.agg C)).run Tryz.prog W = .ok () (W.setRow (w.heap.size + 1) C)) := store_all HR3.out _ _ (HZs.out.trans HCs.out.symm) HI.out HCo.out
      have HB : Hid (Below w.heap.size w (W.setRow (w.heap.size + 1) C)) := below_setRow HB0.out (by omega) _
      go_wp2_with (first | (refine wpL_load rfl 37 _ rfl _ _ rfl _ HLD.out ?_) | (refine wpL_store rfl 37 _ _ rfl _ _ rfl _ rfl _ HSD.out ?_) | exact ret_row rfl rfl (row_set HR3.out _) Tryz.underlying37 rfl HI.out rfl ⟨C, rfl, HQC.out, HB.out⟩ | fail)
  · have t4 : ((a : Int) == 4) = false := by simp; omega
    clear hT ha
    go_enter Tryz.func35, Tryz.ntmps35
    go_wp2_with fail
    rw [← HW0.out]
    refine (HF.out _).mono ?_
    rintro e w1 ⟨rfl, hw⟩
    rw [hw]
    clear hw w1 HF HW0
    go_wp2_with fail
    refine (HD.out _).mono ?_
    rintro e w1 ⟨rfl, g1⟩
    clear HD
    have HR1 : Hid (w1.heap[w.heap.size]? = some (.cells c 37 (0, 0))) := (g1.block _ (by omega)).trans HH1.out
    have HR3 : Hid (w1.heap[w.heap.size + 1]? = some (.cells Z 37 (0, 0))) := (g1.block _ (by omega)).trans HH2.out
    have HB0 : Hid (Below w.heap.size w w1) := HbW.out.trans (g1.mono (by omega))
    have z2 : w.heap.size + 2 ≤ w1.heap.size := by have := g1.size; omega
    have HSZ : Hid (a + 1 ≤ s.size ∧ s.size ≤ 1048576) := ⟨a1, hs⟩
    have HZ2 : Hid (w.heap.size + 2 ≤ w1.heap.size) := z2
    clear g1 z1 z2 i1 i2 i3 s0 h1 h2 t4 hs a1 HH1 HH2 HbW hz
    have hzd := zero_da.1
    go_upto_region 18 with fail
    have HA1 : Hid ((w1.alloc (.cells #[.int .i64 k, .int .i64 n, .int .i64 q] 54)).heap[w.heap.size]? = some (.cells c 37 (0, 0))) := (((Below.refl w1.heap.size w1).alloc (Nat.le_refl _) _).block _ (by have := HZ2.out; omega)).trans HR1.out
    have HA3 : Hid ((w1.alloc (.cells #[.int .i64 k, .int .i64 n, .int .i64 q] 54)).heap[w.heap.size + 1]? = some (.cells Z 37 (0, 0))) := (((Below.refl w1.heap.size w1).alloc (Nat.le_refl _) _).block _ (by have := HZ2.out; omega)).trans HR3.out
    have HAD : Hid ((w1.alloc (.cells #[.int .i64 k, .int .i64 n, .int .i64 q] 54)).heap[w1.heap.size]? = some (.cells #[.int .i64 k, .int .i64 n, .int .i64 q] 54 (0, 0))) := heap_alloc_last _ _
    have HAB : Hid (Below w.heap.size w (w1.alloc (.cells #[.int .i64 k, .int .i64 n, .int .i64 q] 54))) := HB0.out.alloc (by have := HZ2.out; omega) _
    generalize (w1.alloc (.cells #[.int .i64 k, .int .i64 n, .int .i64 q] 54)) = X at HA1 HA3 HAD HAB ⊢
    have HL1 : Hid (w.heap.size + 2 ≤ w1.heap.size) := HZ2.out
    generalize w1.heap.size = gd at HAD HL1 ⊢
    clear HR1 HR3 HB0 HZ2
    obtain ⟨S, HS⟩ : ∃ S : World → Prop, Hid (∀ W, S W ↔ ((∃ E, E.size = 136 ∧ W.heap[w.heap.size]? = some (.cells E 37 (0, 0))) ∧ W.heap[w.heap.size + 1]? = some (.cells Z 37 (0, 0)) ∧ W.heap[gd]? = some (.cells #[.int .i64 k, .int .i64 n, .int .i64 q] 54 (0, 0)) ∧ Below w.heap.size w W)) := ⟨_, fun W => Iff.rfl⟩
    have hSc : Hid (∀ W W', S W → Below W.heap.size W W' → S W') := fun W W' h g => by
      obtain ⟨⟨E, hE, h1⟩, h2, h3, h4⟩ := (HS.out W).1 h
      have l1 := (Array.getElem?_eq_some_iff.1 h3).1
      have l2 := HL1.out
      exact (HS.out W').2 ⟨⟨E, hE, (g.block _ (by omega)).trans h1⟩, (g.block _ (by omega)).trans h2, (g.block _ (by omega)).trans h3, h4.trans (g.mono h4.size)⟩
    have hLD : Hid (∀ W, S W → (loadVar 54 ⟨gd, 0, none⟩).run Tryz.prog W = .ok (.agg #[.int .i64 k, .int .i64 n, .int .i64 q]) W) := fun W h => load_all ((HS.out W).1 h).2.2.1 _ _ Tryz.underlying54 rfl zero_da.2
    have HIc : Hid ((Tryz.prog.info? 37).map (·.size) = some c.size) := (by rw [HC.out.size]; exact zero_mem.2 : (Tryz.prog.info? 37).map (·.size) = some c.size)
    refine region_cut (R := fun a' W => ∃ C, QQ C ∧ W.heap[w.heap.size]? = some (.cells C 37 (0, 0)) ∧ W.heap[w.heap.size + 1]? = some (.cells Z 37 (0, 0)) ∧ Below w.heap.size w W ∧ a' = ⟨#[.agg c, .string s, .pointer (some ⟨w.heap.size, 0, none⟩), undef, .pointer (some ⟨w.heap.size + 1, 0, none⟩), .int .i64 (a : Int), undef, undef, .pointer (some ⟨gd, 0, none⟩), .bool true, undef, undef, .string s, .int .i64 (a : Int), undef, undef, undef, undef, undef, undef, undef, undef, undef, undef, undef, undef, undef, undef, undef, undef, undef, undef, undef, undef, undef, undef, undef, .bool false, .string s, .bool false, undef, .bool false, .string s, .bool false, undef, .bool false, .int .i64 (a : Int), .bool false, .bool false, undef, undef, undef, .bool false, undef, undef, undef, undef, undef, undef, undef, undef, undef, undef, undef, undef, undef, undef, undef, undef, undef, undef, .bool true, .int .i64 (a : Int), .bool true, .tuple #[.agg #[.int .i64 k, .int .i64 n, .int .i64 q], .bool true], .string s, .int .i64 (a : Int), .string (s.extract 0 a), .tuple #[.agg #[.int .i64 k, .int .i64 n, .int .i64 q], .bool true], .agg #[.int .i64 k, .int .i64 n, .int .i64 q], .bool true, .bool true, .agg c, .agg #[.int .i64 k, .int .i64 n, .int .i64 q], .string s, .int .i64 (a : Int), .int .i64 ((a : Int) + 1), .string (s.extract (a + 1) s.size), .agg C, undef], []⟩) ?_ ?_
    · have S0 : S X.drew := (HS.out _).2 ⟨⟨c, HC.out.size, HA1.out⟩, HA3.out, HAD.out, HAB.out.drew⟩
      refine heldH_start (S := S) (by kernel_rfl) S0 8 rfl #[false, false, false, false, false, false, false, false] rfl (fun S0 => ?_)
      have HRc : Hid (X.drew.heap[w.heap.size]? = some (.cells c 37 (0, 0))) := HA1.out
      generalize X.drew = Y at S0 HRc ⊢
      refine tk_load' (i := 1) rfl (by kernel_rfl) (by kernel_rfl) (by kernel_rfl) (fun _ _ _ _ h => nomatch h.1) rfl 54 _ rfl _ _ rfl (.agg #[.int .i64 k, .int .i64 n, .int .i64 q]) hLD.out S0 #[false, true, false, false, false, false, false, false] rfl ⟨#[.agg c, .string s, .pointer (some ⟨w.heap.size, 0, none⟩), undef, .pointer (some ⟨w.heap.size + 1, 0, none⟩), .int .i64 (a : Int), undef, undef, .pointer (some ⟨gd, 0, none⟩), .bool true, undef, undef, .string s, .int .i64 (a : Int), undef, undef, undef, undef, undef, undef, undef, undef, undef, undef, undef, undef, undef, undef, undef, undef, undef, undef, undef, undef, undef, undef, undef, .bool false, .string s, .bool false, undef, .bool false, .string s, .bool false, undef, .bool false, .int .i64 (a : Int), .bool false, .bool false, undef, undef, undef, .bool false, undef, undef, undef, undef, undef, undef, undef, undef, undef, undef, undef, undef, undef, undef, undef, undef, undef, undef, .bool true, .int .i64 (a : Int), .bool true, .tuple #[.agg #[.int .i64 k, .int .i64 n, .int .i64 q], .bool true], .string s, .int .i64 (a : Int), .string (s.extract 0 a), .tuple #[.agg #[.int .i64 k, .int .i64 n, .int .i64 q], .bool true], .agg #[.int .i64 k, .int .i64 n, .int .i64 q], .bool true, .bool true, undef, .agg #[.int .i64 k, .int .i64 n, .int .i64 q], undef, undef, undef, undef, undef, undef], []⟩ rfl ?_
      refine tkH_val (i := 2) rfl (by kernel_rfl) (by kernel_rfl) (by kernel_rfl) (fun _ _ _ _ h => nomatch h.1) rfl (.string s) (fun W _ => by go_simp) S0 #[false, true, true, false, false, false, false, false] rfl ⟨#[.agg c, .string s, .pointer (some ⟨w.heap.size, 0, none⟩), undef, .pointer (some ⟨w.heap.size + 1, 0, none⟩), .int .i64 (a : Int), undef, undef, .pointer (some ⟨gd, 0, none⟩), .bool true, undef, undef, .string s, .int .i64 (a : Int), undef, undef, undef, undef, undef, undef, undef, undef, undef, undef, undef, undef, undef, undef, undef, undef, undef, undef, undef, undef, undef, undef, undef, .bool false, .string s, .bool false, undef, .bool false, .string s, .bool false, undef, .bool false, .int .i64 (a : Int), .bool false, .bool false, undef, undef, undef, .bool false, undef, undef, undef, undef, undef, undef, undef, undef, undef, undef, undef, undef, undef, undef, undef, undef, undef, undef, .bool true, .int .i64 (a : Int), .bool true, .tuple #[.agg #[.int .i64 k, .int .i64 n, .int .i64 q], .bool true], .string s, .int .i64 (a : Int), .string (s.extract 0 a), .tuple #[.agg #[.int .i64 k, .int .i64 n, .int .i64 q], .bool true], .agg #[.int .i64 k, .int .i64 n, .int .i64 q], .bool true, .bool true, undef, .agg #[.int .i64 k, .int .i64 n, .int .i64 q], .string s, undef, undef, undef, undef, undef], []⟩ rfl ?_
      refine tkH_val (i := 3) rfl (by kernel_rfl) (by kernel_rfl) (by kernel_rfl) (fun _ _ _ _ h => nomatch h.1) rfl (.int .i64 (a : Int)) (fun W _ => by go_simp) S0 #[false, true, true, true, false, false, false, false] rfl ⟨#[.agg c, .string s, .pointer (some ⟨w.heap.size, 0, none⟩), undef, .pointer (some ⟨w.heap.size + 1, 0, none⟩), .int .i64 (a : Int), undef, undef, .pointer (some ⟨gd, 0, none⟩), .bool true, undef, undef, .string s, .int .i64 (a : Int), undef, undef, undef, undef, undef, undef, undef, undef, undef, undef, undef, undef, undef, undef, undef, undef, undef, undef, undef, undef, undef, undef, undef, .bool false, .string s, .bool false, undef, .bool false, .string s, .bool false, undef, .bool false, .int .i64 (a : Int), .bool false, .bool false, undef, undef, undef, .bool false, undef, undef, undef, undef, undef, undef, undef, undef, undef, undef, undef, undef, undef, undef, undef, undef, undef, undef, .bool true, .int .i64 (a : Int), .bool true, .tuple #[.agg #[.int .i64 k, .int .i64 n, .int .i64 q], .bool true], .string s, .int .i64 (a : Int), .string (s.extract 0 a), .tuple #[.agg #[.int .i64 k, .int .i64 n, .int .i64 q], .bool true], .agg #[.int .i64 k, .int .i64 n, .int .i64 q], .bool true, .bool true, undef, .agg #[.int .i64 k, .int .i64 n, .int .i64 q], .string s, .int .i64 (a : Int), undef, undef, undef, undef], []⟩ rfl ?_
      refine tkH_val (i := 4) rfl (by kernel_rfl) (by kernel_rfl) (by kernel_rfl) (fun _ _ _ _ h => nomatch h.1) rfl (.int .i64 ((a : Int) + 1)) (fun W _ => by have := HSZ.out; go_simp; first | rfl | exact wrapH _ (by omega) (by omega)) S0 #[false, true, true, true, true, false, false, false] rfl ⟨#[.agg c, .string s, .pointer (some ⟨w.heap.size, 0, none⟩), undef, .pointer (some ⟨w.heap.size + 1, 0, none⟩), .int .i64 (a : Int), undef, undef, .pointer (some ⟨gd, 0, none⟩), .bool true, undef, undef, .string s, .int .i64 (a : Int), undef, undef, undef, undef, undef, undef, undef, undef, undef, undef, undef, undef, undef, undef, undef, undef, undef, undef, undef, undef, undef, undef, undef, .bool false, .string s, .bool false, undef, .bool false, .string s, .bool false, undef, .bool false, .int .i64 (a : Int), .bool false, .bool false, undef, undef, undef, .bool false, undef, undef, undef, undef, undef, undef, undef, undef, undef, undef, undef, undef, undef, undef, undef, undef, undef, undef, .bool true, .int .i64 (a : Int), .bool true, .tuple #[.agg #[.int .i64 k, .int .i64 n, .int .i64 q], .bool true], .string s, .int .i64 (a : Int), .string (s.extract 0 a), .tuple #[.agg #[.int .i64 k, .int .i64 n, .int .i64 q], .bool true], .agg #[.int .i64 k, .int .i64 n, .int .i64 q], .bool true, .bool true, undef, .agg #[.int .i64 k, .int .i64 n, .int .i64 q], .string s, .int .i64 (a : Int), .int .i64 ((a : Int) + 1), undef, undef, undef], []⟩ rfl ?_
      refine tkH_val (i := 5) rfl (by kernel_rfl) (by kernel_rfl) (by kernel_rfl) (fun _ _ _ _ h => nomatch h.1) rfl (.string (s.extract (a + 1) s.size)) (fun W _ => by have hq := HSZ.out; have iq : ¬ ((s.size : Int) < (a : Int) + 1) := (by omega); go_simp; try (intro hh; omega)) S0 #[false, true, true, true, true, true, false, false] rfl ⟨#[.agg c, .string s, .pointer (some ⟨w.heap.size, 0, none⟩), undef, .pointer (some ⟨w.heap.size + 1, 0, none⟩), .int .i64 (a : Int), undef, undef, .pointer (some ⟨gd, 0, none⟩), .bool true, undef, undef, .string s, .int .i64 (a : Int), undef, undef, undef, undef, undef, undef, undef, undef, undef, undef, undef, undef, undef, undef, undef, undef, undef, undef, undef, undef, undef, undef, undef, .bool false, .string s, .bool false, undef, .bool false, .string s, .bool false, undef, .bool false, .int .i64 (a : Int), .bool false, .bool false, undef, undef, undef, .bool false, undef, undef, undef, undef, undef, undef, undef, undef, undef, undef, undef, undef, undef, undef, undef, undef, undef, undef, .bool true, .int .i64 (a : Int), .bool true, .tuple #[.agg #[.int .i64 k, .int .i64 n, .int .i64 q], .bool true], .string s, .int .i64 (a : Int), .string (s.extract 0 a), .tuple #[.agg #[.int .i64 k, .int .i64 n, .int .i64 q], .bool true], .agg #[.int .i64 k, .int .i64 n, .int .i64 q], .bool true, .bool true, undef, .agg #[.int .i64 k, .int .i64 n, .int .i64 q], .string s, .int .i64 (a : Int), .int .i64 ((a : Int) + 1), .string (s.extract (a + 1) s.size), undef, undef], []⟩ rfl ?_
      refine wpAnyH_all (rs := [0]) (by kernel_rfl) (by simp) (fun i hi => ?_)
      obtain rfl := List.mem_singleton.1 hi
      refine upH_load rfl rfl 37 _ rfl _ _ rfl (.agg c) (load_all HRc.out _ _ Tryz.underlying37 rfl HIc.out) S0 #[true, true, true, true, true, true, false, false] rfl ⟨#[.agg c, .string s, .pointer (some ⟨w.heap.size, 0, none⟩), undef, .pointer (some ⟨w.heap.size + 1, 0, none⟩), .int .i64 (a : Int), undef, undef, .pointer (some ⟨gd, 0, none⟩), .bool true, undef, undef, .string s, .int .i64 (a : Int), undef, undef, undef, undef, undef, undef, undef, undef, undef, undef, undef, undef, undef, undef, undef, undef, undef, undef, undef, undef, undef, undef, undef, .bool false, .string s, .bool false, undef, .bool false, .string s, .bool false, undef, .bool false, .int .i64 (a : Int), .bool false, .bool false, undef, undef, undef, .bool false, undef, undef, undef, undef, undef, undef, undef, undef, undef, undef, undef, undef, undef, undef, undef, undef, undef, undef, .bool true, .int .i64 (a : Int), .bool true, .tuple #[.agg #[.int .i64 k, .int .i64 n, .int .i64 q], .bool true], .string s, .int .i64 (a : Int), .string (s.extract 0 a), .tuple #[.agg #[.int .i64 k, .int .i64 n, .int .i64 q], .bool true], .agg #[.int .i64 k, .int .i64 n, .int .i64 q], .bool true, .bool true, .agg c, .agg #[.int .i64 k, .int .i64 n, .int .i64 q], .string s, .int .i64 (a : Int), .int .i64 ((a : Int) + 1), .string (s.extract (a + 1) s.size), undef, undef], []⟩ rfl ?_
      refine wpAnyH_all (rs := [6]) (by kernel_rfl) (by simp) (fun i hi => ?_)
      obtain rfl := List.mem_singleton.1 hi
      refine up_fcallV rfl rfl Tryz.func97 (by kernel_rfl) (by kernel_rfl) rfl [.agg c, .agg #[.int .i64 k, .int .i64 n, .int .i64 q], .string (s.extract (a + 1) s.size)] rfl #[true, true, true, true, true, true, true, false] rfl (fun v => ⟨#[.agg c, .string s, .pointer (some ⟨w.heap.size, 0, none⟩), undef, .pointer (some ⟨w.heap.size + 1, 0, none⟩), .int .i64 (a : Int), undef, undef, .pointer (some ⟨gd, 0, none⟩), .bool true, undef, undef, .string s, .int .i64 (a : Int), undef, undef, undef, undef, undef, undef, undef, undef, undef, undef, undef, undef, undef, undef, undef, undef, undef, undef, undef, undef, undef, undef, undef, .bool false, .string s, .bool false, undef, .bool false, .string s, .bool false, undef, .bool false, .int .i64 (a : Int), .bool false, .bool false, undef, undef, undef, .bool false, undef, undef, undef, undef, undef, undef, undef, undef, undef, undef, undef, undef, undef, undef, undef, undef, undef, undef, .bool true, .int .i64 (a : Int), .bool true, .tuple #[.agg #[.int .i64 k, .int .i64 n, .int .i64 q], .bool true], .string s, .int .i64 (a : Int), .string (s.extract 0 a), .tuple #[.agg #[.int .i64 k, .int .i64 n, .int .i64 q], .bool true], .agg #[.int .i64 k, .int .i64 n, .int .i64 q], .bool true, .bool true, .agg c, .agg #[.int .i64 k, .int .i64 n, .int .i64 q], .string s, .int .i64 (a : Int), .int .i64 ((a : Int) + 1), .string (s.extract (a + 1) s.size), v, undef], []⟩) (fun v => rfl) (fun v W' => ∃ C, v = .agg C ∧ QQ C ∧ Below Y.heap.size Y W') ((HV.out Y).mono fun e w' ⟨C, h1, h2, h3⟩ => ⟨_, h1, C, rfl, h2, h3⟩) ?_
      rintro v w2 ⟨C, rfl, hQC, g2⟩
      have S2 := hSc.out _ _ S0 g2
      refine ⟨S2, ?_⟩
      have HCM := HQ.out C hQC
      have HI : (Tryz.prog.info? 37).map (·.size) = some C.size := by rw [HCM.size]; exact zero_mem.2
      refine wpAnyH_all (rs := [7]) (by kernel_rfl) (by simp) (fun i hi => ?_)
      obtain rfl := List.mem_singleton.1 hi
      obtain ⟨⟨E, hE, p1⟩, p2, p3, p4⟩ := (HS.out _).1 S2
      have l2 := HL1.out
      have S3 : S (w2.setRow w.heap.size C) := (HS.out _).2 ⟨⟨C, HCM.size, row_set p1 _⟩, row_beside p2 _ (by omega) _, row_beside p3 _ (by omega) _, below_setRow p4 (Nat.le_refl _) _⟩
      refine up_store' rfl rfl 37 _ _ rfl _ _ rfl _ rfl _ (store_all p1 _ _ (hE.trans HCM.size.symm) HI HCM.one) S3 #[true, true, true, true, true, true, true, true] rfl ⟨#[.agg c, .string s, .pointer (some ⟨w.heap.size, 0, none⟩), undef, .pointer (some ⟨w.heap.size + 1, 0, none⟩), .int .i64 (a : Int), undef, undef, .pointer (some ⟨gd, 0, none⟩), .bool true, undef, undef, .string s, .int .i64 (a : Int), undef, undef, undef, undef, undef, undef, undef, undef, undef, undef, undef, undef, undef, undef, undef, undef, undef, undef, undef, undef, undef, undef, undef, .bool false, .string s, .bool false, undef, .bool false, .string s, .bool false, undef, .bool false, .int .i64 (a : Int), .bool false, .bool false, undef, undef, undef, .bool false, undef, undef, undef, undef, undef, undef, undef, undef, undef, undef, undef, undef, undef, undef, undef, undef, undef, undef, .bool true, .int .i64 (a : Int), .bool true, .tuple #[.agg #[.int .i64 k, .int .i64 n, .int .i64 q], .bool true], .string s, .int .i64 (a : Int), .string (s.extract 0 a), .tuple #[.agg #[.int .i64 k, .int .i64 n, .int .i64 q], .bool true], .agg #[.int .i64 k, .int .i64 n, .int .i64 q], .bool true, .bool true, .agg c, .agg #[.int .i64 k, .int .i64 n, .int .i64 q], .string s, .int .i64 (a : Int), .int .i64 ((a : Int) + 1), .string (s.extract (a + 1) s.size), .agg C, undef], []⟩ rfl ?_
      exact wpAnyH_done (by kernel_rfl) ⟨rfl, C, hQC, row_set p1 _, row_beside p2 _ (by omega) _, below_setRow p4 (Nat.le_refl _) _, rfl⟩ _
    · rintro a' W ⟨C, hQC, k1, k3, k4, rfl⟩
      have HCM : Hid (MemOk C) := HQ.out C hQC
      have HQC : Hid (QQ C) := hQC
      have HCs : Hid (C.size = 136) := HCM.out.size
      have HCo : Hid (C.all (·.oneCell') = true) := HCM.out.one
      have HI : Hid ((Tryz.prog.info? 37).map (·.size) = some C.size) := (by rw [HCs.out]; exact zero_mem.2 : (Tryz.prog.info? 37).map (·.size) = some C.size)
      have HR1 : Hid (W.heap[w.heap.size]? = some (.cells C 37 (0, 0))) := k1
      have HR3 : Hid (W.heap[w.heap.size + 1]? = some (.cells Z 37 (0, 0))) := k3
      have HB0 : Hid (Below w.heap.size w W) := k4
      clear hQC k1 k3 k4 HA1 HA3 HAD HAB HL1 HS hSc hLD HIc HQ HV
      have HLD : Hid ((loadVar 37 ⟨w.heap.size, 0, none⟩).run Tryz.prog W = .ok (.agg C) W) := load_all HR1.out _ _ Tryz.underlying37 rfl HI.out
      have HSD : Hid ((storeVar 37 ⟨w.heap.size + 1, 0, none⟩ (.agg C)).run Tryz.prog W = .ok () (W.setRow (w.heap.size + 1) C)) := store_all HR3.out _ _ (HZs.out.trans HCs.out.symm) HI.out HCo.out
      have HB : Hid (Below w.heap.size w (W.setRow (w.heap.size + 1) C)) := below_setRow HB0.out (by omega) _
      go_wp2_with (first | (refine wpL_load rfl 37 _ rfl _ _ rfl _ HLD.out ?_) | (refine wpL_store rfl 37 _ _ rfl _ _ rfl _ rfl _ HSD.out ?_) | exact ret_row rfl rfl (row_set HR3.out _) Tryz.underlying37 rfl HI.out rfl ⟨C, rfl, HQC.out, HB.out⟩ | fail)

set_option maxRecDepth 10000 in
set_option maxHeartbeats 2000000 in
theorem word_dev_no (c : Array Value) (hc : MemOk c) (s : ByteArray) (hs : s.size ≤ 1048576) (w : World) (h1 : (s.toList == [114, 97, 110]) = false) (h2 : (s.toList == [102, 97, 117, 108, 116]) = false) (h3 : Lib.index s.data.toList [61] ≤ 0) (k n q : Int) (ok : Bool) (HD : Hid (∀ W, Calls Tryz.prog 96 #[.string (s)] W fun e w' => e = .returned (.tuple #[.agg #[.int .i64 k, .int .i64 n, .int .i64 q], .bool ok]) ∧ Below W.heap.size W w')) (hok : ok = false) :
    Calls Tryz.prog 35 #[.agg c, .string s] w fun e w' => e = .returned (.agg (c)) ∧ Below w.heap.size w w' := by
  have HC : Hid (MemOk c) := hc
  clear hc
  have hz := zero_mem.1
  obtain ⟨Z, HZ⟩ : ∃ Z, Hid (Z = memZero) := ⟨_, rfl⟩
  rw [← HZ.out] at hz
  have HZs : Hid (Z.size = 136) := (by rw [HZ.out, memZero_size] : Z.size = 136)
  have HF : Hid (∀ W, Calls Tryz.prog 94 #[.string s, .int .u8 61] W fun e w' => e = .returned (.int .i64 (Lib.index s.data.toList [61])) ∧ w' = W) := fun W => find_s s 61 W (by omega)
  obtain ⟨AT, HAT⟩ : ∃ AT : Int, Hid (AT = Lib.index s.data.toList [61]) := ⟨_, rfl⟩
  rw [← HAT.out] at HF
  obtain ⟨W0, HW0⟩ : ∃ W0, Hid (W0 = (w.alloc (.cells c 37)).alloc (.cells Z 37)) := ⟨_, rfl⟩
  have HH1 : Hid (W0.heap[w.heap.size]? = some (.cells c 37 (0, 0))) := (by rw [HW0.out]; exact (rows2 w _ _).1 : W0.heap[w.heap.size]? = some (.cells c 37 (0, 0)))
  have HH2 : Hid (W0.heap[w.heap.size + 1]? = some (.cells Z 37 (0, 0))) := (by rw [HW0.out]; exact (rows2 w _ _).2 : W0.heap[w.heap.size + 1]? = some (.cells Z 37 (0, 0)))
  have z1 : W0.heap.size = w.heap.size + 2 := by rw [HW0.out]; simp
  have HbW : Hid (Below w.heap.size w W0) := (by rw [HW0.out]; exact ((Below.refl _ _).alloc (Nat.le_refl _) _).alloc (by simp) _ : Below w.heap.size w W0)
  have i0 : AT ≤ 0 := by rw [HAT.out]; exact h3
  have i1 : (AT == 4) = false := by simp; omega
  have i2 : ¬ (0 < AT) := by omega
  clear h3 i0
  subst hok
  go_enter Tryz.func35, Tryz.ntmps35
  go_wp2_with fail
  rw [← HW0.out]
  refine (HF.out _).mono ?_
  rintro e w1 ⟨rfl, hw⟩
  rw [hw]
  clear hw w1 HF HW0
  go_wp2_with fail
  refine (HD.out _).mono ?_
  rintro e w1 ⟨rfl, g1⟩
  clear HD
  have HR1 : Hid (w1.heap[w.heap.size]? = some (.cells c 37 (0, 0))) := (g1.block _ (by omega)).trans HH1.out
  have HR3 : Hid (w1.heap[w.heap.size + 1]? = some (.cells Z 37 (0, 0))) := (g1.block _ (by omega)).trans HH2.out
  have HB0 : Hid (Below w.heap.size w w1) := HbW.out.trans (g1.mono (by omega))
  have z2 : w.heap.size + 2 ≤ w1.heap.size := by have := g1.size; omega
  have HZ2 : Hid (w.heap.size + 2 ≤ w1.heap.size) := z2
  clear g1 z1 z2 i1 i2 h1 h2 hs HH1 HH2 HbW hz
  have hzd := zero_da.1
  have HY1 : Hid (w1.heap[w.heap.size]? = some (.cells c 37 (0, 0))) := HR1.out
  have HY3 : Hid (w1.heap[w.heap.size + 1]? = some (.cells Z 37 (0, 0))) := HR3.out
  have HY0 : Hid (Below w.heap.size w w1) := HB0.out
  clear HR1 HR3 HB0
  obtain ⟨X, HX⟩ : ∃ X, Hid (X = w1.alloc (.cells #[.int .i64 k, .int .i64 n, .int .i64 q] 54)) := ⟨_, rfl⟩
  have HR1 : Hid (X.heap[w.heap.size]? = some (.cells c 37 (0, 0))) := (by rw [HX.out, ((Below.refl w1.heap.size w1).alloc (Nat.le_refl _) _).block _ (by have := HZ2.out; omega)]; exact HY1.out : X.heap[w.heap.size]? = some (.cells c 37 (0, 0)))
  have HR3 : Hid (X.heap[w.heap.size + 1]? = some (.cells Z 37 (0, 0))) := (by rw [HX.out, ((Below.refl w1.heap.size w1).alloc (Nat.le_refl _) _).block _ (by have := HZ2.out; omega)]; exact HY3.out : X.heap[w.heap.size + 1]? = some (.cells Z 37 (0, 0)))
  have HB0 : Hid (Below w.heap.size w X) := (by rw [HX.out]; exact HY0.out.alloc (by have := HZ2.out; omega) _ : Below w.heap.size w X)
  have HCs : Hid (c.size = 136) := HC.out.size
  have HCo : Hid (c.all (·.oneCell') = true) := HC.out.one
  have HI : Hid ((Tryz.prog.info? 37).map (·.size) = some c.size) := (by rw [HCs.out]; exact zero_mem.2 : (Tryz.prog.info? 37).map (·.size) = some c.size)
  rw [HX.out] at HR1 HR3 HB0
  clear HX X HY1 HY3 HY0 HZ2
  have HLD : Hid ((loadVar 37 ⟨w.heap.size, 0, none⟩).run Tryz.prog (w1.alloc (.cells #[.int .i64 k, .int .i64 n, .int .i64 q] 54)) = .ok (.agg c) (w1.alloc (.cells #[.int .i64 k, .int .i64 n, .int .i64 q] 54))) := load_all HR1.out _ _ Tryz.underlying37 rfl HI.out
  have HSD : Hid ((storeVar 37 ⟨w.heap.size + 1, 0, none⟩ (.agg c)).run Tryz.prog (w1.alloc (.cells #[.int .i64 k, .int .i64 n, .int .i64 q] 54)) = .ok () ((w1.alloc (.cells #[.int .i64 k, .int .i64 n, .int .i64 q] 54)).setRow (w.heap.size + 1) c)) := store_all HR3.out _ _ (HZs.out.trans HCs.out.symm) HI.out HCo.out
  have HB : Hid (Below w.heap.size w ((w1.alloc (.cells #[.int .i64 k, .int .i64 n, .int .i64 q] 54)).setRow (w.heap.size + 1) c)) := below_setRow HB0.out (by omega) _
  go_wp2_with (first | (refine wpL_load rfl 37 _ rfl _ _ rfl _ HLD.out ?_) | (refine wpL_store rfl 37 _ _ rfl _ _ rfl _ rfl _ HSD.out ?_) | exact ret_row rfl rfl (row_set HR3.out _) Tryz.underlying37 rfl HI.out rfl ⟨rfl, HB.out⟩ | fail)

set_option maxRecDepth 10000 in
set_option maxHeartbeats 2000000 in
theorem word_dev_x (c : Array Value) (hc : MemOk c) (s : ByteArray) (hs : s.size ≤ 1048576) (w : World) (h1 : (s.toList == [114, 97, 110]) = false) (h2 : (s.toList == [102, 97, 117, 108, 116]) = false) (h3 : Lib.index s.data.toList [61] ≤ 0) (nn : Nat) (hnn : nn < 32) (q : Int) (HD : Hid (∀ W, Calls Tryz.prog 96 #[.string (s)] W fun e w' => e = .returned (.tuple #[.agg #[.int .i64 1, .int .i64 (nn : Int), .int .i64 q], .bool true]) ∧ Below W.heap.size W w')) :
    Calls Tryz.prog 35 #[.agg c, .string s] w fun e w' => e = .returned (.agg (c.setIfInBounds 0 (.int .u32 (bput (word c 0) (nn : Int) true)))) ∧ Below w.heap.size w w' := by
  have HC : Hid (MemOk c) := hc
  clear hc
  have hz := zero_mem.1
  obtain ⟨Z, HZ⟩ : ∃ Z, Hid (Z = memZero) := ⟨_, rfl⟩
  rw [← HZ.out] at hz
  have HZs : Hid (Z.size = 136) := (by rw [HZ.out, memZero_size] : Z.size = 136)
  have HF : Hid (∀ W, Calls Tryz.prog 94 #[.string s, .int .u8 61] W fun e w' => e = .returned (.int .i64 (Lib.index s.data.toList [61])) ∧ w' = W) := fun W => find_s s 61 W (by omega)
  obtain ⟨AT, HAT⟩ : ∃ AT : Int, Hid (AT = Lib.index s.data.toList [61]) := ⟨_, rfl⟩
  rw [← HAT.out] at HF
  obtain ⟨W0, HW0⟩ : ∃ W0, Hid (W0 = (w.alloc (.cells c 37)).alloc (.cells Z 37)) := ⟨_, rfl⟩
  have HH1 : Hid (W0.heap[w.heap.size]? = some (.cells c 37 (0, 0))) := (by rw [HW0.out]; exact (rows2 w _ _).1 : W0.heap[w.heap.size]? = some (.cells c 37 (0, 0)))
  have HH2 : Hid (W0.heap[w.heap.size + 1]? = some (.cells Z 37 (0, 0))) := (by rw [HW0.out]; exact (rows2 w _ _).2 : W0.heap[w.heap.size + 1]? = some (.cells Z 37 (0, 0)))
  have z1 : W0.heap.size = w.heap.size + 2 := by rw [HW0.out]; simp
  have HbW : Hid (Below w.heap.size w W0) := (by rw [HW0.out]; exact ((Below.refl _ _).alloc (Nat.le_refl _) _).alloc (by simp) _ : Below w.heap.size w W0)
  have i0 : AT ≤ 0 := by rw [HAT.out]; exact h3
  have i1 : (AT == 4) = false := by simp; omega
  have i2 : ¬ (0 < AT) := by omega
  clear h3 i0
  obtain ⟨X, hx, x0, x1⟩ := HC.out.u32 (i := 0) (by omega) rfl
  rw [word_of hx]
  obtain ⟨x, rfl⟩ : ∃ x : Nat, X = x := ⟨X.toNat, by omega⟩
  have hx1 : x < 4294967296 := by omega
  obtain ⟨y, Hy⟩ : ∃ y, Hid (y = bput x nn true) := ⟨_, rfl⟩
  rw [← Hy.out]
  have yb := bput_bd x nn 32 true (by omega) (by simpa using hx1) (by omega)
  rw [← Hy.out] at yb
  obtain ⟨y0, y1⟩ := yb
  have y2 : y < 4294967296 := by simpa using y1
  have HTT : Hid (∀ V, Calls Tryz.prog 98 #[.int .u64 (x : Int), .int .i64 (nn : Int), .bool true] V fun e w' => e = .returned (.int .u64 y) ∧ Below V.heap.size V w') := fun V => by
    rw [Hy.out]; exact (lturned x nn true (by omega) (by omega) V).mono fun e w1 h => ⟨h.1, by rw [h.2]; exact Below.refl _ _⟩
  have HX0 : Hid (c[0]? = some (.int .u32 (x : Int))) := hx
  have HYB : Hid (0 ≤ y ∧ y < 4294967296) := ⟨y0, y2⟩
  have HXB : Hid (x < 4294967296 ∧ nn < 32) := ⟨hx1, hnn⟩
  clear hx x0 x1 y0 y1 y2 hx1 hnn
  obtain ⟨C, HCC⟩ : ∃ C, Hid (C = c.setIfInBounds 0 (.int .u32 y)) := ⟨_, rfl⟩
  rw [← HCC.out]
  have HCs : Hid (C.size = 136) := (by rw [HCC.out]; simpa using HC.out.size : C.size = 136)
  have HCo : Hid (C.all (·.oneCell') = true) := (by rw [HCC.out]; exact one_set HC.out.one _ rfl : C.all (·.oneCell') = true)
  have HI : Hid ((Tryz.prog.info? 37).map (·.size) = some C.size) := (by rw [HCs.out]; exact zero_mem.2 : (Tryz.prog.info? 37).map (·.size) = some C.size)
  go_enter Tryz.func35, Tryz.ntmps35
  go_wp2_with fail
  rw [← HW0.out]
  refine (HF.out _).mono ?_
  rintro e w1 ⟨rfl, hw⟩
  rw [hw]
  clear hw w1 HF HW0
  go_wp2_with fail
  refine (HD.out _).mono ?_
  rintro e w1 ⟨rfl, g1⟩
  clear HD
  have HR1 : Hid (w1.heap[w.heap.size]? = some (.cells c 37 (0, 0))) := (g1.block _ (by omega)).trans HH1.out
  have HR3 : Hid (w1.heap[w.heap.size + 1]? = some (.cells Z 37 (0, 0))) := (g1.block _ (by omega)).trans HH2.out
  have HB0 : Hid (Below w.heap.size w w1) := HbW.out.trans (g1.mono (by omega))
  have z2 : w.heap.size + 2 ≤ w1.heap.size := by have := g1.size; omega
  have HZ2 : Hid (w.heap.size + 2 ≤ w1.heap.size) := z2
  clear g1 z1 z2 i1 i2 h1 h2 hs HH1 HH2 HbW hz
  have hzd := zero_da.1
  have HA1 : Hid ((w1.alloc (.cells #[.int .i64 1, .int .i64 (nn : Int), .int .i64 q] 54)).heap[w.heap.size]? = some (.cells c 37 (0, 0))) := (((Below.refl w1.heap.size w1).alloc (Nat.le_refl _) _).block _ (by have := HZ2.out; omega)).trans HR1.out
  have HA3 : Hid ((w1.alloc (.cells #[.int .i64 1, .int .i64 (nn : Int), .int .i64 q] 54)).heap[w.heap.size + 1]? = some (.cells Z 37 (0, 0))) := (((Below.refl w1.heap.size w1).alloc (Nat.le_refl _) _).block _ (by have := HZ2.out; omega)).trans HR3.out
  have HAD : Hid ((w1.alloc (.cells #[.int .i64 1, .int .i64 (nn : Int), .int .i64 q] 54)).heap[w1.heap.size]? = some (.cells #[.int .i64 1, .int .i64 (nn : Int), .int .i64 q] 54 (0, 0))) := heap_alloc_last _ _
  have HAB : Hid (Below w.heap.size w (w1.alloc (.cells #[.int .i64 1, .int .i64 (nn : Int), .int .i64 q] 54))) := HB0.out.alloc (by have := HZ2.out; omega) _
  have HAS : Hid (w.heap.size + 2 ≤ (w1.alloc (.cells #[.int .i64 1, .int .i64 (nn : Int), .int .i64 q] 54)).heap.size) := (by have := HZ2.out; have h := HAB.out.size; simp; omega : w.heap.size + 2 ≤ (w1.alloc (.cells #[.int .i64 1, .int .i64 (nn : Int), .int .i64 q] 54)).heap.size)
  clear HR1 HR3 HB0
  have rK : (w1.alloc (.cells #[.int .i64 1, .int .i64 (nn : Int), .int .i64 q] 54)).cell? ⟨w1.heap.size, 0, none⟩ = some (.int .i64 1) := (cell_of_row _ _ _ _ _ _ HAD.out).trans rfl
  have rN : (w1.alloc (.cells #[.int .i64 1, .int .i64 (nn : Int), .int .i64 q] 54)).cell? ⟨w1.heap.size, 1, none⟩ = some (.int .i64 (nn : Int)) := (cell_of_row _ _ _ _ _ _ HAD.out).trans rfl
  have rX : (w1.alloc (.cells #[.int .i64 1, .int .i64 (nn : Int), .int .i64 q] 54)).cell? ⟨w.heap.size, 0, none⟩ = some (.int .u32 (x : Int)) := (cell_of_row _ _ _ _ _ _ HA1.out).trans HX0.out
  have hxb := HXB.out.1
  go_wp2_with fail
  clear rK rN rX hxb
  generalize (w1.alloc (.cells #[.int .i64 1, .int .i64 (nn : Int), .int .i64 q] 54)) = WW at HA1 HA3 HAD HAB HAS ⊢
  refine (HTT.out _).mono ?_
  rintro e w2 ⟨rfl, g2⟩
  have h1' := (g2.block _ (by have := HAS.out; omega)).trans HA1.out
  have h3' := (g2.block _ (by have := HAS.out; omega)).trans HA3.out
  have b2 := HAB.out.trans (g2.mono HAB.out.size)
  have hyb1 := HYB.out.1
  have hyb2 := HYB.out.2
  have wy : IntKind.u32.wrap y = y := by simp [IntKind.wrap, IntKind.bits, IntKind.signed]; omega
  have r1 : w2.cell? ⟨w.heap.size, 0, none⟩ = some (c[0]'(by rw [HC.out.size]; omega)) := by rw [cell_of_row _ _ _ _ _ _ h1']; exact Array.getElem?_eq_getElem (by rw [HC.out.size]; omega)
  have f1 : w2.frozen? ⟨w.heap.size, 0, none⟩ = false := by have := h1'; simp [World.frozen?, this]
  have HR1 : Hid ((w2.setCell ⟨w.heap.size, 0, none⟩ (.int .u32 y)).heap[w.heap.size]? = some (.cells C 37 (0, 0))) := (by rw [HCC.out]; exact row_put h1' _ _ : (w2.setCell ⟨w.heap.size, 0, none⟩ (.int .u32 y)).heap[w.heap.size]? = some (.cells C 37 (0, 0)))
  have HR3 : Hid ((w2.setCell ⟨w.heap.size, 0, none⟩ (.int .u32 y)).heap[w.heap.size + 1]? = some (.cells Z 37 (0, 0))) := row_other h3' _ _ (by omega) _
  have HB0 : Hid (Below w.heap.size w (w2.setCell ⟨w.heap.size, 0, none⟩ (.int .u32 y))) := b2.setCell (p := ⟨w.heap.size, 0, none⟩) (by simp) _
  have HLD : Hid ((loadVar 37 ⟨w.heap.size, 0, none⟩).run Tryz.prog (w2.setCell ⟨w.heap.size, 0, none⟩ (.int .u32 y)) = .ok (.agg C) (w2.setCell ⟨w.heap.size, 0, none⟩ (.int .u32 y))) := load_all HR1.out _ _ Tryz.underlying37 rfl HI.out
  have HSD : Hid ((storeVar 37 ⟨w.heap.size + 1, 0, none⟩ (.agg C)).run Tryz.prog (w2.setCell ⟨w.heap.size, 0, none⟩ (.int .u32 y)) = .ok () ((w2.setCell ⟨w.heap.size, 0, none⟩ (.int .u32 y)).setRow (w.heap.size + 1) C)) := store_all HR3.out _ _ (HZs.out.trans HCs.out.symm) HI.out HCo.out
  have HB : Hid (Below w.heap.size w ((w2.setCell ⟨w.heap.size, 0, none⟩ (.int .u32 y)).setRow (w.heap.size + 1) C)) := below_setRow HB0.out (by omega) _
  clear g2 h1' h3' b2
  go_wp2_with (first | (refine wpL_load rfl 37 _ rfl _ _ rfl _ HLD.out ?_) | (refine wpL_store rfl 37 _ _ rfl _ _ rfl _ rfl _ HSD.out ?_) | exact ret_row rfl rfl (row_set HR3.out _) Tryz.underlying37 rfl HI.out rfl ⟨rfl, HB.out⟩ | fail)

set_option maxRecDepth 10000 in
set_option maxHeartbeats 2000000 in
theorem word_dev_bit (c : Array Value) (hc : MemOk c) (s : ByteArray) (hs : s.size ≤ 1048576) (w : World) (h1 : (s.toList == [114, 97, 110]) = false) (h2 : (s.toList == [102, 97, 117, 108, 116]) = false) (h3 : Lib.index s.data.toList [61] ≤ 0) (k n q : Int) (ok : Bool) (HD : Hid (∀ W, Calls Tryz.prog 96 #[.string (s)] W fun e w' => e = .returned (.tuple #[.agg #[.int .i64 k, .int .i64 n, .int .i64 q], .bool ok]) ∧ Below W.heap.size W w')) (hok : ok = true) (hk : k ≠ 1) (HPO : Hid (MemOk (putb c k n true))) :
    Calls Tryz.prog 35 #[.agg c, .string s] w fun e w' => e = .returned (.agg (putb c k n true)) ∧ Below w.heap.size w w' := by
  have HC : Hid (MemOk c) := hc
  clear hc
  have hz := zero_mem.1
  obtain ⟨Z, HZ⟩ : ∃ Z, Hid (Z = memZero) := ⟨_, rfl⟩
  rw [← HZ.out] at hz
  have HZs : Hid (Z.size = 136) := (by rw [HZ.out, memZero_size] : Z.size = 136)
  have HF : Hid (∀ W, Calls Tryz.prog 94 #[.string s, .int .u8 61] W fun e w' => e = .returned (.int .i64 (Lib.index s.data.toList [61])) ∧ w' = W) := fun W => find_s s 61 W (by omega)
  obtain ⟨AT, HAT⟩ : ∃ AT : Int, Hid (AT = Lib.index s.data.toList [61]) := ⟨_, rfl⟩
  rw [← HAT.out] at HF
  obtain ⟨W0, HW0⟩ : ∃ W0, Hid (W0 = (w.alloc (.cells c 37)).alloc (.cells Z 37)) := ⟨_, rfl⟩
  have HH1 : Hid (W0.heap[w.heap.size]? = some (.cells c 37 (0, 0))) := (by rw [HW0.out]; exact (rows2 w _ _).1 : W0.heap[w.heap.size]? = some (.cells c 37 (0, 0)))
  have HH2 : Hid (W0.heap[w.heap.size + 1]? = some (.cells Z 37 (0, 0))) := (by rw [HW0.out]; exact (rows2 w _ _).2 : W0.heap[w.heap.size + 1]? = some (.cells Z 37 (0, 0)))
  have z1 : W0.heap.size = w.heap.size + 2 := by rw [HW0.out]; simp
  have HbW : Hid (Below w.heap.size w W0) := (by rw [HW0.out]; exact ((Below.refl _ _).alloc (Nat.le_refl _) _).alloc (by simp) _ : Below w.heap.size w W0)
  have i0 : AT ≤ 0 := by rw [HAT.out]; exact h3
  have i1 : (AT == 4) = false := by simp; omega
  have i2 : ¬ (0 < AT) := by omega
  clear h3 i0
  subst hok
  have ek : (k == 1) = false := by simp [hk]
  clear hk
  have HIc : Hid ((Tryz.prog.info? 37).map (·.size) = some c.size) := (by rw [HC.out.size]; exact zero_mem.2 : (Tryz.prog.info? 37).map (·.size) = some c.size)
  obtain ⟨C, HCC⟩ : ∃ C, Hid (C = putb c k n true) := ⟨_, rfl⟩
  have HCM : Hid (MemOk C) := (by rw [HCC.out]; exact HPO.out : MemOk C)
  have HPB : Hid (∀ V, Calls Tryz.prog 41 #[.agg c, .agg #[.int .i64 k, .int .i64 n, .int .i64 q], .bool true] V fun e w' => e = .returned (.agg C) ∧ Below V.heap.size V w') := fun V => by rw [HCC.out]; exact putb_s c HC.out k n q true V
  rw [← HCC.out]
  have HCs : Hid (C.size = 136) := HCM.out.size
  have HCo : Hid (C.all (·.oneCell') = true) := HCM.out.one
  have HI : Hid ((Tryz.prog.info? 37).map (·.size) = some C.size) := (by rw [HCs.out]; exact zero_mem.2 : (Tryz.prog.info? 37).map (·.size) = some C.size)
  go_enter Tryz.func35, Tryz.ntmps35
  go_wp2_with fail
  rw [← HW0.out]
  refine (HF.out _).mono ?_
  rintro e w1 ⟨rfl, hw⟩
  rw [hw]
  clear hw w1 HF HW0
  go_wp2_with fail
  refine (HD.out _).mono ?_
  rintro e w1 ⟨rfl, g1⟩
  clear HD
  have HR1 : Hid (w1.heap[w.heap.size]? = some (.cells c 37 (0, 0))) := (g1.block _ (by omega)).trans HH1.out
  have HR3 : Hid (w1.heap[w.heap.size + 1]? = some (.cells Z 37 (0, 0))) := (g1.block _ (by omega)).trans HH2.out
  have HB0 : Hid (Below w.heap.size w w1) := HbW.out.trans (g1.mono (by omega))
  have z2 : w.heap.size + 2 ≤ w1.heap.size := by have := g1.size; omega
  have HZ2 : Hid (w.heap.size + 2 ≤ w1.heap.size) := z2
  clear g1 z1 z2 i1 i2 h1 h2 hs HH1 HH2 HbW hz
  have hzd := zero_da.1
  have HA1 : Hid ((w1.alloc (.cells #[.int .i64 k, .int .i64 n, .int .i64 q] 54)).heap[w.heap.size]? = some (.cells c 37 (0, 0))) := (((Below.refl w1.heap.size w1).alloc (Nat.le_refl _) _).block _ (by have := HZ2.out; omega)).trans HR1.out
  have HA3 : Hid ((w1.alloc (.cells #[.int .i64 k, .int .i64 n, .int .i64 q] 54)).heap[w.heap.size + 1]? = some (.cells Z 37 (0, 0))) := (((Below.refl w1.heap.size w1).alloc (Nat.le_refl _) _).block _ (by have := HZ2.out; omega)).trans HR3.out
  have HAD : Hid ((w1.alloc (.cells #[.int .i64 k, .int .i64 n, .int .i64 q] 54)).heap[w1.heap.size]? = some (.cells #[.int .i64 k, .int .i64 n, .int .i64 q] 54 (0, 0))) := heap_alloc_last _ _
  have HAB : Hid (Below w.heap.size w (w1.alloc (.cells #[.int .i64 k, .int .i64 n, .int .i64 q] 54))) := HB0.out.alloc (by have := HZ2.out; omega) _
  have HAS : Hid (w.heap.size + 2 ≤ (w1.alloc (.cells #[.int .i64 k, .int .i64 n, .int .i64 q] 54)).heap.size) := (by have := HZ2.out; have h := HAB.out.size; simp; omega : w.heap.size + 2 ≤ (w1.alloc (.cells #[.int .i64 k, .int .i64 n, .int .i64 q] 54)).heap.size)
  clear HR1 HR3 HB0
  have rK : (w1.alloc (.cells #[.int .i64 k, .int .i64 n, .int .i64 q] 54)).cell? ⟨w1.heap.size, 0, none⟩ = some (.int .i64 k) := (cell_of_row _ _ _ _ _ _ HAD.out).trans rfl
  have rN : (w1.alloc (.cells #[.int .i64 k, .int .i64 n, .int .i64 q] 54)).cell? ⟨w1.heap.size, 1, none⟩ = some (.int .i64 n) := (cell_of_row _ _ _ _ _ _ HAD.out).trans rfl
  have rQ : (w1.alloc (.cells #[.int .i64 k, .int .i64 n, .int .i64 q] 54)).cell? ⟨w1.heap.size, 2, none⟩ = some (.int .i64 q) := (cell_of_row _ _ _ _ _ _ HAD.out).trans rfl
  have HLA : Hid ((loadVar 37 ⟨w.heap.size, 0, none⟩).run Tryz.prog (w1.alloc (.cells #[.int .i64 k, .int .i64 n, .int .i64 q] 54)) = .ok (.agg c) (w1.alloc (.cells #[.int .i64 k, .int .i64 n, .int .i64 q] 54))) := load_all HA1.out _ _ Tryz.underlying37 rfl HIc.out
  go_wp2_with (first | (refine wpL_load rfl 37 _ rfl _ _ rfl _ HLA.out ?_) | fail)
  clear rK rN rQ HLA
  generalize (w1.alloc (.cells #[.int .i64 k, .int .i64 n, .int .i64 q] 54)) = WW at HA1 HA3 HAD HAB HAS ⊢
  refine (HPB.out _).mono ?_
  rintro e w2 ⟨rfl, g2⟩
  have h1' := (g2.block _ (by have := HAS.out; omega)).trans HA1.out
  have h3' := (g2.block _ (by have := HAS.out; omega)).trans HA3.out
  have b2 := HAB.out.trans (g2.mono HAB.out.size)
  have HST : Hid ((storeVar 37 ⟨w.heap.size, 0, none⟩ (.agg C)).run Tryz.prog w2 = .ok () (w2.setRow w.heap.size C)) := store_all h1' _ _ (HC.out.size.trans HCs.out.symm) HI.out HCo.out
  have HR1 : Hid ((w2.setRow w.heap.size C).heap[w.heap.size]? = some (.cells C 37 (0, 0))) := row_set h1' _
  have HR3 : Hid ((w2.setRow w.heap.size C).heap[w.heap.size + 1]? = some (.cells Z 37 (0, 0))) := row_beside h3' _ (by omega) _
  have HB0 : Hid (Below w.heap.size w (w2.setRow w.heap.size C)) := below_setRow b2 (Nat.le_refl _) _
  have HLD : Hid ((loadVar 37 ⟨w.heap.size, 0, none⟩).run Tryz.prog (w2.setRow w.heap.size C) = .ok (.agg C) (w2.setRow w.heap.size C)) := load_all HR1.out _ _ Tryz.underlying37 rfl HI.out
  have HSD : Hid ((storeVar 37 ⟨w.heap.size + 1, 0, none⟩ (.agg C)).run Tryz.prog (w2.setRow w.heap.size C) = .ok () ((w2.setRow w.heap.size C).setRow (w.heap.size + 1) C)) := store_all HR3.out _ _ (HZs.out.trans HCs.out.symm) HI.out HCo.out
  have HB : Hid (Below w.heap.size w ((w2.setRow w.heap.size C).setRow (w.heap.size + 1) C)) := below_setRow HB0.out (by omega) _
  clear g2 h1' h3' b2
  go_wp2_with (first | (refine wpL_store rfl 37 _ _ rfl _ _ rfl _ rfl _ HST.out ?_) | (refine wpL_load rfl 37 _ rfl _ _ rfl _ HLD.out ?_) | (refine wpL_store rfl 37 _ _ rfl _ _ rfl _ rfl _ HSD.out ?_) | exact ret_row rfl rfl (row_set HR3.out _) Tryz.underlying37 rfl HI.out rfl ⟨rfl, HB.out⟩ | fail)

end Go.Proofs.YtjnddfpieogpiaaGreatDoor
/- The specification's l5Word at every word: what becomes of a memory (WTo). -/
namespace Go.Proofs.YtjnddfpieogpiaaGreatDoor
open Go.RowKit Go.Shelf
set_option linter.unusedVariables false

theorem memOk_putbH {c : Array Value} (hc : MemOk c) (k n : Int) (b : Bool) : MemOk (putb c k n b) := by
  unfold putb
  split
  · rename_i hk; subst hk
    obtain ⟨X, hx, x0, x1⟩ := hc.u32 (i := 1) (by omega) rfl
    obtain ⟨q0, q1⟩ := pl_lt 2 n (by decide)
    rw [show kZ 2 = 32 from rfl] at q1
    have := bput_bd X.toNat (pl 2 n).toNat 32 b (by omega) (by simp; omega) (by omega)
    rw [show ((X.toNat : Nat) : Int) = X by omega, show (((pl 2 n).toNat : Nat) : Int) = pl 2 n by omega] at this
    refine hh_set hc 1 ?_
    rw [word_of hx, show kd 1 = 32 from rfl]
    simp [CellIs, Value.oneCell']
    exact ⟨this.1, by simpa using this.2⟩
  split
  · rename_i _ hk; subst hk
    obtain ⟨X, hx, x0, x1⟩ := hc.u64 (i := 2) (by omega) rfl
    obtain ⟨q0, q1⟩ := pl_lt 3 n (by decide)
    rw [show kZ 3 = 64 from rfl] at q1
    have := bput_bd X.toNat (pl 3 n).toNat 64 b (by omega) (by simp; omega) (by omega)
    rw [show ((X.toNat : Nat) : Int) = X by omega, show (((pl 3 n).toNat : Nat) : Int) = pl 3 n by omega] at this
    refine hh_set hc 2 ?_
    rw [word_of hx, show kd 2 = 64 from rfl]
    simp [CellIs, Value.oneCell']
    exact ⟨this.1, by simpa using this.2⟩
  split
  · rename_i _ _ hk; subst hk
    obtain ⟨X, hx, x0, x1⟩ := hc.u16 (i := 3) (by omega) rfl
    obtain ⟨q0, q1⟩ := pl_lt 4 n (by decide)
    rw [show kZ 4 = 16 from rfl] at q1
    have := bput_bd X.toNat (pl 4 n).toNat 16 b (by omega) (by simp; omega) (by omega)
    rw [show ((X.toNat : Nat) : Int) = X by omega, show (((pl 4 n).toNat : Nat) : Int) = pl 4 n by omega] at this
    refine hh_set hc 3 ?_
    rw [word_of hx, show kd 3 = 16 from rfl]
    simp [CellIs, Value.oneCell']
    exact ⟨this.1, by simpa using this.2⟩
  split
  · rename_i _ _ _ hk; subst hk
    obtain ⟨X, hx, x0, x1⟩ := hc.u32 (i := 4) (by omega) rfl
    obtain ⟨q0, q1⟩ := pl_lt 5 n (by decide)
    rw [show kZ 5 = 32 from rfl] at q1
    have := bput_bd X.toNat (pl 5 n).toNat 32 b (by omega) (by simp; omega) (by omega)
    rw [show ((X.toNat : Nat) : Int) = X by omega, show (((pl 5 n).toNat : Nat) : Int) = pl 5 n by omega] at this
    refine hh_set hc 4 ?_
    rw [word_of hx, show kd 4 = 32 from rfl]
    simp [CellIs, Value.oneCell']
    exact ⟨this.1, by simpa using this.2⟩
  · exact hc


theorem kd_h {i : Nat} : kd i = (if i = 2 then 64 else if i = 3 then 16 else if i < 5 then 32 else if i < 37 then (if i % 2 = 1 then 1 else 16) else if i < 85 then (if (i - 37) % 3 = 2 then 16 else 1) else if i < 117 then 116 else if i < 133 then 99 else if i = 133 then 32 else 1) := rfl
theorem memOk_putrH {c : Array Value} (hc : MemOk c) (n : Int) {v : Nat} (hv : FloatKind.has .f64 v) : MemOk (putk c 10 117 10 n (.float .f64 v)) := by
  unfold putk
  rw [if_pos rfl]
  obtain ⟨q0, q1⟩ := pl_lt 10 n (by decide)
  rw [show kZ 10 = 16 from rfl] at q1
  refine hh_set hc _ ?_
  have : kd (117 + (pl 10 n).toNat) = 99 := by rw [kd_h]; repeat (first | rw [if_neg (by omega)] | rw [if_pos (by omega)])
  rw [this]
  simp [CellIs, Value.oneCell']
  exact hv
theorem memOk_vput {c : Array Value} (hc : MemOk c) (k : Int) (n : Nat) (num : Int) (ok done last : Bool) (h7 : k = 7 → n < 16) (h8 : k = 8 → n < 16) (h9 : k = 9 → n < 32) : MemOk (vput c k n num ok done last) := by
  by_cases hb : ok = false ∨ num < -32768 ∨ 65535 < num
  · rw [vput_bad _ _ _ _ _ _ _ hb]; exact hc
  by_cases k7 : k = 7
  · have := h7 k7
    rw [vput_7 _ _ _ _ _ _ _ hb k7]
    refine hh_set (hh_set hc _ (hh_bool _ ?_)) _ (hh_u16 _ ?_)
    · rw [kd_h]; repeat (first | rw [if_neg (by omega)] | rw [if_pos (by omega)])
    · rw [kd_h]; repeat (first | rw [if_neg (by omega)] | rw [if_pos (by omega)])
  by_cases k8 : k = 8
  · have := h8 k8
    rw [vput_8 _ _ _ _ _ _ _ hb k8]
    refine hh_set (hh_set (hh_set hc _ (hh_bool _ ?_)) _ (hh_bool _ ?_)) _ (hh_u16 _ ?_)
    · rw [kd_h]; repeat (first | rw [if_neg (by omega)] | rw [if_pos (by omega)])
    · rw [kd_h]; repeat (first | rw [if_neg (by omega)] | rw [if_pos (by omega)])
    · rw [kd_h]; repeat (first | rw [if_neg (by omega)] | rw [if_pos (by omega)])
  by_cases k9 : k = 9
  · have := h9 k9
    rw [vput_9 _ _ _ _ _ _ _ hb k9]
    refine hh_set hc _ (hh_i16 _ ?_)
    rw [kd_h]; repeat (first | rw [if_neg (by omega)] | rw [if_pos (by omega)])
  rw [vput_0 _ _ _ _ _ _ _ k7 k8 k9]; exact hc
theorem memOk_x {c : Array Value} (hc : MemOk c) (n : Nat) (hn : n < 32) : MemOk (c.setIfInBounds 0 (.int .u32 (bput (word c 0) (n : Int) true))) := by
  obtain ⟨X, hx, x0, x1⟩ := hc.u32 (i := 0) (by omega) rfl
  have := bput_bd X.toNat n 32 true (by omega) (by simp; omega) (by omega)
  rw [show ((X.toNat : Nat) : Int) = X by omega] at this
  refine hh_set hc 0 ?_
  rw [word_of hx, show kd 0 = 32 from rfl]
  simp [CellIs, Value.oneCell']
  exact ⟨this.1, by simpa using this.2⟩

/-- What the readings of a word's parts say: operands, whole numbers, real numbers. -/
structure Rds where
  rd : ByteArray → Int × Int × Int
  rb : ByteArray → Bool
  nm : ByteArray → Int × Bool
  RP : ByteArray → Nat → Bool → Prop
structure RdsOk (r : Rds) : Prop where
  dev : ∀ s : ByteArray, s.size ≤ 1048576 → ∀ W, Calls Tryz.prog 96 #[.string s] W fun e w' => e = .returned (.tuple #[.agg #[.int .i64 (r.rd s).1, .int .i64 (r.rd s).2.1, .int .i64 (r.rd s).2.2], .bool (r.rb s)]) ∧ Below W.heap.size W w'
  bd : ∀ s : ByteArray, r.rb s = true → ((r.rd s).1 = 1 → 0 ≤ (r.rd s).2.1 ∧ (r.rd s).2.1 < 32) ∧ ((r.rd s).1 = 7 → 0 ≤ (r.rd s).2.1 ∧ (r.rd s).2.1 < 16) ∧ ((r.rd s).1 = 8 → 0 ≤ (r.rd s).2.1 ∧ (r.rd s).2.1 < 16) ∧ ((r.rd s).1 = 9 → 0 ≤ (r.rd s).2.1 ∧ (r.rd s).2.1 < 32) ∧ ((r.rd s).1 = 10 → 0 ≤ (r.rd s).2.1 ∧ (r.rd s).2.1 < 16)
  num : ∀ s : ByteArray, s.size ≤ 1048576 → ∀ W, Calls Tryz.prog 95 #[.string s] W fun e w' => e = .returned (.tuple #[.int .i64 (r.nm s).1, .bool (r.nm s).2]) ∧ w' = W
  real : ∀ s : ByteArray, s.size ≤ 1048576 → ∀ W, Calls Tryz.prog 145 #[.string s] W fun e w' => ∃ x b, e = .returned (.tuple #[.float .f64 x, .bool b]) ∧ r.RP s x b ∧ Below W.heap.size W w'
  has : ∀ s x b, r.RP s x b → FloatKind.has .f64 x
/-- The value of a device, put as it is written. -/
def VTo (r : Rds) (c : Array Value) (k : Int) (n : Nat) (s : ByteArray) (C : Array Value) : Prop :=
  if k = 10 then ∃ x b, r.RP s x b ∧ C = putk c 10 117 10 (n : Int) (.float .f64 x)
  else C = vput c k n (r.nm (tailB (tailB s 43).1 33).1).1 (r.nm (tailB (tailB s 43).1 33).1).2 (tailB (tailB s 43).1 33).2 (tailB s 43).2
/-- What a word puts. -/
def WTo (r : Rds) (c : Array Value) (s : ByteArray) (C : Array Value) : Prop :=
  if s.data.toList = [114, 97, 110] then C = c.setIfInBounds 134 (.bool true)
  else if s.data.toList = [102, 97, 117, 108, 116] then C = c.setIfInBounds 135 (.bool true)
  else if Lib.index s.data.toList [61] = 4 ∧ (s.extract 0 4).data.toList = [116, 105, 109, 101] then
    (if (r.nm (s.extract 5 s.size)).2 = true ∧ 0 ≤ (r.nm (s.extract 5 s.size)).1 ∧ (r.nm (s.extract 5 s.size)).1 ≤ 4294967295 then C = c.setIfInBounds 133 (.int .u32 (r.nm (s.extract 5 s.size)).1) else C = c)
  else if 0 < Lib.index s.data.toList [61] then
    (if r.rb (s.extract 0 (Lib.index s.data.toList [61]).toNat) = true then
      VTo r c (r.rd (s.extract 0 (Lib.index s.data.toList [61]).toNat)).1 (r.rd (s.extract 0 (Lib.index s.data.toList [61]).toNat)).2.1.toNat (s.extract ((Lib.index s.data.toList [61]).toNat + 1) s.size) C else C = c)
  else if r.rb s = true then (if (r.rd s).1 = 1 then C = c.setIfInBounds 0 (.int .u32 (bput (word c 0) (r.rd s).2.1 true)) else C = putb c (r.rd s).1 (r.rd s).2.1 true)
  else C = c

theorem index_lt (c : UInt8) : ∀ s : List UInt8, Lib.index s [c] = -1 ∨ (0 ≤ Lib.index s [c] ∧ Lib.index s [c] < s.length)
  | [] => .inl rfl
  | a :: s => by
    by_cases h : a = c
    · subst h
      right
      unfold Lib.index
      rw [if_pos (by simp [List.isPrefixOf])]
      simp
    · have hp : ¬ ([c].isPrefixOf (a :: s) = true) := by
        intro e
        have : c = a := by simpa [List.isPrefixOf] using e
        exact h this.symm
      unfold Lib.index
      rw [if_neg hp]
      rcases index_lt c s with h1 | h1
      · rw [if_pos (by simp [h1])]; exact .inl rfl
      · rw [if_neg (by simp; omega)]
        right
        simp
        omega
theorem size_len (s : ByteArray) : s.data.toList.length = s.size := by simp
theorem toList_eq (s : ByteArray) (l : List UInt8) : (s.toList == l) = decide (s.data.toList = l) := by
  rw [Lib.toList_data]
  by_cases h : s.data.toList = l
  · simp [h]
  · simp [h]
theorem ext_size (s : ByteArray) (a b : Nat) : (s.extract a b).size ≤ s.size := by simp [ByteArray.size_extract]; omega

theorem VTo.ok {r : Rds} (hr : RdsOk r) {c : Array Value} (hc : MemOk c) {k : Int} {n : Nat} {s : ByteArray} {C : Array Value} (h : VTo r c k n s C) (h7 : k = 7 → n < 16) (h8 : k = 8 → n < 16) (h9 : k = 9 → n < 32) : MemOk C := by
  unfold VTo at h
  split at h
  · obtain ⟨x, b, hx, rfl⟩ := h
    exact memOk_putrH hc _ (hr.has _ _ _ hx)
  · rw [h]; exact memOk_vput hc _ _ _ _ _ _ h7 h8 h9
theorem value_all {r : Rds} (hr : RdsOk r) (c : Array Value) (hc : MemOk c) (k n p : Int) (h7 : k = 7 → 0 ≤ n ∧ n < 16) (h8 : k = 8 → 0 ≤ n ∧ n < 16) (h9 : k = 9 → 0 ≤ n ∧ n < 32) (h10 : k = 10 → 0 ≤ n ∧ n < 16) (s : ByteArray) (hs : s.size ≤ 1048576) (w : World) :
    Calls Tryz.prog 97 #[.agg c, .agg #[.int .i64 k, .int .i64 n, .int .i64 p], .string s] w fun e w' => ∃ C, e = .returned (.agg C) ∧ VTo r c k n.toNat s C ∧ Below w.heap.size w w' := by
  have z1 := tailB_size s 43
  have z2 := tailB_size (tailB s 43).1 33
  by_cases hin : k = 7 ∨ k = 8 ∨ k = 9 ∨ k = 10
  · have h0 : 0 ≤ n := by
      rcases hin with h | h | h | h
      · exact (h7 h).1
      · exact (h8 h).1
      · exact (h9 h).1
      · exact (h10 h).1
    obtain ⟨m, rfl⟩ : ∃ m : Nat, n = (m : Int) := ⟨n.toNat, by omega⟩
    rw [Int.toNat_natCast]
    by_cases hk : k = 10
    · subst hk
      refine (value_r c hc m p s w (r.RP s) (hr.real s hs)).mono ?_
      rintro e w' ⟨x, b, h1, h2, h3⟩
      exact ⟨_, h1, (by unfold VTo; rw [if_pos rfl]; exact ⟨x, b, h2, rfl⟩), h3⟩
    · refine (value_s c hc k m p hk (fun h => by have := h7 h; omega) (fun h => by have := h8 h; omega) (fun h => by have := h9 h; omega) s (by omega) _ _ w (hr.num _ (by omega))).mono ?_
      rintro e w' ⟨h1, h3⟩
      exact ⟨_, h1, (by unfold VTo; rw [if_neg hk]), h3⟩
  · have k7 : k ≠ 7 := fun h => hin (.inl h)
    have k8 : k ≠ 8 := fun h => hin (.inr (.inl h))
    have k9 : k ≠ 9 := fun h => hin (.inr (.inr (.inl h)))
    have k10 : k ≠ 10 := fun h => hin (.inr (.inr (.inr h)))
    refine (value_o c hc k n p k10 k7 k8 k9 s (by omega) _ _ w (hr.num _ (by omega))).mono ?_
    rintro e w' ⟨h1, h3⟩
    exact ⟨_, h1, (by unfold VTo; rw [if_neg k10, vput_0 _ _ _ _ _ _ _ k7 k8 k9]), h3⟩

theorem word_s {r : Rds} (hr : RdsOk r) (c : Array Value) (hc : MemOk c) (s : ByteArray) (hs : s.size ≤ 1048576) (w : World) :
    Calls Tryz.prog 35 #[.agg c, .string s] w fun e w' => ∃ C, e = .returned (.agg C) ∧ (WTo r c s C ∧ MemOk C) ∧ Below w.heap.size w w' := by
  by_cases h1 : s.data.toList = [114, 97, 110]
  · refine (word_ran c hc s hs w (by rw [toList_eq]; simp [h1])).mono ?_
    rintro e w' ⟨g1, g2⟩
    exact ⟨_, g1, ⟨by unfold WTo; rw [if_pos h1], hh_set hc _ (hh_bool _ rfl)⟩, g2⟩
  have f1 : (s.toList == [114, 97, 110]) = false := by rw [toList_eq]; simp [h1]
  by_cases h2 : s.data.toList = [102, 97, 117, 108, 116]
  · refine (word_fault c hc s hs w f1 (by rw [toList_eq]; simp [h2])).mono ?_
    rintro e w' ⟨g1, g2⟩
    exact ⟨_, g1, ⟨by unfold WTo; rw [if_neg h1, if_pos h2], hh_set hc _ (hh_bool _ rfl)⟩, g2⟩
  have f2 : (s.toList == [102, 97, 117, 108, 116]) = false := by rw [toList_eq]; simp [h2]
  have hix := index_lt 61 s.data.toList
  rw [size_len] at hix
  by_cases h3 : Lib.index s.data.toList [61] = 4 ∧ (s.extract 0 4).data.toList = [116, 105, 109, 101]
  · have h5 : 5 ≤ s.size := by have := h3.1; omega
    have z5 := ext_size s 5 s.size
    have f3 : ((s.extract 0 4).toList == [116, 105, 109, 101]) = true := by rw [toList_eq]; simpa using h3.2
    by_cases h4 : (r.nm (s.extract 5 s.size)).2 = true ∧ 0 ≤ (r.nm (s.extract 5 s.size)).1 ∧ (r.nm (s.extract 5 s.size)).1 ≤ 4294967295
    · refine (word_time c hc s hs w f1 f2 h3.1 h5 f3 _ _ (hr.num _ (by omega)) h4.1 h4.2.1 h4.2.2).mono ?_
      rintro e w' ⟨g1, g2⟩
      refine ⟨_, g1, ⟨by unfold WTo; rw [if_neg h1, if_neg h2, if_pos h3, if_pos h4], hh_set hc _ ?_⟩, g2⟩
      rw [show kd 133 = 32 from rfl]
      simp [CellIs, Value.oneCell']
      exact ⟨h4.2.1, by omega⟩
    · refine (word_time_no c hc s hs w f1 f2 h3.1 h5 f3 (r.nm (s.extract 5 s.size)).1 (r.nm (s.extract 5 s.size)).2 (hr.num _ (by omega)) ?_).mono ?_
      · cases hb : (r.nm (s.extract 5 s.size)).2 with
        | false => exact .inl rfl
        | true =>
          rw [hb] at h4
          right
          by_cases hn : (r.nm (s.extract 5 s.size)).1 < 0
          · exact .inl hn
          · exact .inr (by have : ¬ (r.nm (s.extract 5 s.size)).1 ≤ 4294967295 := fun h => h4 ⟨rfl, by omega, h⟩
                           omega)
      · rintro e w' ⟨g1, g2⟩
        exact ⟨_, g1, ⟨by unfold WTo; rw [if_neg h1, if_neg h2, if_pos h3, if_neg h4], hc⟩, g2⟩
  by_cases h6 : 0 < Lib.index s.data.toList [61]
  · obtain ⟨a, ha⟩ : ∃ a : Nat, Lib.index s.data.toList [61] = (a : Int) := ⟨_, (Int.toNat_of_nonneg (by omega)).symm⟩
    have ta : (Lib.index s.data.toList [61]).toNat = a := by rw [ha]; rfl
    have a0 : 0 < a := by omega
    have a1 : a + 1 ≤ s.size := by omega
    have hT : a = 4 → ((s.extract 0 4).toList == [116, 105, 109, 101]) = false := fun e => by
      rw [toList_eq]
      simp only [decide_eq_false_iff_not]
      intro h
      exact h3 ⟨by rw [ha, e]; rfl, h⟩
    have z0 := ext_size s 0 a
    have z6 := ext_size s (a + 1) s.size
    cases hb : r.rb (s.extract 0 a) with
    | false =>
      have HD := hr.dev (s.extract 0 a) (by omega)
      rw [hb] at HD
      refine (word_eq_no c hc s hs w f1 f2 a ha a0 a1 hT _ _ _ _ HD rfl).mono ?_
      rintro e w' ⟨g1, g2⟩
      exact ⟨_, g1, ⟨by unfold WTo; rw [if_neg h1, if_neg h2, if_neg h3, if_pos h6, ta, hb, if_neg (by simp)], hc⟩, g2⟩
    | true =>
      have HD := hr.dev (s.extract 0 a) (by omega)
      rw [hb] at HD
      obtain ⟨b1, b7, b8, b9, b10⟩ := hr.bd _ hb
      have q7 : (r.rd (s.extract 0 a)).1 = 7 → (r.rd (s.extract 0 a)).2.1.toNat < 16 := fun h => by have := b7 h; omega
      have q8 : (r.rd (s.extract 0 a)).1 = 8 → (r.rd (s.extract 0 a)).2.1.toNat < 16 := fun h => by have := b8 h; omega
      have q9 : (r.rd (s.extract 0 a)).1 = 9 → (r.rd (s.extract 0 a)).2.1.toNat < 32 := fun h => by have := b9 h; omega
      refine (word_eq c hc s hs w f1 f2 a ha a0 a1 hT _ _ _ _ HD rfl (fun C => VTo r c (r.rd (s.extract 0 a)).1 (r.rd (s.extract 0 a)).2.1.toNat (s.extract (a + 1) s.size) C) (fun C h => h.ok hr hc q7 q8 q9) (fun W => value_all hr c hc _ _ _ b7 b8 b9 b10 _ (by omega) W)).mono ?_
      rintro e w' ⟨C, g1, g2, g3⟩
      refine ⟨C, g1, ⟨?_, g2.ok hr hc q7 q8 q9⟩, g3⟩
      unfold WTo
      rw [if_neg h1, if_neg h2, if_neg h3, if_pos h6, ta, if_pos hb]
      exact g2
  · have h7 : Lib.index s.data.toList [61] ≤ 0 := by omega
    cases hb : r.rb s with
    | false =>
      have HD := hr.dev s hs
      rw [hb] at HD
      refine (word_dev_no c hc s hs w f1 f2 h7 _ _ _ _ HD rfl).mono ?_
      rintro e w' ⟨g1, g2⟩
      exact ⟨_, g1, ⟨by unfold WTo; rw [if_neg h1, if_neg h2, if_neg h3, if_neg h6, hb, if_neg (by simp)], hc⟩, g2⟩
    | true =>
      have HD := hr.dev s hs
      rw [hb] at HD
      obtain ⟨b1, b7, b8, b9, b10⟩ := hr.bd _ hb
      by_cases hk : (r.rd s).1 = 1
      · have b2 := b1 hk
        obtain ⟨n, hn⟩ : ∃ n : Nat, (r.rd s).2.1 = (n : Int) := ⟨_, (Int.toNat_of_nonneg b2.1).symm⟩
        rw [hn] at HD b2
        rw [hk] at HD
        refine (word_dev_x c hc s hs w f1 f2 h7 n (by omega) _ HD).mono ?_
        rintro e w' ⟨g1, g2⟩
        exact ⟨_, g1, ⟨by unfold WTo; rw [if_neg h1, if_neg h2, if_neg h3, if_neg h6, if_pos hb, if_pos hk, hn], memOk_x hc n (by omega)⟩, g2⟩
      · refine (word_dev_bit c hc s hs w f1 f2 h7 _ _ _ _ HD rfl hk (memOk_putbH hc _ _ _)).mono ?_
        rintro e w' ⟨g1, g2⟩
        exact ⟨_, g1, ⟨by unfold WTo; rw [if_neg h1, if_neg h2, if_neg h3, if_neg h6, if_pos hb, if_neg hk], memOk_putbH hc _ _ _⟩, g2⟩
end Go.Proofs.YtjnddfpieogpiaaGreatDoor
