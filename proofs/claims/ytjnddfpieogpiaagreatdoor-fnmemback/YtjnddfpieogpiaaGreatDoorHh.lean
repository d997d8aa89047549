/- The specification's l5Value, where it is a whole number. -/
import Derived.Test.YtjnddfpieogpiaaGreatDoorHg
import Derived.Test.YtjnddfpieogpiaaGreatDoorMbM
namespace Go.Proofs.YtjnddfpieogpiaaGreatDoor
open Go.RowKit
set_option linter.unusedVariables false

theorem hh_set {c : Array Value} (hc : MemOk c) (i : Nat) {v : Value} (hv : CellIs (kd i) v) : MemOk (c.setIfInBounds i v) :=
  ⟨by simpa using hc.size, fun j u hu => by
    by_cases hji : i = j
    · subst hji
      have hl : i < c.size := by have := (Array.getElem?_eq_some_iff.1 hu).1; simpa using this
      rw [Array.getElem?_setIfInBounds_self_of_lt hl] at hu
      exact Option.some.inj hu ▸ hv
    · rw [Array.getElem?_setIfInBounds_ne hji] at hu
      exact hc.cell j u hu⟩
theorem hh_bool (b : Bool) {k : Nat} (h : k = 1) : CellIs k (.bool b) := by subst h; simp [CellIs, Value.oneCell']
theorem hh_u16 (n : Int) {k : Nat} (hk : k = 16) : CellIs k (.int .u16 (IntKind.u16.wrap n)) := by
  have e : IntKind.u16.wrap n = n % 65536 := by simp [IntKind.wrap, IntKind.bits, IntKind.signed]
  subst hk; rw [e]; simp [CellIs, Value.oneCell']; omega
theorem hh_i16 (n : Int) {k : Nat} (hk : k = 116) : CellIs k (.int .i16 (IntKind.i16.wrap n)) := by
  have e : IntKind.i16.wrap n = if n % 65536 ≥ 32768 then n % 65536 - 65536 else n % 65536 := by simp [IntKind.wrap, IntKind.bits, IntKind.signed]
  subst hk; rw [e]; simp only [CellIs, Value.oneCell']; simp; split <;> omega
/-- A memory with the number that a word tells. -/
def vput (c : Array Value) (k : Int) (n : Nat) (num : Int) (ok done last : Bool) : Array Value :=
  if ok = false ∨ num < -32768 ∨ 65535 < num then c else if k = 7 then (c.setIfInBounds (5 + n * 2) (.bool done)).setIfInBounds (5 + n * 2 + 1) (.int .u16 (IntKind.u16.wrap num))
  else if k = 8 then ((c.setIfInBounds (37 + n * 3) (.bool done)).setIfInBounds (37 + n * 3 + 1) (.bool last)).setIfInBounds (37 + n * 3 + 2) (.int .u16 (IntKind.u16.wrap num))
  else if k = 9 then c.setIfInBounds (85 + n) (.int .i16 (IntKind.i16.wrap num)) else c
theorem vput_bad (c : Array Value) (k : Int) (n : Nat) (num : Int) (ok done last : Bool) (h : ok = false ∨ num < -32768 ∨ 65535 < num) : vput c k n num ok done last = c := by unfold vput; rw [if_pos h]
theorem vput_7 (c : Array Value) (k : Int) (n : Nat) (num : Int) (ok done last : Bool) (h : ¬ (ok = false ∨ num < -32768 ∨ 65535 < num)) (hk : k = 7) : vput c k n num ok done last = (c.setIfInBounds (5 + n * 2) (.bool done)).setIfInBounds (5 + n * 2 + 1) (.int .u16 (IntKind.u16.wrap num)) := by unfold vput; rw [if_neg h, if_pos hk]
theorem vput_8 (c : Array Value) (k : Int) (n : Nat) (num : Int) (ok done last : Bool) (h : ¬ (ok = false ∨ num < -32768 ∨ 65535 < num)) (hk : k = 8) : vput c k n num ok done last = ((c.setIfInBounds (37 + n * 3) (.bool done)).setIfInBounds (37 + n * 3 + 1) (.bool last)).setIfInBounds (37 + n * 3 + 2) (.int .u16 (IntKind.u16.wrap num)) := by unfold vput; rw [if_neg h, if_neg (by omega), if_pos hk]
theorem vput_9 (c : Array Value) (k : Int) (n : Nat) (num : Int) (ok done last : Bool) (h : ¬ (ok = false ∨ num < -32768 ∨ 65535 < num)) (hk : k = 9) : vput c k n num ok done last = c.setIfInBounds (85 + n) (.int .i16 (IntKind.i16.wrap num)) := by unfold vput; rw [if_neg h, if_neg (by omega), if_neg (by omega), if_pos hk]
theorem vput_0 (c : Array Value) (k : Int) (n : Nat) (num : Int) (ok done last : Bool) (h7 : k ≠ 7) (h8 : k ≠ 8) (h9 : k ≠ 9) : vput c k n num ok done last = c := by unfold vput; rw [if_neg h7, if_neg h8, if_neg h9]; split <;> rfl
theorem tailB_size (s : ByteArray) (c : UInt8) : (tailB s c).1.size ≤ s.size := by
  unfold tailB
  split
  · simp [ByteArray.size_extract]
  · exact Nat.le_refl _

set_option maxRecDepth 10000 in
set_option maxHeartbeats 4000000 in
theorem value_s (c : Array Value) (hc : MemOk c) (k : Int) (n : Nat) (p : Int) (h10 : k ≠ 10) (hn7 : k = 7 → n < 16) (hn8 : k = 8 → n < 16) (hn9 : k = 9 → n < 32) (s : ByteArray) (hs : s.size ≤ 4194304) (num : Int) (ok : Bool) (w : World)
    (HN : Hid (∀ W, Calls Tryz.prog 95 #[.string (tailB (tailB s 43).1 33).1] W fun e w' => e = .returned (.tuple #[.int .i64 num, .bool ok]) ∧ w' = W)) :
    Calls Tryz.prog 97 #[.agg c, .agg #[.int .i64 k, .int .i64 n, .int .i64 p], .string s] w fun e w' => e = .returned (.agg (vput c k n num ok (tailB (tailB s 43).1 33).2 (tailB s 43).2)) ∧ Below w.heap.size w w' := by
  have HC : Hid (MemOk c) := hc
  have z43 := tailB_size s 43
  have HT1 : Hid (∀ W, Calls Tryz.prog 147 #[.string s, .int .u8 43] W fun e w' => e = .returned (.tuple #[.string (tailB s 43).1, .bool (tailB s 43).2]) ∧ w' = W) := fun W => tail_s s 43 W hs
  have HT2 : Hid (∀ W, Calls Tryz.prog 147 #[.string (tailB s 43).1, .int .u8 33] W fun e w' => e = .returned (.tuple #[.string (tailB (tailB s 43).1 33).1, .bool (tailB (tailB s 43).1 33).2]) ∧ w' = W) := fun W => tail_s _ 33 W (by omega)
  generalize tailB s 43 = t1 at *
  generalize tailB t1.1 33 = t2 at *
  obtain ⟨T1, b1⟩ := t1
  obtain ⟨T2, b2⟩ := t2
  simp only at HT1 HT2 HN ⊢
  have e10 : (k == 10) = false := by simp [h10]
  have hz := zero_mem.1
  obtain ⟨Z, HZ⟩ : ∃ Z, Hid (Z = memZero) := ⟨_, rfl⟩
  rw [← HZ.out] at hz
  have HZs : Hid (Z.size = 136) := (by rw [HZ.out, memZero_size] : Z.size = 136)
  obtain ⟨W0, HW0⟩ : ∃ W0, Hid (W0 = ((w.alloc (.cells c 37)).alloc (.cells #[.int .i64 k, .int .i64 n, .int .i64 p] 54)).alloc (.cells Z 37)) := ⟨_, rfl⟩
  have h1 : W0.heap[w.heap.size]? = some (.cells c 37 (0, 0)) := by rw [HW0.out]; exact (rows3 w _ _ _).1
  have h2 : W0.heap[w.heap.size + 1]? = some (.cells #[.int .i64 k, .int .i64 n, .int .i64 p] 54 (0, 0)) := by rw [HW0.out]; exact (rows3 w _ _ _).2.1
  have h3 : W0.heap[w.heap.size + 1 + 1]? = some (.cells Z 37 (0, 0)) := by rw [HW0.out]; exact (rows3 w _ _ _).2.2
  have bW : Below w.heap.size w W0 := by rw [HW0.out]; exact (((Below.refl _ _).alloc (Nat.le_refl _) _).alloc (by simp) _).alloc (by simp <;> omega) _
  have r0 : W0.cell? ⟨w.heap.size + 1, 0, none⟩ = some (.int .i64 k) := (cell_of_row _ _ _ _ _ _ h2).trans rfl
  have r1 : W0.cell? ⟨w.heap.size + 1, 1, none⟩ = some (.int .i64 (n : Int)) := (cell_of_row _ _ _ _ _ _ h2).trans rfl
  clear hc h2
  by_cases hg : ok = false ∨ num < -32768 ∨ 65535 < num
  · have HVb := vput_bad c k n num ok b2 b1 hg
    rcases (by cases ok with | false => exact .inl rfl | true => exact .inr ⟨rfl, by simpa using hg⟩ : ok = false ∨ (ok = true ∧ (num < -32768 ∨ 65535 < num))) with ho | ⟨ho, hg2⟩
    · subst ho
      have HV := HVb
      clear hg HVb
      rw [HV]
      have HCM : Hid (MemOk c) := HC.out
      have HR1 : Hid (W0.heap[w.heap.size]? = some (.cells c 37 (0, 0))) := h1
      have HI : Hid ((Tryz.prog.info? 37).map (·.size) = some c.size) := (by rw [HCM.out.size]; exact zero_mem.2 : (Tryz.prog.info? 37).map (·.size) = some c.size)
      have HR3 : Hid (W0.heap[w.heap.size + 1 + 1]? = some (.cells Z 37 (0, 0))) := h3
      have HLD : Hid ((loadVar 37 ⟨w.heap.size, 0, none⟩).run Tryz.prog W0 = .ok (.agg c) W0) := load_all HR1.out _ _ Tryz.underlying37 rfl HI.out
      have HSD : Hid ((storeVar 37 ⟨w.heap.size + 1 + 1, 0, none⟩ (.agg c)).run Tryz.prog W0 = .ok () (W0.setRow (w.heap.size + 1 + 1) c)) := store_all HR3.out _ _ (HZs.out.trans HCM.out.size.symm) HI.out HCM.out.one
      have HB : Hid (Below w.heap.size w (W0.setRow (w.heap.size + 1 + 1) c)) := below_setRow (bW) (by omega) _
      clear h1 h3 bW hn7 hn8 hn9 HV
      go_enter Tryz.func97, Tryz.ntmps97
      go_wp2_with fail
      rw [← HW0.out]
      refine (HT1.out _).mono ?_
      rintro e w1 ⟨rfl, hw⟩
      rw [hw]
      clear hw w1
      go_wp2_with fail
      refine (HT2.out _).mono ?_
      rintro e w1 ⟨rfl, hw⟩
      rw [hw]
      clear hw w1
      go_wp2_with fail
      refine (HN.out _).mono ?_
      rintro e w1 ⟨rfl, hw⟩
      rw [hw]
      clear hw w1
      clear HT1 HT2 HN HW0 hz
      go_wp2_with (first | (refine wpL_load rfl 37 _ rfl _ _ rfl _ HLD.out ?_) | (refine wpL_store rfl 37 _ _ rfl _ _ rfl _ rfl _ HSD.out ?_) | exact ret_row rfl rfl (row_set HR3.out _) Tryz.underlying37 rfl HI.out rfl ⟨rfl, HB.out⟩ | fail)
    · subst ho
      have HV := HVb
      clear hg HVb
      by_cases g1 : num < -32768
      · clear hg2
        rw [HV]
        have HCM : Hid (MemOk c) := HC.out
        have HR1 : Hid (W0.heap[w.heap.size]? = some (.cells c 37 (0, 0))) := h1
        have HI : Hid ((Tryz.prog.info? 37).map (·.size) = some c.size) := (by rw [HCM.out.size]; exact zero_mem.2 : (Tryz.prog.info? 37).map (·.size) = some c.size)
        have HR3 : Hid (W0.heap[w.heap.size + 1 + 1]? = some (.cells Z 37 (0, 0))) := h3
        have HLD : Hid ((loadVar 37 ⟨w.heap.size, 0, none⟩).run Tryz.prog W0 = .ok (.agg c) W0) := load_all HR1.out _ _ Tryz.underlying37 rfl HI.out
        have HSD : Hid ((storeVar 37 ⟨w.heap.size + 1 + 1, 0, none⟩ (.agg c)).run Tryz.prog W0 = .ok () (W0.setRow (w.heap.size + 1 + 1) c)) := store_all HR3.out _ _ (HZs.out.trans HCM.out.size.symm) HI.out HCM.out.one
        have HB : Hid (Below w.heap.size w (W0.setRow (w.heap.size + 1 + 1) c)) := below_setRow (bW) (by omega) _
        clear h1 h3 bW hn7 hn8 hn9 HV
        go_enter Tryz.func97, Tryz.ntmps97
        go_wp2_with fail
        rw [← HW0.out]
        refine (HT1.out _).mono ?_
        rintro e w1 ⟨rfl, hw⟩
        rw [hw]
        clear hw w1
        go_wp2_with fail
        refine (HT2.out _).mono ?_
        rintro e w1 ⟨rfl, hw⟩
        rw [hw]
        clear hw w1
        go_wp2_with fail
        refine (HN.out _).mono ?_
        rintro e w1 ⟨rfl, hw⟩
        rw [hw]
        clear hw w1
        clear HT1 HT2 HN HW0 hz
        go_wp2_with (first | (refine wpL_load rfl 37 _ rfl _ _ rfl _ HLD.out ?_) | (refine wpL_store rfl 37 _ _ rfl _ _ rfl _ rfl _ HSD.out ?_) | exact ret_row rfl rfl (row_set HR3.out _) Tryz.underlying37 rfl HI.out rfl ⟨rfl, HB.out⟩ | fail)
      · have g2 : 65535 < num := by omega
        clear hg2
        rw [HV]
        have HCM : Hid (MemOk c) := HC.out
        have HR1 : Hid (W0.heap[w.heap.size]? = some (.cells c 37 (0, 0))) := h1
        have HI : Hid ((Tryz.prog.info? 37).map (·.size) = some c.size) := (by rw [HCM.out.size]; exact zero_mem.2 : (Tryz.prog.info? 37).map (·.size) = some c.size)
        have HR3 : Hid (W0.heap[w.heap.size + 1 + 1]? = some (.cells Z 37 (0, 0))) := h3
        have HLD : Hid ((loadVar 37 ⟨w.heap.size, 0, none⟩).run Tryz.prog W0 = .ok (.agg c) W0) := load_all HR1.out _ _ Tryz.underlying37 rfl HI.out
        have HSD : Hid ((storeVar 37 ⟨w.heap.size + 1 + 1, 0, none⟩ (.agg c)).run Tryz.prog W0 = .ok () (W0.setRow (w.heap.size + 1 + 1) c)) := store_all HR3.out _ _ (HZs.out.trans HCM.out.size.symm) HI.out HCM.out.one
        have HB : Hid (Below w.heap.size w (W0.setRow (w.heap.size + 1 + 1) c)) := below_setRow (bW) (by omega) _
        clear h1 h3 bW hn7 hn8 hn9 HV
        go_enter Tryz.func97, Tryz.ntmps97
        go_wp2_with fail
        rw [← HW0.out]
        refine (HT1.out _).mono ?_
        rintro e w1 ⟨rfl, hw⟩
        rw [hw]
        clear hw w1
        go_wp2_with fail
        refine (HT2.out _).mono ?_
        rintro e w1 ⟨rfl, hw⟩
        rw [hw]
        clear hw w1
        go_wp2_with fail
        refine (HN.out _).mono ?_
        rintro e w1 ⟨rfl, hw⟩
        rw [hw]
        clear hw w1
        clear HT1 HT2 HN HW0 hz
        go_wp2_with (first | (refine wpL_load rfl 37 _ rfl _ _ rfl _ HLD.out ?_) | (refine wpL_store rfl 37 _ _ rfl _ _ rfl _ rfl _ HSD.out ?_) | exact ret_row rfl rfl (row_set HR3.out _) Tryz.underlying37 rfl HI.out rfl ⟨rfl, HB.out⟩ | fail)
  have ho : ok = true := by cases ok with | false => exact absurd (.inl rfl) hg | true => rfl
  have g1 : ¬ (num < -32768) := fun h => hg (.inr (.inl h))
  have g2 : ¬ (65535 < num) := fun h => hg (.inr (.inr h))
  subst ho
  rcases (by omega : k = 7 ∨ k = 8 ∨ k = 9 ∨ (k ≠ 7 ∧ k ≠ 8 ∧ k ≠ 9)) with hk | hk | hk | ⟨k7, k8, k9⟩
  · have hn' : n < 16 := hn7 hk
    have e7 : (k == 7) = true := by rw [hk]; rfl
    have i0 : (0 : Int) ≤ (n : Int) := by omega
    have i9 : (n : Int) < 16 := by omega
    have HV := vput_7 c k n num true b2 b1 hg hk
    have HOK : MemOk ((c.setIfInBounds (5 + n * 2) (.bool b2)).setIfInBounds (5 + n * 2 + 1) (.int .u16 (IntKind.u16.wrap num))) := hh_set (hh_set HC.out _ (hh_bool _ (by rw [Nat.mul_comm]; exact (kd_t (by omega)).1))) _ (hh_u16 _ (by rw [Nat.mul_comm]; exact (kd_t (by omega)).2))
    clear hk
    obtain ⟨x0, hx0⟩ : ∃ x, W0.cell? ⟨w.heap.size, 5 + n * 2, none⟩ = some x := by rw [cell_of_row _ _ _ _ _ _ h1]; exact ⟨_, Array.getElem?_eq_getElem (by have := HC.out.size; first | omega | (simp only [Array.size_setIfInBounds]; omega))⟩
    have z0 : W0.frozen? ⟨w.heap.size, 5 + n * 2, none⟩ = false := by simp [World.frozen?, h1]
    have row0 : (W0.setCell ⟨w.heap.size, 5 + n * 2, none⟩ (.bool b2)).heap[w.heap.size]? = some (.cells (c.setIfInBounds (5 + n * 2) (.bool b2)) 37 (0, 0)) := row_put h1 _ _
    obtain ⟨x1, hx1⟩ : ∃ x, (W0.setCell ⟨w.heap.size, 5 + n * 2, none⟩ (.bool b2)).cell? ⟨w.heap.size, 5 + n * 2 + 1, none⟩ = some x := by rw [cell_of_row _ _ _ _ _ _ row0]; exact ⟨_, Array.getElem?_eq_getElem (by have := HC.out.size; first | omega | (simp only [Array.size_setIfInBounds]; omega))⟩
    have z1 : (W0.setCell ⟨w.heap.size, 5 + n * 2, none⟩ (.bool b2)).frozen? ⟨w.heap.size, 5 + n * 2 + 1, none⟩ = false := by simp [World.frozen?, row0]
    have row1 : ((W0.setCell ⟨w.heap.size, 5 + n * 2, none⟩ (.bool b2)).setCell ⟨w.heap.size, 5 + n * 2 + 1, none⟩ (.int .u16 (IntKind.u16.wrap num))).heap[w.heap.size]? = some (.cells ((c.setIfInBounds (5 + n * 2) (.bool b2)).setIfInBounds (5 + n * 2 + 1) (.int .u16 (IntKind.u16.wrap num))) 37 (0, 0)) := row_put row0 _ _
    obtain ⟨C, HCC⟩ : ∃ C, Hid (C = ((c.setIfInBounds (5 + n * 2) (.bool b2)).setIfInBounds (5 + n * 2 + 1) (.int .u16 (IntKind.u16.wrap num)))) := ⟨_, rfl⟩
    have HCM : Hid (MemOk C) := (by rw [HCC.out]; exact HOK : MemOk C)
    have HR1 : Hid (((W0.setCell ⟨w.heap.size, 5 + n * 2, none⟩ (.bool b2)).setCell ⟨w.heap.size, 5 + n * 2 + 1, none⟩ (.int .u16 (IntKind.u16.wrap num))).heap[w.heap.size]? = some (.cells C 37 (0, 0))) := (by rw [HCC.out]; exact row1 : ((W0.setCell ⟨w.heap.size, 5 + n * 2, none⟩ (.bool b2)).setCell ⟨w.heap.size, 5 + n * 2 + 1, none⟩ (.int .u16 (IntKind.u16.wrap num))).heap[w.heap.size]? = some (.cells C 37 (0, 0)))
    rw [HV, ← HCC.out]
    have HI : Hid ((Tryz.prog.info? 37).map (·.size) = some C.size) := (by rw [HCM.out.size]; exact zero_mem.2 : (Tryz.prog.info? 37).map (·.size) = some C.size)
    have HR3 : Hid (((W0.setCell ⟨w.heap.size, 5 + n * 2, none⟩ (.bool b2)).setCell ⟨w.heap.size, 5 + n * 2 + 1, none⟩ (.int .u16 (IntKind.u16.wrap num))).heap[w.heap.size + 1 + 1]? = some (.cells Z 37 (0, 0))) := row_other (row_other (h3) _ _ (by omega) _) _ _ (by omega) _
    have HLD : Hid ((loadVar 37 ⟨w.heap.size, 0, none⟩).run Tryz.prog ((W0.setCell ⟨w.heap.size, 5 + n * 2, none⟩ (.bool b2)).setCell ⟨w.heap.size, 5 + n * 2 + 1, none⟩ (.int .u16 (IntKind.u16.wrap num))) = .ok (.agg C) ((W0.setCell ⟨w.heap.size, 5 + n * 2, none⟩ (.bool b2)).setCell ⟨w.heap.size, 5 + n * 2 + 1, none⟩ (.int .u16 (IntKind.u16.wrap num)))) := load_all HR1.out _ _ Tryz.underlying37 rfl HI.out
    have HSD : Hid ((storeVar 37 ⟨w.heap.size + 1 + 1, 0, none⟩ (.agg C)).run Tryz.prog ((W0.setCell ⟨w.heap.size, 5 + n * 2, none⟩ (.bool b2)).setCell ⟨w.heap.size, 5 + n * 2 + 1, none⟩ (.int .u16 (IntKind.u16.wrap num))) = .ok () (((W0.setCell ⟨w.heap.size, 5 + n * 2, none⟩ (.bool b2)).setCell ⟨w.heap.size, 5 + n * 2 + 1, none⟩ (.int .u16 (IntKind.u16.wrap num))).setRow (w.heap.size + 1 + 1) C)) := store_all HR3.out _ _ (HZs.out.trans HCM.out.size.symm) HI.out HCM.out.one
    have HB : Hid (Below w.heap.size w (((W0.setCell ⟨w.heap.size, 5 + n * 2, none⟩ (.bool b2)).setCell ⟨w.heap.size, 5 + n * 2 + 1, none⟩ (.int .u16 (IntKind.u16.wrap num))).setRow (w.heap.size + 1 + 1) C)) := below_setRow (((bW).setCell (p := ⟨w.heap.size, 5 + n * 2, none⟩) (by simp) _).setCell (p := ⟨w.heap.size, 5 + n * 2 + 1, none⟩) (by simp) _) (by omega) _
    clear h1 h3 bW hn7 hn8 hn9 HV row0 row1 HOK
    go_enter Tryz.func97, Tryz.ntmps97
    go_wp2_with fail
    rw [← HW0.out]
    refine (HT1.out _).mono ?_
    rintro e w1 ⟨rfl, hw⟩
    rw [hw]
    clear hw w1
    go_wp2_with fail
    refine (HT2.out _).mono ?_
    rintro e w1 ⟨rfl, hw⟩
    rw [hw]
    clear hw w1
    go_wp2_with fail
    refine (HN.out _).mono ?_
    rintro e w1 ⟨rfl, hw⟩
    rw [hw]
    clear hw w1
    clear HT1 HT2 HN HW0 hz
    go_wp2_with (first | (refine wpL_load rfl 37 _ rfl _ _ rfl _ HLD.out ?_) | (refine wpL_store rfl 37 _ _ rfl _ _ rfl _ rfl _ HSD.out ?_) | exact ret_row rfl rfl (row_set HR3.out _) Tryz.underlying37 rfl HI.out rfl ⟨rfl, HB.out⟩ | fail)
  · have hn' : n < 16 := hn8 hk
    have e7 : (k == 7) = false := by rw [hk]; rfl
    have e8 : (k == 8) = true := by rw [hk]; rfl
    have i0 : (0 : Int) ≤ (n : Int) := by omega
    have i9 : (n : Int) < 16 := by omega
    have HV := vput_8 c k n num true b2 b1 hg hk
    have HOK : MemOk (((c.setIfInBounds (37 + n * 3) (.bool b2)).setIfInBounds (37 + n * 3 + 1) (.bool b1)).setIfInBounds (37 + n * 3 + 2) (.int .u16 (IntKind.u16.wrap num))) := hh_set (hh_set (hh_set HC.out _ (hh_bool _ (by rw [Nat.mul_comm]; exact (kd_c (by omega)).1))) _ (hh_bool _ (by rw [Nat.mul_comm]; exact (kd_c (by omega)).2.1))) _ (hh_u16 _ (by rw [Nat.mul_comm]; exact (kd_c (by omega)).2.2))
    clear hk
    obtain ⟨x0, hx0⟩ : ∃ x, W0.cell? ⟨w.heap.size, 37 + n * 3, none⟩ = some x := by rw [cell_of_row _ _ _ _ _ _ h1]; exact ⟨_, Array.getElem?_eq_getElem (by have := HC.out.size; first | omega | (simp only [Array.size_setIfInBounds]; omega))⟩
    have z0 : W0.frozen? ⟨w.heap.size, 37 + n * 3, none⟩ = false := by simp [World.frozen?, h1]
    have row0 : (W0.setCell ⟨w.heap.size, 37 + n * 3, none⟩ (.bool b2)).heap[w.heap.size]? = some (.cells (c.setIfInBounds (37 + n * 3) (.bool b2)) 37 (0, 0)) := row_put h1 _ _
    obtain ⟨x1, hx1⟩ : ∃ x, (W0.setCell ⟨w.heap.size, 37 + n * 3, none⟩ (.bool b2)).cell? ⟨w.heap.size, 37 + n * 3 + 1, none⟩ = some x := by rw [cell_of_row _ _ _ _ _ _ row0]; exact ⟨_, Array.getElem?_eq_getElem (by have := HC.out.size; first | omega | (simp only [Array.size_setIfInBounds]; omega))⟩
    have z1 : (W0.setCell ⟨w.heap.size, 37 + n * 3, none⟩ (.bool b2)).frozen? ⟨w.heap.size, 37 + n * 3 + 1, none⟩ = false := by simp [World.frozen?, row0]
    have row1 : ((W0.setCell ⟨w.heap.size, 37 + n * 3, none⟩ (.bool b2)).setCell ⟨w.heap.size, 37 + n * 3 + 1, none⟩ (.bool b1)).heap[w.heap.size]? = some (.cells ((c.setIfInBounds (37 + n * 3) (.bool b2)).setIfInBounds (37 + n * 3 + 1) (.bool b1)) 37 (0, 0)) := row_put row0 _ _
    obtain ⟨x2, hx2⟩ : ∃ x, ((W0.setCell ⟨w.heap.size, 37 + n * 3, none⟩ (.bool b2)).setCell ⟨w.heap.size, 37 + n * 3 + 1, none⟩ (.bool b1)).cell? ⟨w.heap.size, 37 + n * 3 + 2, none⟩ = some x := by rw [cell_of_row _ _ _ _ _ _ row1]; exact ⟨_, Array.getElem?_eq_getElem (by have := HC.out.size; first | omega | (simp only [Array.size_setIfInBounds]; omega))⟩
    have z2 : ((W0.setCell ⟨w.heap.size, 37 + n * 3, none⟩ (.bool b2)).setCell ⟨w.heap.size, 37 + n * 3 + 1, none⟩ (.bool b1)).frozen? ⟨w.heap.size, 37 + n * 3 + 2, none⟩ = false := by simp [World.frozen?, row1]
    have row2 : (((W0.setCell ⟨w.heap.size, 37 + n * 3, none⟩ (.bool b2)).setCell ⟨w.heap.size, 37 + n * 3 + 1, none⟩ (.bool b1)).setCell ⟨w.heap.size, 37 + n * 3 + 2, none⟩ (.int .u16 (IntKind.u16.wrap num))).heap[w.heap.size]? = some (.cells (((c.setIfInBounds (37 + n * 3) (.bool b2)).setIfInBounds (37 + n * 3 + 1) (.bool b1)).setIfInBounds (37 + n * 3 + 2) (.int .u16 (IntKind.u16.wrap num))) 37 (0, 0)) := row_put row1 _ _
    obtain ⟨C, HCC⟩ : ∃ C, Hid (C = (((c.setIfInBounds (37 + n * 3) (.bool b2)).setIfInBounds (37 + n * 3 + 1) (.bool b1)).setIfInBounds (37 + n * 3 + 2) (.int .u16 (IntKind.u16.wrap num)))) := ⟨_, rfl⟩
    have HCM : Hid (MemOk C) := (by rw [HCC.out]; exact HOK : MemOk C)
    have HR1 : Hid ((((W0.setCell ⟨w.heap.size, 37 + n * 3, none⟩ (.bool b2)).setCell ⟨w.heap.size, 37 + n * 3 + 1, none⟩ (.bool b1)).setCell ⟨w.heap.size, 37 + n * 3 + 2, none⟩ (.int .u16 (IntKind.u16.wrap num))).heap[w.heap.size]? = some (.cells C 37 (0, 0))) := (by rw [HCC.out]; exact row2 : (((W0.setCell ⟨w.heap.size, 37 + n * 3, none⟩ (.bool b2)).setCell ⟨w.heap.size, 37 + n * 3 + 1, none⟩ (.bool b1)).setCell ⟨w.heap.size, 37 + n * 3 + 2, none⟩ (.int .u16 (IntKind.u16.wrap num))).heap[w.heap.size]? = some (.cells C 37 (0, 0)))
    rw [HV, ← HCC.out]
    have HI : Hid ((Tryz.prog.info? 37).map (·.size) = some C.size) := (by rw [HCM.out.size]; exact zero_mem.2 : (Tryz.prog.info? 37).map (·.size) = some C.size)
    have HR3 : Hid ((((W0.setCell ⟨w.heap.size, 37 + n * 3, none⟩ (.bool b2)).setCell ⟨w.heap.size, 37 + n * 3 + 1, none⟩ (.bool b1)).setCell ⟨w.heap.size, 37 + n * 3 + 2, none⟩ (.int .u16 (IntKind.u16.wrap num))).heap[w.heap.size + 1 + 1]? = some (.cells Z 37 (0, 0))) := row_other (row_other (row_other (h3) _ _ (by omega) _) _ _ (by omega) _) _ _ (by omega) _
    have HLD : Hid ((loadVar 37 ⟨w.heap.size, 0, none⟩).run Tryz.prog (((W0.setCell ⟨w.heap.size, 37 + n * 3, none⟩ (.bool b2)).setCell ⟨w.heap.size, 37 + n * 3 + 1, none⟩ (.bool b1)).setCell ⟨w.heap.size, 37 + n * 3 + 2, none⟩ (.int .u16 (IntKind.u16.wrap num))) = .ok (.agg C) (((W0.setCell ⟨w.heap.size, 37 + n * 3, none⟩ (.bool b2)).setCell ⟨w.heap.size, 37 + n * 3 + 1, none⟩ (.bool b1)).setCell ⟨w.heap.size, 37 + n * 3 + 2, none⟩ (.int .u16 (IntKind.u16.wrap num)))) := load_all HR1.out _ _ Tryz.underlying37 rfl HI.out
    have HSD : Hid ((storeVar 37 ⟨w.heap.size + 1 + 1, 0, none⟩ (.agg C)).run Tryz.prog (((W0.setCell ⟨w.heap.size, 37 + n * 3, none⟩ (.bool b2)).setCell ⟨w.heap.size, 37 + n * 3 + 1, none⟩ (.bool b1)).setCell ⟨w.heap.size, 37 + n * 3 + 2, none⟩ (.int .u16 (IntKind.u16.wrap num))) = .ok () ((((W0.setCell ⟨w.heap.size, 37 + n * 3, none⟩ (.bool b2)).setCell ⟨w.heap.size, 37 + n * 3 + 1, none⟩ (.bool b1)).setCell ⟨w.heap.size, 37 + n * 3 + 2, none⟩ (.int .u16 (IntKind.u16.wrap num))).setRow (w.heap.size + 1 + 1) C)) := store_all HR3.out _ _ (HZs.out.trans HCM.out.size.symm) HI.out HCM.out.one
    have HB : Hid (Below w.heap.size w ((((W0.setCell ⟨w.heap.size, 37 + n * 3, none⟩ (.bool b2)).setCell ⟨w.heap.size, 37 + n * 3 + 1, none⟩ (.bool b1)).setCell ⟨w.heap.size, 37 + n * 3 + 2, none⟩ (.int .u16 (IntKind.u16.wrap num))).setRow (w.heap.size + 1 + 1) C)) := below_setRow ((((bW).setCell (p := ⟨w.heap.size, 37 + n * 3, none⟩) (by simp) _).setCell (p := ⟨w.heap.size, 37 + n * 3 + 1, none⟩) (by simp) _).setCell (p := ⟨w.heap.size, 37 + n * 3 + 2, none⟩) (by simp) _) (by omega) _
    clear h1 h3 bW hn7 hn8 hn9 HV row0 row1 row2 HOK
    go_enter Tryz.func97, Tryz.ntmps97
    go_wp2_with fail
    rw [← HW0.out]
    refine (HT1.out _).mono ?_
    rintro e w1 ⟨rfl, hw⟩
    rw [hw]
    clear hw w1
    go_wp2_with fail
    refine (HT2.out _).mono ?_
    rintro e w1 ⟨rfl, hw⟩
    rw [hw]
    clear hw w1
    go_wp2_with fail
    refine (HN.out _).mono ?_
    rintro e w1 ⟨rfl, hw⟩
    rw [hw]
    clear hw w1
    clear HT1 HT2 HN HW0 hz
    go_wp2_with (first | (refine wpL_load rfl 37 _ rfl _ _ rfl _ HLD.out ?_) | (refine wpL_store rfl 37 _ _ rfl _ _ rfl _ rfl _ HSD.out ?_) | exact ret_row rfl rfl (row_set HR3.out _) Tryz.underlying37 rfl HI.out rfl ⟨rfl, HB.out⟩ | fail)
  · have hn' : n < 32 := hn9 hk
    have e7 : (k == 7) = false := by rw [hk]; rfl
    have e8 : (k == 8) = false := by rw [hk]; rfl
    have e9 : (k == 9) = true := by rw [hk]; rfl
    have i0 : (0 : Int) ≤ (n : Int) := by omega
    have i9 : (n : Int) < 32 := by omega
    have HV := vput_9 c k n num true b2 b1 hg hk
    have HOK : MemOk (c.setIfInBounds (85 + n) (.int .i16 (IntKind.i16.wrap num))) := hh_set HC.out _ (hh_i16 _ (kd_d (by omega)))
    clear hk
    obtain ⟨x0, hx0⟩ : ∃ x, W0.cell? ⟨w.heap.size, 85 + n, none⟩ = some x := by rw [cell_of_row _ _ _ _ _ _ h1]; exact ⟨_, Array.getElem?_eq_getElem (by have := HC.out.size; first | omega | (simp only [Array.size_setIfInBounds]; omega))⟩
    have z0 : W0.frozen? ⟨w.heap.size, 85 + n, none⟩ = false := by simp [World.frozen?, h1]
    have row0 : (W0.setCell ⟨w.heap.size, 85 + n, none⟩ (.int .i16 (IntKind.i16.wrap num))).heap[w.heap.size]? = some (.cells (c.setIfInBounds (85 + n) (.int .i16 (IntKind.i16.wrap num))) 37 (0, 0)) := row_put h1 _ _
    obtain ⟨C, HCC⟩ : ∃ C, Hid (C = (c.setIfInBounds (85 + n) (.int .i16 (IntKind.i16.wrap num)))) := ⟨_, rfl⟩
    have HCM : Hid (MemOk C) := (by rw [HCC.out]; exact HOK : MemOk C)
    have HR1 : Hid ((W0.setCell ⟨w.heap.size, 85 + n, none⟩ (.int .i16 (IntKind.i16.wrap num))).heap[w.heap.size]? = some (.cells C 37 (0, 0))) := (by rw [HCC.out]; exact row0 : (W0.setCell ⟨w.heap.size, 85 + n, none⟩ (.int .i16 (IntKind.i16.wrap num))).heap[w.heap.size]? = some (.cells C 37 (0, 0)))
    rw [HV, ← HCC.out]
    have HI : Hid ((Tryz.prog.info? 37).map (·.size) = some C.size) := (by rw [HCM.out.size]; exact zero_mem.2 : (Tryz.prog.info? 37).map (·.size) = some C.size)
    have HR3 : Hid ((W0.setCell ⟨w.heap.size, 85 + n, none⟩ (.int .i16 (IntKind.i16.wrap num))).heap[w.heap.size + 1 + 1]? = some (.cells Z 37 (0, 0))) := row_other (h3) _ _ (by omega) _
    have HLD : Hid ((loadVar 37 ⟨w.heap.size, 0, none⟩).run Tryz.prog (W0.setCell ⟨w.heap.size, 85 + n, none⟩ (.int .i16 (IntKind.i16.wrap num))) = .ok (.agg C) (W0.setCell ⟨w.heap.size, 85 + n, none⟩ (.int .i16 (IntKind.i16.wrap num)))) := load_all HR1.out _ _ Tryz.underlying37 rfl HI.out
    have HSD : Hid ((storeVar 37 ⟨w.heap.size + 1 + 1, 0, none⟩ (.agg C)).run Tryz.prog (W0.setCell ⟨w.heap.size, 85 + n, none⟩ (.int .i16 (IntKind.i16.wrap num))) = .ok () ((W0.setCell ⟨w.heap.size, 85 + n, none⟩ (.int .i16 (IntKind.i16.wrap num))).setRow (w.heap.size + 1 + 1) C)) := store_all HR3.out _ _ (HZs.out.trans HCM.out.size.symm) HI.out HCM.out.one
    have HB : Hid (Below w.heap.size w ((W0.setCell ⟨w.heap.size, 85 + n, none⟩ (.int .i16 (IntKind.i16.wrap num))).setRow (w.heap.size + 1 + 1) C)) := below_setRow ((bW).setCell (p := ⟨w.heap.size, 85 + n, none⟩) (by simp) _) (by omega) _
    clear h1 h3 bW hn7 hn8 hn9 HV row0 HOK
    go_enter Tryz.func97, Tryz.ntmps97
    go_wp2_with fail
    rw [← HW0.out]
    refine (HT1.out _).mono ?_
    rintro e w1 ⟨rfl, hw⟩
    rw [hw]
    clear hw w1
    go_wp2_with fail
    refine (HT2.out _).mono ?_
    rintro e w1 ⟨rfl, hw⟩
    rw [hw]
    clear hw w1
    go_wp2_with fail
    refine (HN.out _).mono ?_
    rintro e w1 ⟨rfl, hw⟩
    rw [hw]
    clear hw w1
    clear HT1 HT2 HN HW0 hz
    go_wp2_with (first | (refine wpL_load rfl 37 _ rfl _ _ rfl _ HLD.out ?_) | (refine wpL_store rfl 37 _ _ rfl _ _ rfl _ rfl _ HSD.out ?_) | exact ret_row rfl rfl (row_set HR3.out _) Tryz.underlying37 rfl HI.out rfl ⟨rfl, HB.out⟩ | fail)
  · have e7 : (k == 7) = false := by simp [k7]
    have e8 : (k == 8) = false := by simp [k8]
    have e9 : (k == 9) = false := by simp [k9]
    have HV := vput_0 c k n num true b2 b1 k7 k8 k9
    rw [HV]
    have HCM : Hid (MemOk c) := HC.out
    have HR1 : Hid (W0.heap[w.heap.size]? = some (.cells c 37 (0, 0))) := h1
    have HI : Hid ((Tryz.prog.info? 37).map (·.size) = some c.size) := (by rw [HCM.out.size]; exact zero_mem.2 : (Tryz.prog.info? 37).map (·.size) = some c.size)
    have HR3 : Hid (W0.heap[w.heap.size + 1 + 1]? = some (.cells Z 37 (0, 0))) := h3
    have HLD : Hid ((loadVar 37 ⟨w.heap.size, 0, none⟩).run Tryz.prog W0 = .ok (.agg c) W0) := load_all HR1.out _ _ Tryz.underlying37 rfl HI.out
    have HSD : Hid ((storeVar 37 ⟨w.heap.size + 1 + 1, 0, none⟩ (.agg c)).run Tryz.prog W0 = .ok () (W0.setRow (w.heap.size + 1 + 1) c)) := store_all HR3.out _ _ (HZs.out.trans HCM.out.size.symm) HI.out HCM.out.one
    have HB : Hid (Below w.heap.size w (W0.setRow (w.heap.size + 1 + 1) c)) := below_setRow (bW) (by omega) _
    clear h1 h3 bW hn7 hn8 hn9 HV
    go_enter Tryz.func97, Tryz.ntmps97
    go_wp2_with fail
    rw [← HW0.out]
    refine (HT1.out _).mono ?_
    rintro e w1 ⟨rfl, hw⟩
    rw [hw]
    clear hw w1
    go_wp2_with fail
    refine (HT2.out _).mono ?_
    rintro e w1 ⟨rfl, hw⟩
    rw [hw]
    clear hw w1
    go_wp2_with fail
    refine (HN.out _).mono ?_
    rintro e w1 ⟨rfl, hw⟩
    rw [hw]
    clear hw w1
    clear HT1 HT2 HN HW0 hz
    go_wp2_with (first | (refine wpL_load rfl 37 _ rfl _ _ rfl _ HLD.out ?_) | (refine wpL_store rfl 37 _ _ rfl _ _ rfl _ rfl _ HSD.out ?_) | exact ret_row rfl rfl (row_set HR3.out _) Tryz.underlying37 rfl HI.out rfl ⟨rfl, HB.out⟩ | fail)
end Go.Proofs.YtjnddfpieogpiaaGreatDoor
