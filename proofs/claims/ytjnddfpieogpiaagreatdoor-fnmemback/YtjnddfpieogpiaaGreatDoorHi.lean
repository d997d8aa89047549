/- The specification's l5Value at a real number. -/
import Derived.Test.YtjnddfpieogpiaaGreatDoorHh
import Derived.Test.YtjnddfpieogpiaaGreatDoorMj
namespace Go.Proofs.YtjnddfpieogpiaaGreatDoor
open Go.RowKit
set_option linter.unusedVariables false

set_option maxRecDepth 10000 in
set_option maxHeartbeats 2000000 in
theorem value_r (c : Array Value) (hc : MemOk c) (n : Nat) (p : Int) (s : ByteArray) (w : World) (P : Nat → Bool → Prop)
    (HN : Hid (∀ W, Calls Tryz.prog 145 #[.string s] W fun e w' => ∃ x b, e = .returned (.tuple #[.float .f64 x, .bool b]) ∧ P x b ∧ Below W.heap.size W w')) :
    Calls Tryz.prog 97 #[.agg c, .agg #[.int .i64 10, .int .i64 n, .int .i64 p], .string s] w fun e w' => ∃ x b, e = .returned (.agg (putk c 10 117 10 n (.float .f64 x))) ∧ P x b ∧ Below w.heap.size w w' := by
  have HC : Hid (MemOk c) := hc
  clear hc
  have hz := zero_mem.1
  obtain ⟨Z, HZ⟩ : ∃ Z, Hid (Z = memZero) := ⟨_, rfl⟩
  rw [← HZ.out] at hz
  have HZs : Hid (Z.size = 136) := (by rw [HZ.out, memZero_size] : Z.size = 136)
  obtain ⟨W0, HW0⟩ : ∃ W0, Hid (W0 = ((w.alloc (.cells c 37)).alloc (.cells #[.int .i64 10, .int .i64 n, .int .i64 p] 54)).alloc (.cells Z 37)) := ⟨_, rfl⟩
  have h1 : W0.heap[w.heap.size]? = some (.cells c 37 (0, 0)) := by rw [HW0.out]; exact (rows3 w _ _ _).1
  have h2 : W0.heap[w.heap.size + 1]? = some (.cells #[.int .i64 10, .int .i64 n, .int .i64 p] 54 (0, 0)) := by rw [HW0.out]; exact (rows3 w _ _ _).2.1
  have h3 : W0.heap[w.heap.size + 1 + 1]? = some (.cells Z 37 (0, 0)) := by rw [HW0.out]; exact (rows3 w _ _ _).2.2
  have z1 : W0.heap.size = w.heap.size + 3 := by rw [HW0.out]; simp
  have bW : Below w.heap.size w W0 := by rw [HW0.out]; exact (((Below.refl _ _).alloc (Nat.le_refl _) _).alloc (by simp) _).alloc (by simp <;> omega) _
  have r0 : W0.cell? ⟨w.heap.size + 1, 0, none⟩ = some (.int .i64 10) := (cell_of_row _ _ _ _ _ _ h2).trans rfl
  have HH1 : Hid (W0.heap[w.heap.size]? = some (.cells c 37 (0, 0))) := h1
  have HH2 : Hid (W0.heap[w.heap.size + 1]? = some (.cells #[.int .i64 10, .int .i64 n, .int .i64 p] 54 (0, 0))) := h2
  have HH3 : Hid (W0.heap[w.heap.size + 1 + 1]? = some (.cells Z 37 (0, 0))) := h3
  have HbW : Hid (Below w.heap.size w W0) := bW
  clear h1 h2 h3 bW
  go_enter Tryz.func97, Tryz.ntmps97
  go_wp2_with fail
  rw [← HW0.out]
  refine (HN.out _).mono ?_
  rintro e w1 ⟨x, b, rfl, hP, g1⟩
  have HP : Hid (P x b) := hP
  clear hP r0 HW0
  have b1 : Below w.heap.size w w1 := HbW.out.trans (g1.mono (by omega))
  have h1 : w1.heap[w.heap.size]? = some (.cells c 37 (0, 0)) := (g1.block _ (by omega)).trans HH1.out
  have h2 : w1.heap[w.heap.size + 1]? = some (.cells #[.int .i64 10, .int .i64 n, .int .i64 p] 54 (0, 0)) := (g1.block _ (by omega)).trans HH2.out
  have h3 : w1.heap[w.heap.size + 1 + 1]? = some (.cells Z 37 (0, 0)) := (g1.block _ (by omega)).trans HH3.out
  have z2 : w.heap.size + 3 ≤ w1.heap.size := by have := g1.size; omega
  have HI : Hid ((Tryz.prog.info? 37).map (·.size) = some c.size) := (by rw [HC.out.size]; exact zero_mem.2 : (Tryz.prog.info? 37).map (·.size) = some c.size)
  have HLD : Hid ((loadVar 37 ⟨w.heap.size, 0, none⟩).run Tryz.prog w1 = .ok (.agg c) w1) := load_all h1 _ _ Tryz.underlying37 rfl HI.out
  have q0 : w1.cell? ⟨w.heap.size + 1, 0, none⟩ = some (.int .i64 10) := (cell_of_row _ _ _ _ _ _ h2).trans rfl
  have q1 : w1.cell? ⟨w.heap.size + 1, 1, none⟩ = some (.int .i64 (n : Int)) := (cell_of_row _ _ _ _ _ _ h2).trans rfl
  have q2 : w1.cell? ⟨w.heap.size + 1, 2, none⟩ = some (.int .i64 p) := (cell_of_row _ _ _ _ _ _ h2).trans rfl
  have HB1 : Hid (Below w.heap.size w w1) := b1
  have HG3 : Hid (w1.heap[w.heap.size + 1 + 1]? = some (.cells Z 37 (0, 0))) := h3
  clear g1 h1 h2 h3 b1
  go_wp2_with (first | (refine wpL_load rfl 37 _ rfl _ _ rfl _ HLD.out ?_) | fail)
  refine (putr_s c HC.out 10 n p x w1).mono ?_
  rintro e w2 ⟨rfl, g2⟩
  clear HLD q0 q1 q2 HI
  obtain ⟨C, HCC⟩ : ∃ C, Hid (C = putk c 10 117 10 n (.float .f64 x)) := ⟨_, rfl⟩
  rw [← HCC.out]
  have HCs : Hid (C.size = 136) := (by rw [HCC.out]; unfold putk; rw [if_pos rfl]; simpa using HC.out.size : C.size = 136)
  have HCo : Hid (C.all (·.oneCell') = true) := (by rw [HCC.out]; unfold putk; rw [if_pos rfl]; exact one_set HC.out.one _ rfl : C.all (·.oneCell') = true)
  have HI : Hid ((Tryz.prog.info? 37).map (·.size) = some C.size) := (by rw [HCs.out]; exact zero_mem.2 : (Tryz.prog.info? 37).map (·.size) = some C.size)
  have HR3 : Hid (w2.heap[w.heap.size + 1 + 1]? = some (.cells Z 37 (0, 0))) := (g2.block _ (by omega)).trans HG3.out
  have HSD : Hid ((storeVar 37 ⟨w.heap.size + 1 + 1, 0, none⟩ (.agg C)).run Tryz.prog w2 = .ok () (w2.setRow (w.heap.size + 1 + 1) C)) := store_all HR3.out _ _ (HZs.out.trans HCs.out.symm) HI.out HCo.out
  have HB : Hid (Below w.heap.size w (w2.setRow (w.heap.size + 1 + 1) C)) := below_setRow (HB1.out.trans (g2.mono (by omega))) (by omega) _
  clear g2 hz
  go_wp2_with (first | (refine wpL_store rfl 37 _ _ rfl _ _ rfl _ rfl _ HSD.out ?_) | exact ret_row rfl rfl (row_set HR3.out _) Tryz.underlying37 rfl HI.out rfl ⟨x, b, by rw [HCC.out], HP.out, HB.out⟩ | fail)
set_option maxRecDepth 10000 in
set_option maxHeartbeats 4000000 in
theorem value_o (c : Array Value) (hc : MemOk c) (k : Int) (n : Int) (p : Int) (h10 : k ≠ 10) (k7 : k ≠ 7) (k8 : k ≠ 8) (k9 : k ≠ 9) (s : ByteArray) (hs : s.size ≤ 4194304) (num : Int) (ok : Bool) (w : World)
    (HN : Hid (∀ W, Calls Tryz.prog 95 #[.string (tailB (tailB s 43).1 33).1] W fun e w' => e = .returned (.tuple #[.int .i64 num, .bool ok]) ∧ w' = W)) :
    Calls Tryz.prog 97 #[.agg c, .agg #[.int .i64 k, .int .i64 n, .int .i64 p], .string s] w fun e w' => e = .returned (.agg c) ∧ Below w.heap.size w w' := by
  have HC : Hid (MemOk c) := hc
  have z43 := tailB_size s 43
  have HT1 : Hid (∀ W, Calls Tryz.prog 147 #[.string s, .int .u8 43] W fun e w' => e = .returned (.tuple #[.string (tailB s 43).1, .bool (tailB s 43).2]) ∧ w' = W) := fun W => tail_s s 43 W hs
  have HT2 : Hid (∀ W, Calls Tryz.prog 147 #[.string (tailB s 43).1, .int .u8 33] W fun e w' => e = .returned (.tuple #[.string (tailB (tailB s 43).1 33).1, .bool (tailB (tailB s 43).1 33).2]) ∧ w' = W) := fun W => tail_s _ 33 W (by omega)
  generalize tailB s 43 = t1 at *
  generalize tailB t1.1 33 = t2 at *
  obtain ⟨T1, b1⟩ := t1
  obtain ⟨T2, b2⟩ := t2
  simp only at HT1 HT2 HN ⊢
  have e10 : (k == 10) = false := by simp [h10]
  have hz := zero_mem.1
  obtain ⟨Z, HZ⟩ : ∃ Z, Hid (Z = memZero) := ⟨_, rfl⟩
  rw [← HZ.out] at hz
  have HZs : Hid (Z.size = 136) := (by rw [HZ.out, memZero_size] : Z.size = 136)
  obtain ⟨W0, HW0⟩ : ∃ W0, Hid (W0 = ((w.alloc (.cells c 37)).alloc (.cells #[.int .i64 k, .int .i64 n, .int .i64 p] 54)).alloc (.cells Z 37)) := ⟨_, rfl⟩
  have h1 : W0.heap[w.heap.size]? = some (.cells c 37 (0, 0)) := by rw [HW0.out]; exact (rows3 w _ _ _).1
  have h2 : W0.heap[w.heap.size + 1]? = some (.cells #[.int .i64 k, .int .i64 n, .int .i64 p] 54 (0, 0)) := by rw [HW0.out]; exact (rows3 w _ _ _).2.1
  have h3 : W0.heap[w.heap.size + 1 + 1]? = some (.cells Z 37 (0, 0)) := by rw [HW0.out]; exact (rows3 w _ _ _).2.2
  have bW : Below w.heap.size w W0 := by rw [HW0.out]; exact (((Below.refl _ _).alloc (Nat.le_refl _) _).alloc (by simp) _).alloc (by simp <;> omega) _
  have r0 : W0.cell? ⟨w.heap.size + 1, 0, none⟩ = some (.int .i64 k) := (cell_of_row _ _ _ _ _ _ h2).trans rfl
  have r1 : W0.cell? ⟨w.heap.size + 1, 1, none⟩ = some (.int .i64 (n : Int)) := (cell_of_row _ _ _ _ _ _ h2).trans rfl
  clear hc h2
  by_cases hg : ok = false ∨ num < -32768 ∨ 65535 < num
  · skip
    rcases (by cases ok with | false => exact .inl rfl | true => exact .inr ⟨rfl, by simpa using hg⟩ : ok = false ∨ (ok = true ∧ (num < -32768 ∨ 65535 < num))) with ho | ⟨ho, hg2⟩
    · subst ho
      clear hg
      have HCM : Hid (MemOk c) := HC.out
      have HR1 : Hid (W0.heap[w.heap.size]? = some (.cells c 37 (0, 0))) := h1
      have HI : Hid ((Tryz.prog.info? 37).map (·.size) = some c.size) := (by rw [HCM.out.size]; exact zero_mem.2 : (Tryz.prog.info? 37).map (·.size) = some c.size)
      have HR3 : Hid (W0.heap[w.heap.size + 1 + 1]? = some (.cells Z 37 (0, 0))) := h3
      have HLD : Hid ((loadVar 37 ⟨w.heap.size, 0, none⟩).run Tryz.prog W0 = .ok (.agg c) W0) := load_all HR1.out _ _ Tryz.underlying37 rfl HI.out
      have HSD : Hid ((storeVar 37 ⟨w.heap.size + 1 + 1, 0, none⟩ (.agg c)).run Tryz.prog W0 = .ok () (W0.setRow (w.heap.size + 1 + 1) c)) := store_all HR3.out _ _ (HZs.out.trans HCM.out.size.symm) HI.out HCM.out.one
      have HB : Hid (Below w.heap.size w (W0.setRow (w.heap.size + 1 + 1) c)) := below_setRow (bW) (by omega) _
      clear h1 h3 bW
      go_enter Tryz.func97, Tryz.ntmps97
      go_wp2_with fail
      rw [← HW0.out]
      refine (HT1.out _).mono ?_
      rintro e w1 ⟨rfl, hw⟩
      rw [hw]
      clear hw w1
      go_wp2_with fail
      refine (HT2.out _).mono ?_
      rintro e w1 ⟨rfl, hw⟩
      rw [hw]
      clear hw w1
      go_wp2_with fail
      refine (HN.out _).mono ?_
      rintro e w1 ⟨rfl, hw⟩
      rw [hw]
      clear hw w1
      clear HT1 HT2 HN HW0 hz
      go_wp2_with (first | (refine wpL_load rfl 37 _ rfl _ _ rfl _ HLD.out ?_) | (refine wpL_store rfl 37 _ _ rfl _ _ rfl _ rfl _ HSD.out ?_) | exact ret_row rfl rfl (row_set HR3.out _) Tryz.underlying37 rfl HI.out rfl ⟨rfl, HB.out⟩ | fail)
    · subst ho
      clear hg
      by_cases g1 : num < -32768
      · clear hg2
        have HCM : Hid (MemOk c) := HC.out
        have HR1 : Hid (W0.heap[w.heap.size]? = some (.cells c 37 (0, 0))) := h1
        have HI : Hid ((Tryz.prog.info? 37).map (·.size) = some c.size) := (by rw [HCM.out.size]; exact zero_mem.2 : (Tryz.prog.info? 37).map (·.size) = some c.size)
        have HR3 : Hid (W0.heap[w.heap.size + 1 + 1]? = some (.cells Z 37 (0, 0))) := h3
        have HLD : Hid ((loadVar 37 ⟨w.heap.size, 0, none⟩).run Tryz.prog W0 = .ok (.agg c) W0) := load_all HR1.out _ _ Tryz.underlying37 rfl HI.out
        have HSD : Hid ((storeVar 37 ⟨w.heap.size + 1 + 1, 0, none⟩ (.agg c)).run Tryz.prog W0 = .ok () (W0.setRow (w.heap.size + 1 + 1) c)) := store_all HR3.out _ _ (HZs.out.trans HCM.out.size.symm) HI.out HCM.out.one
        have HB : Hid (Below w.heap.size w (W0.setRow (w.heap.size + 1 + 1) c)) := below_setRow (bW) (by omega) _
        clear h1 h3 bW
        go_enter Tryz.func97, Tryz.ntmps97
        go_wp2_with fail
        rw [← HW0.out]
        refine (HT1.out _).mono ?_
        rintro e w1 ⟨rfl, hw⟩
        rw [hw]
        clear hw w1
        go_wp2_with fail
        refine (HT2.out _).mono ?_
        rintro e w1 ⟨rfl, hw⟩
        rw [hw]
        clear hw w1
        go_wp2_with fail
        refine (HN.out _).mono ?_
        rintro e w1 ⟨rfl, hw⟩
        rw [hw]
        clear hw w1
        clear HT1 HT2 HN HW0 hz
        go_wp2_with (first | (refine wpL_load rfl 37 _ rfl _ _ rfl _ HLD.out ?_) | (refine wpL_store rfl 37 _ _ rfl _ _ rfl _ rfl _ HSD.out ?_) | exact ret_row rfl rfl (row_set HR3.out _) Tryz.underlying37 rfl HI.out rfl ⟨rfl, HB.out⟩ | fail)
      · have g2 : 65535 < num := by omega
        clear hg2
        have HCM : Hid (MemOk c) := HC.out
        have HR1 : Hid (W0.heap[w.heap.size]? = some (.cells c 37 (0, 0))) := h1
        have HI : Hid ((Tryz.prog.info? 37).map (·.size) = some c.size) := (by rw [HCM.out.size]; exact zero_mem.2 : (Tryz.prog.info? 37).map (·.size) = some c.size)
        have HR3 : Hid (W0.heap[w.heap.size + 1 + 1]? = some (.cells Z 37 (0, 0))) := h3
        have HLD : Hid ((loadVar 37 ⟨w.heap.size, 0, none⟩).run Tryz.prog W0 = .ok (.agg c) W0) := load_all HR1.out _ _ Tryz.underlying37 rfl HI.out
        have HSD : Hid ((storeVar 37 ⟨w.heap.size + 1 + 1, 0, none⟩ (.agg c)).run Tryz.prog W0 = .ok () (W0.setRow (w.heap.size + 1 + 1) c)) := store_all HR3.out _ _ (HZs.out.trans HCM.out.size.symm) HI.out HCM.out.one
        have HB : Hid (Below w.heap.size w (W0.setRow (w.heap.size + 1 + 1) c)) := below_setRow (bW) (by omega) _
        clear h1 h3 bW
        go_enter Tryz.func97, Tryz.ntmps97
        go_wp2_with fail
        rw [← HW0.out]
        refine (HT1.out _).mono ?_
        rintro e w1 ⟨rfl, hw⟩
        rw [hw]
        clear hw w1
        go_wp2_with fail
        refine (HT2.out _).mono ?_
        rintro e w1 ⟨rfl, hw⟩
        rw [hw]
        clear hw w1
        go_wp2_with fail
        refine (HN.out _).mono ?_
        rintro e w1 ⟨rfl, hw⟩
        rw [hw]
        clear hw w1
        clear HT1 HT2 HN HW0 hz
        go_wp2_with (first | (refine wpL_load rfl 37 _ rfl _ _ rfl _ HLD.out ?_) | (refine wpL_store rfl 37 _ _ rfl _ _ rfl _ rfl _ HSD.out ?_) | exact ret_row rfl rfl (row_set HR3.out _) Tryz.underlying37 rfl HI.out rfl ⟨rfl, HB.out⟩ | fail)
  have ho : ok = true := by cases ok with | false => exact absurd (.inl rfl) hg | true => rfl
  have g1 : ¬ (num < -32768) := fun h => hg (.inr (.inl h))
  have g2 : ¬ (65535 < num) := fun h => hg (.inr (.inr h))
  subst ho
  · have e7 : (k == 7) = false := by simp [k7]
    have e8 : (k == 8) = false := by simp [k8]
    have e9 : (k == 9) = false := by simp [k9]
    have HCM : Hid (MemOk c) := HC.out
    have HR1 : Hid (W0.heap[w.heap.size]? = some (.cells c 37 (0, 0))) := h1
    have HI : Hid ((Tryz.prog.info? 37).map (·.size) = some c.size) := (by rw [HCM.out.size]; exact zero_mem.2 : (Tryz.prog.info? 37).map (·.size) = some c.size)
    have HR3 : Hid (W0.heap[w.heap.size + 1 + 1]? = some (.cells Z 37 (0, 0))) := h3
    have HLD : Hid ((loadVar 37 ⟨w.heap.size, 0, none⟩).run Tryz.prog W0 = .ok (.agg c) W0) := load_all HR1.out _ _ Tryz.underlying37 rfl HI.out
    have HSD : Hid ((storeVar 37 ⟨w.heap.size + 1 + 1, 0, none⟩ (.agg c)).run Tryz.prog W0 = .ok () (W0.setRow (w.heap.size + 1 + 1) c)) := store_all HR3.out _ _ (HZs.out.trans HCM.out.size.symm) HI.out HCM.out.one
    have HB : Hid (Below w.heap.size w (W0.setRow (w.heap.size + 1 + 1) c)) := below_setRow (bW) (by omega) _
    clear h1 h3 bW
    go_enter Tryz.func97, Tryz.ntmps97
    go_wp2_with fail
    rw [← HW0.out]
    refine (HT1.out _).mono ?_
    rintro e w1 ⟨rfl, hw⟩
    rw [hw]
    clear hw w1
    go_wp2_with fail
    refine (HT2.out _).mono ?_
    rintro e w1 ⟨rfl, hw⟩
    rw [hw]
    clear hw w1
    go_wp2_with fail
    refine (HN.out _).mono ?_
    rintro e w1 ⟨rfl, hw⟩
    rw [hw]
    clear hw w1
    clear HT1 HT2 HN HW0 hz
    go_wp2_with (first | (refine wpL_load rfl 37 _ rfl _ _ rfl _ HLD.out ?_) | (refine wpL_store rfl 37 _ _ rfl _ _ rfl _ rfl _ HSD.out ?_) | exact ret_row rfl rfl (row_set HR3.out _) Tryz.underlying37 rfl HI.out rfl ⟨rfl, HB.out⟩ | fail)
end Go.Proofs.YtjnddfpieogpiaaGreatDoor
