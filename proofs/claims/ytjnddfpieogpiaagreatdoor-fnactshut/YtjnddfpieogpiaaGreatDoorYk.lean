/- ActTest of the specification: edges. -/
import Derived.Test.YtjnddfpieogpiaaGreatDoorYeM
import Derived.Test.YtjnddfpieogpiaaGreatDoorMw
namespace Go.Proofs.YtjnddfpieogpiaaGreatDoor
open Go.RowKit Go.Shelf Rr Ee
set_option linter.unusedVariables false


set_option maxRecDepth 10000 in
set_option maxHeartbeats 4000000 in
theorem st_3e (k n m n1 m1 : Int) (a : Option Addr) (len cap : Nat) (c : Array Value) (hc : MemOk c) (w : World)
    (HA0 : Hid (∀ W, Below w.heap.size w W → Calls Tryz.prog 40 #[.agg #[.int .i64 3, .slice a len cap], .int .i64 0] W fun e w' => e = .returned (.agg #[.int .i64 k, .int .i64 n, .int .i64 m]) ∧ Below W.heap.size W w'))
    (HA1 : Hid (∀ W, Below w.heap.size w W → Calls Tryz.prog 40 #[.agg #[.int .i64 3, .slice a len cap], .int .i64 1] W fun e w' => e = .returned (.agg #[.int .i64 5, .int .i64 n1, .int .i64 m1]) ∧ Below W.heap.size W w')) :
    Calls Tryz.prog 14 #[.agg c, .agg #[.int .i64 3, .slice a len cap]] w fun e w' => e = .returned (.tuple #[.agg (putb c 5 n1 (mbit c k n)), .bool (mbit c k n && !mbit c 5 n1)]) ∧ Below w.heap.size w w' := by
  have HC : Hid (MemOk c) := hc
  have hz := zero_mem.1
  obtain ⟨Z, HZ⟩ : ∃ Z, Hid (Z = memZero) := ⟨_, rfl⟩
  rw [← HZ.out] at hz
  have HZs : Hid (Z.size = 136) := (by rw [HZ.out, memZero_size] : Z.size = 136)
  have HI : Hid ((Tryz.prog.info? 37).map (·.size) = some c.size) := by rw [HC.out.size]; exact zero_mem.2
  obtain ⟨now, Hn⟩ : ∃ v, Hid (v = mbit c k n) := ⟨_, rfl⟩
  rw [← Hn.out]
  have HNow : Hid (∀ W, Calls Tryz.prog 16 #[.agg c, .agg #[.int .i64 k, .int .i64 n, .int .i64 m]] W fun e w' => e = .returned (.bool now) ∧ Below W.heap.size W w') := fun W => by rw [Hn.out]; exact mbit_s c HC.out k n m W
  obtain ⟨was, Hw⟩ : ∃ v, Hid (v = mbit c 5 n1) := ⟨_, rfl⟩
  rw [← Hw.out]
  have HWas : Hid (∀ W, Calls Tryz.prog 16 #[.agg c, .agg #[.int .i64 5, .int .i64 n1, .int .i64 m1]] W fun e w' => e = .returned (.bool was) ∧ Below W.heap.size W w') := fun W => by rw [Hw.out]; exact mbit_s c HC.out 5 n1 m1 W
  obtain ⟨C, HCC⟩ : ∃ C, Hid (C = putb c 5 n1 now) := ⟨_, rfl⟩
  rw [← HCC.out]
  have HCM : Hid (MemOk C) := (by rw [HCC.out]; exact memOk_putb hc 5 n1 now : MemOk C)
  have HIC : Hid ((Tryz.prog.info? 37).map (·.size) = some C.size) := by rw [HCM.out.size]; exact zero_mem.2
  have HPut : Hid (∀ W, Calls Tryz.prog 41 #[.agg c, .agg #[.int .i64 5, .int .i64 n1, .int .i64 m1], .bool now] W fun e w' => e = .returned (.agg C) ∧ Below W.heap.size W w') := fun W => by rw [HCC.out]; exact putb_s c HC.out 5 n1 m1 now W
  clear Hw
  clear Hn
  have r3 := rows3 w (.cells c 37) (.cells #[.int .i64 3, .slice a len cap] 47) (.cells Z 37)
  have bl : Below w.heap.size w (((w.alloc (.cells c 37)).alloc (.cells #[.int .i64 3, .slice a len cap] 47)).alloc (.cells Z 37)) := (((Below.refl _ _).alloc (Nat.le_refl _) _).alloc (by simp) _).alloc (by simp <;> omega) _
  have sz : (((w.alloc (.cells c 37)).alloc (.cells #[.int .i64 3, .slice a len cap] 47)).alloc (.cells Z 37)).heap.size = w.heap.size + 1 + 1 + 1 := by simp
  have HR3 : Hid ((((w.alloc (.cells c 37)).alloc (.cells #[.int .i64 3, .slice a len cap] 47)).alloc (.cells Z 37)).heap[w.heap.size]? = some (.cells c 37 (0, 0)) ∧ (((w.alloc (.cells c 37)).alloc (.cells #[.int .i64 3, .slice a len cap] 47)).alloc (.cells Z 37)).heap[w.heap.size + 1]? = some (.cells #[.int .i64 3, .slice a len cap] 47 (0, 0)) ∧ (((w.alloc (.cells c 37)).alloc (.cells #[.int .i64 3, .slice a len cap] 47)).alloc (.cells Z 37)).heap[w.heap.size + 1 + 1]? = some (.cells Z 37 (0, 0)) ∧ Below w.heap.size w (((w.alloc (.cells c 37)).alloc (.cells #[.int .i64 3, .slice a len cap] 47)).alloc (.cells Z 37)) ∧ (((w.alloc (.cells c 37)).alloc (.cells #[.int .i64 3, .slice a len cap] 47)).alloc (.cells Z 37)).heap.size = w.heap.size + 1 + 1 + 1) := ⟨r3.1, r3.2.1, r3.2.2, bl, sz⟩
  clear hc r3 bl sz
  go_enter Tryz.func14, Tryz.ntmps14
  go_wp2_with fail
  refine (HA0.out _ HR3.out.2.2.2.1).mono ?_
  rintro e w1 ⟨rfl, g1⟩
  have HR1 : Hid (w1.heap[w.heap.size]? = some (.cells c 37 (0, 0)) ∧ w1.heap[w.heap.size + 1]? = some (.cells #[.int .i64 3, .slice a len cap] 47 (0, 0)) ∧ w1.heap[w.heap.size + 1 + 1]? = some (.cells Z 37 (0, 0)) ∧ Below w.heap.size w w1 ∧ w.heap.size + 1 + 1 < w1.heap.size) := by
    have hs := HR3.out.2.2.2.2
    have hz := g1.size
    exact ⟨(g1.block _ (by omega)).trans HR3.out.1, (g1.block _ (by omega)).trans HR3.out.2.1, (g1.block _ (by omega)).trans HR3.out.2.2.1, HR3.out.2.2.2.1.trans (g1.mono HR3.out.2.2.2.1.size), by omega⟩
  have y0 : w1.cell? ⟨w.heap.size + 1, 0, none⟩ = some (.int .i64 3) := (cell_of_row _ _ _ _ _ _ HR1.out.2.1).trans rfl
  have y1 : w1.cell? ⟨w.heap.size + 1, 1, none⟩ = some (.slice a len cap) := (cell_of_row _ _ _ _ _ _ HR1.out.2.1).trans rfl
  have l1 : w.heap.size + 1 < w1.heap.size := by have := HR1.out.2.2.2.2; omega
  clear g1 HR3
  go_wp2_with fail
  refine (HA1.out _ (HR1.out.2.2.2.1.alloc HR1.out.2.2.2.1.size _)).mono ?_
  rintro e w2 ⟨rfl, g2⟩
  obtain ⟨gA, HgA⟩ : ∃ gA, Hid (gA = w1.heap.size) := ⟨_, rfl⟩
  rw [← HgA.out]
  have HR2 : Hid (w2.heap[w.heap.size]? = some (.cells c 37 (0, 0)) ∧ w2.heap[w.heap.size + 1]? = some (.cells #[.int .i64 3, .slice a len cap] 47 (0, 0)) ∧ w2.heap[w.heap.size + 1 + 1]? = some (.cells Z 37 (0, 0)) ∧ w2.heap[gA]? = some (.cells #[.int .i64 k, .int .i64 n, .int .i64 m] 54 (0, 0)) ∧ Below w.heap.size w w2 ∧ w.heap.size + 1 + 1 < gA ∧ gA < w2.heap.size) := by
    obtain ⟨q1, q2, q3, q4, q5⟩ := HR1.out
    have hg := HgA.out
    have hz := g2.size
    have hzz : (w1.alloc (.cells #[.int .i64 k, .int .i64 n, .int .i64 m] 54)).heap.size = w1.heap.size + 1 := by simp
    have al := (Below.refl w1.heap.size w1).alloc (Nat.le_refl _) (.cells #[.int .i64 k, .int .i64 n, .int .i64 m] 54)
    have bb := q4.alloc q4.size (.cells #[.int .i64 k, .int .i64 n, .int .i64 m] 54)
    refine ⟨(g2.block _ (by omega)).trans ((al.block _ (by omega)).trans q1), (g2.block _ (by omega)).trans ((al.block _ (by omega)).trans q2), (g2.block _ (by omega)).trans ((al.block _ (by omega)).trans q3), (g2.block _ (by omega)).trans (by rw [hg]; exact heap_alloc_last _ _), bb.trans (g2.mono bb.size), by omega, by omega⟩
  clear y0 y1 l1 g2 HR1 HgA
  have y0 : w2.cell? ⟨w.heap.size + 1, 0, none⟩ = some (.int .i64 3) := (cell_of_row _ _ _ _ _ _ HR2.out.2.1).trans rfl
  have l1 : w.heap.size + 1 < w2.heap.size := by have := HR2.out.2.2.2.2.2; omega
  have yA : w2.cell? ⟨gA, 0, none⟩ = some (.int .i64 k) := (cell_of_row _ _ _ _ _ _ HR2.out.2.2.2.1).trans rfl
  have yA1 : w2.cell? ⟨gA, 1, none⟩ = some (.int .i64 n) := (cell_of_row _ _ _ _ _ _ HR2.out.2.2.2.1).trans rfl
  have yA2 : w2.cell? ⟨gA, 2, none⟩ = some (.int .i64 m) := (cell_of_row _ _ _ _ _ _ HR2.out.2.2.2.1).trans rfl
  have lA : gA < w2.heap.size := HR2.out.2.2.2.2.2.2
  go_upto_region 8 with fail
  obtain ⟨gB, HgB⟩ : ∃ gB, Hid (gB = w2.heap.size) := ⟨_, rfl⟩
  rw [← HgB.out]
  have HR4 : Hid ((w2.alloc (.cells #[.int .i64 5, .int .i64 n1, .int .i64 m1] 54)).heap[w.heap.size]? = some (.cells c 37 (0, 0)) ∧ (w2.alloc (.cells #[.int .i64 5, .int .i64 n1, .int .i64 m1] 54)).heap[w.heap.size + 1]? = some (.cells #[.int .i64 3, .slice a len cap] 47 (0, 0)) ∧ (w2.alloc (.cells #[.int .i64 5, .int .i64 n1, .int .i64 m1] 54)).heap[gA]? = some (.cells #[.int .i64 k, .int .i64 n, .int .i64 m] 54 (0, 0)) ∧ (w2.alloc (.cells #[.int .i64 5, .int .i64 n1, .int .i64 m1] 54)).heap[gB]? = some (.cells #[.int .i64 5, .int .i64 n1, .int .i64 m1] 54 (0, 0)) ∧ (w2.alloc (.cells #[.int .i64 5, .int .i64 n1, .int .i64 m1] 54)).heap[w.heap.size + 1 + 1]? = some (.cells Z 37 (0, 0)) ∧ Below w.heap.size w (w2.alloc (.cells #[.int .i64 5, .int .i64 n1, .int .i64 m1] 54)) ∧ w.heap.size + 1 + 1 < gA ∧ gA < gB) := by
    obtain ⟨q1, q2, q3, q5, q4, q6, q7⟩ := HR2.out
    have hg := HgB.out
    have al := (Below.refl w2.heap.size w2).alloc (Nat.le_refl _) (.cells #[.int .i64 5, .int .i64 n1, .int .i64 m1] 54)
    exact ⟨(al.block _ (by omega)).trans q1, (al.block _ (by omega)).trans q2, (al.block _ (by omega)).trans q5, by rw [hg]; exact heap_alloc_last _ _, (al.block _ (by omega)).trans q3, q4.alloc q4.size _, q6, by omega⟩
  obtain ⟨h1, h2, hA, hB, h3, bl, la, lb⟩ := HR4.out
  have hla : Hid (w.heap.size + 1 + 1 < gA ∧ gA < gB) := ⟨la, lb⟩
  clear la lb HR4 HR2
  generalize (w2.alloc (.cells #[.int .i64 5, .int .i64 n1, .int .i64 m1] 54)) = w0 at h1 h2 hA hB h3 bl ⊢
  clear HgB y0 l1 yA yA1 yA2 lA
  have z0 : w0.cell? ⟨w.heap.size + 1, 0, none⟩ = some (.int .i64 3) := (cell_of_row _ _ _ _ _ _ h2).trans rfl
  have zA0 : w0.cell? ⟨gA, 0, none⟩ = some (.int .i64 k) := (cell_of_row _ _ _ _ _ _ hA).trans rfl
  have zA1 : w0.cell? ⟨gA, 1, none⟩ = some (.int .i64 n) := (cell_of_row _ _ _ _ _ _ hA).trans rfl
  have zA2 : w0.cell? ⟨gA, 2, none⟩ = some (.int .i64 m) := (cell_of_row _ _ _ _ _ _ hA).trans rfl
  have zB0 : w0.cell? ⟨gB, 0, none⟩ = some (.int .i64 5) := (cell_of_row _ _ _ _ _ _ hB).trans rfl
  have zB1 : w0.cell? ⟨gB, 1, none⟩ = some (.int .i64 n1) := (cell_of_row _ _ _ _ _ _ hB).trans rfl
  have zB2 : w0.cell? ⟨gB, 2, none⟩ = some (.int .i64 m1) := (cell_of_row _ _ _ _ _ _ hB).trans rfl
  have HL : Hid ((loadVar 37 ⟨w.heap.size, 0, none⟩).run Tryz.prog w0 = .ok (.agg c) w0) := load_all h1 _ _ Tryz.underlying37 rfl HI.out
  go_wp2_with (first | (refine wpL_load rfl 37 _ rfl _ _ rfl _ HL.out ?_) | (refine wpL_loadW rfl 37 _ rfl _ _ rfl _ HL.out ?_) | fail)
  refine (HNow.out _).mono ?_
  rintro e w3 ⟨rfl, g3⟩
  have HRn : Hid (w3.heap[w.heap.size]? = some (.cells c 37 (0, 0)) ∧ w3.heap[w.heap.size + 1]? = some (.cells #[.int .i64 3, .slice a len cap] 47 (0, 0)) ∧ w3.heap[gA]? = some (.cells #[.int .i64 k, .int .i64 n, .int .i64 m] 54 (0, 0)) ∧ w3.heap[gB]? = some (.cells #[.int .i64 5, .int .i64 n1, .int .i64 m1] 54 (0, 0)) ∧ w3.heap[w.heap.size + 1 + 1]? = some (.cells Z 37 (0, 0)) ∧ Below w.heap.size w w3) := by
    have l1 := (Array.getElem?_eq_some_iff.1 h1).1
    have l2 := (Array.getElem?_eq_some_iff.1 h2).1
    have lA := (Array.getElem?_eq_some_iff.1 hA).1
    have lB := (Array.getElem?_eq_some_iff.1 hB).1
    have l3 := (Array.getElem?_eq_some_iff.1 h3).1
    exact ⟨(g3.block _ l1).trans h1, (g3.block _ l2).trans h2, (g3.block _ lA).trans hA, (g3.block _ lB).trans hB, (g3.block _ l3).trans h3, bl.trans (g3.mono bl.size)⟩
  clear h1 h2 hA hB h3 bl z0 zA0 zA1 zA2 zB0 zB1 zB2 g3 HL
  obtain ⟨h1, h2, hA, hB, h3, bl⟩ := HRn.out
  clear HRn
  have z0 : w3.cell? ⟨w.heap.size + 1, 0, none⟩ = some (.int .i64 3) := (cell_of_row _ _ _ _ _ _ h2).trans rfl
  have zA0 : w3.cell? ⟨gA, 0, none⟩ = some (.int .i64 k) := (cell_of_row _ _ _ _ _ _ hA).trans rfl
  have zA1 : w3.cell? ⟨gA, 1, none⟩ = some (.int .i64 n) := (cell_of_row _ _ _ _ _ _ hA).trans rfl
  have zA2 : w3.cell? ⟨gA, 2, none⟩ = some (.int .i64 m) := (cell_of_row _ _ _ _ _ _ hA).trans rfl
  have zB0 : w3.cell? ⟨gB, 0, none⟩ = some (.int .i64 5) := (cell_of_row _ _ _ _ _ _ hB).trans rfl
  have zB1 : w3.cell? ⟨gB, 1, none⟩ = some (.int .i64 n1) := (cell_of_row _ _ _ _ _ _ hB).trans rfl
  have zB2 : w3.cell? ⟨gB, 2, none⟩ = some (.int .i64 m1) := (cell_of_row _ _ _ _ _ _ hB).trans rfl
  have HL : Hid ((loadVar 37 ⟨w.heap.size, 0, none⟩).run Tryz.prog w3 = .ok (.agg c) w3) := load_all h1 _ _ Tryz.underlying37 rfl HI.out
  go_wp2_with (first | (refine wpL_load rfl 37 _ rfl _ _ rfl _ HL.out ?_) | (refine wpL_loadW rfl 37 _ rfl _ _ rfl _ HL.out ?_) | fail)
  refine (HWas.out _).mono ?_
  rintro e w4 ⟨rfl, g4⟩
  have HRn : Hid (w4.heap[w.heap.size]? = some (.cells c 37 (0, 0)) ∧ w4.heap[w.heap.size + 1]? = some (.cells #[.int .i64 3, .slice a len cap] 47 (0, 0)) ∧ w4.heap[gA]? = some (.cells #[.int .i64 k, .int .i64 n, .int .i64 m] 54 (0, 0)) ∧ w4.heap[gB]? = some (.cells #[.int .i64 5, .int .i64 n1, .int .i64 m1] 54 (0, 0)) ∧ w4.heap[w.heap.size + 1 + 1]? = some (.cells Z 37 (0, 0)) ∧ Below w.heap.size w w4) := by
    have l1 := (Array.getElem?_eq_some_iff.1 h1).1
    have l2 := (Array.getElem?_eq_some_iff.1 h2).1
    have lA := (Array.getElem?_eq_some_iff.1 hA).1
    have lB := (Array.getElem?_eq_some_iff.1 hB).1
    have l3 := (Array.getElem?_eq_some_iff.1 h3).1
    exact ⟨(g4.block _ l1).trans h1, (g4.block _ l2).trans h2, (g4.block _ lA).trans hA, (g4.block _ lB).trans hB, (g4.block _ l3).trans h3, bl.trans (g4.mono bl.size)⟩
  clear h1 h2 hA hB h3 bl z0 zA0 zA1 zA2 zB0 zB1 zB2 g4 HL
  obtain ⟨h1, h2, hA, hB, h3, bl⟩ := HRn.out
  clear HRn
  have z0 : w4.cell? ⟨w.heap.size + 1, 0, none⟩ = some (.int .i64 3) := (cell_of_row _ _ _ _ _ _ h2).trans rfl
  have zA0 : w4.cell? ⟨gA, 0, none⟩ = some (.int .i64 k) := (cell_of_row _ _ _ _ _ _ hA).trans rfl
  have zA1 : w4.cell? ⟨gA, 1, none⟩ = some (.int .i64 n) := (cell_of_row _ _ _ _ _ _ hA).trans rfl
  have zA2 : w4.cell? ⟨gA, 2, none⟩ = some (.int .i64 m) := (cell_of_row _ _ _ _ _ _ hA).trans rfl
  have zB0 : w4.cell? ⟨gB, 0, none⟩ = some (.int .i64 5) := (cell_of_row _ _ _ _ _ _ hB).trans rfl
  have zB1 : w4.cell? ⟨gB, 1, none⟩ = some (.int .i64 n1) := (cell_of_row _ _ _ _ _ _ hB).trans rfl
  have zB2 : w4.cell? ⟨gB, 2, none⟩ = some (.int .i64 m1) := (cell_of_row _ _ _ _ _ _ hB).trans rfl
  have HL : Hid ((loadVar 37 ⟨w.heap.size, 0, none⟩).run Tryz.prog w4 = .ok (.agg c) w4) := load_all h1 _ _ Tryz.underlying37 rfl HI.out
  go_wp2_with (first | (refine wpL_load rfl 37 _ rfl _ _ rfl _ HL.out ?_) | (refine wpL_loadW rfl 37 _ rfl _ _ rfl _ HL.out ?_) | fail)
  refine (HPut.out _).mono ?_
  rintro e w5 ⟨rfl, g5⟩
  have HRn : Hid (w5.heap[w.heap.size]? = some (.cells c 37 (0, 0)) ∧ w5.heap[w.heap.size + 1]? = some (.cells #[.int .i64 3, .slice a len cap] 47 (0, 0)) ∧ w5.heap[gA]? = some (.cells #[.int .i64 k, .int .i64 n, .int .i64 m] 54 (0, 0)) ∧ w5.heap[gB]? = some (.cells #[.int .i64 5, .int .i64 n1, .int .i64 m1] 54 (0, 0)) ∧ w5.heap[w.heap.size + 1 + 1]? = some (.cells Z 37 (0, 0)) ∧ Below w.heap.size w w5) := by
    have l1 := (Array.getElem?_eq_some_iff.1 h1).1
    have l2 := (Array.getElem?_eq_some_iff.1 h2).1
    have lA := (Array.getElem?_eq_some_iff.1 hA).1
    have lB := (Array.getElem?_eq_some_iff.1 hB).1
    have l3 := (Array.getElem?_eq_some_iff.1 h3).1
    exact ⟨(g5.block _ l1).trans h1, (g5.block _ l2).trans h2, (g5.block _ lA).trans hA, (g5.block _ lB).trans hB, (g5.block _ l3).trans h3, bl.trans (g5.mono bl.size)⟩
  clear h1 h2 hA hB h3 bl z0 zA0 zA1 zA2 zB0 zB1 zB2 g5 HL
  obtain ⟨h1, h2, hA, hB, h3, bl⟩ := HRn.out
  clear HRn
  have HSt : Hid ((storeVar 37 ⟨w.heap.size, 0, none⟩ (.agg C)).run Tryz.prog w5 = .ok () (w5.setRow w.heap.size C)) := store_all h1 _ _ (HC.out.size.trans HCM.out.size.symm) HIC.out HCM.out.one
  have HR6 : Hid ((w5.setRow w.heap.size C).heap[w.heap.size]? = some (.cells C 37 (0, 0)) ∧ (w5.setRow w.heap.size C).heap[w.heap.size + 1]? = some (.cells #[.int .i64 3, .slice a len cap] 47 (0, 0)) ∧ (w5.setRow w.heap.size C).heap[gA]? = some (.cells #[.int .i64 k, .int .i64 n, .int .i64 m] 54 (0, 0)) ∧ (w5.setRow w.heap.size C).heap[gB]? = some (.cells #[.int .i64 5, .int .i64 n1, .int .i64 m1] 54 (0, 0)) ∧ (w5.setRow w.heap.size C).heap[w.heap.size + 1 + 1]? = some (.cells Z 37 (0, 0)) ∧ Below w.heap.size w (w5.setRow w.heap.size C)) := ⟨row_set h1 _, row_beside h2 _ (by omega) _, row_beside hA _ (by have := hla.out; omega) _, row_beside hB _ (by have := hla.out; omega) _, row_beside h3 _ (by omega) _, below_setRow bl (Nat.le_refl _) _⟩
  clear h1 h2 hA hB h3 bl
  obtain ⟨w6, H6⟩ : ∃ w6, Hid (w6 = w5.setRow w.heap.size C) := ⟨_, rfl⟩
  rw [← H6.out] at HSt HR6
  obtain ⟨h1, h2, hA, hB, h3, bl⟩ := HR6.out
  clear HR6 H6
  have z0 : w6.cell? ⟨w.heap.size + 1, 0, none⟩ = some (.int .i64 3) := (cell_of_row _ _ _ _ _ _ h2).trans rfl
  have zA0 : w6.cell? ⟨gA, 0, none⟩ = some (.int .i64 k) := (cell_of_row _ _ _ _ _ _ hA).trans rfl
  have zA1 : w6.cell? ⟨gA, 1, none⟩ = some (.int .i64 n) := (cell_of_row _ _ _ _ _ _ hA).trans rfl
  have zA2 : w6.cell? ⟨gA, 2, none⟩ = some (.int .i64 m) := (cell_of_row _ _ _ _ _ _ hA).trans rfl
  have zB0 : w6.cell? ⟨gB, 0, none⟩ = some (.int .i64 5) := (cell_of_row _ _ _ _ _ _ hB).trans rfl
  have zB1 : w6.cell? ⟨gB, 1, none⟩ = some (.int .i64 n1) := (cell_of_row _ _ _ _ _ _ hB).trans rfl
  have zB2 : w6.cell? ⟨gB, 2, none⟩ = some (.int .i64 m1) := (cell_of_row _ _ _ _ _ _ hB).trans rfl
  have HL : Hid ((loadVar 37 ⟨w.heap.size, 0, none⟩).run Tryz.prog w6 = .ok (.agg C) w6) := load_all h1 _ _ Tryz.underlying37 rfl HIC.out
  have HS2 : Hid ((storeVar 37 ⟨w.heap.size + 1 + 1, 0, none⟩ (.agg C)).run Tryz.prog w6 = .ok () (w6.setRow (w.heap.size + 1 + 1) C)) := store_all h3 _ _ (HZs.out.trans HCM.out.size.symm) HIC.out HCM.out.one
  have HRt : Hid ((loadVar 37 ⟨w.heap.size + 1 + 1, 0, none⟩).run Tryz.prog (w6.setRow (w.heap.size + 1 + 1) C) = .ok (.agg C) (w6.setRow (w.heap.size + 1 + 1) C)) := load_all (row_set h3 _) _ _ Tryz.underlying37 rfl HIC.out
  have HB : Hid (Below w.heap.size w (w6.setRow (w.heap.size + 1 + 1) C)) := below_setRow bl (by omega) _
  clear h1 h2 hA hB h3 bl hz
  cases now
  · go_wp2_with (first | (refine wpL_store rfl 37 _ _ rfl _ _ rfl _ rfl _ HSt.out ?_) | (refine wpL_load rfl 37 _ rfl _ _ rfl _ HL.out ?_) | (refine wpL_loadW rfl 37 _ rfl _ _ rfl _ HL.out ?_) | (refine wpL_store rfl 37 _ _ rfl _ _ rfl _ rfl _ HS2.out ?_) | exact ret_rowV rfl rfl rfl HRt.out rfl ⟨by simp, HB.out⟩ | fail)
  · go_wp2_with (first | (refine wpL_store rfl 37 _ _ rfl _ _ rfl _ rfl _ HSt.out ?_) | (refine wpL_load rfl 37 _ rfl _ _ rfl _ HL.out ?_) | (refine wpL_loadW rfl 37 _ rfl _ _ rfl _ HL.out ?_) | (refine wpL_store rfl 37 _ _ rfl _ _ rfl _ rfl _ HS2.out ?_) | exact ret_rowV rfl rfl rfl HRt.out rfl ⟨by simp, HB.out⟩ | fail)


set_option maxRecDepth 10000 in
set_option maxHeartbeats 4000000 in
theorem st_3o (k n m k1 n1 m1 : Int) (h5 : k1 ≠ 5) (a : Option Addr) (len cap : Nat) (c : Array Value) (hc : MemOk c) (w : World)
    (HA0 : Hid (∀ W, Below w.heap.size w W → Calls Tryz.prog 40 #[.agg #[.int .i64 3, .slice a len cap], .int .i64 0] W fun e w' => e = .returned (.agg #[.int .i64 k, .int .i64 n, .int .i64 m]) ∧ Below W.heap.size W w'))
    (HA1 : Hid (∀ W, Below w.heap.size w W → Calls Tryz.prog 40 #[.agg #[.int .i64 3, .slice a len cap], .int .i64 1] W fun e w' => e = .returned (.agg #[.int .i64 k1, .int .i64 n1, .int .i64 m1]) ∧ Below W.heap.size W w')) :
    Calls Tryz.prog 14 #[.agg c, .agg #[.int .i64 3, .slice a len cap]] w fun e w' => e = .returned (.tuple #[.agg c, .bool (mbit c k n)]) ∧ Below w.heap.size w w' := by
  have HC : Hid (MemOk c) := hc
  have hz := zero_mem.1
  obtain ⟨Z, HZ⟩ : ∃ Z, Hid (Z = memZero) := ⟨_, rfl⟩
  rw [← HZ.out] at hz
  have HZs : Hid (Z.size = 136) := (by rw [HZ.out, memZero_size] : Z.size = 136)
  have HI : Hid ((Tryz.prog.info? 37).map (·.size) = some c.size) := by rw [HC.out.size]; exact zero_mem.2
  obtain ⟨now, Hn⟩ : ∃ v, Hid (v = mbit c k n) := ⟨_, rfl⟩
  rw [← Hn.out]
  have HNow : Hid (∀ W, Calls Tryz.prog 16 #[.agg c, .agg #[.int .i64 k, .int .i64 n, .int .i64 m]] W fun e w' => e = .returned (.bool now) ∧ Below W.heap.size W w') := fun W => by rw [Hn.out]; exact mbit_s c HC.out k n m W
  have e5 : (k1 == 5) = false := by simp [h5]
  clear h5
  clear Hn
  have r3 := rows3 w (.cells c 37) (.cells #[.int .i64 3, .slice a len cap] 47) (.cells Z 37)
  have bl : Below w.heap.size w (((w.alloc (.cells c 37)).alloc (.cells #[.int .i64 3, .slice a len cap] 47)).alloc (.cells Z 37)) := (((Below.refl _ _).alloc (Nat.le_refl _) _).alloc (by simp) _).alloc (by simp <;> omega) _
  have sz : (((w.alloc (.cells c 37)).alloc (.cells #[.int .i64 3, .slice a len cap] 47)).alloc (.cells Z 37)).heap.size = w.heap.size + 1 + 1 + 1 := by simp
  have HR3 : Hid ((((w.alloc (.cells c 37)).alloc (.cells #[.int .i64 3, .slice a len cap] 47)).alloc (.cells Z 37)).heap[w.heap.size]? = some (.cells c 37 (0, 0)) ∧ (((w.alloc (.cells c 37)).alloc (.cells #[.int .i64 3, .slice a len cap] 47)).alloc (.cells Z 37)).heap[w.heap.size + 1]? = some (.cells #[.int .i64 3, .slice a len cap] 47 (0, 0)) ∧ (((w.alloc (.cells c 37)).alloc (.cells #[.int .i64 3, .slice a len cap] 47)).alloc (.cells Z 37)).heap[w.heap.size + 1 + 1]? = some (.cells Z 37 (0, 0)) ∧ Below w.heap.size w (((w.alloc (.cells c 37)).alloc (.cells #[.int .i64 3, .slice a len cap] 47)).alloc (.cells Z 37)) ∧ (((w.alloc (.cells c 37)).alloc (.cells #[.int .i64 3, .slice a len cap] 47)).alloc (.cells Z 37)).heap.size = w.heap.size + 1 + 1 + 1) := ⟨r3.1, r3.2.1, r3.2.2, bl, sz⟩
  clear hc r3 bl sz
  go_enter Tryz.func14, Tryz.ntmps14
  go_wp2_with fail
  refine (HA0.out _ HR3.out.2.2.2.1).mono ?_
  rintro e w1 ⟨rfl, g1⟩
  have HR1 : Hid (w1.heap[w.heap.size]? = some (.cells c 37 (0, 0)) ∧ w1.heap[w.heap.size + 1]? = some (.cells #[.int .i64 3, .slice a len cap] 47 (0, 0)) ∧ w1.heap[w.heap.size + 1 + 1]? = some (.cells Z 37 (0, 0)) ∧ Below w.heap.size w w1 ∧ w.heap.size + 1 + 1 < w1.heap.size) := by
    have hs := HR3.out.2.2.2.2
    have hz := g1.size
    exact ⟨(g1.block _ (by omega)).trans HR3.out.1, (g1.block _ (by omega)).trans HR3.out.2.1, (g1.block _ (by omega)).trans HR3.out.2.2.1, HR3.out.2.2.2.1.trans (g1.mono HR3.out.2.2.2.1.size), by omega⟩
  have y0 : w1.cell? ⟨w.heap.size + 1, 0, none⟩ = some (.int .i64 3) := (cell_of_row _ _ _ _ _ _ HR1.out.2.1).trans rfl
  have y1 : w1.cell? ⟨w.heap.size + 1, 1, none⟩ = some (.slice a len cap) := (cell_of_row _ _ _ _ _ _ HR1.out.2.1).trans rfl
  have l1 : w.heap.size + 1 < w1.heap.size := by have := HR1.out.2.2.2.2; omega
  clear g1 HR3
  go_wp2_with fail
  refine (HA1.out _ (HR1.out.2.2.2.1.alloc HR1.out.2.2.2.1.size _)).mono ?_
  rintro e w2 ⟨rfl, g2⟩
  obtain ⟨gA, HgA⟩ : ∃ gA, Hid (gA = w1.heap.size) := ⟨_, rfl⟩
  rw [← HgA.out]
  have HR2 : Hid (w2.heap[w.heap.size]? = some (.cells c 37 (0, 0)) ∧ w2.heap[w.heap.size + 1]? = some (.cells #[.int .i64 3, .slice a len cap] 47 (0, 0)) ∧ w2.heap[w.heap.size + 1 + 1]? = some (.cells Z 37 (0, 0)) ∧ w2.heap[gA]? = some (.cells #[.int .i64 k, .int .i64 n, .int .i64 m] 54 (0, 0)) ∧ Below w.heap.size w w2 ∧ w.heap.size + 1 + 1 < gA ∧ gA < w2.heap.size) := by
    obtain ⟨q1, q2, q3, q4, q5⟩ := HR1.out
    have hg := HgA.out
    have hz := g2.size
    have hzz : (w1.alloc (.cells #[.int .i64 k, .int .i64 n, .int .i64 m] 54)).heap.size = w1.heap.size + 1 := by simp
    have al := (Below.refl w1.heap.size w1).alloc (Nat.le_refl _) (.cells #[.int .i64 k, .int .i64 n, .int .i64 m] 54)
    have bb := q4.alloc q4.size (.cells #[.int .i64 k, .int .i64 n, .int .i64 m] 54)
    refine ⟨(g2.block _ (by omega)).trans ((al.block _ (by omega)).trans q1), (g2.block _ (by omega)).trans ((al.block _ (by omega)).trans q2), (g2.block _ (by omega)).trans ((al.block _ (by omega)).trans q3), (g2.block _ (by omega)).trans (by rw [hg]; exact heap_alloc_last _ _), bb.trans (g2.mono bb.size), by omega, by omega⟩
  clear y0 y1 l1 g2 HR1 HgA
  have y0 : w2.cell? ⟨w.heap.size + 1, 0, none⟩ = some (.int .i64 3) := (cell_of_row _ _ _ _ _ _ HR2.out.2.1).trans rfl
  have l1 : w.heap.size + 1 < w2.heap.size := by have := HR2.out.2.2.2.2.2; omega
  have yA : w2.cell? ⟨gA, 0, none⟩ = some (.int .i64 k) := (cell_of_row _ _ _ _ _ _ HR2.out.2.2.2.1).trans rfl
  have yA1 : w2.cell? ⟨gA, 1, none⟩ = some (.int .i64 n) := (cell_of_row _ _ _ _ _ _ HR2.out.2.2.2.1).trans rfl
  have yA2 : w2.cell? ⟨gA, 2, none⟩ = some (.int .i64 m) := (cell_of_row _ _ _ _ _ _ HR2.out.2.2.2.1).trans rfl
  have lA : gA < w2.heap.size := HR2.out.2.2.2.2.2.2
  go_upto_region 8 with fail
  obtain ⟨gB, HgB⟩ : ∃ gB, Hid (gB = w2.heap.size) := ⟨_, rfl⟩
  rw [← HgB.out]
  have HR4 : Hid ((w2.alloc (.cells #[.int .i64 k1, .int .i64 n1, .int .i64 m1] 54)).heap[w.heap.size]? = some (.cells c 37 (0, 0)) ∧ (w2.alloc (.cells #[.int .i64 k1, .int .i64 n1, .int .i64 m1] 54)).heap[w.heap.size + 1]? = some (.cells #[.int .i64 3, .slice a len cap] 47 (0, 0)) ∧ (w2.alloc (.cells #[.int .i64 k1, .int .i64 n1, .int .i64 m1] 54)).heap[gA]? = some (.cells #[.int .i64 k, .int .i64 n, .int .i64 m] 54 (0, 0)) ∧ (w2.alloc (.cells #[.int .i64 k1, .int .i64 n1, .int .i64 m1] 54)).heap[gB]? = some (.cells #[.int .i64 k1, .int .i64 n1, .int .i64 m1] 54 (0, 0)) ∧ (w2.alloc (.cells #[.int .i64 k1, .int .i64 n1, .int .i64 m1] 54)).heap[w.heap.size + 1 + 1]? = some (.cells Z 37 (0, 0)) ∧ Below w.heap.size w (w2.alloc (.cells #[.int .i64 k1, .int .i64 n1, .int .i64 m1] 54)) ∧ w.heap.size + 1 + 1 < gA ∧ gA < gB) := by
    obtain ⟨q1, q2, q3, q5, q4, q6, q7⟩ := HR2.out
    have hg := HgB.out
    have al := (Below.refl w2.heap.size w2).alloc (Nat.le_refl _) (.cells #[.int .i64 k1, .int .i64 n1, .int .i64 m1] 54)
    exact ⟨(al.block _ (by omega)).trans q1, (al.block _ (by omega)).trans q2, (al.block _ (by omega)).trans q5, by rw [hg]; exact heap_alloc_last _ _, (al.block _ (by omega)).trans q3, q4.alloc q4.size _, q6, by omega⟩
  obtain ⟨h1, h2, hA, hB, h3, bl, la, lb⟩ := HR4.out
  have hla : Hid (w.heap.size + 1 + 1 < gA ∧ gA < gB) := ⟨la, lb⟩
  clear la lb HR4 HR2
  generalize (w2.alloc (.cells #[.int .i64 k1, .int .i64 n1, .int .i64 m1] 54)) = w0 at h1 h2 hA hB h3 bl ⊢
  clear HgB y0 l1 yA yA1 yA2 lA
  have z0 : w0.cell? ⟨w.heap.size + 1, 0, none⟩ = some (.int .i64 3) := (cell_of_row _ _ _ _ _ _ h2).trans rfl
  have zA0 : w0.cell? ⟨gA, 0, none⟩ = some (.int .i64 k) := (cell_of_row _ _ _ _ _ _ hA).trans rfl
  have zA1 : w0.cell? ⟨gA, 1, none⟩ = some (.int .i64 n) := (cell_of_row _ _ _ _ _ _ hA).trans rfl
  have zA2 : w0.cell? ⟨gA, 2, none⟩ = some (.int .i64 m) := (cell_of_row _ _ _ _ _ _ hA).trans rfl
  have zB0 : w0.cell? ⟨gB, 0, none⟩ = some (.int .i64 k1) := (cell_of_row _ _ _ _ _ _ hB).trans rfl
  have zB1 : w0.cell? ⟨gB, 1, none⟩ = some (.int .i64 n1) := (cell_of_row _ _ _ _ _ _ hB).trans rfl
  have zB2 : w0.cell? ⟨gB, 2, none⟩ = some (.int .i64 m1) := (cell_of_row _ _ _ _ _ _ hB).trans rfl
  have HL : Hid ((loadVar 37 ⟨w.heap.size, 0, none⟩).run Tryz.prog w0 = .ok (.agg c) w0) := load_all h1 _ _ Tryz.underlying37 rfl HI.out
  go_wp2_with (first | (refine wpL_load rfl 37 _ rfl _ _ rfl _ HL.out ?_) | (refine wpL_loadW rfl 37 _ rfl _ _ rfl _ HL.out ?_) | fail)
  refine (HNow.out _).mono ?_
  rintro e w3 ⟨rfl, g3⟩
  have HRn : Hid (w3.heap[w.heap.size]? = some (.cells c 37 (0, 0)) ∧ w3.heap[w.heap.size + 1]? = some (.cells #[.int .i64 3, .slice a len cap] 47 (0, 0)) ∧ w3.heap[gA]? = some (.cells #[.int .i64 k, .int .i64 n, .int .i64 m] 54 (0, 0)) ∧ w3.heap[gB]? = some (.cells #[.int .i64 k1, .int .i64 n1, .int .i64 m1] 54 (0, 0)) ∧ w3.heap[w.heap.size + 1 + 1]? = some (.cells Z 37 (0, 0)) ∧ Below w.heap.size w w3) := by
    have l1 := (Array.getElem?_eq_some_iff.1 h1).1
    have l2 := (Array.getElem?_eq_some_iff.1 h2).1
    have lA := (Array.getElem?_eq_some_iff.1 hA).1
    have lB := (Array.getElem?_eq_some_iff.1 hB).1
    have l3 := (Array.getElem?_eq_some_iff.1 h3).1
    exact ⟨(g3.block _ l1).trans h1, (g3.block _ l2).trans h2, (g3.block _ lA).trans hA, (g3.block _ lB).trans hB, (g3.block _ l3).trans h3, bl.trans (g3.mono bl.size)⟩
  clear h1 h2 hA hB h3 bl z0 zA0 zA1 zA2 zB0 zB1 zB2 g3 HL
  obtain ⟨h1, h2, hA, hB, h3, bl⟩ := HRn.out
  clear HRn
  have z0 : w3.cell? ⟨w.heap.size + 1, 0, none⟩ = some (.int .i64 3) := (cell_of_row _ _ _ _ _ _ h2).trans rfl
  have zA0 : w3.cell? ⟨gA, 0, none⟩ = some (.int .i64 k) := (cell_of_row _ _ _ _ _ _ hA).trans rfl
  have zA1 : w3.cell? ⟨gA, 1, none⟩ = some (.int .i64 n) := (cell_of_row _ _ _ _ _ _ hA).trans rfl
  have zA2 : w3.cell? ⟨gA, 2, none⟩ = some (.int .i64 m) := (cell_of_row _ _ _ _ _ _ hA).trans rfl
  have zB0 : w3.cell? ⟨gB, 0, none⟩ = some (.int .i64 k1) := (cell_of_row _ _ _ _ _ _ hB).trans rfl
  have zB1 : w3.cell? ⟨gB, 1, none⟩ = some (.int .i64 n1) := (cell_of_row _ _ _ _ _ _ hB).trans rfl
  have zB2 : w3.cell? ⟨gB, 2, none⟩ = some (.int .i64 m1) := (cell_of_row _ _ _ _ _ _ hB).trans rfl
  have HL : Hid ((loadVar 37 ⟨w.heap.size, 0, none⟩).run Tryz.prog w3 = .ok (.agg c) w3) := load_all h1 _ _ Tryz.underlying37 rfl HI.out
  have HS2 : Hid ((storeVar 37 ⟨w.heap.size + 1 + 1, 0, none⟩ (.agg c)).run Tryz.prog w3 = .ok () (w3.setRow (w.heap.size + 1 + 1) c)) := store_all h3 _ _ (HZs.out.trans HC.out.size.symm) HI.out HC.out.one
  have HRt : Hid ((loadVar 37 ⟨w.heap.size + 1 + 1, 0, none⟩).run Tryz.prog (w3.setRow (w.heap.size + 1 + 1) c) = .ok (.agg c) (w3.setRow (w.heap.size + 1 + 1) c)) := load_all (row_set h3 _) _ _ Tryz.underlying37 rfl HI.out
  have HB : Hid (Below w.heap.size w (w3.setRow (w.heap.size + 1 + 1) c)) := below_setRow bl (by omega) _
  clear h1 h2 hA hB h3 bl hz
  cases now
  · go_wp2_with (first | (refine wpL_load rfl 37 _ rfl _ _ rfl _ HL.out ?_) | (refine wpL_loadW rfl 37 _ rfl _ _ rfl _ HL.out ?_) | (refine wpL_store rfl 37 _ _ rfl _ _ rfl _ rfl _ HS2.out ?_) | exact ret_rowV rfl rfl rfl HRt.out rfl ⟨by simp, HB.out⟩ | fail)
  · go_wp2_with (first | (refine wpL_load rfl 37 _ rfl _ _ rfl _ HL.out ?_) | (refine wpL_loadW rfl 37 _ rfl _ _ rfl _ HL.out ?_) | (refine wpL_store rfl 37 _ _ rfl _ _ rfl _ rfl _ HS2.out ?_) | exact ret_rowV rfl rfl rfl HRt.out rfl ⟨by simp, HB.out⟩ | fail)


set_option maxRecDepth 10000 in
set_option maxHeartbeats 4000000 in
theorem st_4e (k n m n1 m1 : Int) (a : Option Addr) (len cap : Nat) (c : Array Value) (hc : MemOk c) (w : World)
    (HA0 : Hid (∀ W, Below w.heap.size w W → Calls Tryz.prog 40 #[.agg #[.int .i64 4, .slice a len cap], .int .i64 0] W fun e w' => e = .returned (.agg #[.int .i64 k, .int .i64 n, .int .i64 m]) ∧ Below W.heap.size W w'))
    (HA1 : Hid (∀ W, Below w.heap.size w W → Calls Tryz.prog 40 #[.agg #[.int .i64 4, .slice a len cap], .int .i64 1] W fun e w' => e = .returned (.agg #[.int .i64 5, .int .i64 n1, .int .i64 m1]) ∧ Below W.heap.size W w')) :
    Calls Tryz.prog 14 #[.agg c, .agg #[.int .i64 4, .slice a len cap]] w fun e w' => e = .returned (.tuple #[.agg (putb c 5 n1 (mbit c k n)), .bool (!mbit c k n && mbit c 5 n1)]) ∧ Below w.heap.size w w' := by
  have HC : Hid (MemOk c) := hc
  have hz := zero_mem.1
  obtain ⟨Z, HZ⟩ : ∃ Z, Hid (Z = memZero) := ⟨_, rfl⟩
  rw [← HZ.out] at hz
  have HZs : Hid (Z.size = 136) := (by rw [HZ.out, memZero_size] : Z.size = 136)
  have HI : Hid ((Tryz.prog.info? 37).map (·.size) = some c.size) := by rw [HC.out.size]; exact zero_mem.2
  obtain ⟨now, Hn⟩ : ∃ v, Hid (v = mbit c k n) := ⟨_, rfl⟩
  rw [← Hn.out]
  have HNow : Hid (∀ W, Calls Tryz.prog 16 #[.agg c, .agg #[.int .i64 k, .int .i64 n, .int .i64 m]] W fun e w' => e = .returned (.bool now) ∧ Below W.heap.size W w') := fun W => by rw [Hn.out]; exact mbit_s c HC.out k n m W
  obtain ⟨was, Hw⟩ : ∃ v, Hid (v = mbit c 5 n1) := ⟨_, rfl⟩
  rw [← Hw.out]
  have HWas : Hid (∀ W, Calls Tryz.prog 16 #[.agg c, .agg #[.int .i64 5, .int .i64 n1, .int .i64 m1]] W fun e w' => e = .returned (.bool was) ∧ Below W.heap.size W w') := fun W => by rw [Hw.out]; exact mbit_s c HC.out 5 n1 m1 W
  obtain ⟨C, HCC⟩ : ∃ C, Hid (C = putb c 5 n1 now) := ⟨_, rfl⟩
  rw [← HCC.out]
  have HCM : Hid (MemOk C) := (by rw [HCC.out]; exact memOk_putb hc 5 n1 now : MemOk C)
  have HIC : Hid ((Tryz.prog.info? 37).map (·.size) = some C.size) := by rw [HCM.out.size]; exact zero_mem.2
  have HPut : Hid (∀ W, Calls Tryz.prog 41 #[.agg c, .agg #[.int .i64 5, .int .i64 n1, .int .i64 m1], .bool now] W fun e w' => e = .returned (.agg C) ∧ Below W.heap.size W w') := fun W => by rw [HCC.out]; exact putb_s c HC.out 5 n1 m1 now W
  clear Hw
  clear Hn
  have r3 := rows3 w (.cells c 37) (.cells #[.int .i64 4, .slice a len cap] 47) (.cells Z 37)
  have bl : Below w.heap.size w (((w.alloc (.cells c 37)).alloc (.cells #[.int .i64 4, .slice a len cap] 47)).alloc (.cells Z 37)) := (((Below.refl _ _).alloc (Nat.le_refl _) _).alloc (by simp) _).alloc (by simp <;> omega) _
  have sz : (((w.alloc (.cells c 37)).alloc (.cells #[.int .i64 4, .slice a len cap] 47)).alloc (.cells Z 37)).heap.size = w.heap.size + 1 + 1 + 1 := by simp
  have HR3 : Hid ((((w.alloc (.cells c 37)).alloc (.cells #[.int .i64 4, .slice a len cap] 47)).alloc (.cells Z 37)).heap[w.heap.size]? = some (.cells c 37 (0, 0)) ∧ (((w.alloc (.cells c 37)).alloc (.cells #[.int .i64 4, .slice a len cap] 47)).alloc (.cells Z 37)).heap[w.heap.size + 1]? = some (.cells #[.int .i64 4, .slice a len cap] 47 (0, 0)) ∧ (((w.alloc (.cells c 37)).alloc (.cells #[.int .i64 4, .slice a len cap] 47)).alloc (.cells Z 37)).heap[w.heap.size + 1 + 1]? = some (.cells Z 37 (0, 0)) ∧ Below w.heap.size w (((w.alloc (.cells c 37)).alloc (.cells #[.int .i64 4, .slice a len cap] 47)).alloc (.cells Z 37)) ∧ (((w.alloc (.cells c 37)).alloc (.cells #[.int .i64 4, .slice a len cap] 47)).alloc (.cells Z 37)).heap.size = w.heap.size + 1 + 1 + 1) := ⟨r3.1, r3.2.1, r3.2.2, bl, sz⟩
  clear hc r3 bl sz
  go_enter Tryz.func14, Tryz.ntmps14
  go_wp2_with fail
  refine (HA0.out _ HR3.out.2.2.2.1).mono ?_
  rintro e w1 ⟨rfl, g1⟩
  have HR1 : Hid (w1.heap[w.heap.size]? = some (.cells c 37 (0, 0)) ∧ w1.heap[w.heap.size + 1]? = some (.cells #[.int .i64 4, .slice a len cap] 47 (0, 0)) ∧ w1.heap[w.heap.size + 1 + 1]? = some (.cells Z 37 (0, 0)) ∧ Below w.heap.size w w1 ∧ w.heap.size + 1 + 1 < w1.heap.size) := by
    have hs := HR3.out.2.2.2.2
    have hz := g1.size
    exact ⟨(g1.block _ (by omega)).trans HR3.out.1, (g1.block _ (by omega)).trans HR3.out.2.1, (g1.block _ (by omega)).trans HR3.out.2.2.1, HR3.out.2.2.2.1.trans (g1.mono HR3.out.2.2.2.1.size), by omega⟩
  have y0 : w1.cell? ⟨w.heap.size + 1, 0, none⟩ = some (.int .i64 4) := (cell_of_row _ _ _ _ _ _ HR1.out.2.1).trans rfl
  have y1 : w1.cell? ⟨w.heap.size + 1, 1, none⟩ = some (.slice a len cap) := (cell_of_row _ _ _ _ _ _ HR1.out.2.1).trans rfl
  have l1 : w.heap.size + 1 < w1.heap.size := by have := HR1.out.2.2.2.2; omega
  clear g1 HR3
  go_wp2_with fail
  refine (HA1.out _ (HR1.out.2.2.2.1.alloc HR1.out.2.2.2.1.size _)).mono ?_
  rintro e w2 ⟨rfl, g2⟩
  obtain ⟨gA, HgA⟩ : ∃ gA, Hid (gA = w1.heap.size) := ⟨_, rfl⟩
  rw [← HgA.out]
  have HR2 : Hid (w2.heap[w.heap.size]? = some (.cells c 37 (0, 0)) ∧ w2.heap[w.heap.size + 1]? = some (.cells #[.int .i64 4, .slice a len cap] 47 (0, 0)) ∧ w2.heap[w.heap.size + 1 + 1]? = some (.cells Z 37 (0, 0)) ∧ w2.heap[gA]? = some (.cells #[.int .i64 k, .int .i64 n, .int .i64 m] 54 (0, 0)) ∧ Below w.heap.size w w2 ∧ w.heap.size + 1 + 1 < gA ∧ gA < w2.heap.size) := by
    obtain ⟨q1, q2, q3, q4, q5⟩ := HR1.out
    have hg := HgA.out
    have hz := g2.size
    have hzz : (w1.alloc (.cells #[.int .i64 k, .int .i64 n, .int .i64 m] 54)).heap.size = w1.heap.size + 1 := by simp
    have al := (Below.refl w1.heap.size w1).alloc (Nat.le_refl _) (.cells #[.int .i64 k, .int .i64 n, .int .i64 m] 54)
    have bb := q4.alloc q4.size (.cells #[.int .i64 k, .int .i64 n, .int .i64 m] 54)
    refine ⟨(g2.block _ (by omega)).trans ((al.block _ (by omega)).trans q1), (g2.block _ (by omega)).trans ((al.block _ (by omega)).trans q2), (g2.block _ (by omega)).trans ((al.block _ (by omega)).trans q3), (g2.block _ (by omega)).trans (by rw [hg]; exact heap_alloc_last _ _), bb.trans (g2.mono bb.size), by omega, by omega⟩
  clear y0 y1 l1 g2 HR1 HgA
  have y0 : w2.cell? ⟨w.heap.size + 1, 0, none⟩ = some (.int .i64 4) := (cell_of_row _ _ _ _ _ _ HR2.out.2.1).trans rfl
  have l1 : w.heap.size + 1 < w2.heap.size := by have := HR2.out.2.2.2.2.2; omega
  have yA : w2.cell? ⟨gA, 0, none⟩ = some (.int .i64 k) := (cell_of_row _ _ _ _ _ _ HR2.out.2.2.2.1).trans rfl
  have yA1 : w2.cell? ⟨gA, 1, none⟩ = some (.int .i64 n) := (cell_of_row _ _ _ _ _ _ HR2.out.2.2.2.1).trans rfl
  have yA2 : w2.cell? ⟨gA, 2, none⟩ = some (.int .i64 m) := (cell_of_row _ _ _ _ _ _ HR2.out.2.2.2.1).trans rfl
  have lA : gA < w2.heap.size := HR2.out.2.2.2.2.2.2
  go_upto_region 8 with fail
  obtain ⟨gB, HgB⟩ : ∃ gB, Hid (gB = w2.heap.size) := ⟨_, rfl⟩
  rw [← HgB.out]
  have HR4 : Hid ((w2.alloc (.cells #[.int .i64 5, .int .i64 n1, .int .i64 m1] 54)).heap[w.heap.size]? = some (.cells c 37 (0, 0)) ∧ (w2.alloc (.cells #[.int .i64 5, .int .i64 n1, .int .i64 m1] 54)).heap[w.heap.size + 1]? = some (.cells #[.int .i64 4, .slice a len cap] 47 (0, 0)) ∧ (w2.alloc (.cells #[.int .i64 5, .int .i64 n1, .int .i64 m1] 54)).heap[gA]? = some (.cells #[.int .i64 k, .int .i64 n, .int .i64 m] 54 (0, 0)) ∧ (w2.alloc (.cells #[.int .i64 5, .int .i64 n1, .int .i64 m1] 54)).heap[gB]? = some (.cells #[.int .i64 5, .int .i64 n1, .int .i64 m1] 54 (0, 0)) ∧ (w2.alloc (.cells #[.int .i64 5, .int .i64 n1, .int .i64 m1] 54)).heap[w.heap.size + 1 + 1]? = some (.cells Z 37 (0, 0)) ∧ Below w.heap.size w (w2.alloc (.cells #[.int .i64 5, .int .i64 n1, .int .i64 m1] 54)) ∧ w.heap.size + 1 + 1 < gA ∧ gA < gB) := by
    obtain ⟨q1, q2, q3, q5, q4, q6, q7⟩ := HR2.out
    have hg := HgB.out
    have al := (Below.refl w2.heap.size w2).alloc (Nat.le_refl _) (.cells #[.int .i64 5, .int .i64 n1, .int .i64 m1] 54)
    exact ⟨(al.block _ (by omega)).trans q1, (al.block _ (by omega)).trans q2, (al.block _ (by omega)).trans q5, by rw [hg]; exact heap_alloc_last _ _, (al.block _ (by omega)).trans q3, q4.alloc q4.size _, q6, by omega⟩
  obtain ⟨h1, h2, hA, hB, h3, bl, la, lb⟩ := HR4.out
  have hla : Hid (w.heap.size + 1 + 1 < gA ∧ gA < gB) := ⟨la, lb⟩
  clear la lb HR4 HR2
  generalize (w2.alloc (.cells #[.int .i64 5, .int .i64 n1, .int .i64 m1] 54)) = w0 at h1 h2 hA hB h3 bl ⊢
  clear HgB y0 l1 yA yA1 yA2 lA
  have z0 : w0.cell? ⟨w.heap.size + 1, 0, none⟩ = some (.int .i64 4) := (cell_of_row _ _ _ _ _ _ h2).trans rfl
  have zA0 : w0.cell? ⟨gA, 0, none⟩ = some (.int .i64 k) := (cell_of_row _ _ _ _ _ _ hA).trans rfl
  have zA1 : w0.cell? ⟨gA, 1, none⟩ = some (.int .i64 n) := (cell_of_row _ _ _ _ _ _ hA).trans rfl
  have zA2 : w0.cell? ⟨gA, 2, none⟩ = some (.int .i64 m) := (cell_of_row _ _ _ _ _ _ hA).trans rfl
  have zB0 : w0.cell? ⟨gB, 0, none⟩ = some (.int .i64 5) := (cell_of_row _ _ _ _ _ _ hB).trans rfl
  have zB1 : w0.cell? ⟨gB, 1, none⟩ = some (.int .i64 n1) := (cell_of_row _ _ _ _ _ _ hB).trans rfl
  have zB2 : w0.cell? ⟨gB, 2, none⟩ = some (.int .i64 m1) := (cell_of_row _ _ _ _ _ _ hB).trans rfl
  have HL : Hid ((loadVar 37 ⟨w.heap.size, 0, none⟩).run Tryz.prog w0 = .ok (.agg c) w0) := load_all h1 _ _ Tryz.underlying37 rfl HI.out
  go_wp2_with (first | (refine wpL_load rfl 37 _ rfl _ _ rfl _ HL.out ?_) | (refine wpL_loadW rfl 37 _ rfl _ _ rfl _ HL.out ?_) | fail)
  refine (HNow.out _).mono ?_
  rintro e w3 ⟨rfl, g3⟩
  have HRn : Hid (w3.heap[w.heap.size]? = some (.cells c 37 (0, 0)) ∧ w3.heap[w.heap.size + 1]? = some (.cells #[.int .i64 4, .slice a len cap] 47 (0, 0)) ∧ w3.heap[gA]? = some (.cells #[.int .i64 k, .int .i64 n, .int .i64 m] 54 (0, 0)) ∧ w3.heap[gB]? = some (.cells #[.int .i64 5, .int .i64 n1, .int .i64 m1] 54 (0, 0)) ∧ w3.heap[w.heap.size + 1 + 1]? = some (.cells Z 37 (0, 0)) ∧ Below w.heap.size w w3) := by
    have l1 := (Array.getElem?_eq_some_iff.1 h1).1
    have l2 := (Array.getElem?_eq_some_iff.1 h2).1
    have lA := (Array.getElem?_eq_some_iff.1 hA).1
    have lB := (Array.getElem?_eq_some_iff.1 hB).1
    have l3 := (Array.getElem?_eq_some_iff.1 h3).1
    exact ⟨(g3.block _ l1).trans h1, (g3.block _ l2).trans h2, (g3.block _ lA).trans hA, (g3.block _ lB).trans hB, (g3.block _ l3).trans h3, bl.trans (g3.mono bl.size)⟩
  clear h1 h2 hA hB h3 bl z0 zA0 zA1 zA2 zB0 zB1 zB2 g3 HL
  obtain ⟨h1, h2, hA, hB, h3, bl⟩ := HRn.out
  clear HRn
  have z0 : w3.cell? ⟨w.heap.size + 1, 0, none⟩ = some (.int .i64 4) := (cell_of_row _ _ _ _ _ _ h2).trans rfl
  have zA0 : w3.cell? ⟨gA, 0, none⟩ = some (.int .i64 k) := (cell_of_row _ _ _ _ _ _ hA).trans rfl
  have zA1 : w3.cell? ⟨gA, 1, none⟩ = some (.int .i64 n) := (cell_of_row _ _ _ _ _ _ hA).trans rfl
  have zA2 : w3.cell? ⟨gA, 2, none⟩ = some (.int .i64 m) := (cell_of_row _ _ _ _ _ _ hA).trans rfl
  have zB0 : w3.cell? ⟨gB, 0, none⟩ = some (.int .i64 5) := (cell_of_row _ _ _ _ _ _ hB).trans rfl
  have zB1 : w3.cell? ⟨gB, 1, none⟩ = some (.int .i64 n1) := (cell_of_row _ _ _ _ _ _ hB).trans rfl
  have zB2 : w3.cell? ⟨gB, 2, none⟩ = some (.int .i64 m1) := (cell_of_row _ _ _ _ _ _ hB).trans rfl
  have HL : Hid ((loadVar 37 ⟨w.heap.size, 0, none⟩).run Tryz.prog w3 = .ok (.agg c) w3) := load_all h1 _ _ Tryz.underlying37 rfl HI.out
  go_wp2_with (first | (refine wpL_load rfl 37 _ rfl _ _ rfl _ HL.out ?_) | (refine wpL_loadW rfl 37 _ rfl _ _ rfl _ HL.out ?_) | fail)
  refine (HWas.out _).mono ?_
  rintro e w4 ⟨rfl, g4⟩
  have HRn : Hid (w4.heap[w.heap.size]? = some (.cells c 37 (0, 0)) ∧ w4.heap[w.heap.size + 1]? = some (.cells #[.int .i64 4, .slice a len cap] 47 (0, 0)) ∧ w4.heap[gA]? = some (.cells #[.int .i64 k, .int .i64 n, .int .i64 m] 54 (0, 0)) ∧ w4.heap[gB]? = some (.cells #[.int .i64 5, .int .i64 n1, .int .i64 m1] 54 (0, 0)) ∧ w4.heap[w.heap.size + 1 + 1]? = some (.cells Z 37 (0, 0)) ∧ Below w.heap.size w w4) := by
    have l1 := (Array.getElem?_eq_some_iff.1 h1).1
    have l2 := (Array.getElem?_eq_some_iff.1 h2).1
    have lA := (Array.getElem?_eq_some_iff.1 hA).1
    have lB := (Array.getElem?_eq_some_iff.1 hB).1
    have l3 := (Array.getElem?_eq_some_iff.1 h3).1
    exact ⟨(g4.block _ l1).trans h1, (g4.block _ l2).trans h2, (g4.block _ lA).trans hA, (g4.block _ lB).trans hB, (g4.block _ l3).trans h3, bl.trans (g4.mono bl.size)⟩
  clear h1 h2 hA hB h3 bl z0 zA0 zA1 zA2 zB0 zB1 zB2 g4 HL
  obtain ⟨h1, h2, hA, hB, h3, bl⟩ := HRn.out
  clear HRn
  have z0 : w4.cell? ⟨w.heap.size + 1, 0, none⟩ = some (.int .i64 4) := (cell_of_row _ _ _ _ _ _ h2).trans rfl
  have zA0 : w4.cell? ⟨gA, 0, none⟩ = some (.int .i64 k) := (cell_of_row _ _ _ _ _ _ hA).trans rfl
  have zA1 : w4.cell? ⟨gA, 1, none⟩ = some (.int .i64 n) := (cell_of_row _ _ _ _ _ _ hA).trans rfl
  have zA2 : w4.cell? ⟨gA, 2, none⟩ = some (.int .i64 m) := (cell_of_row _ _ _ _ _ _ hA).trans rfl
  have zB0 : w4.cell? ⟨gB, 0, none⟩ = some (.int .i64 5) := (cell_of_row _ _ _ _ _ _ hB).trans rfl
  have zB1 : w4.cell? ⟨gB, 1, none⟩ = some (.int .i64 n1) := (cell_of_row _ _ _ _ _ _ hB).trans rfl
  have zB2 : w4.cell? ⟨gB, 2, none⟩ = some (.int .i64 m1) := (cell_of_row _ _ _ _ _ _ hB).trans rfl
  have HL : Hid ((loadVar 37 ⟨w.heap.size, 0, none⟩).run Tryz.prog w4 = .ok (.agg c) w4) := load_all h1 _ _ Tryz.underlying37 rfl HI.out
  go_wp2_with (first | (refine wpL_load rfl 37 _ rfl _ _ rfl _ HL.out ?_) | (refine wpL_loadW rfl 37 _ rfl _ _ rfl _ HL.out ?_) | fail)
  refine (HPut.out _).mono ?_
  rintro e w5 ⟨rfl, g5⟩
  have HRn : Hid (w5.heap[w.heap.size]? = some (.cells c 37 (0, 0)) ∧ w5.heap[w.heap.size + 1]? = some (.cells #[.int .i64 4, .slice a len cap] 47 (0, 0)) ∧ w5.heap[gA]? = some (.cells #[.int .i64 k, .int .i64 n, .int .i64 m] 54 (0, 0)) ∧ w5.heap[gB]? = some (.cells #[.int .i64 5, .int .i64 n1, .int .i64 m1] 54 (0, 0)) ∧ w5.heap[w.heap.size + 1 + 1]? = some (.cells Z 37 (0, 0)) ∧ Below w.heap.size w w5) := by
    have l1 := (Array.getElem?_eq_some_iff.1 h1).1
    have l2 := (Array.getElem?_eq_some_iff.1 h2).1
    have lA := (Array.getElem?_eq_some_iff.1 hA).1
    have lB := (Array.getElem?_eq_some_iff.1 hB).1
    have l3 := (Array.getElem?_eq_some_iff.1 h3).1
    exact ⟨(g5.block _ l1).trans h1, (g5.block _ l2).trans h2, (g5.block _ lA).trans hA, (g5.block _ lB).trans hB, (g5.block _ l3).trans h3, bl.trans (g5.mono bl.size)⟩
  clear h1 h2 hA hB h3 bl z0 zA0 zA1 zA2 zB0 zB1 zB2 g5 HL
  obtain ⟨h1, h2, hA, hB, h3, bl⟩ := HRn.out
  clear HRn
  have HSt : Hid ((storeVar 37 ⟨w.heap.size, 0, none⟩ (.agg C)).run Tryz.prog w5 = .ok () (w5.setRow w.heap.size C)) := store_all h1 _ _ (HC.out.size.trans HCM.out.size.symm) HIC.out HCM.out.one
  have HR6 : Hid ((w5.setRow w.heap.size C).heap[w.heap.size]? = some (.cells C 37 (0, 0)) ∧ (w5.setRow w.heap.size C).heap[w.heap.size + 1]? = some (.cells #[.int .i64 4, .slice a len cap] 47 (0, 0)) ∧ (w5.setRow w.heap.size C).heap[gA]? = some (.cells #[.int .i64 k, .int .i64 n, .int .i64 m] 54 (0, 0)) ∧ (w5.setRow w.heap.size C).heap[gB]? = some (.cells #[.int .i64 5, .int .i64 n1, .int .i64 m1] 54 (0, 0)) ∧ (w5.setRow w.heap.size C).heap[w.heap.size + 1 + 1]? = some (.cells Z 37 (0, 0)) ∧ Below w.heap.size w (w5.setRow w.heap.size C)) := ⟨row_set h1 _, row_beside h2 _ (by omega) _, row_beside hA _ (by have := hla.out; omega) _, row_beside hB _ (by have := hla.out; omega) _, row_beside h3 _ (by omega) _, below_setRow bl (Nat.le_refl _) _⟩
  clear h1 h2 hA hB h3 bl
  obtain ⟨w6, H6⟩ : ∃ w6, Hid (w6 = w5.setRow w.heap.size C) := ⟨_, rfl⟩
  rw [← H6.out] at HSt HR6
  obtain ⟨h1, h2, hA, hB, h3, bl⟩ := HR6.out
  clear HR6 H6
  have z0 : w6.cell? ⟨w.heap.size + 1, 0, none⟩ = some (.int .i64 4) := (cell_of_row _ _ _ _ _ _ h2).trans rfl
  have zA0 : w6.cell? ⟨gA, 0, none⟩ = some (.int .i64 k) := (cell_of_row _ _ _ _ _ _ hA).trans rfl
  have zA1 : w6.cell? ⟨gA, 1, none⟩ = some (.int .i64 n) := (cell_of_row _ _ _ _ _ _ hA).trans rfl
  have zA2 : w6.cell? ⟨gA, 2, none⟩ = some (.int .i64 m) := (cell_of_row _ _ _ _ _ _ hA).trans rfl
  have zB0 : w6.cell? ⟨gB, 0, none⟩ = some (.int .i64 5) := (cell_of_row _ _ _ _ _ _ hB).trans rfl
  have zB1 : w6.cell? ⟨gB, 1, none⟩ = some (.int .i64 n1) := (cell_of_row _ _ _ _ _ _ hB).trans rfl
  have zB2 : w6.cell? ⟨gB, 2, none⟩ = some (.int .i64 m1) := (cell_of_row _ _ _ _ _ _ hB).trans rfl
  have HL : Hid ((loadVar 37 ⟨w.heap.size, 0, none⟩).run Tryz.prog w6 = .ok (.agg C) w6) := load_all h1 _ _ Tryz.underlying37 rfl HIC.out
  have HS2 : Hid ((storeVar 37 ⟨w.heap.size + 1 + 1, 0, none⟩ (.agg C)).run Tryz.prog w6 = .ok () (w6.setRow (w.heap.size + 1 + 1) C)) := store_all h3 _ _ (HZs.out.trans HCM.out.size.symm) HIC.out HCM.out.one
  have HRt : Hid ((loadVar 37 ⟨w.heap.size + 1 + 1, 0, none⟩).run Tryz.prog (w6.setRow (w.heap.size + 1 + 1) C) = .ok (.agg C) (w6.setRow (w.heap.size + 1 + 1) C)) := load_all (row_set h3 _) _ _ Tryz.underlying37 rfl HIC.out
  have HB : Hid (Below w.heap.size w (w6.setRow (w.heap.size + 1 + 1) C)) := below_setRow bl (by omega) _
  clear h1 h2 hA hB h3 bl hz
  cases now
  · go_wp2_with (first | (refine wpL_store rfl 37 _ _ rfl _ _ rfl _ rfl _ HSt.out ?_) | (refine wpL_load rfl 37 _ rfl _ _ rfl _ HL.out ?_) | (refine wpL_loadW rfl 37 _ rfl _ _ rfl _ HL.out ?_) | (refine wpL_store rfl 37 _ _ rfl _ _ rfl _ rfl _ HS2.out ?_) | exact ret_rowV rfl rfl rfl HRt.out rfl ⟨by simp, HB.out⟩ | fail)
  · go_wp2_with (first | (refine wpL_store rfl 37 _ _ rfl _ _ rfl _ rfl _ HSt.out ?_) | (refine wpL_load rfl 37 _ rfl _ _ rfl _ HL.out ?_) | (refine wpL_loadW rfl 37 _ rfl _ _ rfl _ HL.out ?_) | (refine wpL_store rfl 37 _ _ rfl _ _ rfl _ rfl _ HS2.out ?_) | exact ret_rowV rfl rfl rfl HRt.out rfl ⟨by simp, HB.out⟩ | fail)


set_option maxRecDepth 10000 in
set_option maxHeartbeats 4000000 in
theorem st_4o (k n m k1 n1 m1 : Int) (h5 : k1 ≠ 5) (a : Option Addr) (len cap : Nat) (c : Array Value) (hc : MemOk c) (w : World)
    (HA0 : Hid (∀ W, Below w.heap.size w W → Calls Tryz.prog 40 #[.agg #[.int .i64 4, .slice a len cap], .int .i64 0] W fun e w' => e = .returned (.agg #[.int .i64 k, .int .i64 n, .int .i64 m]) ∧ Below W.heap.size W w'))
    (HA1 : Hid (∀ W, Below w.heap.size w W → Calls Tryz.prog 40 #[.agg #[.int .i64 4, .slice a len cap], .int .i64 1] W fun e w' => e = .returned (.agg #[.int .i64 k1, .int .i64 n1, .int .i64 m1]) ∧ Below W.heap.size W w')) :
    Calls Tryz.prog 14 #[.agg c, .agg #[.int .i64 4, .slice a len cap]] w fun e w' => e = .returned (.tuple #[.agg c, .bool (false)]) ∧ Below w.heap.size w w' := by
  have HC : Hid (MemOk c) := hc
  have hz := zero_mem.1
  obtain ⟨Z, HZ⟩ : ∃ Z, Hid (Z = memZero) := ⟨_, rfl⟩
  rw [← HZ.out] at hz
  have HZs : Hid (Z.size = 136) := (by rw [HZ.out, memZero_size] : Z.size = 136)
  have HI : Hid ((Tryz.prog.info? 37).map (·.size) = some c.size) := by rw [HC.out.size]; exact zero_mem.2
  obtain ⟨now, Hn⟩ : ∃ v, Hid (v = mbit c k n) := ⟨_, rfl⟩
  have HNow : Hid (∀ W, Calls Tryz.prog 16 #[.agg c, .agg #[.int .i64 k, .int .i64 n, .int .i64 m]] W fun e w' => e = .returned (.bool now) ∧ Below W.heap.size W w') := fun W => by rw [Hn.out]; exact mbit_s c HC.out k n m W
  have e5 : (k1 == 5) = false := by simp [h5]
  clear h5
  clear Hn
  have r3 := rows3 w (.cells c 37) (.cells #[.int .i64 4, .slice a len cap] 47) (.cells Z 37)
  have bl : Below w.heap.size w (((w.alloc (.cells c 37)).alloc (.cells #[.int .i64 4, .slice a len cap] 47)).alloc (.cells Z 37)) := (((Below.refl _ _).alloc (Nat.le_refl _) _).alloc (by simp) _).alloc (by simp <;> omega) _
  have sz : (((w.alloc (.cells c 37)).alloc (.cells #[.int .i64 4, .slice a len cap] 47)).alloc (.cells Z 37)).heap.size = w.heap.size + 1 + 1 + 1 := by simp
  have HR3 : Hid ((((w.alloc (.cells c 37)).alloc (.cells #[.int .i64 4, .slice a len cap] 47)).alloc (.cells Z 37)).heap[w.heap.size]? = some (.cells c 37 (0, 0)) ∧ (((w.alloc (.cells c 37)).alloc (.cells #[.int .i64 4, .slice a len cap] 47)).alloc (.cells Z 37)).heap[w.heap.size + 1]? = some (.cells #[.int .i64 4, .slice a len cap] 47 (0, 0)) ∧ (((w.alloc (.cells c 37)).alloc (.cells #[.int .i64 4, .slice a len cap] 47)).alloc (.cells Z 37)).heap[w.heap.size + 1 + 1]? = some (.cells Z 37 (0, 0)) ∧ Below w.heap.size w (((w.alloc (.cells c 37)).alloc (.cells #[.int .i64 4, .slice a len cap] 47)).alloc (.cells Z 37)) ∧ (((w.alloc (.cells c 37)).alloc (.cells #[.int .i64 4, .slice a len cap] 47)).alloc (.cells Z 37)).heap.size = w.heap.size + 1 + 1 + 1) := ⟨r3.1, r3.2.1, r3.2.2, bl, sz⟩
  clear hc r3 bl sz
  go_enter Tryz.func14, Tryz.ntmps14
  go_wp2_with fail
  refine (HA0.out _ HR3.out.2.2.2.1).mono ?_
  rintro e w1 ⟨rfl, g1⟩
  have HR1 : Hid (w1.heap[w.heap.size]? = some (.cells c 37 (0, 0)) ∧ w1.heap[w.heap.size + 1]? = some (.cells #[.int .i64 4, .slice a len cap] 47 (0, 0)) ∧ w1.heap[w.heap.size + 1 + 1]? = some (.cells Z 37 (0, 0)) ∧ Below w.heap.size w w1 ∧ w.heap.size + 1 + 1 < w1.heap.size) := by
    have hs := HR3.out.2.2.2.2
    have hz := g1.size
    exact ⟨(g1.block _ (by omega)).trans HR3.out.1, (g1.block _ (by omega)).trans HR3.out.2.1, (g1.block _ (by omega)).trans HR3.out.2.2.1, HR3.out.2.2.2.1.trans (g1.mono HR3.out.2.2.2.1.size), by omega⟩
  have y0 : w1.cell? ⟨w.heap.size + 1, 0, none⟩ = some (.int .i64 4) := (cell_of_row _ _ _ _ _ _ HR1.out.2.1).trans rfl
  have y1 : w1.cell? ⟨w.heap.size + 1, 1, none⟩ = some (.slice a len cap) := (cell_of_row _ _ _ _ _ _ HR1.out.2.1).trans rfl
  have l1 : w.heap.size + 1 < w1.heap.size := by have := HR1.out.2.2.2.2; omega
  clear g1 HR3
  go_wp2_with fail
  refine (HA1.out _ (HR1.out.2.2.2.1.alloc HR1.out.2.2.2.1.size _)).mono ?_
  rintro e w2 ⟨rfl, g2⟩
  obtain ⟨gA, HgA⟩ : ∃ gA, Hid (gA = w1.heap.size) := ⟨_, rfl⟩
  rw [← HgA.out]
  have HR2 : Hid (w2.heap[w.heap.size]? = some (.cells c 37 (0, 0)) ∧ w2.heap[w.heap.size + 1]? = some (.cells #[.int .i64 4, .slice a len cap] 47 (0, 0)) ∧ w2.heap[w.heap.size + 1 + 1]? = some (.cells Z 37 (0, 0)) ∧ w2.heap[gA]? = some (.cells #[.int .i64 k, .int .i64 n, .int .i64 m] 54 (0, 0)) ∧ Below w.heap.size w w2 ∧ w.heap.size + 1 + 1 < gA ∧ gA < w2.heap.size) := by
    obtain ⟨q1, q2, q3, q4, q5⟩ := HR1.out
    have hg := HgA.out
    have hz := g2.size
    have hzz : (w1.alloc (.cells #[.int .i64 k, .int .i64 n, .int .i64 m] 54)).heap.size = w1.heap.size + 1 := by simp
    have al := (Below.refl w1.heap.size w1).alloc (Nat.le_refl _) (.cells #[.int .i64 k, .int .i64 n, .int .i64 m] 54)
    have bb := q4.alloc q4.size (.cells #[.int .i64 k, .int .i64 n, .int .i64 m] 54)
    refine ⟨(g2.block _ (by omega)).trans ((al.block _ (by omega)).trans q1), (g2.block _ (by omega)).trans ((al.block _ (by omega)).trans q2), (g2.block _ (by omega)).trans ((al.block _ (by omega)).trans q3), (g2.block _ (by omega)).trans (by rw [hg]; exact heap_alloc_last _ _), bb.trans (g2.mono bb.size), by omega, by omega⟩
  clear y0 y1 l1 g2 HR1 HgA
  have y0 : w2.cell? ⟨w.heap.size + 1, 0, none⟩ = some (.int .i64 4) := (cell_of_row _ _ _ _ _ _ HR2.out.2.1).trans rfl
  have l1 : w.heap.size + 1 < w2.heap.size := by have := HR2.out.2.2.2.2.2; omega
  have yA : w2.cell? ⟨gA, 0, none⟩ = some (.int .i64 k) := (cell_of_row _ _ _ _ _ _ HR2.out.2.2.2.1).trans rfl
  have yA1 : w2.cell? ⟨gA, 1, none⟩ = some (.int .i64 n) := (cell_of_row _ _ _ _ _ _ HR2.out.2.2.2.1).trans rfl
  have yA2 : w2.cell? ⟨gA, 2, none⟩ = some (.int .i64 m) := (cell_of_row _ _ _ _ _ _ HR2.out.2.2.2.1).trans rfl
  have lA : gA < w2.heap.size := HR2.out.2.2.2.2.2.2
  go_upto_region 8 with fail
  obtain ⟨gB, HgB⟩ : ∃ gB, Hid (gB = w2.heap.size) := ⟨_, rfl⟩
  rw [← HgB.out]
  have HR4 : Hid ((w2.alloc (.cells #[.int .i64 k1, .int .i64 n1, .int .i64 m1] 54)).heap[w.heap.size]? = some (.cells c 37 (0, 0)) ∧ (w2.alloc (.cells #[.int .i64 k1, .int .i64 n1, .int .i64 m1] 54)).heap[w.heap.size + 1]? = some (.cells #[.int .i64 4, .slice a len cap] 47 (0, 0)) ∧ (w2.alloc (.cells #[.int .i64 k1, .int .i64 n1, .int .i64 m1] 54)).heap[gA]? = some (.cells #[.int .i64 k, .int .i64 n, .int .i64 m] 54 (0, 0)) ∧ (w2.alloc (.cells #[.int .i64 k1, .int .i64 n1, .int .i64 m1] 54)).heap[gB]? = some (.cells #[.int .i64 k1, .int .i64 n1, .int .i64 m1] 54 (0, 0)) ∧ (w2.alloc (.cells #[.int .i64 k1, .int .i64 n1, .int .i64 m1] 54)).heap[w.heap.size + 1 + 1]? = some (.cells Z 37 (0, 0)) ∧ Below w.heap.size w (w2.alloc (.cells #[.int .i64 k1, .int .i64 n1, .int .i64 m1] 54)) ∧ w.heap.size + 1 + 1 < gA ∧ gA < gB) := by
    obtain ⟨q1, q2, q3, q5, q4, q6, q7⟩ := HR2.out
    have hg := HgB.out
    have al := (Below.refl w2.heap.size w2).alloc (Nat.le_refl _) (.cells #[.int .i64 k1, .int .i64 n1, .int .i64 m1] 54)
    exact ⟨(al.block _ (by omega)).trans q1, (al.block _ (by omega)).trans q2, (al.block _ (by omega)).trans q5, by rw [hg]; exact heap_alloc_last _ _, (al.block _ (by omega)).trans q3, q4.alloc q4.size _, q6, by omega⟩
  obtain ⟨h1, h2, hA, hB, h3, bl, la, lb⟩ := HR4.out
  have hla : Hid (w.heap.size + 1 + 1 < gA ∧ gA < gB) := ⟨la, lb⟩
  clear la lb HR4 HR2
  generalize (w2.alloc (.cells #[.int .i64 k1, .int .i64 n1, .int .i64 m1] 54)) = w0 at h1 h2 hA hB h3 bl ⊢
  clear HgB y0 l1 yA yA1 yA2 lA
  have z0 : w0.cell? ⟨w.heap.size + 1, 0, none⟩ = some (.int .i64 4) := (cell_of_row _ _ _ _ _ _ h2).trans rfl
  have zA0 : w0.cell? ⟨gA, 0, none⟩ = some (.int .i64 k) := (cell_of_row _ _ _ _ _ _ hA).trans rfl
  have zA1 : w0.cell? ⟨gA, 1, none⟩ = some (.int .i64 n) := (cell_of_row _ _ _ _ _ _ hA).trans rfl
  have zA2 : w0.cell? ⟨gA, 2, none⟩ = some (.int .i64 m) := (cell_of_row _ _ _ _ _ _ hA).trans rfl
  have zB0 : w0.cell? ⟨gB, 0, none⟩ = some (.int .i64 k1) := (cell_of_row _ _ _ _ _ _ hB).trans rfl
  have zB1 : w0.cell? ⟨gB, 1, none⟩ = some (.int .i64 n1) := (cell_of_row _ _ _ _ _ _ hB).trans rfl
  have zB2 : w0.cell? ⟨gB, 2, none⟩ = some (.int .i64 m1) := (cell_of_row _ _ _ _ _ _ hB).trans rfl
  have HL : Hid ((loadVar 37 ⟨w.heap.size, 0, none⟩).run Tryz.prog w0 = .ok (.agg c) w0) := load_all h1 _ _ Tryz.underlying37 rfl HI.out
  go_wp2_with (first | (refine wpL_load rfl 37 _ rfl _ _ rfl _ HL.out ?_) | (refine wpL_loadW rfl 37 _ rfl _ _ rfl _ HL.out ?_) | fail)
  refine (HNow.out _).mono ?_
  rintro e w3 ⟨rfl, g3⟩
  have HRn : Hid (w3.heap[w.heap.size]? = some (.cells c 37 (0, 0)) ∧ w3.heap[w.heap.size + 1]? = some (.cells #[.int .i64 4, .slice a len cap] 47 (0, 0)) ∧ w3.heap[gA]? = some (.cells #[.int .i64 k, .int .i64 n, .int .i64 m] 54 (0, 0)) ∧ w3.heap[gB]? = some (.cells #[.int .i64 k1, .int .i64 n1, .int .i64 m1] 54 (0, 0)) ∧ w3.heap[w.heap.size + 1 + 1]? = some (.cells Z 37 (0, 0)) ∧ Below w.heap.size w w3) := by
    have l1 := (Array.getElem?_eq_some_iff.1 h1).1
    have l2 := (Array.getElem?_eq_some_iff.1 h2).1
    have lA := (Array.getElem?_eq_some_iff.1 hA).1
    have lB := (Array.getElem?_eq_some_iff.1 hB).1
    have l3 := (Array.getElem?_eq_some_iff.1 h3).1
    exact ⟨(g3.block _ l1).trans h1, (g3.block _ l2).trans h2, (g3.block _ lA).trans hA, (g3.block _ lB).trans hB, (g3.block _ l3).trans h3, bl.trans (g3.mono bl.size)⟩
  clear h1 h2 hA hB h3 bl z0 zA0 zA1 zA2 zB0 zB1 zB2 g3 HL
  obtain ⟨h1, h2, hA, hB, h3, bl⟩ := HRn.out
  clear HRn
  have z0 : w3.cell? ⟨w.heap.size + 1, 0, none⟩ = some (.int .i64 4) := (cell_of_row _ _ _ _ _ _ h2).trans rfl
  have zA0 : w3.cell? ⟨gA, 0, none⟩ = some (.int .i64 k) := (cell_of_row _ _ _ _ _ _ hA).trans rfl
  have zA1 : w3.cell? ⟨gA, 1, none⟩ = some (.int .i64 n) := (cell_of_row _ _ _ _ _ _ hA).trans rfl
  have zA2 : w3.cell? ⟨gA, 2, none⟩ = some (.int .i64 m) := (cell_of_row _ _ _ _ _ _ hA).trans rfl
  have zB0 : w3.cell? ⟨gB, 0, none⟩ = some (.int .i64 k1) := (cell_of_row _ _ _ _ _ _ hB).trans rfl
  have zB1 : w3.cell? ⟨gB, 1, none⟩ = some (.int .i64 n1) := (cell_of_row _ _ _ _ _ _ hB).trans rfl
  have zB2 : w3.cell? ⟨gB, 2, none⟩ = some (.int .i64 m1) := (cell_of_row _ _ _ _ _ _ hB).trans rfl
  have HL : Hid ((loadVar 37 ⟨w.heap.size, 0, none⟩).run Tryz.prog w3 = .ok (.agg c) w3) := load_all h1 _ _ Tryz.underlying37 rfl HI.out
  have HS2 : Hid ((storeVar 37 ⟨w.heap.size + 1 + 1, 0, none⟩ (.agg c)).run Tryz.prog w3 = .ok () (w3.setRow (w.heap.size + 1 + 1) c)) := store_all h3 _ _ (HZs.out.trans HC.out.size.symm) HI.out HC.out.one
  have HRt : Hid ((loadVar 37 ⟨w.heap.size + 1 + 1, 0, none⟩).run Tryz.prog (w3.setRow (w.heap.size + 1 + 1) c) = .ok (.agg c) (w3.setRow (w.heap.size + 1 + 1) c)) := load_all (row_set h3 _) _ _ Tryz.underlying37 rfl HI.out
  have HB : Hid (Below w.heap.size w (w3.setRow (w.heap.size + 1 + 1) c)) := below_setRow bl (by omega) _
  clear h1 h2 hA hB h3 bl hz
  cases now
  · go_wp2_with (first | (refine wpL_load rfl 37 _ rfl _ _ rfl _ HL.out ?_) | (refine wpL_loadW rfl 37 _ rfl _ _ rfl _ HL.out ?_) | (refine wpL_store rfl 37 _ _ rfl _ _ rfl _ rfl _ HS2.out ?_) | exact ret_rowV rfl rfl rfl HRt.out rfl ⟨by simp, HB.out⟩ | fail)
  · go_wp2_with (first | (refine wpL_load rfl 37 _ rfl _ _ rfl _ HL.out ?_) | (refine wpL_loadW rfl 37 _ rfl _ _ rfl _ HL.out ?_) | (refine wpL_store rfl 37 _ _ rfl _ _ rfl _ rfl _ HS2.out ?_) | exact ret_rowV rfl rfl rfl HRt.out rfl ⟨by simp, HB.out⟩ | fail)

end Go.Proofs.YtjnddfpieogpiaaGreatDoor
