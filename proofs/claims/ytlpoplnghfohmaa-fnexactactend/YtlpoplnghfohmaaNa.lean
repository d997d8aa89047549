/- ActEnd, the program's and the specification's; the law FnExactActEnd. -/
import Derived.Test.YtlpoplnghfohmaaMq
import Derived.Test.YtlpoplnghfohmaaMd
import Derived.Deep.Cut
namespace Go.Proofs.Ytlpoplnghfohmaa
open Go.RowKit
set_option linter.unusedVariables false

theorem na_info : (Try.prog.info? 51).map (·.size) = some 136 := by kernel_rfl
theorem na_one {D : Array Value} (h : D.all (·.oneCell') = true) (i : Nat) {v : Value} (hv : v.oneCell' = true) : (D.setIfInBounds i v).all (·.oneCell') = true := by
  rw [Array.all_eq_true_iff_forall_mem] at h ⊢
  intro u hu
  obtain ⟨j, hj, rfl⟩ := Array.mem_iff_getElem.1 hu
  rw [Array.getElem_setIfInBounds (by simpa using hj)]
  split
  · exact hv
  · exact h _ (Array.getElem_mem _)
theorem na_set {c : Array Value} (hc : MemOk c) (i : Nat) {v : Value} (hv : CellIs (kd i) v) : MemOk (c.setIfInBounds i v) :=
  ⟨by simpa using hc.size, fun j u hu => by
    by_cases hji : i = j
    · subst hji
      have hl : i < c.size := by have := (Array.getElem?_eq_some_iff.1 hu).1; simpa using this
      rw [Array.getElem?_setIfInBounds_self_of_lt hl] at hu
      exact Option.some.inj hu ▸ hv
    · rw [Array.getElem?_setIfInBounds_ne hji] at hu
      exact hc.cell j u hu⟩
theorem na_bool (b : Bool) {i : Nat} (h : kd i = 1) : CellIs (kd i) (.bool b) := by
  rw [h]; simp [CellIs, Value.oneCell']

/-- The memory behind a scan's end. -/
def ended (c : Array Value) : Array Value := c.setIfInBounds 134 (.bool true)
theorem memOk_ended {c : Array Value} (hc : MemOk c) : MemOk (ended c) := na_set hc 134 (na_bool true rfl)


set_option maxRecDepth 10000 in
set_option maxHeartbeats 1000000 in
theorem end_i (c : Array Value) (hc : MemOk c) (w : World) : Calls Try.prog 15 #[.agg c] w fun e w' => e = .returned (.agg (ended c)) ∧ Below w.heap.size w w' := by
  obtain ⟨b, hb⟩ := hc.bool (i := 134) (by omega) rfl
  have HC : Hid (MemOk c) := hc
  have hz := zero_mem.1
  obtain ⟨Z, HZ⟩ : ∃ Z, Hid (Z = memZero) := ⟨_, rfl⟩
  rw [← HZ.out] at hz
  have HZs : Hid (Z.size = 136) := (by rw [HZ.out, memZero_size] : Z.size = 136)
  obtain ⟨C, HCC⟩ : ∃ C, Hid (C = ended c) := ⟨_, rfl⟩
  rw [← HCC.out]
  have HCM : Hid (MemOk C) := (by rw [HCC.out]; exact memOk_ended hc : MemOk C)
  have HI : Hid ((Try.prog.info? 42).map (·.size) = some C.size) := (by rw [HCM.out.size]; exact zero_mem.2 : (Try.prog.info? 42).map (·.size) = some C.size)
  clear hc
  have HR1 : Hid (((w.alloc (.cells (c.setIfInBounds 134 (.bool true)) 42)).alloc (.cells Z 42)).heap[w.heap.size]? = some (.cells C 42 (0, 0))) := by
    rw [HCC.out]; exact (rows2 w _ _).1
  have HR3 : Hid (((w.alloc (.cells (c.setIfInBounds 134 (.bool true)) 42)).alloc (.cells Z 42)).heap[w.heap.size + 1]? = some (.cells Z 42 (0, 0))) := (rows2 w _ _).2
  have HB : Hid (Below w.heap.size w (((w.alloc (.cells (c.setIfInBounds 134 (.bool true)) 42)).alloc (.cells Z 42)).setRow (w.heap.size + 1) C)) := below_setRow (((Below.refl _ _).alloc (Nat.le_refl _) _).alloc (by simp) _) (by omega) _
  go_enter Try.func15, Try.ntmps15
  go_wp2_with (first | (refine wpL_load rfl 42 _ rfl _ _ rfl _ (load_all HR1.out _ _ Try.underlying42 rfl HI.out) ?_) | (refine wpL_store rfl 42 _ _ rfl _ _ rfl _ rfl _ (store_all HR3.out _ _ (HZs.out.trans HCM.out.size.symm) HI.out HCM.out.one) ?_) | exact ret_row rfl rfl (row_set HR3.out _) Try.underlying42 rfl HI.out rfl ⟨rfl, HB.out⟩ | fail)

set_option maxRecDepth 10000 in
set_option maxHeartbeats 1000000 in
theorem end_s (c : Array Value) (hc : MemOk c) (w : World) : Calls Try.prog 14 #[.agg c] w fun e w' => e = .returned (.agg (ended c)) ∧ Below w.heap.size w w' := by
  obtain ⟨b, hb⟩ := hc.bool (i := 134) (by omega) rfl
  have HC : Hid (MemOk c) := hc
  have hz := zero_mem.1
  obtain ⟨Z, HZ⟩ : ∃ Z, Hid (Z = memZero) := ⟨_, rfl⟩
  rw [← HZ.out] at hz
  have HZs : Hid (Z.size = 136) := (by rw [HZ.out, memZero_size] : Z.size = 136)
  obtain ⟨C, HCC⟩ : ∃ C, Hid (C = ended c) := ⟨_, rfl⟩
  rw [← HCC.out]
  have HCM : Hid (MemOk C) := (by rw [HCC.out]; exact memOk_ended hc : MemOk C)
  have HI : Hid ((Try.prog.info? 42).map (·.size) = some C.size) := (by rw [HCM.out.size]; exact zero_mem.2 : (Try.prog.info? 42).map (·.size) = some C.size)
  clear hc
  have HR1 : Hid (((w.alloc (.cells (c.setIfInBounds 134 (.bool true)) 42)).alloc (.cells Z 42)).heap[w.heap.size]? = some (.cells C 42 (0, 0))) := by
    rw [HCC.out]; exact (rows2 w _ _).1
  have HR3 : Hid (((w.alloc (.cells (c.setIfInBounds 134 (.bool true)) 42)).alloc (.cells Z 42)).heap[w.heap.size + 1]? = some (.cells Z 42 (0, 0))) := (rows2 w _ _).2
  have HB : Hid (Below w.heap.size w (((w.alloc (.cells (c.setIfInBounds 134 (.bool true)) 42)).alloc (.cells Z 42)).setRow (w.heap.size + 1) C)) := below_setRow (((Below.refl _ _).alloc (Nat.le_refl _) _).alloc (by simp) _) (by omega) _
  go_enter Try.func14, Try.ntmps14
  go_wp2_with (first | (refine wpL_load rfl 42 _ rfl _ _ rfl _ (load_all HR1.out _ _ Try.underlying42 rfl HI.out) ?_) | (refine wpL_store rfl 42 _ _ rfl _ _ rfl _ rfl _ (store_all HR3.out _ _ (HZs.out.trans HCM.out.size.symm) HI.out HCM.out.one) ?_) | exact ret_row rfl rfl (row_set HR3.out _) Try.underlying42 rfl HI.out rfl ⟨rfl, HB.out⟩ | fail)

set_option maxRecDepth 10000 in
set_option maxHeartbeats 1000000 in
theorem law_end (c : Array Value) (w : World) (hc : MemOk c) :
    Calls Try.prog 6 #[.agg c] w fun e w' => e = .returned (.bool true) ∧ Below w.heap.size w w' := by
  have HC : Hid (MemOk c) := hc
  have HI : Hid ((Try.prog.info? 51).map (·.size) = some c.size) := by rw [HC.out.size]; exact na_info
  have hz := zero_mem.1
  obtain ⟨Z, HZ⟩ : ∃ Z, Hid (Z = memZero) := ⟨_, rfl⟩
  rw [← HZ.out] at hz
  obtain ⟨C, HCC⟩ : ∃ C, Hid (C = ended c) := ⟨_, rfl⟩
  have HCM : Hid (MemOk C) := (by rw [HCC.out]; exact memOk_ended hc : MemOk C)
  have HZC : Hid (Z.size = C.size) := (by rw [HZ.out, memZero_size, HCM.out.size] : Z.size = C.size)
  have HIC : Hid ((Try.prog.info? 42).map (·.size) = some C.size) := (by rw [HCM.out.size]; exact zero_mem.2 : (Try.prog.info? 42).map (·.size) = some C.size)
  have HES : Hid (∀ W, Calls Try.prog 14 #[.agg c] W fun e w' => e = .returned (.agg C) ∧ Below W.heap.size W w') := fun W => by rw [HCC.out]; exact end_s c HC.out W
  have HEI : Hid (∀ W, Calls Try.prog 15 #[.agg c] W fun e w' => e = .returned (.agg C) ∧ Below W.heap.size W w') := fun W => by rw [HCC.out]; exact end_i c HC.out W
  have HL : Hid (∀ W : World, W.heap[w.heap.size]? = some (.cells c 51 (0, 0)) → (loadVar 51 ⟨w.heap.size, 0, none⟩).run Try.prog W = .ok (.agg c) W) := fun W h => load_all h _ _ Try.underlying51 rfl HI.out
  clear hc
  go_enter Try.func6, Try.ntmps6
  go_wp2_with (first | (refine wpL_load rfl 51 _ rfl _ _ rfl _ (HL.out _ (heap_alloc_last w _)) ?_) | fail)
  refine (to_mem c HC.out _).mono ?_
  rintro e w1 ⟨rfl, g1⟩
  have h1 : w1.heap[w.heap.size]? = some (.cells c 51 (0, 0)) := (g1.block _ (by simp)).trans (heap_alloc_last w _)
  have b1 : Below w.heap.size w w1 := ((Below.refl _ _).alloc (Nat.le_refl _) _).trans (g1.mono (by simp))
  clear g1
  go_wp2_with fail
  refine (HES.out _).mono ?_
  rintro e w2 ⟨rfl, g2⟩
  have s1 : w.heap.size < w1.heap.size := (Array.getElem?_eq_some_iff.1 h1).1
  have h2 : w2.heap[w.heap.size]? = some (.cells c 51 (0, 0)) := (g2.block _ s1).trans h1
  have b2 : Below w.heap.size w w2 := b1.trans (g2.mono b1.size)
  have s2 : w.heap.size < w2.heap.size := (Array.getElem?_eq_some_iff.1 h2).1
  obtain ⟨u2, HU2⟩ : ∃ u, Hid (u = (w2.alloc (.cells Z 42)).setRow w2.heap.size C) := ⟨_, rfl⟩
  have HST : Hid ((storeVar 42 ⟨w2.heap.size, 0, none⟩ (.agg C)).run Try.prog (w2.alloc (.cells Z 42)) = .ok () u2) := by
    rw [HU2.out]; exact store_all (heap_alloc_last w2 _) _ _ HZC.out HIC.out HCM.out.one
  have h3 : u2.heap[w.heap.size]? = some (.cells c 51 (0, 0)) := by
    rw [HU2.out]; exact row_beside ((heap_alloc_old w2 _ (by omega)).trans h2) _ (by omega) _
  have k3 : u2.heap[w2.heap.size]? = some (.cells C 42 (0, 0)) := by rw [HU2.out]; exact row_set (heap_alloc_last w2 _) _
  have b3 : Below w.heap.size w u2 := by rw [HU2.out]; exact below_setRow (b2.alloc (by omega) _) (by omega) _
  clear g2 h1 h2 b1 b2 HU2 s1
  go_wp2_with (first | (refine wpL_store rfl 42 _ _ rfl _ _ rfl _ rfl _ HST.out ?_) | (refine wpL_load rfl 51 _ rfl _ _ rfl _ (HL.out _ h3) ?_) | fail)
  refine (to_mem c HC.out _).mono ?_
  rintro e w4 ⟨rfl, g4⟩
  have k4 := (g4.block _ (Array.getElem?_eq_some_iff.1 k3).1).trans k3
  have b4 : Below w.heap.size w w4 := b3.trans (g4.mono b3.size)
  clear g4 h3 k3 b3 HST
  go_wp2_with fail
  refine (HEI.out _).mono ?_
  rintro e w5 ⟨rfl, g5⟩
  have k5 := (g5.block _ (Array.getElem?_eq_some_iff.1 k4).1).trans k4
  have s5 := (Array.getElem?_eq_some_iff.1 k5).1
  have b5 : Below w.heap.size w w5 := b4.trans (g5.mono b4.size)
  obtain ⟨u5, HU5⟩ : ∃ u, Hid (u = (w5.alloc (.cells Z 42)).setRow w5.heap.size C) := ⟨_, rfl⟩
  have HST : Hid ((storeVar 42 ⟨w5.heap.size, 0, none⟩ (.agg C)).run Try.prog (w5.alloc (.cells Z 42)) = .ok () u5) := by
    rw [HU5.out]; exact store_all (heap_alloc_last w5 _) _ _ HZC.out HIC.out HCM.out.one
  have k6 : u5.heap[w2.heap.size]? = some (.cells C 42 (0, 0)) := by
    rw [HU5.out]; exact row_beside ((heap_alloc_old w5 _ (by omega)).trans k5) _ (by omega) _
  have j6 : u5.heap[w5.heap.size]? = some (.cells C 42 (0, 0)) := by rw [HU5.out]; exact row_set (heap_alloc_last w5 _) _
  have b6 : Below w.heap.size w u5 := by rw [HU5.out]; exact below_setRow (b5.alloc (by have := b5.size; omega) _) (by have := b5.size; omega) _
  have HLa : Hid ((loadVar 42 ⟨w5.heap.size, 0, none⟩).run Try.prog u5 = .ok (.agg C) u5) := load_all j6 _ _ Try.underlying42 rfl HIC.out
  have HLb : Hid ((loadVar 42 ⟨w2.heap.size, 0, none⟩).run Try.prog u5 = .ok (.agg C) u5) := load_all k6 _ _ Try.underlying42 rfl HIC.out
  clear g5 k4 k5 b4 b5 HU5 k6 j6
  go_wp2_with (first | (refine wpL_store rfl 42 _ _ rfl _ _ rfl _ rfl _ HST.out ?_) | (refine wpL_load rfl 42 _ rfl _ _ rfl _ HLa.out ?_) | (refine wpL_load rfl 42 _ rfl _ _ rfl _ HLb.out ?_) | fail)
  refine (eq_mem C C (MSame.refl HCM.out) _).mono ?_
  rintro e w7 ⟨rfl, g7⟩
  have b7 := b6.trans (g7.mono b6.size)
  go_wp2
  go_ret
  exact ⟨rfl, b7⟩
end Go.Proofs.Ytlpoplnghfohmaa
