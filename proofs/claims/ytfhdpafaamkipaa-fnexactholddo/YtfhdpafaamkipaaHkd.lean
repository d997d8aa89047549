/- Stores as arguments: copied by the laws. -/
import Derived.Test.YtfhdpafaamkipaaHkc
import Derived.Deep.RegionHeld3
import Derived.Deep.RegionLaw
import Derived.Deep.Cut
namespace Go.Proofs.Ytfhdpafaamkipaa
open Go.RowKit
set_option linter.unusedVariables false
set_option linter.unusedSimpArgs false

theorem row_cells6 {w : World} {B : Nat} {T : TypeId} {v0 v1 v2 v3 v4 v5 : Value} (k : w.heap[B]? = some (.cells #[v0, v1, v2, v3, v4, v5] T (0, 0))) :
    w.cell? ⟨B, 0, none⟩ = some v0 ∧ w.cell? ⟨B, 1, none⟩ = some v1 ∧ w.cell? ⟨B, 2, none⟩ = some v2 ∧ w.cell? ⟨B, 3, none⟩ = some v3 ∧ w.cell? ⟨B, 4, none⟩ = some v4 ∧ w.cell? ⟨B, 5, none⟩ = some v5 ∧ ∀ o, w.frozen? ⟨B, o, none⟩ = false :=
  ⟨(cell_of_row _ _ _ _ _ _ k).trans rfl, (cell_of_row _ _ _ _ _ _ k).trans rfl, (cell_of_row _ _ _ _ _ _ k).trans rfl, (cell_of_row _ _ _ _ _ _ k).trans rfl, (cell_of_row _ _ _ _ _ _ k).trans rfl, (cell_of_row _ _ _ _ _ _ k).trans rfl, fun o => by simp [World.frozen?, k]⟩
theorem row_other19 {W : World} {B : Nat} {o : Obj} (h : W.heap[B]? = some o) (b f : Nat) (hne : b ≠ B) (v : Value) : (W.setCell ⟨b, f, none⟩ v).heap[B]? = some o := by
  rw [← h]
  simp only [World.setCell]
  rw [Array.getElem?_modify]
  simp [hne]
theorem row_put19 {W : World} {B : Nat} {C : Array Value} {t : TypeId} (h : W.heap[B]? = some (.cells C t (0, 0))) (i : Nat) (a : Value) :
    (W.setCell ⟨B, i, none⟩ a).heap[B]? = some (.cells (C.setIfInBounds i a) t (0, 0)) := by
  rw [setCell_eq_setRow W B i C t (0, 0) a h]
  exact setRow_heap W B C _ t _ h
theorem three_alloc (w : World) (o1 o2 o3 : Obj) : (((w.alloc o1).alloc o2).alloc o3).heap[w.heap.size]? = some o1 ∧ (((w.alloc o1).alloc o2).alloc o3).heap[w.heap.size + 1]? = some o2 ∧ (((w.alloc o1).alloc o2).alloc o3).heap[w.heap.size + 1 + 1]? = some o3 ∧ (((w.alloc o1).alloc o2).alloc o3).heap.size = w.heap.size + 3 ∧ Below w.heap.size w (((w.alloc o1).alloc o2).alloc o3) := by
  have h1 := heap_alloc_last w o1
  have h2 := heap_alloc_last (w.alloc o1) o2
  have h3 := heap_alloc_last ((w.alloc o1).alloc o2) o3
  simp only [World.size_alloc] at h2 h3
  refine ⟨?_, ?_, h3, by simp, (((Below.refl _ _).alloc (Nat.le_refl _) _).alloc (by simp) _).alloc (by simp; omega) _⟩
  · exact (Below.heap_alloc _ _ _ (by simp; omega)).trans ((Below.heap_alloc _ _ _ (by simp)).trans h1)
  · exact (Below.heap_alloc _ _ _ (by simp)).trans h2
set_option maxRecDepth 10000 in
set_option maxHeartbeats 4000000 in
theorem to_rom (r : RomT) (xa xb : Option Addr) (na ca nb cb : Nat) (f g : Nat → Nat) (w : World) (hna : na ≤ 1048576) (hnb : nb ≤ 1048576) (ha : Bt w xa na f) (hb : Bt w xb nb g) :
    Calls Try.prog 26 #[romV r xa xb na ca nb cb] w fun e w' => ∃ ga gb, e = .returned (romV r (some ⟨ga, 0, none⟩) (some ⟨gb, 0, none⟩) na na nb nb) ∧ w.heap.size ≤ ga ∧ ga < gb ∧ By w' ga na f ∧ By w' gb nb g ∧ Below w.heap.size w w' := by
  obtain ⟨⟨am, at', ad⟩, ⟨bm, bt, bd⟩⟩ := r
  have HA : Hid (∀ W, Below w.heap.size w W → Calls Try.prog 58 #[.agg #[.int .u8 am, .int .u8 at', .slice xa na ca]] W fun e w' => ∃ g, e = .returned (.agg #[.int .u8 am, .int .u8 at', .slice (some ⟨g, 0, none⟩) na na]) ∧ W.heap.size ≤ g ∧ By w' g na f ∧ Below W.heap.size W w') := fun W b => to_slot am at' xa na ca f W hna (ha.later b (Nat.le_refl _))
  have HB : Hid (∀ W, Below w.heap.size w W → Calls Try.prog 58 #[.agg #[.int .u8 bm, .int .u8 bt, .slice xb nb cb]] W fun e w' => ∃ h, e = .returned (.agg #[.int .u8 bm, .int .u8 bt, .slice (some ⟨h, 0, none⟩) nb nb]) ∧ W.heap.size ≤ h ∧ By w' h nb g ∧ Below W.heap.size W w') := fun W b => to_slot bm bt xb nb cb g W hnb (hb.later b (Nat.le_refl _))
  unfold romV
  clear ha hb
  go_enter Try.func26, Try.ntmps26
  go_wp2_with fail
  obtain ⟨k0, k1, k2, hz, b0⟩ := three_alloc w (.cells #[.int .u8 am, .int .u8 at', .slice xa na ca, .int .u8 bm, .int .u8 bt, .slice xb nb cb] 45) (.cells #[.int .u8 0, .int .u8 0, .slice none 0 0, .int .u8 0, .int .u8 0, .slice none 0 0] 26) (.cells #[.int .u8 0, .int .u8 0, .slice none 0 0, .int .u8 0, .int .u8 0, .slice none 0 0] 26)
  generalize (((w.alloc (.cells #[.int .u8 am, .int .u8 at', .slice xa na ca, .int .u8 bm, .int .u8 bt, .slice xb nb cb] 45)).alloc (.cells #[.int .u8 0, .int .u8 0, .slice none 0 0, .int .u8 0, .int .u8 0, .slice none 0 0] 26)).alloc (.cells #[.int .u8 0, .int .u8 0, .slice none 0 0, .int .u8 0, .int .u8 0, .slice none 0 0] 26)) = W0 at k0 k1 k2 hz b0 ⊢
  refine (HA.out W0 b0).mono ?_
  rintro e w1 ⟨ga, rfl, hga, hya, g1⟩
  have k0 := (g1.block _ (by omega)).trans k0
  have k1 := (g1.block _ (by omega)).trans k1
  have k2 := (g1.block _ (by omega)).trans k2
  have b1 := b0.trans (g1.mono b0.size)
  have hs1 := g1.size
  have HY1 : Hid (By w1 ga na f) := hya
  obtain ⟨p0, p1, p2, p3, p4, p5, pf⟩ := row_cells6 k0
  obtain ⟨q0, q1, q2, q3, q4, q5, qf⟩ := row_cells6 k2
  have hne : w.heap.size + 1 + 1 ≠ ga := by omega
  have hne1 : w.heap.size + 1 ≠ ga := by omega
  have K0 := row_other19 (row_other19 (row_other19 k0 (w.heap.size + 1 + 1) 0 (by omega) (.int .u8 am)) (w.heap.size + 1 + 1) 1 (by omega) (.int .u8 at')) (w.heap.size + 1 + 1) 2 (by omega) (.slice (some ⟨ga, 0, none⟩) na na)
  have K1 := row_other19 (row_other19 (row_other19 k1 (w.heap.size + 1 + 1) 0 (by omega) (.int .u8 am)) (w.heap.size + 1 + 1) 1 (by omega) (.int .u8 at')) (w.heap.size + 1 + 1) 2 (by omega) (.slice (some ⟨ga, 0, none⟩) na na)
  have K2 := row_put19 (row_put19 (row_put19 k2 0 (.int .u8 am)) 1 (.int .u8 at')) 2 (.slice (some ⟨ga, 0, none⟩) na na)
  have B2 : Below w.heap.size w (((w1.setCell ⟨w.heap.size + 1 + 1, 0, none⟩ (.int .u8 am)).setCell ⟨w.heap.size + 1 + 1, 1, none⟩ (.int .u8 at')).setCell ⟨w.heap.size + 1 + 1, 2, none⟩ (.slice (some ⟨ga, 0, none⟩) na na)) := bel_set (bel_set (bel_set b1 (by omega) _ _) (by omega) _ _) (by omega) _ _
  have HY2 : Hid (By (((w1.setCell ⟨w.heap.size + 1 + 1, 0, none⟩ (.int .u8 am)).setCell ⟨w.heap.size + 1 + 1, 1, none⟩ (.int .u8 at')).setCell ⟨w.heap.size + 1 + 1, 2, none⟩ (.slice (some ⟨ga, 0, none⟩) na na)) ga na f) := ((hya.other hne _ _).other hne _ _).other hne _ _
  have hs2 : (((w1.setCell ⟨w.heap.size + 1 + 1, 0, none⟩ (.int .u8 am)).setCell ⟨w.heap.size + 1 + 1, 1, none⟩ (.int .u8 at')).setCell ⟨w.heap.size + 1 + 1, 2, none⟩ (.slice (some ⟨ga, 0, none⟩) na na)).heap.size = w1.heap.size := by simp
  have hgl : ga < w1.heap.size := hya.lt
  clear g1 k0 k1 k2 b0 hya b1
  go_upto_region 3 with fail
  generalize (((w1.setCell ⟨w.heap.size + 1 + 1, 0, none⟩ (.int .u8 am)).setCell ⟨w.heap.size + 1 + 1, 1, none⟩ (.int .u8 at')).setCell ⟨w.heap.size + 1 + 1, 2, none⟩ (.slice (some ⟨ga, 0, none⟩) na na)) = W2 at K0 K1 K2 B2 HY2 hs2 ⊢
  clear p0 p1 p2 p3 p4 p5 pf q0 q1 q2 q3 q4 q5 qf
  obtain ⟨p0, p1, p2, p3, p4, p5, pf⟩ := row_cells6 K0
  go_wp2_with fail
  refine (HB.out W2 B2).mono ?_
  rintro e w3 ⟨gb, rfl, hgb, hyb, g3⟩
  have K1 := (g3.block _ (by omega)).trans K1
  have K2 := (g3.block _ (by omega)).trans K2
  have HB3 : Hid (Below w.heap.size w w3) := B2.trans (g3.mono B2.size)
  have HYa : Hid (By w3 ga na f) := HY2.out.later g3 (by omega)
  have HYb : Hid (By w3 gb nb g) := hyb
  have hnb : w.heap.size + 1 + 1 ≠ gb := by omega
  have hnb1 : w.heap.size + 1 ≠ gb := by omega
  clear p0 p1 p2 p3 p4 p5 pf K0 g3 hyb HA HB
  obtain ⟨q0, q1, q2, q3, q4, q5, qf⟩ := row_cells6 K2
  obtain ⟨r0, r1, r2, r3, r4, r5, rf⟩ := row_cells6 K1
  clear K1 K2
  go_wp2
  refine bodyPost_ret (v := .agg #[.int .u8 am, .int .u8 at', .slice (some ⟨ga, 0, none⟩) na na, .int .u8 bm, .int .u8 bt, .slice (some ⟨gb, 0, none⟩) nb nb]) (by simp [results, Try.results26, go_sem, q0, q1, q2, q3, q4, q5, r0, r1, r2, r3, r4, r5]) rfl ⟨ga, gb, rfl, by omega, by omega, ?_, ?_, ?_⟩
  · iterate 9 refine By.other ?_ (by omega) _ _
    exact HYa.out
  · iterate 9 refine By.other ?_ (by omega) _ _
    exact HYb.out
  · iterate 9 refine bel_set ?_ (by omega) _ _
    exact HB3.out
end Go.Proofs.Ytfhdpafaamkipaa
