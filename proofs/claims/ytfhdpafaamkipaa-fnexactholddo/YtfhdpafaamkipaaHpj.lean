/- A store of one's own, of the specification. Made by tools/gen19_hpj.py. -/
import Derived.Test.YtfhdpafaamkipaaHpi
namespace Go.Proofs.Ytfhdpafaamkipaa
open Go.RowKit
set_option linter.unusedVariables false
set_option linter.unusedSimpArgs false

theorem two_alloc (w : World) (o1 o2 : Obj) : ((w.alloc o1).alloc o2).heap[w.heap.size]? = some o1 ∧ ((w.alloc o1).alloc o2).heap[w.heap.size + 1]? = some o2 ∧ ((w.alloc o1).alloc o2).heap.size = w.heap.size + 2 ∧ Below w.heap.size w ((w.alloc o1).alloc o2) := by
  have h2 := heap_alloc_last (w.alloc o1) o2
  rw [World.size_alloc] at h2
  exact ⟨(Below.heap_alloc _ _ _ (by simp)).trans (heap_alloc_last w o1), h2, by simp, ((Below.refl _ _).alloc (Nat.le_refl _) _).alloc (by simp) _⟩
set_option maxRecDepth 10000 in
set_option maxHeartbeats 8000000 in
theorem rom_s (r : RomT) (xa xb : Option Addr) (na ca nb cb : Nat) (w : World) (h : RomOk r na nb) (hna : na ≤ 1048576) (hnb : nb ≤ 1048576) (ha : Bt w xa na (fL r.a.data)) (hb : Bt w xb nb (fL r.b.data)) :
    Calls Try.prog 52 #[romV r xa xb na ca nb cb] w fun e w' => RomR r w e w' := by
  have HA : Hid (∀ W, Below w.heap.size w W → Calls Try.prog 43 #[.slice xa na ca] W fun e w' => ∃ g c', e = .returned (.slice (some ⟨g, 0, none⟩) na c') ∧ OwB w' W.heap.size (.slice (some ⟨g, 0, none⟩) na c') r.a.data ∧ Below W.heap.size W w') := fun W b => copy_s xa na ca r.a.data W h.1.2.2.symm hna (ha.later b (Nat.le_refl _))
  have HB : Hid (∀ W, Below w.heap.size w W → Calls Try.prog 43 #[.slice xb nb cb] W fun e w' => ∃ g c', e = .returned (.slice (some ⟨g, 0, none⟩) nb c') ∧ OwB w' W.heap.size (.slice (some ⟨g, 0, none⟩) nb c') r.b.data ∧ Below W.heap.size W w') := fun W b => copy_s xb nb cb r.b.data W h.2.2.2.symm hnb (hb.later b (Nat.le_refl _))
  obtain ⟨k0, k1, hz, b0⟩ := two_alloc w (.cells #[.int .u8 r.a.mark, .int .u8 r.a.turn, .slice xa na ca, .int .u8 r.b.mark, .int .u8 r.b.turn, .slice xb nb cb] 26) (.cells #[.int .u8 0, .int .u8 0, .slice none 0 0, .int .u8 0, .int .u8 0, .slice none 0 0] 26)
  unfold romV
  clear h ha hb
  go_enter Try.func52, Try.ntmps52
  go_wp2_with fail
  generalize ((w.alloc (.cells #[.int .u8 r.a.mark, .int .u8 r.a.turn, .slice xa na ca, .int .u8 r.b.mark, .int .u8 r.b.turn, .slice xb nb cb] 26)).alloc (.cells #[.int .u8 0, .int .u8 0, .slice none 0 0, .int .u8 0, .int .u8 0, .slice none 0 0] 26)) = W0 at k0 k1 hz b0 ⊢
  refine (HA.out W0 b0).mono ?_
  rintro e w1 ⟨ga, c1, rfl, oA, g1⟩
  have hs1 := g1.size
  have qA : ∀ k, atB (some ⟨ga, 0, none⟩) k → W0.heap.size ≤ k ∧ k < w1.heap.size := fun k e => owb_lt oA k e
  have j0 := row_put19 (row_later19 k0 g1) 2 (.slice (some ⟨ga, 0, none⟩) na c1)
  have j1 := row_other19 (row_later19 k1 g1) w.heap.size 2 (by omega) (.slice (some ⟨ga, 0, none⟩) na c1)
  have B1 : Below w.heap.size w (w1.setCell ⟨w.heap.size, 2, none⟩ (.slice (some ⟨ga, 0, none⟩) na c1)) := bel_set (b0.trans (g1.mono b0.size)) (Nat.le_refl _) _ _
  have oA1 := owb_keep (w' := w1.setCell ⟨w.heap.size, 2, none⟩ (.slice (some ⟨ga, 0, none⟩) na c1)) oA fun k e => heap_set19 _ _ _ _ _ (by have := qA k e; omega)
  have hs2 : (w1.setCell ⟨w.heap.size, 2, none⟩ (.slice (some ⟨ga, 0, none⟩) na c1)).heap.size = w1.heap.size := by simp
  obtain ⟨p0, p1, p2, p3, p4, p5, pf⟩ := row_cells6 (row_later19 k0 g1)
  clear k0 k1 b0 g1 oA
  go_upto_region 2 with fail
  generalize (w1.setCell ⟨w.heap.size, 2, none⟩ (.slice (some ⟨ga, 0, none⟩) na c1)) = V1 at j0 j1 B1 oA1 hs2 ⊢
  clear p0 p1 p2 p3 p4 p5 pf
  have j0 : V1.heap[w.heap.size]? = some (.cells #[.int .u8 r.a.mark, .int .u8 r.a.turn, .slice (some ⟨ga, 0, none⟩) na c1, .int .u8 r.b.mark, .int .u8 r.b.turn, .slice xb nb cb] 26 (0, 0)) := j0
  obtain ⟨p0, p1, p2, p3, p4, p5, pf⟩ := row_cells6 j0
  go_wp2_with fail
  refine (HB.out V1 B1).mono ?_
  rintro e w2 ⟨gb, c2, rfl, oB, g2⟩
  have hs3 := g2.size
  have qB : ∀ k, atB (some ⟨gb, 0, none⟩) k → V1.heap.size ≤ k ∧ k < w2.heap.size := fun k e => owb_lt oB k e
  have m0 := row_put19 (row_later19 j0 g2) 5 (.slice (some ⟨gb, 0, none⟩) nb c2)
  have m1 := row_other19 (row_later19 j1 g2) w.heap.size 5 (by omega) (.slice (some ⟨gb, 0, none⟩) nb c2)
  have B2 : Below w.heap.size w (w2.setCell ⟨w.heap.size, 5, none⟩ (.slice (some ⟨gb, 0, none⟩) nb c2)) := bel_set (B1.trans (g2.mono B1.size)) (Nat.le_refl _) _ _
  have oA2 := owb_keep (w' := w2.setCell ⟨w.heap.size, 5, none⟩ (.slice (some ⟨gb, 0, none⟩) nb c2)) (owb_later oA1 g2) fun k e => heap_set19 _ _ _ _ _ (by have := qA k e; omega)
  have oB2 := owb_keep (w' := w2.setCell ⟨w.heap.size, 5, none⟩ (.slice (some ⟨gb, 0, none⟩) nb c2)) oB fun k e => heap_set19 _ _ _ _ _ (by have := qB k e; omega)
  have hRO : RoO (w2.setCell ⟨w.heap.size, 5, none⟩ (.slice (some ⟨gb, 0, none⟩) nb c2)) W0.heap.size r (some ⟨ga, 0, none⟩) na c1 (some ⟨gb, 0, none⟩) nb c2 := ⟨oA2, owb_base oB2 (by omega), fun k e e' => by have := qA k e; have := qB k e'; omega⟩
  obtain ⟨s0, s1, s2, s3, s4, s5, sf⟩ := row_cells6 (row_later19 j0 g2)
  clear p0 p1 p2 p3 p4 p5 pf j0 j1 g2 oB oA1 oA2 oB2 qA qB B1
  go_upto_region 3 with fail
  generalize (w2.setCell ⟨w.heap.size, 5, none⟩ (.slice (some ⟨gb, 0, none⟩) nb c2)) = V2 at m0 m1 B2 hRO ⊢
  clear s0 s1 s2 s3 s4 s5 sf
  have m0 : V2.heap[w.heap.size]? = some (.cells #[.int .u8 r.a.mark, .int .u8 r.a.turn, .slice (some ⟨ga, 0, none⟩) na c1, .int .u8 r.b.mark, .int .u8 r.b.turn, .slice (some ⟨gb, 0, none⟩) nb c2] 26 (0, 0)) := m0
  obtain ⟨p0, p1, p2, p3, p4, p5, pf⟩ := row_cells6 m0
  obtain ⟨s0, s1, s2, s3, s4, s5, sf⟩ := row_cells6 m1
  have HX : Hid _ := put_rom (R := r) (w := w) m1 hRO (by omega) B2 (by omega)
  clear m0 m1 hRO B2 hs1 hs2 hs3 hz HA HB
  go_wp2
  obtain ⟨q0, q1, q2, q3, q4, q5, qf⟩ := row_cells6 HX.out.1
  have HF := HX.out.2
  generalize ((((((V2.setCell ⟨w.heap.size + 1, 0, none⟩ (.int .u8 r.a.mark)).setCell ⟨w.heap.size + 1, 1, none⟩ (.int .u8 r.a.turn)).setCell ⟨w.heap.size + 1, 2, none⟩ (.slice (some ⟨ga, 0, none⟩) na c1)).setCell ⟨w.heap.size + 1, 3, none⟩ (.int .u8 r.b.mark)).setCell ⟨w.heap.size + 1, 4, none⟩ (.int .u8 r.b.turn)).setCell ⟨w.heap.size + 1, 5, none⟩ (.slice (some ⟨gb, 0, none⟩) nb c2)) = V at q0 q1 q2 q3 q4 q5 qf HF ⊢
  exact bodyPost_ret (v := .agg #[.int .u8 r.a.mark, .int .u8 r.a.turn, .slice (some ⟨ga, 0, none⟩) na c1, .int .u8 r.b.mark, .int .u8 r.b.turn, .slice (some ⟨gb, 0, none⟩) nb c2]) (by simp [results, Try.results52, go_sem, q0, q1, q2, q3, q4, q5]) rfl HF
end Go.Proofs.Ytfhdpafaamkipaa
