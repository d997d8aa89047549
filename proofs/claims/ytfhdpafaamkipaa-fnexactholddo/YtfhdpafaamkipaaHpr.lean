/- HoldDo of the specification. Made by tools/gen19_hpr.py. -/
import Derived.Test.YtfhdpafaamkipaaHpq
import Derived.Test.YtfhdpafaamkipaaHpm
namespace Go.Proofs.Ytfhdpafaamkipaa
open Go.RowKit
set_option linter.unusedVariables false
set_option linter.unusedSimpArgs false

theorem nxt_a {w wr w1 : World} {N : Nat} {R : RomT} {q : SlotT} {ya yb a1 : Option Addr} {pa ea pb eb n1 c1 : Nat} (h1 : wr.heap[w.heap.size]? = some (.cells #[.int .u8 R.a.mark, .int .u8 R.a.turn, .slice ya pa ea, .int .u8 R.b.mark, .int .u8 R.b.turn, .slice yb pb eb] 26 (0, 0))) (hR : RoO wr N R ya pa ea yb pb eb) (hN : w.heap.size < N) (h3 : Below w.heap.size w wr)
    (hO : OwB w1 N (.slice a1 n1 c1) q.data) (hat : ∀ j, atB a1 j → atB ya j ∨ wr.heap.size ≤ j) (hU : Outs (atB ya) wr w1) :
    (((w1.setCell ⟨w.heap.size, 0, none⟩ (.int .u8 q.mark)).setCell ⟨w.heap.size, 1, none⟩ (.int .u8 q.turn)).setCell ⟨w.heap.size, 2, none⟩ (.slice a1 n1 c1)).heap[w.heap.size]? = some (.cells #[.int .u8 q.mark, .int .u8 q.turn, .slice a1 n1 c1, .int .u8 R.b.mark, .int .u8 R.b.turn, .slice yb pb eb] 26 (0, 0)) ∧ RoO (((w1.setCell ⟨w.heap.size, 0, none⟩ (.int .u8 q.mark)).setCell ⟨w.heap.size, 1, none⟩ (.int .u8 q.turn)).setCell ⟨w.heap.size, 2, none⟩ (.slice a1 n1 c1)) N ⟨q, R.b⟩ a1 n1 c1 yb pb eb ∧ Below w.heap.size w (((w1.setCell ⟨w.heap.size, 0, none⟩ (.int .u8 q.mark)).setCell ⟨w.heap.size, 1, none⟩ (.int .u8 q.turn)).setCell ⟨w.heap.size, 2, none⟩ (.slice a1 n1 c1)) ∧ (∀ k o, w.heap.size < k → k < N → wr.heap[k]? = some o → (((w1.setCell ⟨w.heap.size, 0, none⟩ (.int .u8 q.mark)).setCell ⟨w.heap.size, 1, none⟩ (.int .u8 q.turn)).setCell ⟨w.heap.size, 2, none⟩ (.slice a1 n1 c1)).heap[k]? = some o) := by
  have lA : ∀ j, atB ya j → N ≤ j ∧ j < wr.heap.size := fun j e => owb_lt hR.a j e
  have lB : ∀ j, atB yb j → N ≤ j ∧ j < wr.heap.size := fun j e => owb_lt hR.b j e
  have lC : ∀ j, atB a1 j → N ≤ j := fun j e => (owb_lt hO j e).1
  have k1 := row_put19 (row_put19 (row_put19 (hU.row h1 (fun e => by have := lA _ e; omega)) 0 (.int .u8 q.mark)) 1 (.int .u8 q.turn)) 2 (.slice a1 n1 c1)
  have q0 : ∀ j, w.heap.size ≠ j → (((w1.setCell ⟨w.heap.size, 0, none⟩ (.int .u8 q.mark)).setCell ⟨w.heap.size, 1, none⟩ (.int .u8 q.turn)).setCell ⟨w.heap.size, 2, none⟩ (.slice a1 n1 c1)).heap[j]? = w1.heap[j]? := fun j hne => (heap_set19 _ _ _ _ _ hne).trans ((heap_set19 _ _ _ _ _ hne).trans (heap_set19 _ _ _ _ _ hne))
  have qq : ∀ j, N ≤ j → (((w1.setCell ⟨w.heap.size, 0, none⟩ (.int .u8 q.mark)).setCell ⟨w.heap.size, 1, none⟩ (.int .u8 q.turn)).setCell ⟨w.heap.size, 2, none⟩ (.slice a1 n1 c1)).heap[j]? = w1.heap[j]? := fun j hj => q0 j (by omega)
  refine ⟨k1, ⟨owb_keep hO fun j e => qq j (lC j e), owb_keep (owb_outs hR.b hU (fun k e e' => hR.d k e' e)) fun j e => qq j (lB j e).1, fun k e e' => ?_⟩, bel_set (bel_set (bel_set (hU.below h3 h3.size (fun k e => by have := lA k e; omega)) (Nat.le_refl _) _ _) (Nat.le_refl _) _ _) (Nat.le_refl _) _ _, fun k o hk1 hk2 ho => (q0 k (by omega)).trans (hU.row ho (fun e => by have := lA k e; omega))⟩
  · rcases hat k e with h | h
    · exact hR.d k h e'
    · have := lB k e'; omega
theorem nxt_b {w wr w1 : World} {N : Nat} {R : RomT} {q : SlotT} {ya yb a1 : Option Addr} {pa ea pb eb n1 c1 : Nat} (h1 : wr.heap[w.heap.size]? = some (.cells #[.int .u8 R.a.mark, .int .u8 R.a.turn, .slice ya pa ea, .int .u8 R.b.mark, .int .u8 R.b.turn, .slice yb pb eb] 26 (0, 0))) (hR : RoO wr N R ya pa ea yb pb eb) (hN : w.heap.size < N) (h3 : Below w.heap.size w wr)
    (hO : OwB w1 N (.slice a1 n1 c1) q.data) (hat : ∀ j, atB a1 j → atB yb j ∨ wr.heap.size ≤ j) (hU : Outs (atB yb) wr w1) :
    (((w1.setCell ⟨w.heap.size, 3, none⟩ (.int .u8 q.mark)).setCell ⟨w.heap.size, 4, none⟩ (.int .u8 q.turn)).setCell ⟨w.heap.size, 5, none⟩ (.slice a1 n1 c1)).heap[w.heap.size]? = some (.cells #[.int .u8 R.a.mark, .int .u8 R.a.turn, .slice ya pa ea, .int .u8 q.mark, .int .u8 q.turn, .slice a1 n1 c1] 26 (0, 0)) ∧ RoO (((w1.setCell ⟨w.heap.size, 3, none⟩ (.int .u8 q.mark)).setCell ⟨w.heap.size, 4, none⟩ (.int .u8 q.turn)).setCell ⟨w.heap.size, 5, none⟩ (.slice a1 n1 c1)) N ⟨R.a, q⟩ ya pa ea a1 n1 c1 ∧ Below w.heap.size w (((w1.setCell ⟨w.heap.size, 3, none⟩ (.int .u8 q.mark)).setCell ⟨w.heap.size, 4, none⟩ (.int .u8 q.turn)).setCell ⟨w.heap.size, 5, none⟩ (.slice a1 n1 c1)) ∧ (∀ k o, w.heap.size < k → k < N → wr.heap[k]? = some o → (((w1.setCell ⟨w.heap.size, 3, none⟩ (.int .u8 q.mark)).setCell ⟨w.heap.size, 4, none⟩ (.int .u8 q.turn)).setCell ⟨w.heap.size, 5, none⟩ (.slice a1 n1 c1)).heap[k]? = some o) := by
  have lA : ∀ j, atB ya j → N ≤ j ∧ j < wr.heap.size := fun j e => owb_lt hR.a j e
  have lB : ∀ j, atB yb j → N ≤ j ∧ j < wr.heap.size := fun j e => owb_lt hR.b j e
  have lC : ∀ j, atB a1 j → N ≤ j := fun j e => (owb_lt hO j e).1
  have k1 := row_put19 (row_put19 (row_put19 (hU.row h1 (fun e => by have := lB _ e; omega)) 3 (.int .u8 q.mark)) 4 (.int .u8 q.turn)) 5 (.slice a1 n1 c1)
  have q0 : ∀ j, w.heap.size ≠ j → (((w1.setCell ⟨w.heap.size, 3, none⟩ (.int .u8 q.mark)).setCell ⟨w.heap.size, 4, none⟩ (.int .u8 q.turn)).setCell ⟨w.heap.size, 5, none⟩ (.slice a1 n1 c1)).heap[j]? = w1.heap[j]? := fun j hne => (heap_set19 _ _ _ _ _ hne).trans ((heap_set19 _ _ _ _ _ hne).trans (heap_set19 _ _ _ _ _ hne))
  have qq : ∀ j, N ≤ j → (((w1.setCell ⟨w.heap.size, 3, none⟩ (.int .u8 q.mark)).setCell ⟨w.heap.size, 4, none⟩ (.int .u8 q.turn)).setCell ⟨w.heap.size, 5, none⟩ (.slice a1 n1 c1)).heap[j]? = w1.heap[j]? := fun j hj => q0 j (by omega)
  refine ⟨k1, ⟨owb_keep (owb_outs hR.a hU (fun k e e' => hR.d k e e')) fun j e => qq j (lA j e).1, owb_keep hO fun j e => qq j (lC j e), fun k e e' => ?_⟩, bel_set (bel_set (bel_set (hU.below h3 h3.size (fun k e => by have := lB k e; omega)) (Nat.le_refl _) _ _) (Nat.le_refl _) _ _) (Nat.le_refl _) _ _, fun k o hk1 hk2 ho => (q0 k (by omega)).trans (hU.row ho (fun e => by have := lB k e; omega))⟩
  · rcases hat k e' with h | h
    · exact hR.d k e h
    · have := lA k e; omega
set_option maxRecDepth 10000 in
set_option maxHeartbeats 8000000 in
theorem do_s (r : RomT) (xa xb : Option Addr) (na ca nb cb : Nat) (x : WrT) (w : World) (h : RomOk r na nb) (hna : na ≤ 1048576) (hnb : nb ≤ 1048576) (ha : Bt w xa na (fL r.a.data)) (hb : Bt w xb nb (fL r.b.data)) :
    Calls Try.prog 25 #[romV r xa xb na ca nb cb, .agg #[.int .i64 x.kind, .int .i64 x.slot, .int .u8 x.byte]] w fun e w' => RomR (doT r x) w e w' := by
  have HR : Hid (∀ W, Below w.heap.size w W → Calls Try.prog 52 #[romV r xa xb na ca nb cb] W fun e w' => RomR r W e w') := fun W b => rom_s r xa xb na ca nb cb W h hna hnb (ha.later b (Nat.le_refl _)) (hb.later b (Nat.le_refl _))
  obtain ⟨k0, k1, k2, hz, b0⟩ := three_alloc w (.cells #[.int .u8 r.a.mark, .int .u8 r.a.turn, .slice xa na ca, .int .u8 r.b.mark, .int .u8 r.b.turn, .slice xb nb cb] 26) (.cells #[.int .i64 x.kind, .int .i64 x.slot, .int .u8 x.byte] 42) (.cells #[.int .u8 0, .int .u8 0, .slice none 0 0, .int .u8 0, .int .u8 0, .slice none 0 0] 26)
  clear h ha hb
  unfold romV at HR ⊢
  go_enter Try.func25, Try.ntmps25
  go_wp2_with fail
  generalize (((w.alloc (.cells #[.int .u8 r.a.mark, .int .u8 r.a.turn, .slice xa na ca, .int .u8 r.b.mark, .int .u8 r.b.turn, .slice xb nb cb] 26)).alloc (.cells #[.int .i64 x.kind, .int .i64 x.slot, .int .u8 x.byte] 42)).alloc (.cells #[.int .u8 0, .int .u8 0, .slice none 0 0, .int .u8 0, .int .u8 0, .slice none 0 0] 26)) = W0 at k0 k1 k2 hz b0 ⊢
  refine (HR.out W0 b0).mono ?_
  rintro e w1 ⟨ya, pa, ea, yb, pb, eb, rfl, hO, g1⟩
  have i0 := row_later19 k0 g1
  obtain ⟨s0, s1, s2, s3, s4, s5, sf⟩ := row_cells6 i0
  have hX0 := row_put19 (row_put19 (row_put19 (row_put19 (row_put19 (row_put19 i0 0 (.int .u8 r.a.mark)) 1 (.int .u8 r.a.turn)) 2 (.slice ya pa ea)) 3 (.int .u8 r.b.mark)) 4 (.int .u8 r.b.turn)) 5 (.slice yb pb eb)
  have hX0 : ((((((w1.setCell ⟨w.heap.size, 0, none⟩ (.int .u8 r.a.mark)).setCell ⟨w.heap.size, 1, none⟩ (.int .u8 r.a.turn)).setCell ⟨w.heap.size, 2, none⟩ (.slice ya pa ea)).setCell ⟨w.heap.size, 3, none⟩ (.int .u8 r.b.mark)).setCell ⟨w.heap.size, 4, none⟩ (.int .u8 r.b.turn)).setCell ⟨w.heap.size, 5, none⟩ (.slice yb pb eb)).heap[w.heap.size]? = some (.cells #[.int .u8 r.a.mark, .int .u8 r.a.turn, .slice ya pa ea, .int .u8 r.b.mark, .int .u8 r.b.turn, .slice yb pb eb] 26 (0, 0)) := hX0
  have q0 : ∀ j, w.heap.size ≠ j → ((((((w1.setCell ⟨w.heap.size, 0, none⟩ (.int .u8 r.a.mark)).setCell ⟨w.heap.size, 1, none⟩ (.int .u8 r.a.turn)).setCell ⟨w.heap.size, 2, none⟩ (.slice ya pa ea)).setCell ⟨w.heap.size, 3, none⟩ (.int .u8 r.b.mark)).setCell ⟨w.heap.size, 4, none⟩ (.int .u8 r.b.turn)).setCell ⟨w.heap.size, 5, none⟩ (.slice yb pb eb)).heap[j]? = w1.heap[j]? := fun j hne => (heap_set19 _ _ _ _ _ hne).trans ((heap_set19 _ _ _ _ _ hne).trans ((heap_set19 _ _ _ _ _ hne).trans ((heap_set19 _ _ _ _ _ hne).trans ((heap_set19 _ _ _ _ _ hne).trans (heap_set19 _ _ _ _ _ hne)))))
  have hX1 := (q0 (w.heap.size + 1) (by omega)).trans (row_later19 k1 g1)
  have hX2 := (q0 (w.heap.size + 1 + 1) (by omega)).trans (row_later19 k2 g1)
  have hB : Below w.heap.size w ((((((w1.setCell ⟨w.heap.size, 0, none⟩ (.int .u8 r.a.mark)).setCell ⟨w.heap.size, 1, none⟩ (.int .u8 r.a.turn)).setCell ⟨w.heap.size, 2, none⟩ (.slice ya pa ea)).setCell ⟨w.heap.size, 3, none⟩ (.int .u8 r.b.mark)).setCell ⟨w.heap.size, 4, none⟩ (.int .u8 r.b.turn)).setCell ⟨w.heap.size, 5, none⟩ (.slice yb pb eb)) := by
    iterate 6 refine bel_set ?_ (Nat.le_refl _) _ _
    exact b0.trans (g1.mono b0.size)
  have hRO : RoO ((((((w1.setCell ⟨w.heap.size, 0, none⟩ (.int .u8 r.a.mark)).setCell ⟨w.heap.size, 1, none⟩ (.int .u8 r.a.turn)).setCell ⟨w.heap.size, 2, none⟩ (.slice ya pa ea)).setCell ⟨w.heap.size, 3, none⟩ (.int .u8 r.b.mark)).setCell ⟨w.heap.size, 4, none⟩ (.int .u8 r.b.turn)).setCell ⟨w.heap.size, 5, none⟩ (.slice yb pb eb)) W0.heap.size r ya pa ea yb pb eb := ⟨owb_keep hO.a fun j e => q0 j (by have := (owb_lt hO.a j e).1; omega), owb_keep hO.b fun j e => q0 j (by have := (owb_lt hO.b j e).1; omega), hO.d⟩
  have hsz : W0.heap.size ≤ ((((((w1.setCell ⟨w.heap.size, 0, none⟩ (.int .u8 r.a.mark)).setCell ⟨w.heap.size, 1, none⟩ (.int .u8 r.a.turn)).setCell ⟨w.heap.size, 2, none⟩ (.slice ya pa ea)).setCell ⟨w.heap.size, 3, none⟩ (.int .u8 r.b.mark)).setCell ⟨w.heap.size, 4, none⟩ (.int .u8 r.b.turn)).setCell ⟨w.heap.size, 5, none⟩ (.slice yb pb eb)).heap.size := by have := g1.size; simpa using this
  clear i0 k0 k1 k2 b0 g1 hO HR q0
  unfold romV
  go_upto_region 2 with fail
  generalize ((((((w1.setCell ⟨w.heap.size, 0, none⟩ (.int .u8 r.a.mark)).setCell ⟨w.heap.size, 1, none⟩ (.int .u8 r.a.turn)).setCell ⟨w.heap.size, 2, none⟩ (.slice ya pa ea)).setCell ⟨w.heap.size, 3, none⟩ (.int .u8 r.b.mark)).setCell ⟨w.heap.size, 4, none⟩ (.int .u8 r.b.turn)).setCell ⟨w.heap.size, 5, none⟩ (.slice yb pb eb)) = V0 at hX0 hX1 hX2 hB hRO hsz ⊢
  clear s0 s1 s2 s3 s4 s5 sf
  obtain ⟨p0, p1, p2, p3, p4, p5, pf⟩ := row_cells6 hX0
  obtain ⟨t0, t1, t2, tf⟩ := row_cells3 hX1
  obtain ⟨N, hN⟩ : ∃ N, W0.heap.size = N := ⟨_, rfl⟩
  rw [hN] at hRO hsz hz
  have hX0 : Hid _ := hX0
  have hX1 : Hid (V0.heap[w.heap.size + 1]? = _) := hX1
  have hX2 : Hid (V0.heap[w.heap.size + 1 + 1]? = _) := hX2
  have hB : Hid (Below w.heap.size w V0) := hB
  have hRO : Hid (RoO V0 N r ya pa ea yb pb eb) := hRO
  have hsz : Hid (N ≤ V0.heap.size ∧ N = w.heap.size + 3) := ⟨hsz, hz⟩
  clear hN hz
  by_cases hs0 : x.slot = 0
  · obtain ⟨q, hq⟩ : ∃ q, intoT r.a x = q := ⟨_, rfl⟩
    have e0 : (x.slot == 0) = true := by rw [hs0]; rfl
    have e1 : (x.slot == 1) = false := by rw [hs0]; rfl
    have HD : Hid (doT r x = ⟨q, r.b⟩) := (by rw [← hq]; exact do_a hs0 : doT r x = ⟨q, r.b⟩)
    have HI : Hid (Calls Try.prog 57 #[.agg #[.int .u8 r.a.mark, .int .u8 r.a.turn, .slice ya pa ea], .agg #[.int .i64 x.kind, .int .i64 x.slot, .int .u8 x.byte]] V0 fun e w' => SlR N q ya V0 e w') := by
      rw [← hq]
      exact into_s N r.a.mark r.a.turn ya pa ea r.a.data x V0 hRO.out.a hsz.out.1
    clear hs0 hq
    go_wp2_with fail
    refine HI.out.mono ?_
    rintro e w1 ⟨a1, n1, c1, rfl, hO1, hat1, hU1⟩
    obtain ⟨j0, jR, jB, jk⟩ := nxt_a (w := w) (N := N) hX0.out hRO.out (by have := hsz.out.2; omega) hB.out hO1 hat1 hU1
    have z := row_cells6 (hU1.row hX0.out (fun e => by have := (owb_lt hRO.out.a _ e).1; have := hsz.out.2; omega))
    obtain ⟨z0, z1, z2, z3, z4, z5, zf⟩ := z
    have jX1 := jk _ _ (by omega) (by have := hsz.out.2; omega) hX1.out
    have jX2 := jk _ _ (by omega) (by have := hsz.out.2; omega) hX2.out
    clear hO1 hat1 hU1 jk p0 p1 p2 p3 p4 p5 pf t0 t1 t2 tf hX0 hX1 hX2 hB hRO HI
    go_upto_region 4 with fail
    generalize (((w1.setCell ⟨w.heap.size, 0, none⟩ (.int .u8 q.mark)).setCell ⟨w.heap.size, 1, none⟩ (.int .u8 q.turn)).setCell ⟨w.heap.size, 2, none⟩ (.slice a1 n1 c1)) = V at j0 jR jB jX1 jX2 ⊢
    clear z0 z1 z2 z3 z4 z5 zf
    obtain ⟨p0, p1, p2, p3, p4, p5, pf⟩ := row_cells6 j0
    obtain ⟨t0, t1, t2, tf⟩ := row_cells3 jX1
    obtain ⟨s0, s1, s2, s3, s4, s5, sf⟩ := row_cells6 jX2
    have HF : Hid _ := put_rom (R := ⟨q, r.b⟩) (w := w) jX2 jR (by have := hsz.out.2; omega) jB (by omega)
    clear j0 jR jB jX1 jX2 hsz
    go_wp2
    obtain ⟨q0, q1, q2, q3, q4, q5, qf⟩ := row_cells6 HF.out.1
    have HG := HF.out.2
    generalize ((((((V.setCell ⟨w.heap.size + 1 + 1, 0, none⟩ (.int .u8 q.mark)).setCell ⟨w.heap.size + 1 + 1, 1, none⟩ (.int .u8 q.turn)).setCell ⟨w.heap.size + 1 + 1, 2, none⟩ (.slice a1 n1 c1)).setCell ⟨w.heap.size + 1 + 1, 3, none⟩ (.int .u8 r.b.mark)).setCell ⟨w.heap.size + 1 + 1, 4, none⟩ (.int .u8 r.b.turn)).setCell ⟨w.heap.size + 1 + 1, 5, none⟩ (.slice yb pb eb)) = V9 at q0 q1 q2 q3 q4 q5 qf HG ⊢
    exact bodyPost_ret (v := .agg #[.int .u8 q.mark, .int .u8 q.turn, .slice a1 n1 c1, .int .u8 r.b.mark, .int .u8 r.b.turn, .slice yb pb eb]) (by simp [results, Try.results25, go_sem, q0, q1, q2, q3, q4, q5]) rfl (by rw [HD.out]; exact HG)
  by_cases hs1 : x.slot = 1
  · obtain ⟨q, hq⟩ : ∃ q, intoT r.b x = q := ⟨_, rfl⟩
    have e0 : (x.slot == 0) = false := by rw [hs1]; rfl
    have e1 : (x.slot == 1) = true := by rw [hs1]; rfl
    have HD : Hid (doT r x = ⟨r.a, q⟩) := (by rw [← hq]; exact do_b hs1 : doT r x = ⟨r.a, q⟩)
    have HI : Hid (Calls Try.prog 57 #[.agg #[.int .u8 r.b.mark, .int .u8 r.b.turn, .slice yb pb eb], .agg #[.int .i64 x.kind, .int .i64 x.slot, .int .u8 x.byte]] V0 fun e w' => SlR N q yb V0 e w') := by
      rw [← hq]
      exact into_s N r.b.mark r.b.turn yb pb eb r.b.data x V0 hRO.out.b hsz.out.1
    clear hs0 hs1 hq
    go_wp2_with fail
    refine HI.out.mono ?_
    rintro e w1 ⟨a1, n1, c1, rfl, hO1, hat1, hU1⟩
    obtain ⟨j0, jR, jB, jk⟩ := nxt_b (w := w) (N := N) hX0.out hRO.out (by have := hsz.out.2; omega) hB.out hO1 hat1 hU1
    have z := row_cells6 (hU1.row hX0.out (fun e => by have := (owb_lt hRO.out.b _ e).1; have := hsz.out.2; omega))
    obtain ⟨z0, z1, z2, z3, z4, z5, zf⟩ := z
    have jX1 := jk _ _ (by omega) (by have := hsz.out.2; omega) hX1.out
    have jX2 := jk _ _ (by omega) (by have := hsz.out.2; omega) hX2.out
    clear hO1 hat1 hU1 jk p0 p1 p2 p3 p4 p5 pf t0 t1 t2 tf hX0 hX1 hX2 hB hRO HI
    go_upto_region 6 with fail
    generalize (((w1.setCell ⟨w.heap.size, 3, none⟩ (.int .u8 q.mark)).setCell ⟨w.heap.size, 4, none⟩ (.int .u8 q.turn)).setCell ⟨w.heap.size, 5, none⟩ (.slice a1 n1 c1)) = V at j0 jR jB jX1 jX2 ⊢
    clear z0 z1 z2 z3 z4 z5 zf
    obtain ⟨p0, p1, p2, p3, p4, p5, pf⟩ := row_cells6 j0
    obtain ⟨t0, t1, t2, tf⟩ := row_cells3 jX1
    obtain ⟨s0, s1, s2, s3, s4, s5, sf⟩ := row_cells6 jX2
    have HF : Hid _ := put_rom (R := ⟨r.a, q⟩) (w := w) jX2 jR (by have := hsz.out.2; omega) jB (by omega)
    clear j0 jR jB jX1 jX2 hsz
    go_wp2
    obtain ⟨q0, q1, q2, q3, q4, q5, qf⟩ := row_cells6 HF.out.1
    have HG := HF.out.2
    generalize ((((((V.setCell ⟨w.heap.size + 1 + 1, 0, none⟩ (.int .u8 r.a.mark)).setCell ⟨w.heap.size + 1 + 1, 1, none⟩ (.int .u8 r.a.turn)).setCell ⟨w.heap.size + 1 + 1, 2, none⟩ (.slice ya pa ea)).setCell ⟨w.heap.size + 1 + 1, 3, none⟩ (.int .u8 q.mark)).setCell ⟨w.heap.size + 1 + 1, 4, none⟩ (.int .u8 q.turn)).setCell ⟨w.heap.size + 1 + 1, 5, none⟩ (.slice a1 n1 c1)) = V9 at q0 q1 q2 q3 q4 q5 qf HG ⊢
    exact bodyPost_ret (v := .agg #[.int .u8 r.a.mark, .int .u8 r.a.turn, .slice ya pa ea, .int .u8 q.mark, .int .u8 q.turn, .slice a1 n1 c1]) (by simp [results, Try.results25, go_sem, q0, q1, q2, q3, q4, q5]) rfl (by rw [HD.out]; exact HG)
  have e0 : (x.slot == 0) = false := by simp [hs0]
  have e1 : (x.slot == 1) = false := by simp [hs1]
  have HD : Hid (doT r x = r) := (do_none (.inl ⟨hs0, hs1⟩) : doT r x = r)
  obtain ⟨s0, s1, s2, s3, s4, s5, sf⟩ := row_cells6 hX2.out
  have HF : Hid _ := put_rom (R := r) (w := w) hX2.out hRO.out (by have := hsz.out.2; omega) hB.out (by omega)
  clear hs0 hs1 hX0 hX1 hX2 hB hRO hsz
  go_wp2
  obtain ⟨q0, q1, q2, q3, q4, q5, qf⟩ := row_cells6 HF.out.1
  have HG := HF.out.2
  generalize ((((((V0.setCell ⟨w.heap.size + 1 + 1, 0, none⟩ (.int .u8 r.a.mark)).setCell ⟨w.heap.size + 1 + 1, 1, none⟩ (.int .u8 r.a.turn)).setCell ⟨w.heap.size + 1 + 1, 2, none⟩ (.slice ya pa ea)).setCell ⟨w.heap.size + 1 + 1, 3, none⟩ (.int .u8 r.b.mark)).setCell ⟨w.heap.size + 1 + 1, 4, none⟩ (.int .u8 r.b.turn)).setCell ⟨w.heap.size + 1 + 1, 5, none⟩ (.slice yb pb eb)) = V9 at q0 q1 q2 q3 q4 q5 qf HG ⊢
  exact bodyPost_ret (v := .agg #[.int .u8 r.a.mark, .int .u8 r.a.turn, .slice ya pa ea, .int .u8 r.b.mark, .int .u8 r.b.turn, .slice yb pb eb]) (by simp [results, Try.results25, go_sem, q0, q1, q2, q3, q4, q5]) rfl (by rw [HD.out]; exact HG)
end Go.Proofs.Ytfhdpafaamkipaa
