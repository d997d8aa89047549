/- HoldDo of the program. Made by tools/gen19_hpi.py. -/
import Derived.Test.YtfhdpafaamkipaaHph
namespace Go.Proofs.Ytfhdpafaamkipaa
open Go.RowKit
set_option linter.unusedVariables false
set_option linter.unusedSimpArgs false

/-- A store written into a box. -/
theorem put_rom {w w2 : World} {R : RomT} {za zb : Option Addr} {pa ea pb eb N B : Nat} {o0 o1 o2 o3 o4 o5 : Value} (hK : w2.heap[B]? = some (.cells #[o0, o1, o2, o3, o4, o5] 26 (0, 0))) (hO : RoO w2 N R za pa ea zb pb eb) (hN : B < N) (hB : Below w.heap.size w w2) (hw : w.heap.size ≤ B) :
    ((((((w2.setCell ⟨B, 0, none⟩ (.int .u8 R.a.mark)).setCell ⟨B, 1, none⟩ (.int .u8 R.a.turn)).setCell ⟨B, 2, none⟩ (.slice za pa ea)).setCell ⟨B, 3, none⟩ (.int .u8 R.b.mark)).setCell ⟨B, 4, none⟩ (.int .u8 R.b.turn)).setCell ⟨B, 5, none⟩ (.slice zb pb eb)).heap[B]? = some (.cells #[.int .u8 R.a.mark, .int .u8 R.a.turn, .slice za pa ea, .int .u8 R.b.mark, .int .u8 R.b.turn, .slice zb pb eb] 26 (0, 0)) ∧
    RomR R w (.returned (romV R za zb pa ea pb eb)) ((((((w2.setCell ⟨B, 0, none⟩ (.int .u8 R.a.mark)).setCell ⟨B, 1, none⟩ (.int .u8 R.a.turn)).setCell ⟨B, 2, none⟩ (.slice za pa ea)).setCell ⟨B, 3, none⟩ (.int .u8 R.b.mark)).setCell ⟨B, 4, none⟩ (.int .u8 R.b.turn)).setCell ⟨B, 5, none⟩ (.slice zb pb eb)) := by
  have k := row_put19 (row_put19 (row_put19 (row_put19 (row_put19 (row_put19 hK 0 (.int .u8 R.a.mark)) 1 (.int .u8 R.a.turn)) 2 (.slice za pa ea)) 3 (.int .u8 R.b.mark)) 4 (.int .u8 R.b.turn)) 5 (.slice zb pb eb)
  refine ⟨k, za, pa, ea, zb, pb, eb, rfl, ?_, ?_⟩
  · have q : ∀ j, N ≤ j → ((((((w2.setCell ⟨B, 0, none⟩ (.int .u8 R.a.mark)).setCell ⟨B, 1, none⟩ (.int .u8 R.a.turn)).setCell ⟨B, 2, none⟩ (.slice za pa ea)).setCell ⟨B, 3, none⟩ (.int .u8 R.b.mark)).setCell ⟨B, 4, none⟩ (.int .u8 R.b.turn)).setCell ⟨B, 5, none⟩ (.slice zb pb eb)).heap[j]? = w2.heap[j]? := fun j hj => by
      have hne : B ≠ j := by omega
      exact (heap_set19 _ _ _ _ _ hne).trans ((heap_set19 _ _ _ _ _ hne).trans ((heap_set19 _ _ _ _ _ hne).trans ((heap_set19 _ _ _ _ _ hne).trans ((heap_set19 _ _ _ _ _ hne).trans (heap_set19 _ _ _ _ _ hne)))))
    exact ⟨owb_base (owb_keep hO.a fun j e => q j (owb_lt hO.a j e).1) (by omega), owb_base (owb_keep hO.b fun j e => q j (owb_lt hO.b j e).1) (by omega), hO.d⟩
  · iterate 6 refine bel_set ?_ (by omega) _ _
    exact hB
theorem four_alloc (w : World) (o1 o2 o3 o4 : Obj) : ((((w.alloc o1).alloc o2).alloc o3).alloc o4).heap[w.heap.size + 1 + 1]? = some o3 ∧ ((((w.alloc o1).alloc o2).alloc o3).alloc o4).heap[w.heap.size + 1 + 1 + 1]? = some o4 ∧ ((((w.alloc o1).alloc o2).alloc o3).alloc o4).heap.size = w.heap.size + 4 ∧ Below w.heap.size w ((((w.alloc o1).alloc o2).alloc o3).alloc o4) := by
  obtain ⟨_, _, k3, hz, b⟩ := three_alloc w o1 o2 o3
  have h4 := heap_alloc_last (((w.alloc o1).alloc o2).alloc o3) o4
  rw [hz] at h4
  exact ⟨(Below.heap_alloc _ _ _ (by omega)).trans k3, h4, by simp, b.alloc b.size _⟩
set_option maxRecDepth 10000 in
set_option maxHeartbeats 8000000 in
theorem do_i (r : RomT) (xa xb : Option Addr) (na ca nb cb : Nat) (x : WrT) (w : World) (h : RomOk r na nb) (hna : na ≤ 1048576) (hnb : nb ≤ 1048576) (ha : Bt w xa na (fL r.a.data)) (hb : Bt w xb nb (fL r.b.data)) :
    Calls Try.prog 23 #[romV r xa xb na ca nb cb, .agg #[.int .i64 x.kind, .int .i64 x.slot, .int .u8 x.byte]] w fun e w' => RomR (doT r x) w e w' := by
  obtain ⟨_, k4, hz, b0⟩ := four_alloc w (.cells #[.int .u8 r.a.mark, .int .u8 r.a.turn, .slice xa na ca, .int .u8 r.b.mark, .int .u8 r.b.turn, .slice xb nb cb] 26) (.cells #[.int .i64 x.kind, .int .i64 x.slot, .int .u8 x.byte] 42) (.cells #[.int .u8 0, .int .u8 0, .slice none 0 0, .int .u8 0, .int .u8 0, .slice none 0 0] 26) (.cells #[.int .i64 x.kind, .int .i64 x.slot, .int .u8 x.byte] 42)
  obtain ⟨k3, _, _, _⟩ := four_alloc w (.cells #[.int .u8 r.a.mark, .int .u8 r.a.turn, .slice xa na ca, .int .u8 r.b.mark, .int .u8 r.b.turn, .slice xb nb cb] 26) (.cells #[.int .i64 x.kind, .int .i64 x.slot, .int .u8 x.byte] 42) (.cells #[.int .u8 0, .int .u8 0, .slice none 0 0, .int .u8 0, .int .u8 0, .slice none 0 0] 26) (.cells #[.int .i64 x.kind, .int .i64 x.slot, .int .u8 x.byte] 42)
  have HP : Hid (∀ V, Below w.heap.size w V → V.heap[w.heap.size + 1 + 1 + 1]? = some (.cells #[.int .i64 x.kind, .int .i64 x.slot, .int .u8 x.byte] 42 (0, 0)) → Calls Try.prog 17 #[romV r xa xb na ca nb cb, .slice (some ⟨w.heap.size + 1 + 1 + 1, 0, none⟩) 1 1, .int .i64 1] V fun e w' => RomR (doT r x) V e w') := fun V b k => by
    have q := play_i r xa xb na ca nb cb (some ⟨w.heap.size + 1 + 1 + 1, 0, none⟩) 1 1 [x] 1 V h hna hnb (ha.later b (Nat.le_refl _)) (hb.later b (Nat.le_refl _)) rfl (by omega) (by omega) (.inr ⟨_, 0, rfl, (Array.getElem?_eq_some_iff.1 k).1, fun j hj => by
      have : j = 0 := by omega
      subst this
      exact ⟨(cell_of_row _ _ _ _ _ _ k).trans rfl, (cell_of_row _ _ _ _ _ _ k).trans rfl, (cell_of_row _ _ _ _ _ _ k).trans rfl⟩⟩)
    exact q
  obtain ⟨R, HR⟩ : ∃ R, Hid (R = doT r x) := ⟨_, rfl⟩
  rw [← HR.out] at HP ⊢
  clear h ha hb
  unfold romV at HP ⊢
  go_enter Try.func23, Try.ntmps23
  go_wp2_with fail
  generalize ((((w.alloc (.cells #[.int .u8 r.a.mark, .int .u8 r.a.turn, .slice xa na ca, .int .u8 r.b.mark, .int .u8 r.b.turn, .slice xb nb cb] 26)).alloc (.cells #[.int .i64 x.kind, .int .i64 x.slot, .int .u8 x.byte] 42)).alloc (.cells #[.int .u8 0, .int .u8 0, .slice none 0 0, .int .u8 0, .int .u8 0, .slice none 0 0] 26)).alloc (.cells #[.int .i64 x.kind, .int .i64 x.slot, .int .u8 x.byte] 42)) = W4 at k3 k4 hz b0 ⊢
  refine (HP.out W4 b0 k4).mono ?_
  rintro e w2 ⟨za, pa, ea, zb, pb, eb, rfl, hO, g2⟩
  have hK2 := row_later19 k3 g2
  obtain ⟨s0, s1, s2, s3, s4, s5, sf⟩ := row_cells6 hK2
  have HX : Hid _ := put_rom (R := R) (w := w) hK2 hO (by omega) (b0.trans (g2.mono b0.size)) (by omega)
  clear hO hK2 g2 k3 k4 hz b0 HP
  unfold romV
  go_wp2
  obtain ⟨p0, p1, p2, p3, p4, p5, pf⟩ := row_cells6 HX.out.1
  have HF := HX.out.2
  generalize ((((((w2.setCell ⟨w.heap.size + 1 + 1, 0, none⟩ (.int .u8 R.a.mark)).setCell ⟨w.heap.size + 1 + 1, 1, none⟩ (.int .u8 R.a.turn)).setCell ⟨w.heap.size + 1 + 1, 2, none⟩ (.slice za pa ea)).setCell ⟨w.heap.size + 1 + 1, 3, none⟩ (.int .u8 R.b.mark)).setCell ⟨w.heap.size + 1 + 1, 4, none⟩ (.int .u8 R.b.turn)).setCell ⟨w.heap.size + 1 + 1, 5, none⟩ (.slice zb pb eb)) = V at p0 p1 p2 p3 p4 p5 pf HF ⊢
  exact bodyPost_ret (v := .agg #[.int .u8 R.a.mark, .int .u8 R.a.turn, .slice za pa ea, .int .u8 R.b.mark, .int .u8 R.b.turn, .slice zb pb eb]) (by simp [results, Try.results23, go_sem, p0, p1, p2, p3, p4, p5]) rfl HF
end Go.Proofs.Ytfhdpafaamkipaa
