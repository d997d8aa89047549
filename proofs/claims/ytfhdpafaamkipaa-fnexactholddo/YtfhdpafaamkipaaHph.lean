/- HoldPlay of the program. -/
import Derived.Test.YtfhdpafaamkipaaHpg
namespace Go.Proofs.Ytfhdpafaamkipaa
open Go.RowKit
set_option linter.unusedVariables false
set_option linter.unusedSimpArgs false

theorem owb_drew {w : World} {base : Nat} {v : Value} {l : List Nat} (h : OwB w base v l) : OwB w.drew base v l := h
/-- The result's box. -/
theorem play_end {w w2 : World} {R : RomT} {za zb : Option Addr} {pa ea pb eb N : Nat} (hK : w2.heap[w.heap.size + 1]? = some (.cells #[.int .u8 0, .int .u8 0, .slice none 0 0, .int .u8 0, .int .u8 0, .slice none 0 0] 26 (0, 0))) (hO : RoO w2 N R za pa ea zb pb eb) (hN : w.heap.size + 2 = N) (hB : Below w.heap.size w w2) :
    ((((((w2.setCell ⟨w.heap.size + 1, 0, none⟩ (.int .u8 R.a.mark)).setCell ⟨w.heap.size + 1, 1, none⟩ (.int .u8 R.a.turn)).setCell ⟨w.heap.size + 1, 2, none⟩ (.slice za pa ea)).setCell ⟨w.heap.size + 1, 3, none⟩ (.int .u8 R.b.mark)).setCell ⟨w.heap.size + 1, 4, none⟩ (.int .u8 R.b.turn)).setCell ⟨w.heap.size + 1, 5, none⟩ (.slice zb pb eb)).heap[w.heap.size + 1]? = some (.cells #[.int .u8 R.a.mark, .int .u8 R.a.turn, .slice za pa ea, .int .u8 R.b.mark, .int .u8 R.b.turn, .slice zb pb eb] 26 (0, 0)) ∧
    RomR R w (.returned (romV R za zb pa ea pb eb)) ((((((w2.setCell ⟨w.heap.size + 1, 0, none⟩ (.int .u8 R.a.mark)).setCell ⟨w.heap.size + 1, 1, none⟩ (.int .u8 R.a.turn)).setCell ⟨w.heap.size + 1, 2, none⟩ (.slice za pa ea)).setCell ⟨w.heap.size + 1, 3, none⟩ (.int .u8 R.b.mark)).setCell ⟨w.heap.size + 1, 4, none⟩ (.int .u8 R.b.turn)).setCell ⟨w.heap.size + 1, 5, none⟩ (.slice zb pb eb)).drew := by
  have k := row_put19 (row_put19 (row_put19 (row_put19 (row_put19 (row_put19 hK 0 (.int .u8 R.a.mark)) 1 (.int .u8 R.a.turn)) 2 (.slice za pa ea)) 3 (.int .u8 R.b.mark)) 4 (.int .u8 R.b.turn)) 5 (.slice zb pb eb)
  refine ⟨k, za, pa, ea, zb, pb, eb, rfl, ?_, ?_⟩
  · have q : ∀ j, N ≤ j → ((((((w2.setCell ⟨w.heap.size + 1, 0, none⟩ (.int .u8 R.a.mark)).setCell ⟨w.heap.size + 1, 1, none⟩ (.int .u8 R.a.turn)).setCell ⟨w.heap.size + 1, 2, none⟩ (.slice za pa ea)).setCell ⟨w.heap.size + 1, 3, none⟩ (.int .u8 R.b.mark)).setCell ⟨w.heap.size + 1, 4, none⟩ (.int .u8 R.b.turn)).setCell ⟨w.heap.size + 1, 5, none⟩ (.slice zb pb eb)).heap[j]? = w2.heap[j]? := fun j hj => by
      have hne : w.heap.size + 1 ≠ j := by omega
      exact (heap_set19 _ _ _ _ _ hne).trans ((heap_set19 _ _ _ _ _ hne).trans ((heap_set19 _ _ _ _ _ hne).trans ((heap_set19 _ _ _ _ _ hne).trans ((heap_set19 _ _ _ _ _ hne).trans (heap_set19 _ _ _ _ _ hne)))))
    exact ⟨owb_drew (owb_base (owb_keep hO.a fun j e => q j (owb_lt hO.a j e).1) (by omega)), owb_drew (owb_base (owb_keep hO.b fun j e => q j (owb_lt hO.b j e).1) (by omega)), hO.d⟩
  · refine Below.drew ?_
    iterate 6 refine bel_set ?_ (by omega) _ _
    exact hB
set_option maxRecDepth 10000 in
set_option maxHeartbeats 8000000 in
theorem play_i (r : RomT) (xa xb : Option Addr) (na ca nb cb : Nat) (a : Option Addr) (n c : Nat) (ws : List WrT) (k : Int) (w : World) (h : RomOk r na nb) (hna : na ≤ 1048576) (hnb : nb ≤ 1048576) (ha : Bt w xa na (fL r.a.data)) (hb : Bt w xb nb (fL r.b.data)) (hn : n = ws.length) (hn2 : n ≤ 2000000) (hnc : n ≤ c) (hw : WsA w a n (fW ws)) :
    Calls Try.prog 17 #[romV r xa xb na ca nb cb, .slice a n c, .int .i64 k] w fun e w' => RomR (playT r (ws.take k.toNat)) w e w' := by
  have HO : Hid (∀ W, Below w.heap.size w W → Calls Try.prog 49 #[romV r xa xb na ca nb cb] W fun e w' => OpR r W e w') := fun W b => own_i r xa xb na ca nb cb W h hna hnb (ha.later b (Nat.le_refl _)) (hb.later b (Nat.le_refl _))
  have b0 : Below w.heap.size w ((w.alloc (.cells #[.int .u8 r.a.mark, .int .u8 r.a.turn, .slice xa na ca, .int .u8 r.b.mark, .int .u8 r.b.turn, .slice xb nb cb] 26)).alloc (.cells #[.int .u8 0, .int .u8 0, .slice none 0 0, .int .u8 0, .int .u8 0, .slice none 0 0] 26)) := ((Below.refl _ _).alloc (Nat.le_refl _) _).alloc (by simp) _
  have k0 := heap_alloc_last (w.alloc (.cells #[.int .u8 r.a.mark, .int .u8 r.a.turn, .slice xa na ca, .int .u8 r.b.mark, .int .u8 r.b.turn, .slice xb nb cb] 26)) (.cells #[.int .u8 0, .int .u8 0, .slice none 0 0, .int .u8 0, .int .u8 0, .slice none 0 0] 26)
  rw [World.size_alloc] at k0
  obtain ⟨m, hm, hme⟩ : ∃ m : Nat, m ≤ n ∧ (k < 0 ∧ m = 0 ∨ (0 ≤ k ∧ k ≤ n ∧ (m : Int) = k) ∨ ((n : Int) < k ∧ m = n)) := by
    by_cases h1 : k < 0
    · exact ⟨0, by omega, .inl ⟨h1, rfl⟩⟩
    · by_cases h2 : k ≤ n
      · exact ⟨k.toNat, by omega, .inr (.inl ⟨by omega, h2, by omega⟩)⟩
      · exact ⟨n, Nat.le_refl _, .inr (.inr ⟨by omega, rfl⟩)⟩
  have HT : ws.take k.toNat = ws.take m := by
    rcases hme with ⟨h1, h2⟩ | ⟨h1, h2, h3⟩ | ⟨h1, h3⟩
    · rw [h2, show k.toNat = 0 by omega]
    · rw [show k.toNat = m by omega]
    · rw [List.take_of_length_le (by omega), List.take_of_length_le (by omega)]
  rw [HT]
  have HL : Hid (m = (ws.take m).length ∧ m ≤ 2000000) := ⟨by rw [List.length_take]; omega, by omega⟩
  have HW : Hid (WsA w a m (fW (ws.take m))) := (hw.take hm).congr fun j hj => by
    unfold fW
    rw [List.getD_eq_getElem?_getD, List.getD_eq_getElem?_getD, List.getElem?_take, if_pos hj]
  obtain ⟨R, HR⟩ : ∃ R, Hid (R = playT r (ws.take m)) := ⟨_, rfl⟩
  rw [← HR.out]
  clear h ha hb HT hw hn
  unfold romV at HO ⊢
  go_enter Try.func17, Try.ntmps17
  go_wp2_with fail
  have hs0 : ((w.alloc (.cells #[.int .u8 r.a.mark, .int .u8 r.a.turn, .slice xa na ca, .int .u8 r.b.mark, .int .u8 r.b.turn, .slice xb nb cb] 26)).alloc (.cells #[.int .u8 0, .int .u8 0, .slice none 0 0, .int .u8 0, .int .u8 0, .slice none 0 0] 26)).heap.size = w.heap.size + 2 := by simp
  generalize ((w.alloc (.cells #[.int .u8 r.a.mark, .int .u8 r.a.turn, .slice xa na ca, .int .u8 r.b.mark, .int .u8 r.b.turn, .slice xb nb cb] 26)).alloc (.cells #[.int .u8 0, .int .u8 0, .slice none 0 0, .int .u8 0, .int .u8 0, .slice none 0 0] 26)) = W0 at b0 k0 hs0 ⊢
  refine (HO.out _ b0).mono ?_
  rintro e w1 ⟨g, ya, ma, da, yb, mb, db, rfl, hg, hA, hO, hK, g1⟩
  have HK1 : Hid (w1.heap[w.heap.size + 1]? = _) := row_later19 k0 g1
  have HB1 : Hid (Below w.heap.size w w1 ∧ w.heap.size + 2 = W0.heap.size) := ⟨b0.trans (g1.mono b0.size), hs0.symm⟩
  have HWR : Hid (Calls Try.prog 50 #[.pointer (some ⟨g, 0, none⟩), .slice a m c] w1 fun e w' => e = .returned (.tuple #[]) ∧ StW w' g W0.heap.size w1.heap.size w1.heap.size 0 R ∧ Below W0.heap.size w1 w') := by
    rw [HR.out]
    refine write_i w1 g W0.heap.size r a m c (ws.take m) hg HL.out.1 HL.out.2 (HW.out.later HB1.out.1 (Nat.le_refl _)) (fun h0 b o e => ?_) hA hO hK
    rcases HW.out with h | ⟨b', o', e', hb', _⟩
    · omega
    · rw [e] at e'
      cases e'
      have := HB1.out.2
      omega
  clear hg hA hO hK g1 k0 b0 hs0 HO HW HL HR
  rcases hme with ⟨h1, h2⟩ | ⟨h1, h2, h3⟩ | ⟨h1, h3⟩
  · subst h2
    clear hm
    go_wp2_with fail
    refine HWR.out.mono ?_
    rintro e w2 ⟨rfl, hS, g2⟩
    obtain ⟨za, pa, ea, zb, pb, eb, hA, hO, hK⟩ := hS
    have hK2 : w2.heap[w.heap.size + 1]? = _ := (g2.block _ (by have := HB1.out.2; omega)).trans HK1.out
    obtain ⟨s0, s1, s2, s3, s4, s5, sf⟩ := row_cells6 hK2
    obtain ⟨c0, c1, c2, c3, c4, c5, c6, c7, cf, hl⟩ := id hA
    have HX := play_end (R := R) (w := w) hK2 hO HB1.out.2 (HB1.out.1.trans (g2.mono (by have := HB1.out.2; omega)))
    have HX : Hid _ := HX
    clear hA hO hK hK2 g2 HK1 HWR c0 c1
    go_upto_region 3 with fail
    go_region
    obtain ⟨p0, p1, p2, p3, p4, p5, pf⟩ := row_cells6 HX.out.1
    have HF := HX.out.2
    generalize ((((((w2.setCell ⟨w.heap.size + 1, 0, none⟩ (.int .u8 R.a.mark)).setCell ⟨w.heap.size + 1, 1, none⟩ (.int .u8 R.a.turn)).setCell ⟨w.heap.size + 1, 2, none⟩ (.slice za pa ea)).setCell ⟨w.heap.size + 1, 3, none⟩ (.int .u8 R.b.mark)).setCell ⟨w.heap.size + 1, 4, none⟩ (.int .u8 R.b.turn)).setCell ⟨w.heap.size + 1, 5, none⟩ (.slice zb pb eb)) = V at p0 p1 p2 p3 p4 p5 pf HF ⊢
    have HF : Hid _ := HF
    clear s0 s1 s2 s3 s4 s5 sf c2 c3 c4 c5 c6 c7 cf hl HX
    go_wp2
    exact bodyPost_ret (v := .agg #[.int .u8 R.a.mark, .int .u8 R.a.turn, .slice za pa ea, .int .u8 R.b.mark, .int .u8 R.b.turn, .slice zb pb eb]) (by simp [results, Try.results17, go_sem, p0, p1, p2, p3, p4, p5]) rfl HF.out
  · subst h3
    clear hm
    go_wp2_with fail
    refine HWR.out.mono ?_
    rintro e w2 ⟨rfl, hS, g2⟩
    obtain ⟨za, pa, ea, zb, pb, eb, hA, hO, hK⟩ := hS
    have hK2 : w2.heap[w.heap.size + 1]? = _ := (g2.block _ (by have := HB1.out.2; omega)).trans HK1.out
    obtain ⟨s0, s1, s2, s3, s4, s5, sf⟩ := row_cells6 hK2
    obtain ⟨c0, c1, c2, c3, c4, c5, c6, c7, cf, hl⟩ := id hA
    have HX := play_end (R := R) (w := w) hK2 hO HB1.out.2 (HB1.out.1.trans (g2.mono (by have := HB1.out.2; omega)))
    have HX : Hid _ := HX
    clear hA hO hK hK2 g2 HK1 HWR c0 c1
    go_upto_region 3 with fail
    go_region
    obtain ⟨p0, p1, p2, p3, p4, p5, pf⟩ := row_cells6 HX.out.1
    have HF := HX.out.2
    generalize ((((((w2.setCell ⟨w.heap.size + 1, 0, none⟩ (.int .u8 R.a.mark)).setCell ⟨w.heap.size + 1, 1, none⟩ (.int .u8 R.a.turn)).setCell ⟨w.heap.size + 1, 2, none⟩ (.slice za pa ea)).setCell ⟨w.heap.size + 1, 3, none⟩ (.int .u8 R.b.mark)).setCell ⟨w.heap.size + 1, 4, none⟩ (.int .u8 R.b.turn)).setCell ⟨w.heap.size + 1, 5, none⟩ (.slice zb pb eb)) = V at p0 p1 p2 p3 p4 p5 pf HF ⊢
    have HF : Hid _ := HF
    clear s0 s1 s2 s3 s4 s5 sf c2 c3 c4 c5 c6 c7 cf hl HX
    go_wp2
    exact bodyPost_ret (v := .agg #[.int .u8 R.a.mark, .int .u8 R.a.turn, .slice za pa ea, .int .u8 R.b.mark, .int .u8 R.b.turn, .slice zb pb eb]) (by simp [results, Try.results17, go_sem, p0, p1, p2, p3, p4, p5]) rfl HF.out
  · subst h3
    clear hm
    go_wp2_with fail
    refine HWR.out.mono ?_
    rintro e w2 ⟨rfl, hS, g2⟩
    obtain ⟨za, pa, ea, zb, pb, eb, hA, hO, hK⟩ := hS
    have hK2 : w2.heap[w.heap.size + 1]? = _ := (g2.block _ (by have := HB1.out.2; omega)).trans HK1.out
    obtain ⟨s0, s1, s2, s3, s4, s5, sf⟩ := row_cells6 hK2
    obtain ⟨c0, c1, c2, c3, c4, c5, c6, c7, cf, hl⟩ := id hA
    have HX := play_end (R := R) (w := w) hK2 hO HB1.out.2 (HB1.out.1.trans (g2.mono (by have := HB1.out.2; omega)))
    have HX : Hid _ := HX
    clear hA hO hK hK2 g2 HK1 HWR c0 c1
    go_upto_region 3 with fail
    go_region
    obtain ⟨p0, p1, p2, p3, p4, p5, pf⟩ := row_cells6 HX.out.1
    have HF := HX.out.2
    generalize ((((((w2.setCell ⟨w.heap.size + 1, 0, none⟩ (.int .u8 R.a.mark)).setCell ⟨w.heap.size + 1, 1, none⟩ (.int .u8 R.a.turn)).setCell ⟨w.heap.size + 1, 2, none⟩ (.slice za pa ea)).setCell ⟨w.heap.size + 1, 3, none⟩ (.int .u8 R.b.mark)).setCell ⟨w.heap.size + 1, 4, none⟩ (.int .u8 R.b.turn)).setCell ⟨w.heap.size + 1, 5, none⟩ (.slice zb pb eb)) = V at p0 p1 p2 p3 p4 p5 pf HF ⊢
    have HF : Hid _ := HF
    clear s0 s1 s2 s3 s4 s5 sf c2 c3 c4 c5 c6 c7 cf hl HX
    go_wp2
    exact bodyPost_ret (v := .agg #[.int .u8 R.a.mark, .int .u8 R.a.turn, .slice za pa ea, .int .u8 R.b.mark, .int .u8 R.b.turn, .slice zb pb eb]) (by simp [results, Try.results17, go_sem, p0, p1, p2, p3, p4, p5]) rfl HF.out
end Go.Proofs.Ytfhdpafaamkipaa
