/- HoldSlotNow of the program; its law, walked. -/
import Derived.Test.YtfhdpafaamkipaaHib
namespace Go.Proofs.Ytfhdpafaamkipaa
open Go.RowKit
set_option linter.unusedVariables false
set_option linter.unusedSimpArgs false

set_option maxRecDepth 10000 in
set_option maxHeartbeats 2000000 in
theorem hsnow_i (r : RomT) (xa xb : Option Addr) (na ca nb cb : Nat) (w : World) (h : RomOk r na nb) :
    Calls Try.prog 20 #[romV r xa xb na ca nb cb] w fun e w' => e = .returned (.int .i64 (snowT r)) ∧ Below w.heap.size w w' := by
  have HO : Hid (∀ W, Calls Try.prog 44 #[romV r xa xb na ca nb cb] W fun e w' => e = .returned (.pointer (some ⟨W.heap.size + 1, 0, none⟩)) ∧ StA w' (W.heap.size + 1) 0 r (.slice xa na ca) (.slice xb nb cb) ∧ Below W.heap.size W w' ∧ w'.heap.size = W.heap.size + 2) := fun W => open_i r xa xb na ca nb cb W
  have HN : Hid (∀ W g, StA W g 0 r (.slice xa na ca) (.slice xb nb cb) → Calls Try.prog 45 #[.pointer (some ⟨g, 0, none⟩)] W fun e w' => e = .returned (.int .i64 (snowT r)) ∧ ∃ m, w' = W.drewN m) := fun W g hs => now_i g r xa xb na ca nb cb W hs h
  have b0 : Below w.heap.size w (w.alloc (.cells #[.int .u8 r.a.mark, .int .u8 r.a.turn, .slice xa na ca, .int .u8 r.b.mark, .int .u8 r.b.turn, .slice xb nb cb] 26)) := (Below.refl _ _).alloc (Nat.le_refl _) _
  obtain ⟨S, HS⟩ : ∃ S, Hid (S = snowT r) := ⟨_, rfl⟩
  rw [← HS.out] at HN ⊢
  unfold romV at HO ⊢
  clear h
  go_enter Try.func20, Try.ntmps20
  go_wp2_with fail
  generalize (w.alloc (.cells #[.int .u8 r.a.mark, .int .u8 r.a.turn, .slice xa na ca, .int .u8 r.b.mark, .int .u8 r.b.turn, .slice xb nb cb] 26)) = W0 at b0 ⊢
  refine (HO.out W0).mono ?_
  rintro e w1 ⟨rfl, hs, g1, hz⟩
  have b1 : Hid (Below w.heap.size w w1) := b0.trans (g1.mono b0.size)
  have hs : Hid (StA w1 (W0.heap.size + 1) 0 r (.slice xa na ca) (.slice xb nb cb)) := hs
  clear g1 b0 hz
  go_wp2_with fail
  refine (HN.out w1 _ hs.out).mono ?_
  rintro e w2 ⟨rfl, m, rfl⟩
  clear hs HN HO
  go_wp2
  go_ret
  exact ⟨rfl, below_drewN b1.out _⟩
theorem szR_ok {k : Int} {na nb : Nat} (h : ¬ szR k na nb < 0) : (na : Int) ≤ k ∧ (nb : Int) ≤ k := by
  unfold szR szL at h
  split at h
  · omega
  · split at h <;> omega
set_option maxRecDepth 10000 in
set_option maxHeartbeats 4000000 in
theorem law_snow (r : RomT) (xa xb : Option Addr) (na ca nb cb : Nat) (w : World) (hr : RomOk r na nb) (hna : na ≤ 9223372036854775807) (hnb : nb ≤ 9223372036854775807) (ha : Bt w xa na (fL r.a.data)) (hb : Bt w xb nb (fL r.b.data)) :
    Calls Try.prog 9 #[romV r xa xb na ca nb cb] w fun e w' => e = .returned (.bool true) ∧ Below w.heap.size w w' := by
  have HZ : Hid (∀ W, Calls Try.prog 24 #[romV r xa xb na ca nb cb, .int .i64 1048576] W fun e w' => e = .returned (.int .i64 (szR 1048576 na nb)) ∧ Below W.heap.size W w') := fun W => sz_rom r xa xb na ca nb cb 1048576 W (by omega) hna hnb
  have hZn := @szR_ok 1048576 na nb
  obtain ⟨Z, HZ0⟩ : ∃ Z, szR 1048576 na nb = Z := ⟨_, rfl⟩
  rw [HZ0] at HZ hZn
  have HT0 : Hid (na ≤ 1048576 → nb ≤ 1048576 → ∀ W, Below w.heap.size w W → Calls Try.prog 26 #[romV r xa xb na ca nb cb] W fun e w' => ∃ ga gb, e = .returned (romV r (some ⟨ga, 0, none⟩) (some ⟨gb, 0, none⟩) na na nb nb) ∧ W.heap.size ≤ ga ∧ ga < gb ∧ By w' ga na (fL r.a.data) ∧ By w' gb nb (fL r.b.data) ∧ Below W.heap.size W w') := fun h1 h2 W b => to_rom r xa xb na ca nb cb _ _ W h1 h2 (ha.later b (Nat.le_refl _)) (hb.later b (Nat.le_refl _))
  have HS : Hid (∀ W ya yb ca' cb', Calls Try.prog 19 #[romV r ya yb na ca' nb cb'] W fun e w' => e = .returned (.int .i64 (snowT r)) ∧ Below W.heap.size W w') := fun W ya yb ca' cb' => snow_s r ya yb na ca' nb cb' W hr
  have HI : Hid (∀ W ya yb ca' cb', Calls Try.prog 20 #[romV r ya yb na ca' nb cb'] W fun e w' => e = .returned (.int .i64 (snowT r)) ∧ Below W.heap.size W w') := fun W ya yb ca' cb' => hsnow_i r ya yb na ca' nb cb' W hr
  have HE0 : Hid (na ≤ 1048576 → nb ≤ 1048576 → ∀ W xa xb ya yb ca cb ca' cb', Bt W xa na (fL r.a.data) → Bt W xb nb (fL r.b.data) → Bt W ya na (fL r.a.data) → Bt W yb nb (fL r.b.data) → Calls Try.prog 28 #[romV r xa xb na ca nb cb, romV r ya yb na ca' nb cb'] W fun e w' => e = .returned (.bool true) ∧ Below W.heap.size W w') := fun h1 h2 W xa xb ya yb ca cb ca' cb' p1 p2 p3 p4 => eq_rom r xa xb ya yb na ca nb cb ca' cb' _ _ W h1 h2 p1 p2 p3 p4
  obtain ⟨S, HSn⟩ : ∃ S, Hid (S = snowT r) := ⟨_, rfl⟩
  rw [← HSn.out] at HS HI
  have b0 : Below w.heap.size w (w.alloc (.cells #[.int .u8 r.a.mark, .int .u8 r.a.turn, .slice xa na ca, .int .u8 r.b.mark, .int .u8 r.b.turn, .slice xb nb cb] 45)) := (Below.refl _ _).alloc (Nat.le_refl _) _
  have k0 := heap_alloc_last w (.cells #[.int .u8 r.a.mark, .int .u8 r.a.turn, .slice xa na ca, .int .u8 r.b.mark, .int .u8 r.b.turn, .slice xb nb cb] 45)
  clear ha hb HZ0 HSn hr
  unfold romV at HZ HT0 HS HI HE0 ⊢
  go_enter Try.func9, Try.ntmps9
  go_wp2_with fail
  generalize (w.alloc (.cells #[.int .u8 r.a.mark, .int .u8 r.a.turn, .slice xa na ca, .int .u8 r.b.mark, .int .u8 r.b.turn, .slice xb nb cb] 45)) = W0 at b0 k0 ⊢
  have hs0 := (Array.getElem?_eq_some_iff.1 k0).1
  refine (HZ.out W0).mono ?_
  rintro e w1 ⟨rfl, g1⟩
  have k1 := (g1.block _ hs0).trans k0
  have b1 : Below w.heap.size w w1 := b0.trans (g1.mono b0.size)
  have hs1 := (Array.getElem?_eq_some_iff.1 k1).1
  have HB1 : Hid (Below w.heap.size w w1) := b1
  have HK1 : Hid (w1.heap[w.heap.size]? = _) := k1
  obtain ⟨p0, p1, p2, p3, p4, p5, pf⟩ := row_cells6 k1
  clear g1 k0 b0 HZ hs0 b1 k1
  by_cases hz : Z < 0
  · clear hZn
    go_wp2
    go_ret
    exact ⟨rfl, HB1.out⟩
  have HT : Hid (∀ W, Below w.heap.size w W → _) := HT0.out (by omega) (by omega)
  have HE : Hid (∀ W xa xb ya yb ca cb ca' cb', _) := HE0.out (by omega) (by omega)
  clear HT0 HE0 hZn
  go_wp2_with fail
  refine (HT.out w1 HB1.out).mono ?_
  rintro e w2 ⟨ga, gb, rfl, l1, l2, y1, y2, g2⟩
  have b2 : Hid (Below w.heap.size w w2) := HB1.out.trans (g2.mono HB1.out.size)
  have k2 : Hid (w2.heap[w.heap.size]? = _) := (g2.block _ hs1).trans HK1.out
  clear g2 l1 l2 y1 y2 p0 p1 p2 p3 p4 p5 pf HB1 HK1 hs1
  go_wp2_with fail
  refine (HS.out w2 _ _ _ _).mono ?_
  rintro e w3 ⟨rfl, g3⟩
  have b3 : Hid (Below w.heap.size w w3) := b2.out.trans (g3.mono b2.out.size)
  have k3 : Hid (w3.heap[w.heap.size]? = _) := (g3.block _ (Array.getElem?_eq_some_iff.1 k2.out).1).trans k2.out
  obtain ⟨p0, p1, p2, p3, p4, p5, pf⟩ := row_cells6 k3.out
  clear g3 b2 k2
  go_wp2_with fail
  refine (HT.out w3 b3.out).mono ?_
  rintro e w4 ⟨ga, gb, rfl, l1, l2, y1, y2, g4⟩
  have b4 : Below w.heap.size w w4 := b3.out.trans (g4.mono b3.out.size)
  have k4 : w4.heap[w.heap.size]? = _ := (g4.block _ (Array.getElem?_eq_some_iff.1 k3.out).1).trans k3.out
  have gA : Below w4.heap.size w4 (w4.alloc (.cells #[.int .u8 r.a.mark, .int .u8 r.a.turn, .slice (some ⟨ga, 0, none⟩) na na, .int .u8 r.b.mark, .int .u8 r.b.turn, .slice (some ⟨gb, 0, none⟩) nb nb] 26)) := (Below.refl _ _).alloc (Nat.le_refl _) _
  have x5 := heap_alloc_last w4 (.cells #[.int .u8 r.a.mark, .int .u8 r.a.turn, .slice (some ⟨ga, 0, none⟩) na na, .int .u8 r.b.mark, .int .u8 r.b.turn, .slice (some ⟨gb, 0, none⟩) nb nb] 26)
  have b5 := b4.trans (gA.mono b4.size)
  have k5 := (gA.block _ (Array.getElem?_eq_some_iff.1 k4).1).trans k4
  have y1 := y1.later gA y1.lt
  have y2 := y2.later gA y2.lt
  obtain ⟨B, hB⟩ : ∃ B, w4.heap.size = B := ⟨_, rfl⟩
  clear g4 p0 p1 p2 p3 p4 p5 pf b3 k3 k4 gA b4 l1 l2
  go_upto_region 7 with fail
  rw [hB] at x5
  generalize (w4.alloc (.cells #[.int .u8 r.a.mark, .int .u8 r.a.turn, .slice (some ⟨ga, 0, none⟩) na na, .int .u8 r.b.mark, .int .u8 r.b.turn, .slice (some ⟨gb, 0, none⟩) nb nb] 26)) = w5 at x5 b5 k5 y1 y2 ⊢
  have b5 : Hid (Below w.heap.size w w5) := b5
  have k5 : Hid (w5.heap[w.heap.size]? = _) := k5
  have x5 : Hid (w5.heap[B]? = _) := x5
  have y5 : Hid (By w5 ga na (fL r.a.data) ∧ By w5 gb nb (fL r.b.data)) := ⟨y1, y2⟩
  obtain ⟨q0, q1, q2, q3, q4, q5, qf⟩ := row_cells6 x5.out
  clear y1 y2 hB
  go_wp2_with fail
  refine (HI.out w5 _ _ _ _).mono ?_
  rintro e w6 ⟨rfl, g6⟩
  have b6 : Hid (Below w.heap.size w w6) := b5.out.trans (g6.mono b5.out.size)
  have k6 : w6.heap[w.heap.size]? = _ := (g6.block _ (Array.getElem?_eq_some_iff.1 k5.out).1).trans k5.out
  have x6 : w6.heap[B]? = _ := (g6.block _ (Array.getElem?_eq_some_iff.1 x5.out).1).trans x5.out
  have y6 : Hid (By w6 ga na (fL r.a.data) ∧ By w6 gb nb (fL r.b.data)) := ⟨y5.out.1.later g6 y5.out.1.lt, y5.out.2.later g6 y5.out.2.lt⟩
  have i0 : (S != S) = false := by simp
  have x6' : Hid (w6.heap[B]? = _) := x6
  clear g6 q0 q1 q2 q3 q4 q5 qf b5 k5 x5 y5
  obtain ⟨p0, p1, p2, p3, p4, p5, pf⟩ := row_cells6 k6
  obtain ⟨q0, q1, q2, q3, q4, q5, qf⟩ := row_cells6 x6
  clear k6 x6
  go_upto_region 10 with fail
  go_region_with (first
    | (go_at_call 26; refine (HT.out _ (by first | exact b6.out | exact b6.out.drew)).mono ?_; rintro e w7 ⟨ha, hb, rfl, l1, l2, y7, y8, g7⟩; have gX : Below w6.heap.size w6 w7 := (by first | exact g7 | exact (Below.refl _ _).drew.trans (g7.mono (Nat.le_refl _))); have X7 := (gX.block _ (Array.getElem?_eq_some_iff.1 x6'.out).1).trans x6'.out; obtain ⟨u0, u1, u2, u3, u4, u5, uf⟩ := row_cells6 X7; have z1 := y6.out.1.later gX y6.out.1.lt; have z2 := y6.out.2.later gX y6.out.2.lt)
    | (go_at_call 28; refine (HE.out _ _ _ _ _ _ _ _ _ z1.bt z2.bt y7.bt y8.bt).mono ?_; rintro e w8 ⟨rfl, g8⟩; have gY : Below w6.heap.size w6 w8 := gX.trans (g8.mono gX.size)))
  all_goals
    have b8 := b6.out.trans (gY.mono b6.out.size)
    clear gY gX g8 g7 X7 u0 u1 u2 u3 u4 u5 uf z1 z2 y7 y8 p0 p1 p2 p3 p4 p5 pf q0 q1 q2 q3 q4 q5 qf
    go_wp2
    go_ret
    exact ⟨rfl, b8⟩
end Go.Proofs.Ytfhdpafaamkipaa
