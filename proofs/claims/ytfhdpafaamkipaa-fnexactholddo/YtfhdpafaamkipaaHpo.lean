/- The law FnExactHoldPlay, walked. Made by tools/gen19_hpn.py. -/
import Derived.Test.YtfhdpafaamkipaaHpn
namespace Go.Proofs.Ytfhdpafaamkipaa
open Go.RowKit
set_option linter.unusedVariables false
set_option linter.unusedSimpArgs false

set_option maxRecDepth 10000 in
set_option maxHeartbeats 16000000 in
theorem law_hplay (r : RomT) (xa xb : Option Addr) (na ca nb cb : Nat) (a : Option Addr) (n c : Nat) (ws : List WrT) (k0 : Int) (w : World) (hr : RomOk r na nb) (hna : na ≤ 9223372036854775807) (hnb : nb ≤ 9223372036854775807) (ha : Bt w xa na (fL r.a.data)) (hb : Bt w xb nb (fL r.b.data)) (hn : n = ws.length) (hn63 : n ≤ 9223372036854775807) (hw : WsA w a n (fW ws)) :
    Calls Try.prog 8 #[romV r xa xb na ca nb cb, .slice a n c, .int .i64 k0] w fun e w' => e = .returned (.bool true) ∧ Below w.heap.size w w' := by
  have HZ : Hid (∀ W, Calls Try.prog 24 #[romV r xa xb na ca nb cb, .int .i64 1048576] W fun e w' => e = .returned (.int .i64 (szR 1048576 na nb)) ∧ Below W.heap.size W w') := fun W => sz_rom r xa xb na ca nb cb 1048576 W (by omega) hna hnb
  have hZn := @szR_ok 1048576 na nb
  have hZm : szR 1048576 na nb ≤ 1048576 := by
    unfold szR szL
    split
    · omega
    · split <;> omega
  obtain ⟨Z, HZ0⟩ : ∃ Z, szR 1048576 na nb = Z := ⟨_, rfl⟩
  rw [HZ0] at HZ hZn hZm
  have HZ2 : Hid (¬ Z < 0 → ∀ W, Calls Try.prog 31 #[.slice a n c, .int .i64 Z] W fun e w' => e = .returned (.int .i64 (szL Z n)) ∧ Below W.heap.size W w') := fun h W => sz_writes a n c Z W (by omega) hn63
  have hYn : ¬ szL Z n < 0 → (n : Int) ≤ Z := fun h => by
    unfold szL at h
    split at h <;> omega
  obtain ⟨Y, HY0⟩ : ∃ Y, szL Z n = Y := ⟨_, rfl⟩
  rw [HY0] at HZ2 hYn
  obtain ⟨f, Hf⟩ : ∃ f, Hid (f = fL r.a.data) := ⟨_, rfl⟩
  obtain ⟨g, Hg⟩ : ∃ g, Hid (g = fL r.b.data) := ⟨_, rfl⟩
  obtain ⟨R, HRR⟩ : ∃ R, Hid (R = playT r (ws.take k0.toNat)) := ⟨_, rfl⟩
  obtain ⟨NA, HNA⟩ : ∃ N, Hid (N = R.a.data.length) := ⟨_, rfl⟩
  obtain ⟨NB, HNB⟩ : ∃ N, Hid (N = R.b.data.length) := ⟨_, rfl⟩
  obtain ⟨F, HFF⟩ : ∃ F, Hid (F = fL R.a.data) := ⟨_, rfl⟩
  obtain ⟨G, HGG⟩ : ∃ G, Hid (G = fL R.b.data) := ⟨_, rfl⟩
  have HL : Hid (na ≤ 1048576 → nb ≤ 1048576 → NA ≤ 1048576 ∧ NB ≤ 1048576) := (fun h1 h2 => by
    rw [HNA.out, HNB.out, HRR.out]
    exact play_len 1048576 (by omega) _ r ⟨by rw [hr.1.2.2]; exact h1, by rw [hr.2.2.2]; exact h2⟩ : na ≤ 1048576 → nb ≤ 1048576 → NA ≤ 1048576 ∧ NB ≤ 1048576)
  have HT0 : Hid (na ≤ 1048576 → nb ≤ 1048576 → ∀ W, Below w.heap.size w W → Calls Try.prog 26 #[romV r xa xb na ca nb cb] W fun e w' => ∃ ga gb, e = .returned (romV r (some ⟨ga, 0, none⟩) (some ⟨gb, 0, none⟩) na na nb nb) ∧ W.heap.size ≤ ga ∧ ga < gb ∧ By w' ga na f ∧ By w' gb nb g ∧ Below W.heap.size W w') := fun h1 h2 W b => by
    rw [Hf.out, Hg.out]
    exact to_rom r xa xb na ca nb cb _ _ W h1 h2 (ha.later b (Nat.le_refl _)) (hb.later b (Nat.le_refl _))
  have HTw0 : Hid (n ≤ 1048576 → ∀ W, Below w.heap.size w W → Calls Try.prog 32 #[.slice a n c] W fun e w' => e = .returned (.slice (some ⟨W.heap.size, 0, none⟩) n n) ∧ Wy w' W.heap.size n (fW ws) ∧ Below W.heap.size W w') := fun h W b => to_writes a n c (fW ws) W h (hw.later b (Nat.le_refl _))
  have HS0 : Hid (na ≤ 1048576 → nb ≤ 1048576 → n ≤ 1048576 → ∀ W ya yb ca' cb' a c, Bt W ya na f → Bt W yb nb g → WsA W a n (fW ws) → Calls Try.prog 21 #[romV r ya yb na ca' nb cb', .slice a n c, .int .i64 k0] W fun e w' => ∃ (xa : Option Addr) (ca : Nat) (xb : Option Addr) (cb : Nat), e = .returned (romV R xa xb NA ca NB cb) ∧ Ob w' W.heap.size xa NA F ∧ Ob w' W.heap.size xb NB G ∧ (∀ k, atB xa k → ¬ atB xb k) ∧ Below W.heap.size W w') := fun h1 h2 h3 W ya yb ca' cb' a c p1 p2 p3 => by
    rw [Hf.out] at p1
    rw [Hg.out] at p2
    exact (play_s r ya yb na ca' nb cb' a n c ws k0 W hr h1 h2 p1 p2 hn (by omega) p3).mono fun e w' q => romR_u HNA.out HNB.out HFF.out HGG.out (by rw [HRR.out]; exact q)
  have HI0 : Hid (na ≤ 1048576 → nb ≤ 1048576 → n ≤ 1048576 → ∀ W ya yb ca' cb' a, Bt W ya na f → Bt W yb nb g → WsA W a n (fW ws) → Calls Try.prog 17 #[romV r ya yb na ca' nb cb', .slice a n n, .int .i64 k0] W fun e w' => ∃ (xa : Option Addr) (ca : Nat) (xb : Option Addr) (cb : Nat), e = .returned (romV R xa xb NA ca NB cb) ∧ Ob w' W.heap.size xa NA F ∧ Ob w' W.heap.size xb NB G ∧ (∀ k, atB xa k → ¬ atB xb k) ∧ Below W.heap.size W w') := fun h1 h2 h3 W ya yb ca' cb' a p1 p2 p3 => by
    rw [Hf.out] at p1
    rw [Hg.out] at p2
    exact (play_i r ya yb na ca' nb cb' a n n ws k0 W hr h1 h2 p1 p2 hn (by omega) (Nat.le_refl _) p3).mono fun e w' q => romR_u HNA.out HNB.out HFF.out HGG.out (by rw [HRR.out]; exact q)
  have HE0 : Hid (na ≤ 1048576 → nb ≤ 1048576 → ∀ W xa xb ya yb ca cb ca' cb', Bt W xa na f → Bt W xb nb g → Bt W ya na f → Bt W yb nb g → Calls Try.prog 28 #[romV r xa xb na ca nb cb, romV r ya yb na ca' nb cb'] W fun e w' => e = .returned (.bool true) ∧ Below W.heap.size W w') := fun h1 h2 W xa xb ya yb ca cb ca' cb' p1 p2 p3 p4 => eq_rom r xa xb ya yb na ca nb cb ca' cb' _ _ W h1 h2 p1 p2 p3 p4
  have HEr0 : Hid (NA ≤ 1048576 → NB ≤ 1048576 → ∀ W xa xb ya yb ca cb ca' cb', Bt W xa NA F → Bt W xb NB G → Bt W ya NA F → Bt W yb NB G → Calls Try.prog 28 #[romV R xa xb NA ca NB cb, romV R ya yb NA ca' NB cb'] W fun e w' => e = .returned (.bool true) ∧ Below W.heap.size W w') := fun h1 h2 W xa xb ya yb ca cb ca' cb' p1 p2 p3 p4 => eq_rom R xa xb ya yb NA ca NB cb ca' cb' _ _ W h1 h2 p1 p2 p3 p4
  obtain ⟨M, HM1⟩ : ∃ M : Int, Hid (M = ((1 + na + nb : Nat) : Int)) := ⟨_, rfl⟩
  obtain ⟨M2, HM2⟩ : ∃ M : Int, Hid (M = ((1 + na + nb + n * 3 : Nat) : Int)) := ⟨_, rfl⟩
  obtain ⟨Q, HQ⟩ : ∃ M : Int, Hid (M = ((1 + NA + NB : Nat) : Int)) := ⟨_, rfl⟩
  have HM0 : Hid (na ≤ 1048576 → nb ≤ 1048576 → ∀ W ga gb, ga < gb → By W ga na f → By W gb nb g → Calls Try.prog 29 #[romV r (some ⟨ga, 0, none⟩) (some ⟨gb, 0, none⟩) na na nb nb, .int .i64 1] W fun e w' => e = .returned (.int .i64 M) ∧ Outs (atB2 (some ⟨ga, 0, none⟩) (some ⟨gb, 0, none⟩)) W w') := fun h1 h2 W ga gb hlt p1 p2 => by
    rw [HM1.out]
    exact (mark_rom 0 r _ _ na na nb nb f g W (ob_of_by p1) (ob_of_by p2) (fun k e e' => by unfold atB at e e'; cases e; cases e'; omega) h1 h2).mono fun e w' q => ⟨q.1, q.2.2.2⟩
  have HMw0 : Hid (na ≤ 1048576 → nb ≤ 1048576 → n ≤ 1048576 → ∀ W gy, Wy W gy n (fW ws) → Calls Try.prog 34 #[.slice (some ⟨gy, 0, none⟩) n n, .int .i64 M] W fun e w' => e = .returned (.int .i64 M2) ∧ Outs (atB (some ⟨gy, 0, none⟩)) W w') := fun h1 h2 h3 W gy p => by
    rw [HM1.out, HM2.out]
    exact (mark_ow 0 _ n n (1 + na + nb) _ W (.inr ⟨gy, rfl, Nat.zero_le _, p⟩) (by omega) (by omega)).mono fun e w' q => ⟨q.1, q.2.2⟩
  have HEw0 : Hid (n ≤ 1048576 → ∀ W a1 a2 c1 c2, WsA W a1 n (fW ws) → WsA W a2 n (fW ws) → Calls Try.prog 33 #[.slice a1 n c1, .slice a2 n c2] W fun e w' => e = .returned (.bool true) ∧ Below W.heap.size W w') := fun h W a1 a2 c1 c2 p1 p2 => eq_writes a1 a2 n c1 c2 _ W p1 p2 (by omega)
  have HMr0 : Hid (NA ≤ 1048576 → NB ≤ 1048576 → ∀ W base xa xb ca cb, Ob W base xa NA F → Ob W base xb NB G → (∀ k, atB xa k → ¬ atB xb k) → Calls Try.prog 29 #[romV R xa xb NA ca NB cb, .int .i64 1] W fun e w' => e = .returned (.int .i64 Q) ∧ Ob w' base xa NA (mkN 1) ∧ Ob w' base xb NB (mkN (1 + NA)) ∧ Outs (atB2 xa xb) W w') := fun h1 h2 W base xa xb ca cb p1 p2 p3 => by
    rw [HQ.out]
    exact mark_rom base R xa xb NA ca NB cb F G W p1 p2 p3 h1 h2
  have HHr0 : Hid (NA ≤ 1048576 → NB ≤ 1048576 → ∀ W base xa xb ca cb, Ob W base xa NA (mkN 1) → Ob W base xb NB (mkN (1 + NA)) → Calls Try.prog 30 #[romV R xa xb NA ca NB cb, .int .i64 1] W fun e w' => e = .returned (.int .i64 Q) ∧ Below W.heap.size W w') := fun h1 h2 W base xa xb ca cb p1 p2 => by
    rw [HQ.out]
    exact held_rom base R xa xb NA ca NB cb W p1 p2 h1 h2
  have iM : ¬ M2 < 0 := by have := HM2.out; omega
  have iQ : ¬ Q < 0 := by have := HQ.out; omega
  have iQ2 : (Q != Q) = false := by simp
  have A0 : AR w r xa xb na ca nb cb (w.alloc (.cells #[.int .u8 r.a.mark, .int .u8 r.a.turn, .slice xa na ca, .int .u8 r.b.mark, .int .u8 r.b.turn, .slice xb nb cb] 45)) := ⟨heap_alloc_last _ _, (Below.refl _ _).alloc (Nat.le_refl _) _⟩
  clear ha hb HZ0 HY0 hr Hf Hg HRR HNA HNB HFF HGG HM1 HM2 HQ hna hnb hn hn63 hw
  unfold romV at HZ HT0 HS0 HI0 HE0 HM0 HEr0 HMr0 HHr0 ⊢
  go_enter Try.func8, Try.ntmps8
  go_wp2_with fail
  refine (HZ.out _).mono ?_
  rintro e w1 ⟨rfl, g1⟩
  have A1 : Hid (AR w r xa xb na ca nb cb w1) := A0.later g1
  obtain ⟨p0, p1, p2, p3, p4, p5, pf⟩ := row_cells6 A1.out.1
  clear g1 A0 HZ
  by_cases hz : Z < 0
  · clear hZn hZm hYn
    go_wp2
    go_ret
    exact ⟨rfl, A1.out.2⟩
  have HZ2 : Hid (∀ W, _) := HZ2.out (by omega)
  go_wp2_with fail
  refine (HZ2.out w1).mono ?_
  rintro e w2 ⟨rfl, g2⟩
  have A2 : Hid (AR w r xa xb na ca nb cb w2) := A1.out.later g2
  clear g2 A1 HZ2 p0 p1 p2 p3 p4 p5 pf
  obtain ⟨p0, p1, p2, p3, p4, p5, pf⟩ := row_cells6 A2.out.1
  by_cases hy : Y < 0
  · clear hZn hZm hYn hz
    go_wp2
    go_ret
    exact ⟨rfl, A2.out.2⟩
  have hna : na ≤ 1048576 := by omega
  have hnb : nb ≤ 1048576 := by omega
  have hnw : n ≤ 1048576 := by omega
  have HT : Hid (∀ W, Below w.heap.size w W → _) := HT0.out hna hnb
  have HTw : Hid (∀ W, Below w.heap.size w W → _) := HTw0.out hnw
  have HS : Hid (∀ W ya yb ca' cb' a c, _) := HS0.out hna hnb hnw
  have HI : Hid (∀ W ya yb ca' cb' a, _) := HI0.out hna hnb hnw
  have HE : Hid (∀ W xa xb ya yb ca cb ca' cb', _) := HE0.out hna hnb
  have HM : Hid (∀ W ga gb, ga < gb → _) := HM0.out hna hnb
  have HMw : Hid (∀ W gy, _) := HMw0.out hna hnb hnw
  have HEw : Hid (∀ W a1 a2 c1 c2, _) := HEw0.out hnw
  have HEr : Hid (∀ W xa xb ya yb ca cb ca' cb', _) := HEr0.out (HL.out hna hnb).1 (HL.out hna hnb).2
  have HMr : Hid (∀ W base xa xb ca cb, _) := HMr0.out (HL.out hna hnb).1 (HL.out hna hnb).2
  have HHr : Hid (∀ W base xa xb ca cb, _) := HHr0.out (HL.out hna hnb).1 (HL.out hna hnb).2
  clear HT0 HTw0 HS0 HI0 HE0 HM0 HMw0 HEw0 HEr0 HMr0 HHr0 HL hna hnb hnw hZn hZm hYn
  go_wp2_with fail
  refine (HT.out w2 A2.out.2).mono ?_
  rintro e w3 ⟨ga, gb, rfl, l1, l2, y1, y2, g3⟩
  have A3 : Hid (AR w r xa xb na ca nb cb w3) := A2.out.later g3
  have Y3 : Hid (By w3 ga na f ∧ By w3 gb nb g) := ⟨y1, y2⟩
  clear g3 l1 l2 y1 y2 p0 p1 p2 p3 p4 p5 pf A2
  go_wp2_with fail
  refine (HTw.out w3 A3.out.2).mono ?_
  rintro e w4 ⟨rfl, y3, g4⟩
  have A4 : Hid (AR w r xa xb na ca nb cb w4) := A3.out.later g4
  have Y4 : Hid (By w4 ga na f ∧ By w4 gb nb g ∧ WsA w4 (some ⟨w3.heap.size, 0, none⟩) n (fW ws)) := ⟨Y3.out.1.later g4 Y3.out.1.lt, Y3.out.2.later g4 Y3.out.2.lt, y3.wsa⟩
  clear g4 y3 A3 Y3
  go_wp2_with fail
  refine (HS.out w4 _ _ _ _ _ _ Y4.out.1.bt Y4.out.2.1.bt Y4.out.2.2).mono ?_
  rintro e w5 ⟨aw, cw, bw, dw, rfl, o1, o2, dj, g5⟩
  have gA : Below w5.heap.size w5 (w5.alloc (.cells #[.int .u8 R.a.mark, .int .u8 R.a.turn, .slice aw NA cw, .int .u8 R.b.mark, .int .u8 R.b.turn, .slice bw NB dw] 26)) := (Below.refl _ _).alloc (Nat.le_refl _) _
  have A6 := (A4.out.later g5).later gA
  have W6 : GR w5.heap.size w4.heap.size R aw NA cw bw NB dw F G (w5.alloc (.cells #[.int .u8 R.a.mark, .int .u8 R.a.turn, .slice aw NA cw, .int .u8 R.b.mark, .int .u8 R.b.turn, .slice bw NB dw] 26)) := ⟨heap_alloc_last _ _, o1.later gA, o2.later gA⟩
  have hs6 : (w5.alloc (.cells #[.int .u8 R.a.mark, .int .u8 R.a.turn, .slice aw NA cw, .int .u8 R.b.mark, .int .u8 R.b.turn, .slice bw NB dw] 26)).heap.size = w5.heap.size + 1 := by simp
  have hl6 : Hid (w.heap.size < w5.heap.size ∧ (∀ k, atB aw k ∨ atB bw k → k < w5.heap.size)) := ⟨(A4.out.later g5).lt, fun k e => by
    rcases e with e | e
    · exact (o1.lt k e).2
    · exact (o2.lt k e).2⟩
  clear g5 o1 o2 dj gA A4 Y4
  go_upto_region 9 with fail
  generalize (w5.alloc (.cells #[.int .u8 R.a.mark, .int .u8 R.a.turn, .slice aw NA cw, .int .u8 R.b.mark, .int .u8 R.b.turn, .slice bw NB dw] 26)) = w6 at A6 W6 hs6 ⊢
  have A6 : Hid (AR w r xa xb na ca nb cb w6) := A6
  have W6 : Hid (GR w5.heap.size w4.heap.size R aw NA cw bw NB dw F G w6) := W6
  have hs6 : Hid (w6.heap.size = w5.heap.size + 1) := hs6
  obtain ⟨p0, p1, p2, p3, p4, p5, pf⟩ := row_cells6 A6.out.1
  go_wp2_with fail
  refine (HT.out w6 A6.out.2).mono ?_
  rintro e w7 ⟨ga, gb, rfl, l1, l2, y1, y2, g7⟩
  have gA : Below w7.heap.size w7 (w7.alloc (.cells #[.int .u8 r.a.mark, .int .u8 r.a.turn, .slice (some ⟨ga, 0, none⟩) na na, .int .u8 r.b.mark, .int .u8 r.b.turn, .slice (some ⟨gb, 0, none⟩) nb nb] 26)) := (Below.refl _ _).alloc (Nat.le_refl _) _
  have X8 : XR w7.heap.size ga gb r na nb f g (w7.alloc (.cells #[.int .u8 r.a.mark, .int .u8 r.a.turn, .slice (some ⟨ga, 0, none⟩) na na, .int .u8 r.b.mark, .int .u8 r.b.turn, .slice (some ⟨gb, 0, none⟩) nb nb] 26)) := ⟨heap_alloc_last _ _, y1.later gA y1.lt, y2.later gA y2.lt⟩
  have A8 := (A6.out.later g7).later gA
  have W8 := (W6.out.later g7).later gA
  have hs8 : (w7.alloc (.cells #[.int .u8 r.a.mark, .int .u8 r.a.turn, .slice (some ⟨ga, 0, none⟩) na na, .int .u8 r.b.mark, .int .u8 r.b.turn, .slice (some ⟨gb, 0, none⟩) nb nb] 26)).heap.size = w7.heap.size + 1 := by simp
  have hl8 : Hid (ga < gb ∧ w5.heap.size < ga ∧ gb < w7.heap.size) := ⟨l2, by have := hs6.out; omega, y2.lt⟩
  obtain ⟨Bx, hBx⟩ : ∃ B, w7.heap.size = B := ⟨_, rfl⟩
  clear g7 l1 l2 y1 y2 p0 p1 p2 p3 p4 p5 pf gA A6 W6 hs6
  go_upto_region 10 with fail
  rw [hBx] at X8 hl8 hs8
  generalize (w7.alloc (.cells #[.int .u8 r.a.mark, .int .u8 r.a.turn, .slice (some ⟨ga, 0, none⟩) na na, .int .u8 r.b.mark, .int .u8 r.b.turn, .slice (some ⟨gb, 0, none⟩) nb nb] 26)) = w8 at X8 A8 W8 hs8 ⊢
  have A8 : Hid (AR w r xa xb na ca nb cb w8) := A8
  have X8 : Hid (XR Bx ga gb r na nb f g w8) := X8
  have W8 : Hid (GR w5.heap.size w4.heap.size R aw NA cw bw NB dw F G w8) := W8
  obtain ⟨gy, hgy⟩ : ∃ y, w8.heap.size = y := ⟨_, rfl⟩
  have HGY : Hid (w8.heap.size = gy ∧ gy = Bx + 1) := ⟨hgy, by omega⟩
  clear hBx hs8 hgy
  go_wp2_with fail
  refine (HTw.out w8 A8.out.2).mono ?_
  rintro e w9 ⟨rfl, y3, g9⟩
  rw [HGY.out.1] at y3 ⊢
  have A9 : Hid (AR w r xa xb na ca nb cb w9) := A8.out.later g9
  have X9 : Hid (XR Bx ga gb r na nb f g w9) := X8.out.later g9
  have W9 : Hid (GR w5.heap.size w4.heap.size R aw NA cw bw NB dw F G w9) := W8.out.later g9
  have Y9 : Hid (Wy w9 gy n (fW ws)) := y3
  have hl9 : Hid (gy < w9.heap.size) := y3.lt
  obtain ⟨q0, q1, q2, q3, q4, q5, qf⟩ := row_cells6 X9.out.1
  clear g9 y3 A8 X8 W8
  go_wp2_with fail
  refine (HI.out w9 _ _ _ _ _ X9.out.2.1.bt X9.out.2.2.bt Y9.out.wsa).mono ?_
  rintro e wa ⟨ag, cg, bg, dg, rfl, o1, o2, dj, ga'⟩
  have gA : Below wa.heap.size wa (wa.alloc (.cells #[.int .u8 R.a.mark, .int .u8 R.a.turn, .slice ag NA cg, .int .u8 R.b.mark, .int .u8 R.b.turn, .slice bg NB dg] 26)) := (Below.refl _ _).alloc (Nat.le_refl _) _
  have gB : Below w9.heap.size w9 (wa.alloc (.cells #[.int .u8 R.a.mark, .int .u8 R.a.turn, .slice ag NA cg, .int .u8 R.b.mark, .int .u8 R.b.turn, .slice bg NB dg] 26)) := ga'.trans (gA.mono ga'.size)
  have Ab := A9.out.later gB
  have Xb := X9.out.later gB
  have Wb := W9.out.later gB
  have Yb := Y9.out.later gB Y9.out.lt
  have Gb : GR wa.heap.size w9.heap.size R ag NA cg bg NB dg F G (wa.alloc (.cells #[.int .u8 R.a.mark, .int .u8 R.a.turn, .slice ag NA cg, .int .u8 R.b.mark, .int .u8 R.b.turn, .slice bg NB dg] 26)) := ⟨heap_alloc_last _ _, o1.later gA, o2.later gA⟩
  have hlb : Hid ((∀ k, atB ag k ∨ atB bg k → w9.heap.size ≤ k ∧ k < wa.heap.size) ∧ (∀ k, atB ag k → ¬ atB bg k) ∧ w9.heap.size ≤ wa.heap.size) := ⟨fun k e => by
    rcases e with e | e
    · exact o1.lt k e
    · exact o2.lt k e, dj, ga'.size⟩
  obtain ⟨Bg, hBg⟩ : ∃ B, wa.heap.size = B := ⟨_, rfl⟩
  clear ga' gA gB o1 o2 dj q0 q1 q2 q3 q4 q5 qf A9 X9 W9 Y9
  go_upto_region 12 with fail
  rw [hBg] at Gb hlb
  generalize (wa.alloc (.cells #[.int .u8 R.a.mark, .int .u8 R.a.turn, .slice ag NA cg, .int .u8 R.b.mark, .int .u8 R.b.turn, .slice bg NB dg] 26)) = wb at Ab Xb Wb Yb Gb ⊢
  have Ab : Hid (AR w r xa xb na ca nb cb wb) := Ab
  have Xb : Hid (XR Bx ga gb r na nb f g wb) := Xb
  have Wb : Hid (GR w5.heap.size w4.heap.size R aw NA cw bw NB dw F G wb) := Wb
  have Yb : Hid (Wy wb gy n (fW ws)) := Yb
  have Gb : Hid (GR Bg w9.heap.size R ag NA cg bg NB dg F G wb) := Gb
  clear hBg
  obtain ⟨p0, p1, p2, p3, p4, p5, pf⟩ := row_cells6 Wb.out.1
  obtain ⟨q0, q1, q2, q3, q4, q5, qf⟩ := row_cells6 Gb.out.1
  go_wp2_with fail
  refine (HEr.out wb _ _ _ _ _ _ _ _ Gb.out.2.1.bt Gb.out.2.2.bt Wb.out.2.1.bt Wb.out.2.2.bt).mono ?_
  rintro e wc ⟨rfl, gc'⟩
  have Ac : Hid (AR w r xa xb na ca nb cb wc) := Ab.out.later gc'
  have Xc : Hid (XR Bx ga gb r na nb f g wc) := Xb.out.later gc'
  have Wc : Hid (GR w5.heap.size w4.heap.size R aw NA cw bw NB dw F G wc) := Wb.out.later gc'
  have Yc : Hid (Wy wc gy n (fW ws)) := Yb.out.later gc' Yb.out.lt
  have Gc : Hid (GR Bg w9.heap.size R ag NA cg bg NB dg F G wc) := Gb.out.later gc'
  clear gc' p0 p1 p2 p3 p4 p5 pf q0 q1 q2 q3 q4 q5 qf Ab Xb Wb Yb Gb
  obtain ⟨p0, p1, p2, p3, p4, p5, pf⟩ := row_cells6 Ac.out.1
  obtain ⟨q0, q1, q2, q3, q4, q5, qf⟩ := row_cells6 Xc.out.1
  go_upto_region 14 with fail
  go_region_with (first
    | (go_at_call 26; refine (HT.out _ (by first | exact Ac.out.2 | exact Ac.out.2.drew)).mono ?_; rintro e w8' ⟨ha, hb, rfl, l1, l2, y7, y8, g8⟩; have gX : Below wc.heap.size wc w8' := (by first | exact g8 | exact (Below.refl _ _).drew.trans (g8.mono (Nat.le_refl _))); have X8 := Xc.out.later gX; obtain ⟨u0, u1, u2, u3, u4, u5, uf⟩ := row_cells6 X8.1; have z1 := X8.2.1; have z2 := X8.2.2)
    | (go_at_call 28; refine (HE.out _ _ _ _ _ _ _ _ _ z1.bt z2.bt y7.bt y8.bt).mono ?_; rintro e wd ⟨rfl, g9⟩; have gY : Below wc.heap.size wc wd := gX.trans (g9.mono gX.size)))
  all_goals
    have Ad : Hid (AR w r xa xb na ca nb cb wd) := Ac.out.later gY
    have Xd : Hid (XR Bx ga gb r na nb f g wd) := Xc.out.later gY
    have Wd : Hid (GR w5.heap.size w4.heap.size R aw NA cw bw NB dw F G wd) := Wc.out.later gY
    have Yd : Hid (Wy wd gy n (fW ws)) := Yc.out.later gY Yc.out.lt
    have Gd : Hid (GR Bg w9.heap.size R ag NA cg bg NB dg F G wd) := Gc.out.later gY
    clear gY gX g8 g9 X8 u0 u1 u2 u3 u4 u5 uf z1 z2 y7 y8 l1 l2 p0 p1 p2 p3 p4 p5 pf q0 q1 q2 q3 q4 q5 qf Ac Xc Wc Yc Gc
    go_wp2_with fail
    refine (HTw.out wd Ad.out.2).mono ?_
    rintro e we ⟨rfl, y3, ge'⟩
    have Ae : Hid (AR w r xa xb na ca nb cb we) := Ad.out.later ge'
    have Xe : Hid (XR Bx ga gb r na nb f g we) := Xd.out.later ge'
    have We : Hid (GR w5.heap.size w4.heap.size R aw NA cw bw NB dw F G we) := Wd.out.later ge'
    have Ye : Hid (Wy we gy n (fW ws)) := Yd.out.later ge' Yd.out.lt
    have Ge : Hid (GR Bg w9.heap.size R ag NA cg bg NB dg F G we) := Gd.out.later ge'
    have Te : Hid (WsA we (some ⟨wd.heap.size, 0, none⟩) n (fW ws)) := y3.wsa
    clear ge' y3 Ad Xd Wd Yd Gd
    go_wp2_with fail
    refine (HEw.out we _ _ _ _ Ye.out.wsa Te.out).mono ?_
    rintro e wf ⟨rfl, gf'⟩
    have Af : Hid (AR w r xa xb na ca nb cb wf) := Ae.out.later gf'
    have Xf : Hid (XR Bx ga gb r na nb f g wf) := Xe.out.later gf'
    have Wf : Hid (GR w5.heap.size w4.heap.size R aw NA cw bw NB dw F G wf) := We.out.later gf'
    have Yf : Hid (Wy wf gy n (fW ws)) := Ye.out.later gf' Ye.out.lt
    have Gf : Hid (GR Bg w9.heap.size R ag NA cg bg NB dg F G wf) := Ge.out.later gf'
    clear gf' Te Ae Xe We Ye Ge
    obtain ⟨q0, q1, q2, q3, q4, q5, qf⟩ := row_cells6 Xf.out.1
    go_wp2_with fail
    refine (HM.out wf ga gb hl8.out.1 Xf.out.2.1 Xf.out.2.2).mono ?_
    rintro e wg ⟨rfl, gg'⟩
    have Ag : Hid (AR w r xa xb na ca nb cb wg) := Af.out.outs gg' (fun k e => by have := hl8.out; have := hl6.out.1; rcases e with e | e <;> (unfold atB at e; cases e; omega))
    have Wg : Hid (GR w5.heap.size w4.heap.size R aw NA cw bw NB dw F G wg) := Wf.out.outs gg' (fun k e e' => by
      have h1 := hl8.out
      have h2 : k ≤ w5.heap.size := by
        rcases e with e | e
        · omega
        · exact Nat.le_of_lt (hl6.out.2 k e)
      rcases e' with e' | e' <;> (unfold atB at e'; cases e'; omega))
    have Yg : Hid (Wy wg gy n (fW ws)) := Yf.out.outs gg' (fun e' => by have := hl8.out; have := HGY.out; rcases e' with e' | e' <;> (unfold atB at e'; cases e'; omega))
    have Gg : Hid (GR Bg w9.heap.size R ag NA cg bg NB dg F G wg) := Gf.out.outs gg' (fun k e e' => by
      have h1 := hl8.out
      have h2 : w9.heap.size ≤ k := by
        rcases e with e | e
        · have := hlb.out.2.2; omega
        · exact (hlb.out.1 k e).1
      have h3 := HGY.out
      have h4 := hl9.out
      rcases e' with e' | e' <;> (unfold atB at e'; cases e'; omega))
    clear gg' q0 q1 q2 q3 q4 q5 qf Af Xf Wf Yf Gf
    go_wp2_with fail
    refine (HMw.out wg _ Yg.out).mono ?_
    rintro e wh ⟨rfl, gh'⟩
    have Ah : Hid (AR w r xa xb na ca nb cb wh) := Ag.out.outs gh' (fun k e => by have := hl8.out; have := HGY.out; have := hl6.out.1; unfold atB at e; cases e; omega)
    have Wh : Hid (GR w5.heap.size w4.heap.size R aw NA cw bw NB dw F G wh) := Wg.out.outs gh' (fun k e e' => by
      have h1 := hl8.out
      have h2 : k ≤ w5.heap.size := by
        rcases e with e | e
        · omega
        · exact Nat.le_of_lt (hl6.out.2 k e)
      have h3 := HGY.out
      unfold atB at e'
      cases e'
      omega)
    have Gh : Hid (GR Bg w9.heap.size R ag NA cg bg NB dg F G wh) := Gg.out.outs gh' (fun k e e' => by
      have h2 : w9.heap.size ≤ k := by
        rcases e with e | e
        · have := hlb.out.2.2; omega
        · exact (hlb.out.1 k e).1
      have h4 := hl9.out
      unfold atB at e'
      cases e'
      omega)
    clear gh' Ag Wg Yg Gg
    obtain ⟨p0, p1, p2, p3, p4, p5, pf⟩ := row_cells6 Wh.out.1
    obtain ⟨q0, q1, q2, q3, q4, q5, qf⟩ := row_cells6 Gh.out.1
    go_wp2_with fail
    refine (HEr.out wh _ _ _ _ _ _ _ _ Gh.out.2.1.bt Gh.out.2.2.bt Wh.out.2.1.bt Wh.out.2.2.bt).mono ?_
    rintro e wi ⟨rfl, gi'⟩
    have Ai : Hid (AR w r xa xb na ca nb cb wi) := Ah.out.later gi'
    have Wi : Hid (GR w5.heap.size w4.heap.size R aw NA cw bw NB dw F G wi) := Wh.out.later gi'
    have Gi : Hid (GR Bg w9.heap.size R ag NA cg bg NB dg F G wi) := Gh.out.later gi'
    clear gi' p0 p1 p2 p3 p4 p5 pf q0 q1 q2 q3 q4 q5 qf Ah Wh Gh
    obtain ⟨q0, q1, q2, q3, q4, q5, qf⟩ := row_cells6 Gi.out.1
    go_wp2_with fail
    refine (HMr.out wi _ _ _ _ _ Gi.out.2.1 Gi.out.2.2 hlb.out.2.1).mono ?_
    rintro e wj ⟨rfl, q1', q2', gj'⟩
    have hrows : ∀ k, atB2 ag bg k → w9.heap.size ≤ k ∧ k < Bg := fun k e => hlb.out.1 k e
    have Aj : Hid (AR w r xa xb na ca nb cb wj) := Ai.out.outs gj' (fun k e => by have := hrows k e; have := hl8.out; have := HGY.out; have := hl9.out; have := hl6.out.1; omega)
    have Wj : Hid (GR w5.heap.size w4.heap.size R aw NA cw bw NB dw F G wj) := Wi.out.outs gj' (fun k e e' => by
      have h1 := hrows k e'
      have h2 : k ≤ w5.heap.size := by
        rcases e with e | e
        · omega
        · exact Nat.le_of_lt (hl6.out.2 k e)
      have := hl8.out; have := HGY.out; have := hl9.out
      omega)
    have Mj : Hid (GR Bg w9.heap.size R ag NA cg bg NB dg (mkN 1) (mkN (1 + NA)) wj) := ⟨gj'.row Gi.out.1 (fun e => by have := hrows _ e; omega), q1', q2'⟩
    clear gj' q1' q2' hrows q0 q1 q2 q3 q4 q5 qf Ai Wi Gi
    obtain ⟨q0, q1, q2, q3, q4, q5, qf⟩ := row_cells6 Mj.out.1
    go_wp2_with fail
    refine (HHr.out wj _ _ _ _ _ Mj.out.2.1 Mj.out.2.2).mono ?_
    rintro e wk ⟨rfl, gk'⟩
    have Ak : Hid (AR w r xa xb na ca nb cb wk) := Aj.out.later gk'
    have Wk : Hid (GR w5.heap.size w4.heap.size R aw NA cw bw NB dw F G wk) := Wj.out.later gk'
    have Mk : Hid (GR Bg w9.heap.size R ag NA cg bg NB dg (mkN 1) (mkN (1 + NA)) wk) := Mj.out.later gk'
    clear gk' q0 q1 q2 q3 q4 q5 qf Aj Wj Mj
    obtain ⟨p0, p1, p2, p3, p4, p5, pf⟩ := row_cells6 Ak.out.1
    go_wp2_with fail
    refine (HT.out wk Ak.out.2).mono ?_
    rintro e wl ⟨ja, jb, rfl, l1, l2, y1, y2, gl'⟩
    have Al : Hid (AR w r xa xb na ca nb cb wl) := Ak.out.later gl'
    have Wl : Hid (GR w5.heap.size w4.heap.size R aw NA cw bw NB dw F G wl) := Wk.out.later gl'
    have Ml : Hid (GR Bg w9.heap.size R ag NA cg bg NB dg (mkN 1) (mkN (1 + NA)) wl) := Mk.out.later gl'
    have Tl : Hid (By wl ja na f ∧ By wl jb nb g) := ⟨y1, y2⟩
    clear gl' l1 l2 y1 y2 p0 p1 p2 p3 p4 p5 pf Ak Wk Mk
    go_wp2_with fail
    refine (HTw.out wl Al.out.2).mono ?_
    rintro e wm ⟨rfl, y3, gm'⟩
    have Am : Hid (AR w r xa xb na ca nb cb wm) := Al.out.later gm'
    have Wm : Hid (GR w5.heap.size w4.heap.size R aw NA cw bw NB dw F G wm) := Wl.out.later gm'
    have Mm : Hid (GR Bg w9.heap.size R ag NA cg bg NB dg (mkN 1) (mkN (1 + NA)) wm) := Ml.out.later gm'
    have Tm : Hid (By wm ja na f ∧ By wm jb nb g ∧ WsA wm (some ⟨wl.heap.size, 0, none⟩) n (fW ws)) := ⟨Tl.out.1.later gm' Tl.out.1.lt, Tl.out.2.later gm' Tl.out.2.lt, y3.wsa⟩
    clear gm' y3 Tl Al Wl Ml
    go_wp2_with fail
    refine (HI.out wm _ _ _ _ _ Tm.out.1.bt Tm.out.2.1.bt Tm.out.2.2).mono ?_
    rintro e wn ⟨ah, ch, bh, dh, rfl, o1, o2, dj, gn'⟩
    have gA : Below wn.heap.size wn (wn.alloc (.cells #[.int .u8 R.a.mark, .int .u8 R.a.turn, .slice ah NA ch, .int .u8 R.b.mark, .int .u8 R.b.turn, .slice bh NB dh] 26)) := (Below.refl _ _).alloc (Nat.le_refl _) _
    have gB : Below wm.heap.size wm (wn.alloc (.cells #[.int .u8 R.a.mark, .int .u8 R.a.turn, .slice ah NA ch, .int .u8 R.b.mark, .int .u8 R.b.turn, .slice bh NB dh] 26)) := gn'.trans (gA.mono gn'.size)
    have Ao := Am.out.later gB
    have Wo := Wm.out.later gB
    have Mo := Mm.out.later gB
    have Ho : GR wn.heap.size wm.heap.size R ah NA ch bh NB dh F G (wn.alloc (.cells #[.int .u8 R.a.mark, .int .u8 R.a.turn, .slice ah NA ch, .int .u8 R.b.mark, .int .u8 R.b.turn, .slice bh NB dh] 26)) := ⟨heap_alloc_last _ _, o1.later gA, o2.later gA⟩
    obtain ⟨Bh, hBh⟩ : ∃ B, wn.heap.size = B := ⟨_, rfl⟩
    clear gn' gA gB o1 o2 dj Tm Am Wm Mm
    go_upto_region 32 with fail
    rw [hBh] at Ho
    generalize (wn.alloc (.cells #[.int .u8 R.a.mark, .int .u8 R.a.turn, .slice ah NA ch, .int .u8 R.b.mark, .int .u8 R.b.turn, .slice bh NB dh] 26)) = wo at Ao Wo Mo Ho ⊢
    have Ao : Hid (AR w r xa xb na ca nb cb wo) := Ao
    have Wo : Hid (GR w5.heap.size w4.heap.size R aw NA cw bw NB dw F G wo) := Wo
    have Mo : Hid (GR Bg w9.heap.size R ag NA cg bg NB dg (mkN 1) (mkN (1 + NA)) wo) := Mo
    have Ho : Hid (GR Bh wm.heap.size R ah NA ch bh NB dh F G wo) := Ho
    clear hBh
    obtain ⟨p0, p1, p2, p3, p4, p5, pf⟩ := row_cells6 Wo.out.1
    obtain ⟨q0, q1, q2, q3, q4, q5, qf⟩ := row_cells6 Ho.out.1
    go_wp2_with fail
    refine (HEr.out wo _ _ _ _ _ _ _ _ Ho.out.2.1.bt Ho.out.2.2.bt Wo.out.2.1.bt Wo.out.2.2.bt).mono ?_
    rintro e wp ⟨rfl, gp'⟩
    have Ap : Hid (AR w r xa xb na ca nb cb wp) := Ao.out.later gp'
    have Mp : Hid (GR Bg w9.heap.size R ag NA cg bg NB dg (mkN 1) (mkN (1 + NA)) wp) := Mo.out.later gp'
    clear gp' Ho p0 p1 p2 p3 p4 p5 pf q0 q1 q2 q3 q4 q5 qf Ao Wo Mo
    obtain ⟨q0, q1, q2, q3, q4, q5, qf⟩ := row_cells6 Mp.out.1
    go_wp2_with fail
    refine (HHr.out wp _ _ _ _ _ Mp.out.2.1 Mp.out.2.2).mono ?_
    rintro e wq ⟨rfl, gq'⟩
    have bq := (Ap.out.later gq').2
    clear gq' q0 q1 q2 q3 q4 q5 qf Ap Mp
    go_wp2
    go_ret
    exact ⟨rfl, bq⟩
end Go.Proofs.Ytfhdpafaamkipaa
