/- The law FnExactHoldDo, walked. Made by tools/gen19_hra.py. -/
import Derived.Test.YtfhdpafaamkipaaHra
namespace Go.Proofs.Ytfhdpafaamkipaa
open Go.RowKit
set_option linter.unusedVariables false
set_option linter.unusedSimpArgs false

set_option maxRecDepth 10000 in
set_option maxHeartbeats 16000000 in
theorem law_hdo (r : RomT) (xa xb : Option Addr) (na ca nb cb : Nat) (k s : Int) (y : Nat) (w : World) (hr : RomOk r na nb) (hna : na ≤ 9223372036854775807) (hnb : nb ≤ 9223372036854775807) (ha : Bt w xa na (fL r.a.data)) (hb : Bt w xb nb (fL r.b.data)) :
    Calls Try.prog 7 #[romV r xa xb na ca nb cb, .agg #[.int .i64 k, .int .i64 s, .int .u8 y]] w fun e w' => e = .returned (.bool true) ∧ Below w.heap.size w w' := by
  have HZ : Hid (∀ W, Calls Try.prog 24 #[romV r xa xb na ca nb cb, .int .i64 1048576] W fun e w' => e = .returned (.int .i64 (szR 1048576 na nb)) ∧ Below W.heap.size W w') := fun W => sz_rom r xa xb na ca nb cb 1048576 W (by omega) hna hnb
  have hZn := @szR_ok 1048576 na nb
  have hZm : szR 1048576 na nb ≤ 1048576 := by
    unfold szR szL
    split
    · omega
    · split <;> omega
  obtain ⟨Z, HZ0⟩ : ∃ Z, szR 1048576 na nb = Z := ⟨_, rfl⟩
  rw [HZ0] at HZ hZn hZm
  obtain ⟨f, Hf⟩ : ∃ f, Hid (f = fL r.a.data) := ⟨_, rfl⟩
  obtain ⟨g, Hg⟩ : ∃ g, Hid (g = fL r.b.data) := ⟨_, rfl⟩
  obtain ⟨R, HRR⟩ : ∃ R, Hid (R = doT r ⟨k, s, y⟩) := ⟨_, rfl⟩
  obtain ⟨NA, HNA⟩ : ∃ N, Hid (N = R.a.data.length) := ⟨_, rfl⟩
  obtain ⟨NB, HNB⟩ : ∃ N, Hid (N = R.b.data.length) := ⟨_, rfl⟩
  obtain ⟨F, HFF⟩ : ∃ F, Hid (F = fL R.a.data) := ⟨_, rfl⟩
  obtain ⟨G, HGG⟩ : ∃ G, Hid (G = fL R.b.data) := ⟨_, rfl⟩
  have HL : Hid (na ≤ 1048576 → nb ≤ 1048576 → NA ≤ 1048576 ∧ NB ≤ 1048576) := (fun h1 h2 => by
    rw [HNA.out, HNB.out, HRR.out]
    exact do_len r _ 1048576 (by omega) ⟨by rw [hr.1.2.2]; exact h1, by rw [hr.2.2.2]; exact h2⟩ : na ≤ 1048576 → nb ≤ 1048576 → NA ≤ 1048576 ∧ NB ≤ 1048576)
  have HT0 : Hid (na ≤ 1048576 → nb ≤ 1048576 → ∀ W, Below w.heap.size w W → Calls Try.prog 26 #[romV r xa xb na ca nb cb] W fun e w' => ∃ ga gb, e = .returned (romV r (some ⟨ga, 0, none⟩) (some ⟨gb, 0, none⟩) na na nb nb) ∧ W.heap.size ≤ ga ∧ ga < gb ∧ By w' ga na f ∧ By w' gb nb g ∧ Below W.heap.size W w') := fun h1 h2 W b => by
    rw [Hf.out, Hg.out]
    exact to_rom r xa xb na ca nb cb _ _ W h1 h2 (ha.later b (Nat.le_refl _)) (hb.later b (Nat.le_refl _))
  have HW : Hid (∀ W, Calls Try.prog 27 #[.agg #[.int .i64 k, .int .i64 s, .int .u8 y]] W fun e w' => e = .returned (.agg #[.int .i64 k, .int .i64 s, .int .u8 y]) ∧ Below W.heap.size W w') := fun W => to_write k s y W
  have HS0 : Hid (na ≤ 1048576 → nb ≤ 1048576 → ∀ W ya yb ca' cb', Bt W ya na f → Bt W yb nb g → Calls Try.prog 25 #[romV r ya yb na ca' nb cb', .agg #[.int .i64 k, .int .i64 s, .int .u8 y]] W fun e w' => ∃ (xa : Option Addr) (ca : Nat) (xb : Option Addr) (cb : Nat), e = .returned (romV R xa xb NA ca NB cb) ∧ Ob w' W.heap.size xa NA F ∧ Ob w' W.heap.size xb NB G ∧ (∀ k, atB xa k → ¬ atB xb k) ∧ Below W.heap.size W w') := fun h1 h2 W ya yb ca' cb' p1 p2 => by
    rw [Hf.out] at p1
    rw [Hg.out] at p2
    exact (do_s r ya yb na ca' nb cb' ⟨k, s, y⟩ W hr h1 h2 p1 p2).mono fun e w' q => romR_u HNA.out HNB.out HFF.out HGG.out (by rw [HRR.out]; exact q)
  have HI0 : Hid (na ≤ 1048576 → nb ≤ 1048576 → ∀ W ya yb ca' cb', Bt W ya na f → Bt W yb nb g → Calls Try.prog 23 #[romV r ya yb na ca' nb cb', .agg #[.int .i64 k, .int .i64 s, .int .u8 y]] W fun e w' => ∃ (xa : Option Addr) (ca : Nat) (xb : Option Addr) (cb : Nat), e = .returned (romV R xa xb NA ca NB cb) ∧ Ob w' W.heap.size xa NA F ∧ Ob w' W.heap.size xb NB G ∧ (∀ k, atB xa k → ¬ atB xb k) ∧ Below W.heap.size W w') := fun h1 h2 W ya yb ca' cb' p1 p2 => by
    rw [Hf.out] at p1
    rw [Hg.out] at p2
    exact (do_i r ya yb na ca' nb cb' ⟨k, s, y⟩ W hr h1 h2 p1 p2).mono fun e w' q => romR_u HNA.out HNB.out HFF.out HGG.out (by rw [HRR.out]; exact q)
  have HE0 : Hid (na ≤ 1048576 → nb ≤ 1048576 → ∀ W xa xb ya yb ca cb ca' cb', Bt W xa na f → Bt W xb nb g → Bt W ya na f → Bt W yb nb g → Calls Try.prog 28 #[romV r xa xb na ca nb cb, romV r ya yb na ca' nb cb'] W fun e w' => e = .returned (.bool true) ∧ Below W.heap.size W w') := fun h1 h2 W xa xb ya yb ca cb ca' cb' p1 p2 p3 p4 => eq_rom r xa xb ya yb na ca nb cb ca' cb' _ _ W h1 h2 p1 p2 p3 p4
  have HEr0 : Hid (NA ≤ 1048576 → NB ≤ 1048576 → ∀ W xa xb ya yb ca cb ca' cb', Bt W xa NA F → Bt W xb NB G → Bt W ya NA F → Bt W yb NB G → Calls Try.prog 28 #[romV R xa xb NA ca NB cb, romV R ya yb NA ca' NB cb'] W fun e w' => e = .returned (.bool true) ∧ Below W.heap.size W w') := fun h1 h2 W xa xb ya yb ca cb ca' cb' p1 p2 p3 p4 => eq_rom R xa xb ya yb NA ca NB cb ca' cb' _ _ W h1 h2 p1 p2 p3 p4
  obtain ⟨M, HM1⟩ : ∃ M : Int, Hid (M = ((1 + na + nb : Nat) : Int)) := ⟨_, rfl⟩
  obtain ⟨Q, HQ⟩ : ∃ M : Int, Hid (M = ((1 + NA + NB : Nat) : Int)) := ⟨_, rfl⟩
  have HM0 : Hid (na ≤ 1048576 → nb ≤ 1048576 → ∀ W ga gb, ga < gb → By W ga na f → By W gb nb g → Calls Try.prog 29 #[romV r (some ⟨ga, 0, none⟩) (some ⟨gb, 0, none⟩) na na nb nb, .int .i64 1] W fun e w' => e = .returned (.int .i64 M) ∧ Outs (atB2 (some ⟨ga, 0, none⟩) (some ⟨gb, 0, none⟩)) W w') := fun h1 h2 W ga gb hlt p1 p2 => by
    rw [HM1.out]
    exact (mark_rom 0 r _ _ na na nb nb f g W (ob_of_by p1) (ob_of_by p2) (fun k e e' => by unfold atB at e e'; cases e; cases e'; omega) h1 h2).mono fun e w' q => ⟨q.1, q.2.2.2⟩
  have HMr0 : Hid (NA ≤ 1048576 → NB ≤ 1048576 → ∀ W base xa xb ca cb, Ob W base xa NA F → Ob W base xb NB G → (∀ k, atB xa k → ¬ atB xb k) → Calls Try.prog 29 #[romV R xa xb NA ca NB cb, .int .i64 1] W fun e w' => e = .returned (.int .i64 Q) ∧ Ob w' base xa NA (mkN 1) ∧ Ob w' base xb NB (mkN (1 + NA)) ∧ Outs (atB2 xa xb) W w') := fun h1 h2 W base xa xb ca cb p1 p2 p3 => by
    rw [HQ.out]
    exact mark_rom base R xa xb NA ca NB cb F G W p1 p2 p3 h1 h2
  have HHr0 : Hid (NA ≤ 1048576 → NB ≤ 1048576 → ∀ W base xa xb ca cb, Ob W base xa NA (mkN 1) → Ob W base xb NB (mkN (1 + NA)) → Calls Try.prog 30 #[romV R xa xb NA ca NB cb, .int .i64 1] W fun e w' => e = .returned (.int .i64 Q) ∧ Below W.heap.size W w') := fun h1 h2 W base xa xb ca cb p1 p2 => by
    rw [HQ.out]
    exact held_rom base R xa xb NA ca NB cb W p1 p2 h1 h2
  have iM : ¬ M < 0 := by have := HM1.out; omega
  have iQ : ¬ Q < 0 := by have := HQ.out; omega
  have iQ2 : (Q != Q) = false := by simp
  obtain ⟨x0, x1, hxz, xb0⟩ := two_alloc w (.cells #[.int .u8 r.a.mark, .int .u8 r.a.turn, .slice xa na ca, .int .u8 r.b.mark, .int .u8 r.b.turn, .slice xb nb cb] 45) (.cells #[.int .i64 k, .int .i64 s, .int .u8 y] 46)
  have A0 : PR w r xa xb na ca nb cb k s y ((w.alloc (.cells #[.int .u8 r.a.mark, .int .u8 r.a.turn, .slice xa na ca, .int .u8 r.b.mark, .int .u8 r.b.turn, .slice xb nb cb] 45)).alloc (.cells #[.int .i64 k, .int .i64 s, .int .u8 y] 46)) := ⟨⟨x0, xb0⟩, x1⟩
  clear ha hb HZ0 hr Hf Hg HRR HNA HNB HFF HGG HM1 HQ hna hnb x0 x1 hxz xb0
  unfold romV at HZ HT0 HS0 HI0 HE0 HM0 HEr0 HMr0 HHr0 ⊢
  go_enter Try.func7, Try.ntmps7
  go_wp2_with fail
  refine (HZ.out _).mono ?_
  rintro e w1 ⟨rfl, g1⟩
  have A1 : Hid (PR w r xa xb na ca nb cb k s y w1) := A0.later g1
  obtain ⟨p0, p1, p2, p3, p4, p5, pf⟩ := row_cells6 A1.out.1.1
  obtain ⟨q0, q1, q2, qf⟩ := row_cells3 A1.out.2
  clear g1 A0 HZ
  by_cases hz : Z < 0
  · clear hZn hZm
    go_wp2
    go_ret
    exact ⟨rfl, A1.out.1.2⟩
  have hna : na ≤ 1048576 := by omega
  have hnb : nb ≤ 1048576 := by omega
  have HT : Hid (∀ W, Below w.heap.size w W → _) := HT0.out hna hnb
  have HS : Hid (∀ W ya yb ca' cb', _) := HS0.out hna hnb
  have HI : Hid (∀ W ya yb ca' cb', _) := HI0.out hna hnb
  have HE : Hid (∀ W xa xb ya yb ca cb ca' cb', _) := HE0.out hna hnb
  have HM : Hid (∀ W ga gb, ga < gb → _) := HM0.out hna hnb
  have HEr : Hid (∀ W xa xb ya yb ca cb ca' cb', _) := HEr0.out (HL.out hna hnb).1 (HL.out hna hnb).2
  have HMr : Hid (∀ W base xa xb ca cb, _) := HMr0.out (HL.out hna hnb).1 (HL.out hna hnb).2
  have HHr : Hid (∀ W base xa xb ca cb, _) := HHr0.out (HL.out hna hnb).1 (HL.out hna hnb).2
  clear HT0 HS0 HI0 HE0 HM0 HEr0 HMr0 HHr0 HL hna hnb hZn hZm
  have hA : Hid (w.heap.size + 1 < w1.heap.size) := (Array.getElem?_eq_some_iff.1 A1.out.2).1
  go_upto_region 5 with fail
  go_cut [6] from 13 (fun v wc => ∃ hi B aw cw bw dw, v = .pointer (some ⟨B, 0, none⟩) ∧ Hid (Below w1.heap.size w1 wc) ∧ Hid (An w1.heap.size hi B R aw NA cw bw NB dw F G wc))
  case first =>
    obtain ⟨i0, i1, i2, i3, i4, i5⟩ := cells6a A1.out.1.1
    obtain ⟨j0, j1, j2⟩ := cells3a A1.out.2
    have hB : Below w.heap.size w w1 := A1.out.1.2
    have h0 : Below w1.heap.size w1 w1 := Below.refl _ _
    clear HI HE HM HEr HMr HHr
    go_region_law (first
      | (go_simp; go_at_call 26; refine (HT.out _ (by bw19)).mono ?_; rintro e v1 ⟨ja, jb, rfl, l1, l2, y1, y2, gT⟩; have hB : Below w.heap.size w v1 := bel_chain0 gT (by bw19); have h0 : Below w1.heap.size w1 v1 := bel_chain0 gT (by bw19); have Pv := A1.out.later h0; obtain ⟨q0, q1, q2, qf⟩ := row_cells3 Pv.2; obtain ⟨j0, j1, j2⟩ := cells3a Pv.2; try (first | have kz := row_chain gT (row_last _ _) | have kz := row_chain gT (row_last2 _ _) | have kz := row_chain gT (row_last3 _ _) | have kz := row_chain gT kz); have gR : Below v1.heap.size v1 v1 := Below.refl _ _; dsimp only)
      | (go_simp; go_at_call 27; refine (HW.out _).mono ?_; rintro e v2 ⟨rfl, gT⟩; have hB : Below w.heap.size w v2 := bel_chain0 gT (by bw19); have h0 : Below w1.heap.size w1 v2 := bel_chain0 gT (by bw19); have Pv := A1.out.later h0; obtain ⟨p0, p1, p2, p3, p4, p5, pf⟩ := row_cells6 Pv.1.1; obtain ⟨i0, i1, i2, i3, i4, i5⟩ := cells6a Pv.1.1; try (first | have kz := row_chain gT (row_last _ _) | have kz := row_chain gT (row_last2 _ _) | have kz := row_chain gT (row_last3 _ _) | have kz := row_chain gT kz); try (have gR : Below v1.heap.size v1 v2 := bel_chain0 gT (by bw19)); dsimp only)
      | (go_simp; go_at_call 25; refine (HS.out _ _ _ _ _ (y1.later (by bw19) y1.lt).bt (y2.later (by bw19) y2.lt).bt).mono ?_; rintro e v3 ⟨aw, cw, bw, dw, rfl, o1, o2, dj, gT⟩; try (first | have kV := row_at gT (row_last _ _) | have kV := row_at gT (row_last2 _ _) | have kV := row_at gT (row_last3 _ _) | have kV := row_at gT kz); try (obtain ⟨u0, u1, u2, u3, u4, u5, uf⟩ := row_cells6 (row_chain gT kV)); dsimp only))
    all_goals
      have h3 : Below w1.heap.size w1 v3 := bel_chain0 gT (by bw19)
      clear HT HW HS
      go_wp2_with fail
      go_meet
      case rel =>
        first
        | (have hAn := an_old (w0 := w1) (R := R) (ca := cw) (cb := dw) (by bw19) (by first | exact Nat.le_refl _ | exact Below.size (B := w1.heap.size) (by bw19)) kV o1 o2 dj gT; exact ⟨_, _, aw, cw, bw, dw, rfl, hAn.2, hAn.1⟩)
        | exact ⟨_, _, aw, cw, bw, dw, rfl, (by bw19 : Below w1.heap.size w1 (v3.alloc _)), an_new (w0 := w1) (by bw19) o1 o2 dj gT⟩
  case rest =>
    obtain ⟨hi, Bw, aw, cw, bw, dw, rfl, b6, W6⟩ := hcut
    rename World => w6
    have P6 : Hid (PR w r xa xb na ca nb cb k s y w6) := A1.out.later b6.out
    have hs6 : Hid (w.heap.size + 1 < w6.heap.size ∧ hi ≤ w6.heap.size) := ⟨by have := hA.out; have := b6.out.size; omega, W6.out.2.2.2.2.2⟩
    clear b6 A1 HS hA p0 p1 p2 p3 p4 p5 pf q0 q1 q2 qf
    obtain ⟨p0, p1, p2, p3, p4, p5, pf⟩ := row_cells6 P6.out.1.1
    go_wp2_with fail
    refine (HT.out w6 P6.out.1.2).mono ?_
    rintro e w7 ⟨ga, gb, rfl, l1, l2, y1, y2, g7⟩
    have gA : Below w7.heap.size w7 (w7.alloc (.cells #[.int .u8 r.a.mark, .int .u8 r.a.turn, .slice (some ⟨ga, 0, none⟩) na na, .int .u8 r.b.mark, .int .u8 r.b.turn, .slice (some ⟨gb, 0, none⟩) nb nb] 26)) := (Below.refl _ _).alloc (Nat.le_refl _) _
    have X8 : XR w7.heap.size ga gb r na nb f g (w7.alloc (.cells #[.int .u8 r.a.mark, .int .u8 r.a.turn, .slice (some ⟨ga, 0, none⟩) na na, .int .u8 r.b.mark, .int .u8 r.b.turn, .slice (some ⟨gb, 0, none⟩) nb nb] 26)) := ⟨heap_alloc_last _ _, y1.later gA y1.lt, y2.later gA y2.lt⟩
    have P8 := (P6.out.later g7).later gA
    have W8 := (W6.out.later g7).later gA
    have hl8 : Hid (ga < gb ∧ w6.heap.size ≤ ga ∧ gb < w7.heap.size) := ⟨l2, l1, y2.lt⟩
    obtain ⟨Bx, hBx⟩ : ∃ B, w7.heap.size = B := ⟨_, rfl⟩
    clear g7 l1 l2 y1 y2 p0 p1 p2 p3 p4 p5 pf gA P6 W6
    go_upto_region 7 with fail
    rw [hBx] at X8 hl8
    generalize (w7.alloc (.cells #[.int .u8 r.a.mark, .int .u8 r.a.turn, .slice (some ⟨ga, 0, none⟩) na na, .int .u8 r.b.mark, .int .u8 r.b.turn, .slice (some ⟨gb, 0, none⟩) nb nb] 26)) = w8 at X8 P8 W8 ⊢
    have hX8 : Hid (gb < w8.heap.size) := X8.2.2.lt
    replace P8 : Hid (PR w r xa xb na ca nb cb k s y w8) := P8
    replace X8 : Hid (XR Bx ga gb r na nb f g w8) := X8
    replace W8 : Hid (An w1.heap.size hi Bw R aw NA cw bw NB dw F G w8) := W8
    clear hBx
    obtain ⟨p0, p1, p2, p3, p4, p5, pf⟩ := row_cells6 X8.out.1
    obtain ⟨q0, q1, q2, qf⟩ := row_cells3 P8.out.2
    go_cut [8] from 13 (fun v wc => ∃ hi2 B ag cg bg dg, v = .pointer (some ⟨B, 0, none⟩) ∧ Hid (Below w8.heap.size w8 wc) ∧ Hid (An w8.heap.size hi2 B R ag NA cg bg NB dg F G wc))
    case first =>
      obtain ⟨i0, i1, i2, i3, i4, i5⟩ := cells6a X8.out.1
      obtain ⟨j0, j1, j2⟩ := cells3a P8.out.2
      have h0 : Below w8.heap.size w8 w8 := Below.refl _ _
      clear HE HM HEr HMr HHr HT
      go_region_law (first
      | (go_simp; go_at_call 27; refine (HW.out _).mono ?_; rintro e v2 ⟨rfl, gT⟩; have h0 : Below w8.heap.size w8 v2 := bel_chain0 gT (by bw19); have Xv := X8.out.later h0; obtain ⟨p0, p1, p2, p3, p4, p5, pf⟩ := row_cells6 Xv.1; obtain ⟨i0, i1, i2, i3, i4, i5⟩ := cells6a Xv.1; try (first | have kz := row_chain gT (row_last _ _) | have kz := row_chain gT (row_last2 _ _) | have kz := row_chain gT (row_last3 _ _) | have kz := row_chain gT kz); dsimp only)
      | (go_simp; go_at_call 23; refine (HI.out _ _ _ _ _ (X8.out.2.1.later (by bw19) X8.out.2.1.lt).bt (X8.out.2.2.later (by bw19) X8.out.2.2.lt).bt).mono ?_; rintro e v3 ⟨ag, cg, bg, dg, rfl, o1, o2, dj, gT⟩; try (first | have kV := row_at gT (row_last _ _) | have kV := row_at gT (row_last2 _ _) | have kV := row_at gT (row_last3 _ _) | have kV := row_at gT kz); try (obtain ⟨u0, u1, u2, u3, u4, u5, uf⟩ := row_cells6 (row_chain gT kV)); dsimp only))
      all_goals
        have h3 : Below w8.heap.size w8 v3 := bel_chain0 gT (by bw19)
        clear HW HI
        go_wp2_with fail
        go_meet
        case rel =>
          first
          | (have hAn := an_old (w0 := w8) (R := R) (ca := cg) (cb := dg) (by bw19) (by first | exact Nat.le_refl _ | exact Below.size (B := w8.heap.size) (by bw19)) kV o1 o2 dj gT; exact ⟨_, _, ag, cg, bg, dg, rfl, hAn.2, hAn.1⟩)
          | exact ⟨_, _, ag, cg, bg, dg, rfl, (by bw19 : Below w8.heap.size w8 (v3.alloc _)), an_new (w0 := w8) (by bw19) o1 o2 dj gT⟩
    case rest =>
      obtain ⟨hi2, Bg, ag, cg, bg, dg, rfl, b9, G9⟩ := hcut
      rename World => w9
      have P9 : Hid (PR w r xa xb na ca nb cb k s y w9) := P8.out.later b9.out
      have X9 : Hid (XR Bx ga gb r na nb f g w9) := X8.out.later b9.out
      have W9 : Hid (An w1.heap.size hi Bw R aw NA cw bw NB dw F G w9) := W8.out.later b9.out
      clear b9 P8 X8 W8 p0 p1 p2 p3 p4 p5 pf q0 q1 q2 qf
      obtain ⟨p0, p1, p2, p3, p4, p5, pf⟩ := row_cells6 G9.out.1.1
      obtain ⟨q0, q1, q2, q3, q4, q5, qf⟩ := row_cells6 W9.out.1.1
      go_wp2_with fail
      refine (HEr.out w9 _ _ _ _ _ _ _ _ G9.out.1.2.1.bt G9.out.1.2.2.bt W9.out.1.2.1.bt W9.out.1.2.2.bt).mono ?_
      rintro e wd ⟨rfl, gd⟩
      have Pd : Hid (PR w r xa xb na ca nb cb k s y wd) := P9.out.later gd
      have Xd : Hid (XR Bx ga gb r na nb f g wd) := X9.out.later gd
      have Wd : Hid (An w1.heap.size hi Bw R aw NA cw bw NB dw F G wd) := W9.out.later gd
      have Gd : Hid (An w8.heap.size hi2 Bg R ag NA cg bg NB dg F G wd) := G9.out.later gd
      clear gd p0 p1 p2 p3 p4 p5 pf q0 q1 q2 q3 q4 q5 qf P9 X9 W9 G9
      obtain ⟨p0, p1, p2, p3, p4, p5, pf⟩ := row_cells6 Pd.out.1.1
      obtain ⟨q0, q1, q2, q3, q4, q5, qf⟩ := row_cells6 Xd.out.1
      go_upto_region 10 with fail
      go_cut [37] from 13 (fun v wc => v = .bool false ∧ Hid (Below wd.heap.size wd wc))
      case first =>
        have hB : Below w.heap.size w wd := Pd.out.1.2
        have h0 : Below wd.heap.size wd wd := Below.refl _ _
        go_region_law (first
          | (go_simp; go_at_call 26; refine (HT.out _ (by bw19)).mono ?_; rintro e v1 ⟨ja, jb, rfl, l1, l2, y1, y2, gT⟩; have hB : Below w.heap.size w v1 := bel_chain0 gT (by bw19); have h0 : Below wd.heap.size wd v1 := bel_chain0 gT (by bw19); have Xv := Xd.out.later h0; obtain ⟨q0, q1, q2, q3, q4, q5, qf⟩ := row_cells6 Xv.1; dsimp only)
          | (go_simp; go_at_call 28; refine (HE.out _ _ _ _ _ _ _ _ _ (Xd.out.2.1.later (by bw19) Xd.out.2.1.lt).bt (Xd.out.2.2.later (by bw19) Xd.out.2.2.lt).bt y1.bt y2.bt).mono ?_; rintro e v2 ⟨rfl, gT⟩; have h0 : Below wd.heap.size wd v2 := bel_chain0 gT (by bw19); dsimp only))
        all_goals
          have h0' : Hid (Below wd.heap.size wd v2) := h0
          clear HT HI HE HM HEr HMr HHr HW
          go_wp2_with fail
          go_meet
          exact ⟨rfl, h0'⟩
      case rest =>
      obtain ⟨rfl, hcut⟩ := hcut
      rename World => we
      have Pe : Hid (PR w r xa xb na ca nb cb k s y we) := Pd.out.later hcut.out
      have Xe : Hid (XR Bx ga gb r na nb f g we) := Xd.out.later hcut.out
      have We : Hid (An w1.heap.size hi Bw R aw NA cw bw NB dw F G we) := Wd.out.later hcut.out
      have Ge : Hid (An w8.heap.size hi2 Bg R ag NA cg bg NB dg F G we) := Gd.out.later hcut.out
      clear hcut p0 p1 p2 p3 p4 p5 pf q0 q1 q2 q3 q4 q5 qf Pd Xd Wd Gd HE
      obtain ⟨q0, q1, q2, q3, q4, q5, qf⟩ := row_cells6 Xe.out.1
      go_wp2_with fail
      refine (HM.out we ga gb hl8.out.1 Xe.out.2.1 Xe.out.2.2).mono ?_
      rintro e wf ⟨rfl, gf⟩
      have hgg : ∀ k, atB2 (some ⟨ga, 0, none⟩) (some ⟨gb, 0, none⟩) k → k = ga ∨ k = gb := fun k e => by
        rcases e with e | e <;> (unfold atB at e; cases e) <;> simp
      have Pf : Hid (PR w r xa xb na ca nb cb k s y wf) := Pe.out.outs gf (fun k e => by have := hgg k e; have := hl8.out; have := hs6.out; omega)
      have Wf : Hid (An w1.heap.size hi Bw R aw NA cw bw NB dw F G wf) := We.out.outs gf (fun k e => by have := hgg k e; have := hl8.out; have := hs6.out; omega)
      have Gf : Hid (An w8.heap.size hi2 Bg R ag NA cg bg NB dg F G wf) := Ge.out.outs gf (fun k e => by have := hgg k e; have := hl8.out; have := hX8.out; omega)
      clear hgg gf q0 q1 q2 q3 q4 q5 qf Pe Xe We Ge HM
      obtain ⟨p0, p1, p2, p3, p4, p5, pf⟩ := row_cells6 Gf.out.1.1
      obtain ⟨q0, q1, q2, q3, q4, q5, qf⟩ := row_cells6 Wf.out.1.1
      go_wp2_with fail
      refine (HEr.out wf _ _ _ _ _ _ _ _ Gf.out.1.2.1.bt Gf.out.1.2.2.bt Wf.out.1.2.1.bt Wf.out.1.2.2.bt).mono ?_
      rintro e wg ⟨rfl, gg⟩
      have Pg : Hid (PR w r xa xb na ca nb cb k s y wg) := Pf.out.later gg
      have Wg : Hid (An w1.heap.size hi Bw R aw NA cw bw NB dw F G wg) := Wf.out.later gg
      have Gg : Hid (An w8.heap.size hi2 Bg R ag NA cg bg NB dg F G wg) := Gf.out.later gg
      clear gg p0 p1 p2 p3 p4 p5 pf q0 q1 q2 q3 q4 q5 qf Pf Wf Gf
      obtain ⟨p0, p1, p2, p3, p4, p5, pf⟩ := row_cells6 Gg.out.1.1
      go_wp2_with fail
      refine (HMr.out wg _ _ _ _ _ Gg.out.1.2.1 Gg.out.1.2.2 Gg.out.2.2.2.2.1).mono ?_
      rintro e wh ⟨rfl, q1', q2', gh⟩
      have hrw : ∀ k, atB2 ag bg k → w8.heap.size ≤ k ∧ k < hi2 ∧ k ≠ Bg := fun k e => Gg.out.2.2.2.1 k e
      have Ph : Hid (PR w r xa xb na ca nb cb k s y wh) := Pg.out.outs gh (fun k e => by have := hrw k e; have := hl8.out; have := hs6.out; have := hX8.out; omega)
      have Wh : Hid (An w1.heap.size hi Bw R aw NA cw bw NB dw F G wh) := Wg.out.outs gh (fun k e => by have := hrw k e; have := hl8.out; have := hs6.out; have := hX8.out; omega)
      have Mh : Hid (An w8.heap.size hi2 Bg R ag NA cg bg NB dg (mkN 1) (mkN (1 + NA)) wh) := ⟨⟨gh.row Gg.out.1.1 (fun e => by have := hrw _ e; omega), q1', q2'⟩, Gg.out.2.1, Gg.out.2.2.1, Gg.out.2.2.2.1, Gg.out.2.2.2.2.1, Nat.le_trans Gg.out.2.2.2.2.2 gh.size⟩
      clear hrw gh q1' q2' p0 p1 p2 p3 p4 p5 pf Pg Wg Gg HMr
      obtain ⟨p0, p1, p2, p3, p4, p5, pf⟩ := row_cells6 Mh.out.1.1
      go_wp2_with fail
      refine (HHr.out wh _ _ _ _ _ Mh.out.1.2.1 Mh.out.1.2.2).mono ?_
      rintro e wi ⟨rfl, gi⟩
      have Pi : Hid (PR w r xa xb na ca nb cb k s y wi) := Ph.out.later gi
      have Wi : Hid (An w1.heap.size hi Bw R aw NA cw bw NB dw F G wi) := Wh.out.later gi
      have Mi : Hid (An w8.heap.size hi2 Bg R ag NA cg bg NB dg (mkN 1) (mkN (1 + NA)) wi) := Mh.out.later gi
      clear gi p0 p1 p2 p3 p4 p5 pf Ph Wh Mh
      obtain ⟨p0, p1, p2, p3, p4, p5, pf⟩ := row_cells6 Pi.out.1.1
      obtain ⟨q0, q1, q2, qf⟩ := row_cells3 Pi.out.2
      go_upto_region 24 with fail
      go_cut [12] from 13 (fun v wc => ∃ hi3 B ah ch bh dh, v = .pointer (some ⟨B, 0, none⟩) ∧ Hid (Below wi.heap.size wi wc) ∧ Hid (An wi.heap.size hi3 B R ah NA ch bh NB dh F G wc))
      case first =>
        obtain ⟨i0, i1, i2, i3, i4, i5⟩ := cells6a Pi.out.1.1
        obtain ⟨j0, j1, j2⟩ := cells3a Pi.out.2
        have hB : Below w.heap.size w wi := Pi.out.1.2
        have h0 : Below wi.heap.size wi wi := Below.refl _ _
        clear HEr HHr
        go_region_law (first
      | (go_simp; go_at_call 26; refine (HT.out _ (by bw19)).mono ?_; rintro e v1 ⟨ja, jb, rfl, l1, l2, y1, y2, gT⟩; have hB : Below w.heap.size w v1 := bel_chain0 gT (by bw19); have h0 : Below wi.heap.size wi v1 := bel_chain0 gT (by bw19); have Pv := Pi.out.later h0; obtain ⟨q0, q1, q2, qf⟩ := row_cells3 Pv.2; obtain ⟨j0, j1, j2⟩ := cells3a Pv.2; try (first | have kz := row_chain gT (row_last _ _) | have kz := row_chain gT (row_last2 _ _) | have kz := row_chain gT (row_last3 _ _) | have kz := row_chain gT kz); have gR : Below v1.heap.size v1 v1 := Below.refl _ _; dsimp only)
      | (go_simp; go_at_call 27; refine (HW.out _).mono ?_; rintro e v2 ⟨rfl, gT⟩; have hB : Below w.heap.size w v2 := bel_chain0 gT (by bw19); have h0 : Below wi.heap.size wi v2 := bel_chain0 gT (by bw19); have Pv := Pi.out.later h0; obtain ⟨p0, p1, p2, p3, p4, p5, pf⟩ := row_cells6 Pv.1.1; obtain ⟨i0, i1, i2, i3, i4, i5⟩ := cells6a Pv.1.1; try (first | have kz := row_chain gT (row_last _ _) | have kz := row_chain gT (row_last2 _ _) | have kz := row_chain gT (row_last3 _ _) | have kz := row_chain gT kz); try (have gR : Below v1.heap.size v1 v2 := bel_chain0 gT (by bw19)); dsimp only)
      | (go_simp; go_at_call 23; refine (HI.out _ _ _ _ _ (y1.later (by bw19) y1.lt).bt (y2.later (by bw19) y2.lt).bt).mono ?_; rintro e v3 ⟨ah, ch, bh, dh, rfl, o1, o2, dj, gT⟩; try (first | have kV := row_at gT (row_last _ _) | have kV := row_at gT (row_last2 _ _) | have kV := row_at gT (row_last3 _ _) | have kV := row_at gT kz); try (obtain ⟨u0, u1, u2, u3, u4, u5, uf⟩ := row_cells6 (row_chain gT kV)); dsimp only))
        all_goals
          have h3 : Below wi.heap.size wi v3 := bel_chain0 gT (by bw19)
          clear HT HW HI
          go_wp2_with fail
          go_meet
          case rel =>
            first
            | (have hAn := an_old (w0 := wi) (R := R) (ca := ch) (cb := dh) (by bw19) (by first | exact Nat.le_refl _ | exact Below.size (B := wi.heap.size) (by bw19)) kV o1 o2 dj gT; exact ⟨_, _, ah, ch, bh, dh, rfl, hAn.2, hAn.1⟩)
            | exact ⟨_, _, ah, ch, bh, dh, rfl, (by bw19 : Below wi.heap.size wi (v3.alloc _)), an_new (w0 := wi) (by bw19) o1 o2 dj gT⟩
      case rest =>
        obtain ⟨hi3, Bh, ah, ch, bh, dh, rfl, bj, Hj⟩ := hcut
        rename World => wj
        have Pj : Hid (PR w r xa xb na ca nb cb k s y wj) := Pi.out.later bj.out
        have Wj : Hid (An w1.heap.size hi Bw R aw NA cw bw NB dw F G wj) := Wi.out.later bj.out
        have Mj : Hid (An w8.heap.size hi2 Bg R ag NA cg bg NB dg (mkN 1) (mkN (1 + NA)) wj) := Mi.out.later bj.out
        clear bj Pi Wi Mi p0 p1 p2 p3 p4 p5 pf q0 q1 q2 qf
        obtain ⟨p0, p1, p2, p3, p4, p5, pf⟩ := row_cells6 Hj.out.1.1
        obtain ⟨q0, q1, q2, q3, q4, q5, qf⟩ := row_cells6 Wj.out.1.1
        go_wp2_with fail
        refine (HEr.out wj _ _ _ _ _ _ _ _ Hj.out.1.2.1.bt Hj.out.1.2.2.bt Wj.out.1.2.1.bt Wj.out.1.2.2.bt).mono ?_
        rintro e wk ⟨rfl, gk⟩
        have Pk : Hid (PR w r xa xb na ca nb cb k s y wk) := Pj.out.later gk
        have Mk : Hid (An w8.heap.size hi2 Bg R ag NA cg bg NB dg (mkN 1) (mkN (1 + NA)) wk) := Mj.out.later gk
        clear gk Hj Pj Wj Mj p0 p1 p2 p3 p4 p5 pf q0 q1 q2 q3 q4 q5 qf
        obtain ⟨p0, p1, p2, p3, p4, p5, pf⟩ := row_cells6 Mk.out.1.1
        go_wp2_with fail
        refine (HHr.out wk _ _ _ _ _ Mk.out.1.2.1 Mk.out.1.2.2).mono ?_
        rintro e wl ⟨rfl, gl⟩
        have bq := (Pk.out.later gl).1.2
        clear gl p0 p1 p2 p3 p4 p5 pf Pk Mk
        go_wp2
        go_ret
        exact ⟨rfl, bq⟩
end Go.Proofs.Ytfhdpafaamkipaa
