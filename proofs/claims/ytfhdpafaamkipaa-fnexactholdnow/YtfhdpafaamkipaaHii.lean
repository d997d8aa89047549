/- The law FnExactHoldNow, walked. -/
import Derived.Test.YtfhdpafaamkipaaHih
namespace Go.Proofs.Ytfhdpafaamkipaa
open Go.RowKit
set_option linter.unusedVariables false
set_option linter.unusedSimpArgs false

set_option maxRecDepth 10000 in
set_option maxHeartbeats 8000000 in
theorem law_hnow (r : RomT) (xa xb : Option Addr) (na ca nb cb : Nat) (w : World) (hr : RomOk r na nb) (hna : na ≤ 9223372036854775807) (hnb : nb ≤ 9223372036854775807) (ha : Bt w xa na (fL r.a.data)) (hb : Bt w xb nb (fL r.b.data)) :
    Calls Try.prog 10 #[romV r xa xb na ca nb cb] w fun e w' => e = .returned (.bool true) ∧ Below w.heap.size w w' := by
  have HZ : Hid (∀ W, Calls Try.prog 24 #[romV r xa xb na ca nb cb, .int .i64 1048576] W fun e w' => e = .returned (.int .i64 (szR 1048576 na nb)) ∧ Below W.heap.size W w') := fun W => sz_rom r xa xb na ca nb cb 1048576 W (by omega) hna hnb
  have hZn := @szR_ok 1048576 na nb
  obtain ⟨Z, HZ0⟩ : ∃ Z, szR 1048576 na nb = Z := ⟨_, rfl⟩
  rw [HZ0] at HZ hZn
  obtain ⟨f, Hf⟩ : ∃ f, Hid (f = fL r.a.data) := ⟨_, rfl⟩
  obtain ⟨g, Hg⟩ : ∃ g, Hid (g = fL r.b.data) := ⟨_, rfl⟩
  obtain ⟨n, Hn⟩ : ∃ n, Hid (n = (nowT r).1.length) := ⟨_, rfl⟩
  obtain ⟨ok, Hok⟩ : ∃ b, Hid (b = (nowT r).2) := ⟨_, rfl⟩
  obtain ⟨h, Hh⟩ : ∃ h, Hid (h = fL (nowT r).1) := ⟨_, rfl⟩
  have HL : Hid (na ≤ 1048576 → nb ≤ 1048576 → n ≤ 1048576) := (fun h1 h2 => by
    rw [Hn.out]
    have l1 := hr.1.2.2
    have l2 := hr.2.2.2
    unfold nowT
    split
    · show r.a.data.length ≤ _; omega
    · split
      · show r.b.data.length ≤ _; omega
      · exact Nat.zero_le _ : na ≤ 1048576 → nb ≤ 1048576 → n ≤ 1048576)
  have HT0 : Hid (na ≤ 1048576 → nb ≤ 1048576 → ∀ W, Below w.heap.size w W → Calls Try.prog 26 #[romV r xa xb na ca nb cb] W fun e w' => ∃ ga gb, e = .returned (romV r (some ⟨ga, 0, none⟩) (some ⟨gb, 0, none⟩) na na nb nb) ∧ W.heap.size ≤ ga ∧ ga < gb ∧ By w' ga na f ∧ By w' gb nb g ∧ Below W.heap.size W w') := fun h1 h2 W b => by
    rw [Hf.out, Hg.out]
    exact to_rom r xa xb na ca nb cb _ _ W h1 h2 (ha.later b (Nat.le_refl _)) (hb.later b (Nat.le_refl _))
  have HS0 : Hid (na ≤ 1048576 → nb ≤ 1048576 → ∀ W ya yb ca' cb', Bt W ya na f → Bt W yb nb g → Calls Try.prog 13 #[romV r ya yb na ca' nb cb'] W fun e w' => ∃ (a : Option Addr) (c : Nat), e = .returned (.tuple #[.slice a n c, .bool ok]) ∧ Ob w' W.heap.size a n h ∧ Below W.heap.size W w') := fun h1 h2 W ya yb ca' cb' p1 p2 => by
    rw [Hf.out] at p1
    rw [Hg.out] at p2
    refine (hnow_s r ya yb na ca' nb cb' W hr h1 h2 p1 p2).mono ?_
    rintro e w' ⟨a, m, c, q1, q2, q3, q4⟩
    rw [← Hn.out] at q2
    subst q2
    exact ⟨a, c, by rw [q1, Hok.out], by rw [Hh.out]; exact owb_ob q3, q4⟩
  have HI0 : Hid (na ≤ 1048576 → nb ≤ 1048576 → ∀ W ya yb ca' cb', Bt W ya na f → Bt W yb nb g → Calls Try.prog 16 #[romV r ya yb na ca' nb cb'] W fun e w' => ∃ (a : Option Addr) (c : Nat), e = .returned (.tuple #[.slice a n c, .bool ok]) ∧ Ob w' W.heap.size a n h ∧ Below W.heap.size W w') := fun h1 h2 W ya yb ca' cb' p1 p2 => by
    rw [Hf.out] at p1
    rw [Hg.out] at p2
    refine (hnow_i r ya yb na ca' nb cb' W hr h1 h2 p1 p2).mono ?_
    rintro e w' ⟨a, m, c, q1, q2, q3, q4⟩
    rw [← Hn.out] at q2
    subst q2
    exact ⟨a, c, by rw [q1, Hok.out], by rw [Hh.out]; exact owb_ob q3, q4⟩
  have HE0 : Hid (na ≤ 1048576 → nb ≤ 1048576 → ∀ W xa xb ya yb ca cb ca' cb', Bt W xa na f → Bt W xb nb g → Bt W ya na f → Bt W yb nb g → Calls Try.prog 28 #[romV r xa xb na ca nb cb, romV r ya yb na ca' nb cb'] W fun e w' => e = .returned (.bool true) ∧ Below W.heap.size W w') := fun h1 h2 W xa xb ya yb ca cb ca' cb' p1 p2 p3 p4 => eq_rom r xa xb ya yb na ca nb cb ca' cb' _ _ W h1 h2 p1 p2 p3 p4
  have HM0 : Hid (na ≤ 1048576 → nb ≤ 1048576 → ∀ W ga gb, ga < gb → By W ga na f → By W gb nb g → Calls Try.prog 29 #[romV r (some ⟨ga, 0, none⟩) (some ⟨gb, 0, none⟩) na na nb nb, .int .i64 1] W fun e w' => e = .returned (.int .i64 ((1 + na + nb : Nat) : Int)) ∧ Outs (atB2 (some ⟨ga, 0, none⟩) (some ⟨gb, 0, none⟩)) W w') := fun h1 h2 W ga gb hlt p1 p2 =>
    (mark_rom 0 r _ _ na na nb nb f g W (ob_of_by p1) (ob_of_by p2) (fun k e e' => by unfold atB at e e'; cases e; cases e'; omega) h1 h2).mono fun e w' q => ⟨q.1, q.2.2.2⟩
  have HEb : Hid (n ≤ 1048576 → ∀ W a1 a2 c1 c2, Bt W a1 n h → Bt W a2 n h → Calls Try.prog 35 #[.slice a1 n c1, .slice a2 n c2] W fun e w' => e = .returned (.bool true) ∧ Below W.heap.size W w') := fun hn W a1 a2 c1 c2 h1 h2 => eq_bytes a1 a2 n c1 c2 h W h1 h2 hn
  have HMb : Hid (n ≤ 1048576 → ∀ W base a c, Ob W base a n h → Calls Try.prog 36 #[.slice a n c, .int .i64 1] W fun e w' => e = .returned (.int .i64 ((1 + n : Nat) : Int)) ∧ Ob w' base a n (mkN 1) ∧ Outs (atB a) W w') := fun hn W base a c p => mark_obk base a n c 1 h W p hn (by omega)
  have HHb : Hid (n ≤ 1048576 → ∀ W base a c, Ob W base a n (mkN 1) → Calls Try.prog 37 #[.slice a n c, .int .i64 1] W fun e w' => e = .returned (.int .i64 ((1 + n : Nat) : Int)) ∧ Below W.heap.size W w') := fun hn W base a c p => held_obk base a n c 1 W p hn (by omega)
  obtain ⟨M, HM1⟩ : ∃ M : Int, Hid (M = ((1 + na + nb : Nat) : Int)) := ⟨_, rfl⟩
  obtain ⟨Q, HQ⟩ : ∃ Q : Int, Hid (Q = ((1 + n : Nat) : Int)) := ⟨_, rfl⟩
  rw [← HM1.out] at HM0
  rw [← HQ.out] at HMb HHb
  have iM : ¬ M < 0 := by have := HM1.out; omega
  have iQ : ¬ Q < 0 := by have := HQ.out; omega
  have iQ2 : (Q != Q) = false := by simp
  have ib : (ok != ok) = false := by cases ok <;> rfl
  have A0 : AR w r xa xb na ca nb cb (w.alloc (.cells #[.int .u8 r.a.mark, .int .u8 r.a.turn, .slice xa na ca, .int .u8 r.b.mark, .int .u8 r.b.turn, .slice xb nb cb] 45)) := ⟨heap_alloc_last _ _, (Below.refl _ _).alloc (Nat.le_refl _) _⟩
  clear ha hb HZ0 hr Hf Hg Hn Hok Hh HM1 HQ hna hnb
  unfold romV at HZ HT0 HS0 HI0 HE0 HM0 ⊢
  go_enter Try.func10, Try.ntmps10
  go_wp2_with fail
  refine (HZ.out _).mono ?_
  rintro e w1 ⟨rfl, g1⟩
  have A1 : Hid (AR w r xa xb na ca nb cb w1) := A0.later g1
  obtain ⟨p0, p1, p2, p3, p4, p5, pf⟩ := row_cells6 A1.out.1
  clear g1 A0 HZ
  by_cases hz : Z < 0
  · clear hZn
    go_wp2
    go_ret
    exact ⟨rfl, A1.out.2⟩
  have HN : Hid (n ≤ 1048576) := HL.out (by omega) (by omega)
  have HT : Hid (∀ W, Below w.heap.size w W → _) := HT0.out (by omega) (by omega)
  have HS : Hid (∀ W ya yb ca' cb', _) := HS0.out (by omega) (by omega)
  have HI : Hid (∀ W ya yb ca' cb', _) := HI0.out (by omega) (by omega)
  have HE : Hid (∀ W xa xb ya yb ca cb ca' cb', _) := HE0.out (by omega) (by omega)
  have HM : Hid (∀ W ga gb, ga < gb → _) := HM0.out (by omega) (by omega)
  have HEb : Hid (∀ W a1 a2 c1 c2, _) := HEb.out HN.out
  have HMb : Hid (∀ W base a c, _) := HMb.out HN.out
  have HHb : Hid (∀ W base a c, _) := HHb.out HN.out
  clear HT0 HE0 HS0 HI0 HM0 hZn HL
  go_wp2_with fail
  refine (HT.out w1 A1.out.2).mono ?_
  rintro e w2 ⟨ga, gb, rfl, l1, l2, y1, y2, g2⟩
  have A2 : Hid (AR w r xa xb na ca nb cb w2) := A1.out.later g2
  have Y2 : Hid (By w2 ga na f ∧ By w2 gb nb g) := ⟨y1, y2⟩
  clear g2 l1 l2 y1 y2 p0 p1 p2 p3 p4 p5 pf A1
  go_wp2_with fail
  refine (HS.out w2 _ _ _ _ Y2.out.1.bt Y2.out.2.bt).mono ?_
  rintro e w3 ⟨aw, cw, rfl, o3, g3⟩
  have A3 : Hid (AR w r xa xb na ca nb cb w3) := A2.out.later g3
  have W3 : Hid (Ob w3 w2.heap.size aw n h) := o3
  have hlw : Hid (∀ k, atB aw k → k < w3.heap.size) := (fun k e => (o3.lt k e).2 : ∀ k, atB aw k → k < w3.heap.size)
  obtain ⟨p0, p1, p2, p3, p4, p5, pf⟩ := row_cells6 A3.out.1
  clear g3 o3 A2 Y2
  go_wp2_with fail
  refine (HT.out w3 A3.out.2).mono ?_
  rintro e w4 ⟨ga, gb, rfl, l1, l2, y1, y2, g4⟩
  have gA : Below w4.heap.size w4 (w4.alloc (.cells #[.int .u8 r.a.mark, .int .u8 r.a.turn, .slice (some ⟨ga, 0, none⟩) na na, .int .u8 r.b.mark, .int .u8 r.b.turn, .slice (some ⟨gb, 0, none⟩) nb nb] 26)) := (Below.refl _ _).alloc (Nat.le_refl _) _
  have X5 : XR w4.heap.size ga gb r na nb f g (w4.alloc (.cells #[.int .u8 r.a.mark, .int .u8 r.a.turn, .slice (some ⟨ga, 0, none⟩) na na, .int .u8 r.b.mark, .int .u8 r.b.turn, .slice (some ⟨gb, 0, none⟩) nb nb] 26)) := ⟨heap_alloc_last _ _, y1.later gA y1.lt, y2.later gA y2.lt⟩
  have A5 := (A3.out.later g4).later gA
  have W5 := (W3.out.later g4).later gA
  have hl5 : Hid (ga < gb ∧ w3.heap.size ≤ ga ∧ gb < w4.heap.size ∧ w.heap.size < w3.heap.size ∧ (w4.alloc (.cells #[.int .u8 r.a.mark, .int .u8 r.a.turn, .slice (some ⟨ga, 0, none⟩) na na, .int .u8 r.b.mark, .int .u8 r.b.turn, .slice (some ⟨gb, 0, none⟩) nb nb] 26)).heap.size = w4.heap.size + 1) := ⟨l2, l1, y2.lt, A3.out.lt, by simp⟩
  obtain ⟨B, hB⟩ : ∃ B, w4.heap.size = B := ⟨_, rfl⟩
  clear g4 p0 p1 p2 p3 p4 p5 pf gA l1 l2 y1 y2 A3 W3
  go_upto_region 7 with fail
  rw [hB] at X5 hl5
  generalize (w4.alloc (.cells #[.int .u8 r.a.mark, .int .u8 r.a.turn, .slice (some ⟨ga, 0, none⟩) na na, .int .u8 r.b.mark, .int .u8 r.b.turn, .slice (some ⟨gb, 0, none⟩) nb nb] 26)) = w5 at X5 A5 W5 hl5 ⊢
  have A5 : Hid (AR w r xa xb na ca nb cb w5) := A5
  have X5 : Hid (XR B ga gb r na nb f g w5) := X5
  have W5 : Hid (Ob w5 w2.heap.size aw n h) := W5
  obtain ⟨q0, q1, q2, q3, q4, q5, qf⟩ := row_cells6 X5.out.1
  clear hB
  go_wp2_with fail
  refine (HI.out w5 _ _ _ _ X5.out.2.1.bt X5.out.2.2.bt).mono ?_
  rintro e w6 ⟨ag, cg, rfl, o6, g6⟩
  have A6 : Hid (AR w r xa xb na ca nb cb w6) := A5.out.later g6
  have X6 : Hid (XR B ga gb r na nb f g w6) := X5.out.later g6
  have W6 : Hid (Ob w6 w2.heap.size aw n h) := W5.out.later g6
  have G6 : Hid (Ob w6 (B + 1) ag n h) := by rw [← hl5.out.2.2.2.2]; exact o6
  clear g6 q0 q1 q2 q3 q4 q5 qf A5 X5 W5 o6
  go_wp2_with fail
  refine (HEb.out w6 _ _ _ _ G6.out.bt W6.out.bt).mono ?_
  rintro e w7 ⟨rfl, g7⟩
  have A7 : Hid (AR w r xa xb na ca nb cb w7) := A6.out.later g7
  have X7 : Hid (XR B ga gb r na nb f g w7) := X6.out.later g7
  have W7 : Hid (Ob w7 w2.heap.size aw n h) := W6.out.later g7
  have G7 : Hid (Ob w7 (B + 1) ag n h) := G6.out.later g7
  obtain ⟨p0, p1, p2, p3, p4, p5, pf⟩ := row_cells6 A7.out.1
  obtain ⟨q0, q1, q2, q3, q4, q5, qf⟩ := row_cells6 X7.out.1
  clear g7 A6 X6 W6 G6
  go_upto_region 10 with fail
  go_region_with (first
    | (go_at_call 26; refine (HT.out _ (by first | exact A7.out.2 | exact A7.out.2.drew)).mono ?_; rintro e w8 ⟨ha, hb, rfl, l1, l2, y7, y8, g8⟩; have gX : Below w7.heap.size w7 w8 := (by first | exact g8 | exact (Below.refl _ _).drew.trans (g8.mono (Nat.le_refl _))); have X8 := X7.out.later gX; obtain ⟨u0, u1, u2, u3, u4, u5, uf⟩ := row_cells6 X8.1; have z1 := X8.2.1; have z2 := X8.2.2)
    | (go_at_call 28; refine (HE.out _ _ _ _ _ _ _ _ _ z1.bt z2.bt y7.bt y8.bt).mono ?_; rintro e w9 ⟨rfl, g9⟩; have gY : Below w7.heap.size w7 w9 := gX.trans (g9.mono gX.size)))
  all_goals
    have A9 : Hid (AR w r xa xb na ca nb cb w9) := A7.out.later gY
    have X9 : Hid (XR B ga gb r na nb f g w9) := X7.out.later gY
    have W9 : Hid (Ob w9 w2.heap.size aw n h) := W7.out.later gY
    have G9 : Hid (Ob w9 (B + 1) ag n h) := G7.out.later gY
    clear gY gX g8 g9 X8 u0 u1 u2 u3 u4 u5 uf z1 z2 y7 y8 l1 l2 p0 p1 p2 p3 p4 p5 pf q0 q1 q2 q3 q4 q5 qf A7 X7 W7 G7
    obtain ⟨q0, q1, q2, q3, q4, q5, qf⟩ := row_cells6 X9.out.1
    go_wp2_with fail
    refine (HM.out w9 ga gb hl5.out.1 X9.out.2.1 X9.out.2.2).mono ?_
    rintro e wa ⟨rfl, ga'⟩
    have Aa : Hid (AR w r xa xb na ca nb cb wa) := A9.out.outs ga' (fun k e => by have := hl5.out; rcases e with e | e <;> (unfold atB at e; cases e; omega))
    have Wa : Hid (Ob wa w2.heap.size aw n h) := W9.out.outs ga' (fun k e e' => by have := hl5.out; have := hlw.out k e; rcases e' with e' | e' <;> (unfold atB at e'; cases e'; omega))
    have Ga : Hid (Ob wa (B + 1) ag n h) := G9.out.outs ga' (fun k e e' => by have := hl5.out; have := (G9.out.lt k e).1; rcases e' with e' | e' <;> (unfold atB at e'; cases e'; omega))
    clear ga' q0 q1 q2 q3 q4 q5 qf A9 X9 W9 G9
    go_wp2_with fail
    refine (HEb.out wa _ _ _ _ Ga.out.bt Wa.out.bt).mono ?_
    rintro e wb ⟨rfl, gb'⟩
    have Ab : Hid (AR w r xa xb na ca nb cb wb) := Aa.out.later gb'
    have Wb : Hid (Ob wb w2.heap.size aw n h) := Wa.out.later gb'
    have Gb : Hid (Ob wb (B + 1) ag n h) := Ga.out.later gb'
    clear gb' Aa Wa Ga
    go_wp2_with fail
    refine (HMb.out wb _ _ _ Gb.out).mono ?_
    rintro e wc ⟨rfl, o, gc'⟩
    have Ac : Hid (AR w r xa xb na ca nb cb wc) := Ab.out.outs gc' (fun k e => by have := hl5.out; have := (Gb.out.lt k e).1; omega)
    have Wc : Hid (Ob wc w2.heap.size aw n h) := Wb.out.outs gc' (fun k e e' => by have := hl5.out; have := hlw.out k e; have := (Gb.out.lt k e').1; omega)
    have Gc : Hid (Ob wc (B + 1) ag n (mkN 1)) := o
    clear gc' o Ab Wb Gb
    go_wp2_with fail
    refine (HHb.out wc _ _ _ Gc.out).mono ?_
    rintro e wd ⟨rfl, gd'⟩
    have Ad : Hid (AR w r xa xb na ca nb cb wd) := Ac.out.later gd'
    have Wd : Hid (Ob wd w2.heap.size aw n h) := Wc.out.later gd'
    have Gd : Hid (Ob wd (B + 1) ag n (mkN 1)) := Gc.out.later gd'
    obtain ⟨p0, p1, p2, p3, p4, p5, pf⟩ := row_cells6 Ad.out.1
    clear gd' Ac Wc Gc
    go_wp2_with fail
    refine (HT.out wd Ad.out.2).mono ?_
    rintro e we ⟨ja, jb, rfl, l1, l2, y1, y2, ge'⟩
    have Ae : Hid (AR w r xa xb na ca nb cb we) := Ad.out.later ge'
    have We : Hid (Ob we w2.heap.size aw n h) := Wd.out.later ge'
    have Ge : Hid (Ob we (B + 1) ag n (mkN 1)) := Gd.out.later ge'
    have Ye : Hid (By we ja na f ∧ By we jb nb g) := ⟨y1, y2⟩
    clear ge' Ad Wd Gd l1 l2 y1 y2 p0 p1 p2 p3 p4 p5 pf
    go_wp2_with fail
    refine (HI.out we _ _ _ _ Ye.out.1.bt Ye.out.2.bt).mono ?_
    rintro e wf ⟨ah, ch, rfl, o6, gf'⟩
    have Af : Hid (AR w r xa xb na ca nb cb wf) := Ae.out.later gf'
    have Wf : Hid (Ob wf w2.heap.size aw n h) := We.out.later gf'
    have Gf : Hid (Ob wf (B + 1) ag n (mkN 1)) := Ge.out.later gf'
    have Of : Hid (Bt wf ah n h) := o6.bt
    clear gf' Ae We Ge o6 Ye
    go_wp2_with fail
    refine (HEb.out wf _ _ _ _ Of.out Wf.out.bt).mono ?_
    rintro e wg ⟨rfl, gg'⟩
    have Ag : Hid (AR w r xa xb na ca nb cb wg) := Af.out.later gg'
    have Gg : Hid (Ob wg (B + 1) ag n (mkN 1)) := Gf.out.later gg'
    clear gg' Af Wf Gf Of
    go_wp2_with fail
    refine (HHb.out wg _ _ _ Gg.out).mono ?_
    rintro e wh ⟨rfl, gh'⟩
    have bh := (Ag.out.later gh').2
    clear gh' Ag Gg
    go_wp2
    go_ret
    exact ⟨rfl, bh⟩
end Go.Proofs.Ytfhdpafaamkipaa
