/- The law FnExactHoldPlan, walked. Made by tools/gen19_hwf.py. -/
import Derived.Test.YtfhdpafaamkipaaHwc
import Derived.Test.YtfhdpafaamkipaaHwe
namespace Go.Proofs.Ytfhdpafaamkipaa
open Go.RowKit
set_option linter.unusedVariables false
set_option linter.unusedSimpArgs false

theorem planT_len (r : RomT) (d : List Nat) : (planT r d).1.length ≤ 20105 := by
  unfold planT
  split
  · next h =>
    show (planL r d).length ≤ _
    rw [plan_len]
    split <;> omega
  · exact Nat.zero_le _
/-- The law's copy of bytes. -/
theorem planR_u {r : RomT} {d : List Nat} {n : Nat} {ok : Bool} {h : Nat → WrT} {w : World} {e : Ending} {w' : World} (hn : n = (planT r d).1.length) (hok : ok = (planT r d).2) (hh : h = fW (planT r d).1) (q : PlanR r d w e w') :
    ∃ (a : Option Addr) (c : Nat), e = .returned (.tuple #[.slice a n c, .bool ok]) ∧ Ow w' w.heap.size a n h ∧ Below w.heap.size w w' := by
  obtain ⟨a, m, c, q1, q2, q3, q4⟩ := q
  rw [← hn] at q2
  subst q2
  exact ⟨a, c, by rw [q1, hok], by rw [hh]; exact oww_ow q3, q4⟩
set_option maxRecDepth 10000 in
set_option maxHeartbeats 8000000 in
theorem law_hplan (r : RomT) (xa xb : Option Addr) (na ca nb cb : Nat) (da : Option Addr) (nd cd : Nat) (d : List Nat) (w : World) (hr : RomOk r na nb) (hna : na ≤ 9223372036854775807) (hnb : nb ≤ 9223372036854775807) (ha : Bt w xa na (fL r.a.data)) (hb : Bt w xb nb (fL r.b.data)) (hd : d.length = nd) (hnd : nd ≤ 1048576) (hdb : Bt w da nd (fL d)) :
    Calls Try.prog 11 #[romV r xa xb na ca nb cb, .slice da nd cd] w fun e w' => e = .returned (.bool true) ∧ Below w.heap.size w w' := by
  have HZ : Hid (∀ W, Calls Try.prog 24 #[romV r xa xb na ca nb cb, .int .i64 1048576] W fun e w' => e = .returned (.int .i64 (szR 1048576 na nb)) ∧ Below W.heap.size W w') := fun W => sz_rom r xa xb na ca nb cb 1048576 W (by omega) hna hnb
  have hZn := @szR_ok 1048576 na nb
  obtain ⟨Z, HZ0⟩ : ∃ Z, szR 1048576 na nb = Z := ⟨_, rfl⟩
  rw [HZ0] at HZ hZn
  obtain ⟨f, Hf⟩ : ∃ f, Hid (f = fL r.a.data) := ⟨_, rfl⟩
  obtain ⟨g, Hg⟩ : ∃ g, Hid (g = fL r.b.data) := ⟨_, rfl⟩
  obtain ⟨fd, Hfd⟩ : ∃ g, Hid (g = fL d) := ⟨_, rfl⟩
  obtain ⟨n, Hn⟩ : ∃ n, Hid (n = (planT r d).1.length) := ⟨_, rfl⟩
  obtain ⟨ok, Hok⟩ : ∃ b, Hid (b = (planT r d).2) := ⟨_, rfl⟩
  obtain ⟨h, Hh⟩ : ∃ h, Hid (h = fW (planT r d).1) := ⟨_, rfl⟩
  have hn2 : n ≤ 2000000 := by have := Hn.out; have := planT_len r d; omega
  have HT0 : Hid (na ≤ 1048576 → nb ≤ 1048576 → ∀ W, Below w.heap.size w W → Calls Try.prog 26 #[romV r xa xb na ca nb cb] W fun e w' => ∃ ga gb, e = .returned (romV r (some ⟨ga, 0, none⟩) (some ⟨gb, 0, none⟩) na na nb nb) ∧ W.heap.size ≤ ga ∧ ga < gb ∧ By w' ga na f ∧ By w' gb nb g ∧ Below W.heap.size W w') := fun h1 h2 W b => by
    rw [Hf.out, Hg.out]
    exact to_rom r xa xb na ca nb cb _ _ W h1 h2 (ha.later b (Nat.le_refl _)) (hb.later b (Nat.le_refl _))
  have HTb : Hid (∀ W, Below w.heap.size w W → Calls Try.prog 38 #[.slice da nd cd] W fun e w' => e = .returned (.slice (some ⟨W.heap.size, 0, none⟩) nd nd) ∧ By w' W.heap.size nd fd ∧ Below W.heap.size W w') := fun W b => by
    rw [Hfd.out]
    exact to_bytes da nd cd _ W hnd (hdb.later b (Nat.le_refl _))
  have HS : Hid (∀ W ya yb ca' cb' a c, Bt W a nd fd → Calls Try.prog 15 #[romV r ya yb na ca' nb cb', .slice a nd c] W fun e w' => ∃ (a : Option Addr) (c : Nat), e = .returned (.tuple #[.slice a n c, .bool ok]) ∧ Ow w' W.heap.size a n h ∧ Below W.heap.size W w') := fun W ya yb ca' cb' a c p => by
    rw [Hfd.out] at p
    exact (plan_s r ya yb na ca' nb cb' a nd c d W hr hd hnd p).mono fun e w' q => planR_u Hn.out Hok.out Hh.out q
  have HI : Hid (∀ W ya yb ca' cb' a c, Bt W a nd fd → Calls Try.prog 14 #[romV r ya yb na ca' nb cb', .slice a nd c] W fun e w' => ∃ (a : Option Addr) (c : Nat), e = .returned (.tuple #[.slice a n c, .bool ok]) ∧ Ow w' W.heap.size a n h ∧ Below W.heap.size W w') := fun W ya yb ca' cb' a c p => by
    rw [Hfd.out] at p
    exact (plan_i r ya yb na ca' nb cb' a nd c d W hr hd hnd p).mono fun e w' q => planR_u Hn.out Hok.out Hh.out q
  have HE0 : Hid (na ≤ 1048576 → nb ≤ 1048576 → ∀ W xa xb ya yb ca cb ca' cb', Bt W xa na f → Bt W xb nb g → Bt W ya na f → Bt W yb nb g → Calls Try.prog 28 #[romV r xa xb na ca nb cb, romV r ya yb na ca' nb cb'] W fun e w' => e = .returned (.bool true) ∧ Below W.heap.size W w') := fun h1 h2 W xa xb ya yb ca cb ca' cb' p1 p2 p3 p4 => eq_rom r xa xb ya yb na ca nb cb ca' cb' _ _ W h1 h2 p1 p2 p3 p4
  obtain ⟨M, HM1⟩ : ∃ M : Int, Hid (M = ((1 + na + nb : Nat) : Int)) := ⟨_, rfl⟩
  obtain ⟨M2, HM2⟩ : ∃ M : Int, Hid (M = ((1 + na + nb + nd : Nat) : Int)) := ⟨_, rfl⟩
  have HM0 : Hid (na ≤ 1048576 → nb ≤ 1048576 → ∀ W ga gb, ga < gb → By W ga na f → By W gb nb g → Calls Try.prog 29 #[romV r (some ⟨ga, 0, none⟩) (some ⟨gb, 0, none⟩) na na nb nb, .int .i64 1] W fun e w' => e = .returned (.int .i64 M) ∧ Outs (atB2 (some ⟨ga, 0, none⟩) (some ⟨gb, 0, none⟩)) W w') := fun h1 h2 W ga gb hlt p1 p2 => by
    rw [HM1.out]
    exact (mark_rom 0 r _ _ na na nb nb f g W (ob_of_by p1) (ob_of_by p2) (fun k e e' => by unfold atB at e e'; cases e; cases e'; omega) h1 h2).mono fun e w' q => ⟨q.1, q.2.2.2⟩
  have HMx0 : Hid (na ≤ 1048576 → nb ≤ 1048576 → ∀ W gx, By W gx nd fd → Calls Try.prog 36 #[.slice (some ⟨gx, 0, none⟩) nd nd, .int .i64 M] W fun e w' => e = .returned (.int .i64 M2) ∧ Outs (atB (some ⟨gx, 0, none⟩)) W w') := fun h1 h2 W gx p1 => by
    rw [HM1.out, HM2.out]
    exact (mark_obk 0 _ nd nd (1 + na + nb) fd W (ob_of_by p1) hnd (by omega)).mono fun e w' q => ⟨q.1, q.2.2⟩
  have HEb : Hid (∀ W a1 a2 c1 c2, Bt W a1 nd fd → Bt W a2 nd fd → Calls Try.prog 35 #[.slice a1 nd c1, .slice a2 nd c2] W fun e w' => e = .returned (.bool true) ∧ Below W.heap.size W w') := fun W a1 a2 c1 c2 h1 h2 => eq_bytes a1 a2 nd c1 c2 fd W h1 h2 hnd
  have HEw : Hid (∀ W a1 a2 c1 c2, WsA W a1 n h → WsA W a2 n h → Calls Try.prog 33 #[.slice a1 n c1, .slice a2 n c2] W fun e w' => e = .returned (.bool true) ∧ Below W.heap.size W w') := fun W a1 a2 c1 c2 h1 h2 => eq_writes a1 a2 n c1 c2 h W h1 h2 hn2
  obtain ⟨Q, HQ⟩ : ∃ Q : Int, Hid (Q = ((1 + n * 3 : Nat) : Int)) := ⟨_, rfl⟩
  have HMw : Hid (∀ W base a c, Ow W base a n h → Calls Try.prog 34 #[.slice a n c, .int .i64 1] W fun e w' => e = .returned (.int .i64 Q) ∧ Ow w' base a n (mkW 1) ∧ Outs (atB a) W w') := fun W base a c p => by
    rw [HQ.out]
    exact mark_ow base a n c 1 h W p hn2 (by omega)
  have HHw : Hid (∀ W base a c, Ow W base a n (mkW 1) → Calls Try.prog 39 #[.slice a n c, .int .i64 1] W fun e w' => e = .returned (.int .i64 Q) ∧ Below W.heap.size W w') := fun W base a c p => by
    rw [HQ.out]
    exact held_ow base a n c 1 W p hn2 (by omega)
  have iM : ¬ M2 < 0 := by have := HM2.out; omega
  have iQ : ¬ Q < 0 := by have := HQ.out; omega
  have iQ2 : (Q != Q) = false := by simp
  have ib : (ok != ok) = false := by cases ok <;> rfl
  have id1 : ¬ (1048576 : Int) < (nd : Int) := by omega
  have A0 : AR w r xa xb na ca nb cb (w.alloc (.cells #[.int .u8 r.a.mark, .int .u8 r.a.turn, .slice xa na ca, .int .u8 r.b.mark, .int .u8 r.b.turn, .slice xb nb cb] 45)) := ⟨heap_alloc_last _ _, (Below.refl _ _).alloc (Nat.le_refl _) _⟩
  clear ha hb HZ0 hr Hf Hg Hfd Hn Hok Hh HM1 HM2 HQ hna hnb hd hnd hdb hn2
  unfold romV at HZ HT0 HS HI HE0 HM0 ⊢
  go_enter Try.func11, Try.ntmps11
  go_wp2_with fail
  refine (HZ.out _).mono ?_
  rintro e w1 ⟨rfl, g1⟩
  have A1 : Hid (AR w r xa xb na ca nb cb w1) := A0.later g1
  obtain ⟨p0, p1, p2, p3, p4, p5, pf⟩ := row_cells6 A1.out.1
  clear g1 A0 HZ
  by_cases hz : Z < 0
  · clear hZn
    go_wp2
    go_ret
    exact ⟨rfl, A1.out.2⟩
  have HT : Hid (∀ W, Below w.heap.size w W → _) := HT0.out (by omega) (by omega)
  have HE : Hid (∀ W xa xb ya yb ca cb ca' cb', _) := HE0.out (by omega) (by omega)
  have HM : Hid (∀ W ga gb, ga < gb → _) := HM0.out (by omega) (by omega)
  have HMx : Hid (∀ W gx, _) := HMx0.out (by omega) (by omega)
  clear HT0 HE0 HM0 HMx0 hZn
  go_wp2_with fail
  refine (HT.out w1 A1.out.2).mono ?_
  rintro e w2 ⟨ga, gb, rfl, l1, l2, y1, y2, g2⟩
  have A2 : Hid (AR w r xa xb na ca nb cb w2) := A1.out.later g2
  clear g2 l1 l2 y1 y2 p0 p1 p2 p3 p4 p5 pf A1
  go_wp2_with fail
  refine (HTb.out w2 A2.out.2).mono ?_
  rintro e w2b ⟨rfl, yb, g2⟩
  have A2b : Hid (AR w r xa xb na ca nb cb w2b) := A2.out.later g2
  have Y2 : Hid (By w2b w2.heap.size nd fd) := yb
  clear g2 yb A2
  go_wp2_with fail
  refine (HS.out w2b _ _ _ _ _ _ Y2.out.bt).mono ?_
  rintro e w3 ⟨aw, cw, rfl, o3, g3⟩
  have A3 : Hid (AR w r xa xb na ca nb cb w3) := A2b.out.later g3
  have W3 : Hid (Ow w3 w2b.heap.size aw n h) := o3
  have hlw : Hid (∀ k, atB aw k → k < w3.heap.size) := (fun k e => (o3.lt k e).2 : ∀ k, atB aw k → k < w3.heap.size)
  obtain ⟨p0, p1, p2, p3, p4, p5, pf⟩ := row_cells6 A3.out.1
  clear g3 o3 A2b Y2
  go_wp2_with fail
  refine (HT.out w3 A3.out.2).mono ?_
  rintro e w4 ⟨ga, gb, rfl, l1, l2, y1, y2, g4⟩
  have gA : Below w4.heap.size w4 (w4.alloc (.cells #[.int .u8 r.a.mark, .int .u8 r.a.turn, .slice (some ⟨ga, 0, none⟩) na na, .int .u8 r.b.mark, .int .u8 r.b.turn, .slice (some ⟨gb, 0, none⟩) nb nb] 26)) := (Below.refl _ _).alloc (Nat.le_refl _) _
  have X5 : XR w4.heap.size ga gb r na nb f g (w4.alloc (.cells #[.int .u8 r.a.mark, .int .u8 r.a.turn, .slice (some ⟨ga, 0, none⟩) na na, .int .u8 r.b.mark, .int .u8 r.b.turn, .slice (some ⟨gb, 0, none⟩) nb nb] 26)) := ⟨heap_alloc_last _ _, y1.later gA y1.lt, y2.later gA y2.lt⟩
  have A5 := (A3.out.later g4).later gA
  have W5 := (W3.out.later g4).later gA
  have hl5 : Hid (ga < gb ∧ w3.heap.size ≤ ga ∧ gb < w4.heap.size ∧ w.heap.size < w3.heap.size ∧ (w4.alloc (.cells #[.int .u8 r.a.mark, .int .u8 r.a.turn, .slice (some ⟨ga, 0, none⟩) na na, .int .u8 r.b.mark, .int .u8 r.b.turn, .slice (some ⟨gb, 0, none⟩) nb nb] 26)).heap.size = w4.heap.size + 1) := ⟨l2, l1, y2.lt, A3.out.lt, by simp⟩
  obtain ⟨B, hB⟩ : ∃ B, w4.heap.size = B := ⟨_, rfl⟩
  clear g4 p0 p1 p2 p3 p4 p5 pf gA l1 l2 y1 y2 A3 W3
  go_upto_region 9 with fail
  rw [hB] at X5 hl5
  generalize (w4.alloc (.cells #[.int .u8 r.a.mark, .int .u8 r.a.turn, .slice (some ⟨ga, 0, none⟩) na na, .int .u8 r.b.mark, .int .u8 r.b.turn, .slice (some ⟨gb, 0, none⟩) nb nb] 26)) = w5 at X5 A5 W5 hl5 ⊢
  have A5 : Hid (AR w r xa xb na ca nb cb w5) := A5
  have X5 : Hid (XR B ga gb r na nb f g w5) := X5
  have W5 : Hid (Ow w5 w2b.heap.size aw n h) := W5
  clear hB
  go_wp2_with fail
  refine (HTb.out w5 A5.out.2).mono ?_
  rintro e w5b ⟨rfl, yb, g5⟩
  have A5b : Hid (AR w r xa xb na ca nb cb w5b) := A5.out.later g5
  have X5b : Hid (XR B ga gb r na nb f g w5b) := X5.out.later g5
  have W5b : Hid (Ow w5b w2b.heap.size aw n h) := W5.out.later g5
  have E5b : Hid (By w5b (B + 1) nd fd) := by rw [← hl5.out.2.2.2.2]; exact yb
  have hle : Hid (B + 1 < w5b.heap.size) := (E5b.out.lt : B + 1 < w5b.heap.size)
  have e5 := hl5.out.2.2.2.2
  rw [e5]
  obtain ⟨q0, q1, q2, q3, q4, q5, qf⟩ := row_cells6 X5b.out.1
  clear g5 yb A5 X5 W5 e5
  go_wp2_with fail
  refine (HI.out w5b _ _ _ _ _ _ E5b.out.bt).mono ?_
  rintro e w6 ⟨ag, cg, rfl, o6, g6⟩
  have A6 : Hid (AR w r xa xb na ca nb cb w6) := A5b.out.later g6
  have X6 : Hid (XR B ga gb r na nb f g w6) := X5b.out.later g6
  have W6 : Hid (Ow w6 w2b.heap.size aw n h) := W5b.out.later g6
  have E6 : Hid (By w6 (B + 1) nd fd) := E5b.out.later g6 E5b.out.lt
  have G6 : Hid (Ow w6 w5b.heap.size ag n h) := o6
  clear g6 q0 q1 q2 q3 q4 q5 qf A5b X5b W5b E5b o6
  go_wp2_with fail
  refine (HEw.out w6 _ _ _ _ G6.out.wsa W6.out.wsa).mono ?_
  rintro e w7 ⟨rfl, g7⟩
  have A7 : Hid (AR w r xa xb na ca nb cb w7) := A6.out.later g7
  have X7 : Hid (XR B ga gb r na nb f g w7) := X6.out.later g7
  have W7 : Hid (Ow w7 w2b.heap.size aw n h) := W6.out.later g7
  have E7 : Hid (By w7 (B + 1) nd fd) := E6.out.later g7 E6.out.lt
  have G7 : Hid (Ow w7 w5b.heap.size ag n h) := G6.out.later g7
  obtain ⟨p0, p1, p2, p3, p4, p5, pf⟩ := row_cells6 A7.out.1
  obtain ⟨q0, q1, q2, q3, q4, q5, qf⟩ := row_cells6 X7.out.1
  clear g7 A6 X6 W6 E6 G6
  go_upto_region 13 with fail
  go_region_with (first
    | (go_at_call 26; refine (HT.out _ (by first | exact A7.out.2 | exact A7.out.2.drew)).mono ?_; rintro e w8 ⟨ha, hb, rfl, l1, l2, y7, y8, g8⟩; have gX : Below w7.heap.size w7 w8 := (by first | exact g8 | exact (Below.refl _ _).drew.trans (g8.mono (Nat.le_refl _))); have X8 := X7.out.later gX; obtain ⟨u0, u1, u2, u3, u4, u5, uf⟩ := row_cells6 X8.1; have z1 := X8.2.1; have z2 := X8.2.2)
    | (go_at_call 28; refine (HE.out _ _ _ _ _ _ _ _ _ z1.bt z2.bt y7.bt y8.bt).mono ?_; rintro e w9 ⟨rfl, g9⟩; have gY : Below w7.heap.size w7 w9 := gX.trans (g9.mono gX.size)))
  all_goals
    have A9 : Hid (AR w r xa xb na ca nb cb w9) := A7.out.later gY
    have X9 : Hid (XR B ga gb r na nb f g w9) := X7.out.later gY
    have W9 : Hid (Ow w9 w2b.heap.size aw n h) := W7.out.later gY
    have E9 : Hid (By w9 (B + 1) nd fd) := E7.out.later gY E7.out.lt
    have G9 : Hid (Ow w9 w5b.heap.size ag n h) := G7.out.later gY
    clear gY gX g8 g9 X8 u0 u1 u2 u3 u4 u5 uf z1 z2 y7 y8 l1 l2 p0 p1 p2 p3 p4 p5 pf q0 q1 q2 q3 q4 q5 qf A7 X7 W7 E7 G7
    go_wp2_with fail
    refine (HTb.out w9 A9.out.2).mono ?_
    rintro e w9b ⟨rfl, yb, g9⟩
    have A9b : Hid (AR w r xa xb na ca nb cb w9b) := A9.out.later g9
    have X9b : Hid (XR B ga gb r na nb f g w9b) := X9.out.later g9
    have W9b : Hid (Ow w9b w2b.heap.size aw n h) := W9.out.later g9
    have E9b : Hid (By w9b (B + 1) nd fd) := E9.out.later g9 E9.out.lt
    have G9b : Hid (Ow w9b w5b.heap.size ag n h) := G9.out.later g9
    have T9b : Hid (Bt w9b (some ⟨w9.heap.size, 0, none⟩) nd fd) := yb.bt
    clear g9 yb A9 X9 W9 E9 G9
    go_wp2_with fail
    refine (HEb.out w9b _ _ _ _ E9b.out.bt T9b.out).mono ?_
    rintro e w9c ⟨rfl, g9⟩
    have A9c : Hid (AR w r xa xb na ca nb cb w9c) := A9b.out.later g9
    have X9c : Hid (XR B ga gb r na nb f g w9c) := X9b.out.later g9
    have W9c : Hid (Ow w9c w2b.heap.size aw n h) := W9b.out.later g9
    have E9c : Hid (By w9c (B + 1) nd fd) := E9b.out.later g9 E9b.out.lt
    have G9c : Hid (Ow w9c w5b.heap.size ag n h) := G9b.out.later g9
    obtain ⟨q0, q1, q2, q3, q4, q5, qf⟩ := row_cells6 X9c.out.1
    clear g9 A9b X9b W9b E9b G9b T9b
    go_wp2_with fail
    refine (HM.out w9c ga gb hl5.out.1 X9c.out.2.1 X9c.out.2.2).mono ?_
    rintro e wa ⟨rfl, ga'⟩
    have Aa : Hid (AR w r xa xb na ca nb cb wa) := A9c.out.outs ga' (fun k e => by have := hl5.out; rcases e with e | e <;> (unfold atB at e; cases e; omega))
    have Wa : Hid (Ow wa w2b.heap.size aw n h) := W9c.out.outs ga' (fun k e e' => by have := hl5.out; have := hlw.out k e; rcases e' with e' | e' <;> (unfold atB at e'; cases e'; omega))
    have Ea : Hid (By wa (B + 1) nd fd) := E9c.out.outs ga' (fun e' => by have := hl5.out; rcases e' with e' | e' <;> (unfold atB at e'; cases e'; omega))
    have Ga : Hid (Ow wa w5b.heap.size ag n h) := G9c.out.outs ga' (fun k e e' => by have := hl5.out; have := hle.out; have := (G9c.out.lt k e).1; rcases e' with e' | e' <;> (unfold atB at e'; cases e'; omega))
    clear ga' q0 q1 q2 q3 q4 q5 qf A9c X9c W9c E9c G9c
    go_wp2_with fail
    refine (HMx.out wa _ Ea.out).mono ?_
    rintro e wa2 ⟨rfl, gx'⟩
    have Aa2 : Hid (AR w r xa xb na ca nb cb wa2) := Aa.out.outs gx' (fun k e => by have := hl5.out; unfold atB at e; cases e; omega)
    have Wa2 : Hid (Ow wa2 w2b.heap.size aw n h) := Wa.out.outs gx' (fun k e e' => by have := hl5.out; have := hlw.out k e; unfold atB at e'; cases e'; omega)
    have Ga2 : Hid (Ow wa2 w5b.heap.size ag n h) := Ga.out.outs gx' (fun k e e' => by have := hle.out; have := (Ga.out.lt k e).1; unfold atB at e'; cases e'; omega)
    clear gx' Aa Wa Ea Ga
    go_wp2_with fail
    refine (HEw.out wa2 _ _ _ _ Ga2.out.wsa Wa2.out.wsa).mono ?_
    rintro e wb ⟨rfl, gb'⟩
    have Ab : Hid (AR w r xa xb na ca nb cb wb) := Aa2.out.later gb'
    have Wb : Hid (Ow wb w2b.heap.size aw n h) := Wa2.out.later gb'
    have Gb : Hid (Ow wb w5b.heap.size ag n h) := Ga2.out.later gb'
    clear gb' Aa2 Wa2 Ga2
    go_wp2_with fail
    refine (HMw.out wb _ _ _ Gb.out).mono ?_
    rintro e wc ⟨rfl, o, gc'⟩
    have Ac : Hid (AR w r xa xb na ca nb cb wc) := Ab.out.outs gc' (fun k e => by have := hl5.out; have := hle.out; have := (Gb.out.lt k e).1; omega)
    have Wc : Hid (Ow wc w2b.heap.size aw n h) := Wb.out.outs gc' (fun k e e' => by have := hl5.out; have := hle.out; have := hlw.out k e; have := (Gb.out.lt k e').1; omega)
    have Gc : Hid (Ow wc w5b.heap.size ag n (mkW 1)) := o
    clear gc' o Ab Wb Gb
    go_wp2_with fail
    refine (HHw.out wc _ _ _ Gc.out).mono ?_
    rintro e wd ⟨rfl, gd'⟩
    have Ad : Hid (AR w r xa xb na ca nb cb wd) := Ac.out.later gd'
    have Wd : Hid (Ow wd w2b.heap.size aw n h) := Wc.out.later gd'
    have Gd : Hid (Ow wd w5b.heap.size ag n (mkW 1)) := Gc.out.later gd'
    obtain ⟨p0, p1, p2, p3, p4, p5, pf⟩ := row_cells6 Ad.out.1
    clear gd' Ac Wc Gc
    go_wp2_with fail
    refine (HT.out wd Ad.out.2).mono ?_
    rintro e we ⟨ja, jb, rfl, l1, l2, y1, y2, ge'⟩
    have Ae : Hid (AR w r xa xb na ca nb cb we) := Ad.out.later ge'
    have We : Hid (Ow we w2b.heap.size aw n h) := Wd.out.later ge'
    have Ge : Hid (Ow we w5b.heap.size ag n (mkW 1)) := Gd.out.later ge'
    clear ge' Ad Wd Gd l1 l2 y1 y2 p0 p1 p2 p3 p4 p5 pf
    go_wp2_with fail
    refine (HTb.out we Ae.out.2).mono ?_
    rintro e we2 ⟨rfl, yb, ge'⟩
    have Ae2 : Hid (AR w r xa xb na ca nb cb we2) := Ae.out.later ge'
    have We2 : Hid (Ow we2 w2b.heap.size aw n h) := We.out.later ge'
    have Ge2 : Hid (Ow we2 w5b.heap.size ag n (mkW 1)) := Ge.out.later ge'
    have Te2 : Hid (Bt we2 (some ⟨we.heap.size, 0, none⟩) nd fd) := yb.bt
    clear ge' yb Ae We Ge
    go_wp2_with fail
    refine (HI.out we2 _ _ _ _ _ _ Te2.out).mono ?_
    rintro e wf ⟨ah, ch, rfl, o6, gf'⟩
    have Af : Hid (AR w r xa xb na ca nb cb wf) := Ae2.out.later gf'
    have Wf : Hid (Ow wf w2b.heap.size aw n h) := We2.out.later gf'
    have Gf : Hid (Ow wf w5b.heap.size ag n (mkW 1)) := Ge2.out.later gf'
    have Of : Hid (WsA wf ah n h) := o6.wsa
    clear gf' Ae2 We2 Ge2 Te2 o6
    go_wp2_with fail
    refine (HEw.out wf _ _ _ _ Of.out Wf.out.wsa).mono ?_
    rintro e wg ⟨rfl, gg'⟩
    have Ag : Hid (AR w r xa xb na ca nb cb wg) := Af.out.later gg'
    have Gg : Hid (Ow wg w5b.heap.size ag n (mkW 1)) := Gf.out.later gg'
    clear gg' Af Wf Gf Of
    go_wp2_with fail
    refine (HHw.out wg _ _ _ Gg.out).mono ?_
    rintro e wh ⟨rfl, gh'⟩
    have bh := (Ag.out.later gh').2
    clear gh' Ag Gg
    go_wp2
    go_ret
    exact ⟨rfl, bh⟩
end Go.Proofs.Ytfhdpafaamkipaa
