/- HoldPlay of the specification. Made by tools/gen19_hpm.py. -/
import Derived.Test.YtfhdpafaamkipaaHpl
namespace Go.Proofs.Ytfhdpafaamkipaa
open Go.RowKit
set_option linter.unusedVariables false
set_option linter.unusedSimpArgs false

/-- Where the walk stands: the store in its box, the result's box, all below as it was. -/
def PlX (w : World) (R : RomT) (ya : Option Addr) (pa ea : Nat) (yb : Option Addr) (pb eb : Nat) (W : World) : Prop :=
  W.heap[w.heap.size]? = some (.cells #[.int .u8 R.a.mark, .int .u8 R.a.turn, .slice ya pa ea, .int .u8 R.b.mark, .int .u8 R.b.turn, .slice yb pb eb] 26 (0, 0)) ∧
  W.heap[w.heap.size + 1]? = some (.cells #[.int .u8 0, .int .u8 0, .slice none 0 0, .int .u8 0, .int .u8 0, .slice none 0 0] 26 (0, 0)) ∧ Below w.heap.size w W
def PlV (w : World) (N : Nat) (R : RomT) (ya : Option Addr) (pa ea : Nat) (yb : Option Addr) (pb eb : Nat) (W : World) : Prop :=
  RoO W N R ya pa ea yb pb eb ∧ N ≤ W.heap.size ∧ ∀ k, atB ya k ∨ atB yb k → k ≠ w.heap.size
theorem next_a {w wr w1 : World} {N : Nat} {R : RomT} {q : SlotT} {x : WrT} {ya yb a1 : Option Addr} {pa ea pb eb n1 c1 : Nat} (hX : PlX w R ya pa ea yb pb eb wr) (hV : PlV w N R ya pa ea yb pb eb wr) (hq : q = intoT R.a x)
    (hO : OwB w1 N (.slice a1 n1 c1) q.data) (hat : ∀ j, atB a1 j → atB ya j ∨ wr.heap.size ≤ j) (hU : Outs (atB ya) wr w1) (hN : w.heap.size + 2 = N := by assumption) :
    PlX w ⟨q, R.b⟩ a1 n1 c1 yb pb eb (((w1.setCell ⟨w.heap.size, 0, none⟩ (.int .u8 q.mark)).setCell ⟨w.heap.size, 1, none⟩ (.int .u8 q.turn)).setCell ⟨w.heap.size, 2, none⟩ (.slice a1 n1 c1)) ∧
    PlV w N ⟨q, R.b⟩ a1 n1 c1 yb pb eb (((w1.setCell ⟨w.heap.size, 0, none⟩ (.int .u8 q.mark)).setCell ⟨w.heap.size, 1, none⟩ (.int .u8 q.turn)).setCell ⟨w.heap.size, 2, none⟩ (.slice a1 n1 c1)) := by
  obtain ⟨h1, h2, h3⟩ := hX
  obtain ⟨hR, hNs, hne⟩ := hV
  have lA : ∀ j, atB ya j → N ≤ j ∧ j < wr.heap.size := fun j e => owb_lt hR.a j e
  have lB : ∀ j, atB yb j → N ≤ j ∧ j < wr.heap.size := fun j e => owb_lt hR.b j e
  have lC : ∀ j, atB a1 j → N ≤ j := fun j e => (owb_lt hO j e).1
  have k1 := row_put19 (row_put19 (row_put19 (hU.row h1 (fun e => by have := lA _ e; omega)) 0 (.int .u8 q.mark)) 1 (.int .u8 q.turn)) 2 (.slice a1 n1 c1)
  have k2 := row_other19 (row_other19 (row_other19 (hU.row h2 (fun e => by have := lA _ e; omega)) w.heap.size 0 (by omega) (.int .u8 q.mark)) w.heap.size 1 (by omega) (.int .u8 q.turn)) w.heap.size 2 (by omega) (.slice a1 n1 c1)
  have qq : ∀ j, N ≤ j → (((w1.setCell ⟨w.heap.size, 0, none⟩ (.int .u8 q.mark)).setCell ⟨w.heap.size, 1, none⟩ (.int .u8 q.turn)).setCell ⟨w.heap.size, 2, none⟩ (.slice a1 n1 c1)).heap[j]? = w1.heap[j]? := fun j hj => by
    have hne : w.heap.size ≠ j := by omega
    exact (heap_set19 _ _ _ _ _ hne).trans ((heap_set19 _ _ _ _ _ hne).trans (heap_set19 _ _ _ _ _ hne))
  refine ⟨⟨k1, k2, bel_set (bel_set (bel_set (hU.below h3 h3.size (fun k e => by have := lA k e; omega)) (Nat.le_refl _) _ _) (Nat.le_refl _) _ _) (Nat.le_refl _) _ _⟩, ⟨owb_keep hO fun j e => qq j (lC j e), owb_keep (owb_outs hR.b hU (fun k e e' => hR.d k e' e)) fun j e => qq j (lB j e).1, fun k e e' => ?_⟩, by have := hU.size; simp; omega, fun k e => ?_⟩
  · rcases hat k e with h | h
    · exact hR.d k h e'
    · have := lB k e'; omega
  · rcases e with e | e
    · have := lC k e; omega
    · have := lB k e; omega
theorem next_b {w wr w1 : World} {N : Nat} {R : RomT} {q : SlotT} {x : WrT} {ya yb a1 : Option Addr} {pa ea pb eb n1 c1 : Nat} (hX : PlX w R ya pa ea yb pb eb wr) (hV : PlV w N R ya pa ea yb pb eb wr) (hq : q = intoT R.b x)
    (hO : OwB w1 N (.slice a1 n1 c1) q.data) (hat : ∀ j, atB a1 j → atB yb j ∨ wr.heap.size ≤ j) (hU : Outs (atB yb) wr w1) (hN : w.heap.size + 2 = N := by assumption) :
    PlX w ⟨R.a, q⟩ ya pa ea a1 n1 c1 (((w1.setCell ⟨w.heap.size, 3, none⟩ (.int .u8 q.mark)).setCell ⟨w.heap.size, 4, none⟩ (.int .u8 q.turn)).setCell ⟨w.heap.size, 5, none⟩ (.slice a1 n1 c1)) ∧
    PlV w N ⟨R.a, q⟩ ya pa ea a1 n1 c1 (((w1.setCell ⟨w.heap.size, 3, none⟩ (.int .u8 q.mark)).setCell ⟨w.heap.size, 4, none⟩ (.int .u8 q.turn)).setCell ⟨w.heap.size, 5, none⟩ (.slice a1 n1 c1)) := by
  obtain ⟨h1, h2, h3⟩ := hX
  obtain ⟨hR, hNs, hne⟩ := hV
  have lA : ∀ j, atB ya j → N ≤ j ∧ j < wr.heap.size := fun j e => owb_lt hR.a j e
  have lB : ∀ j, atB yb j → N ≤ j ∧ j < wr.heap.size := fun j e => owb_lt hR.b j e
  have lC : ∀ j, atB a1 j → N ≤ j := fun j e => (owb_lt hO j e).1
  have k1 := row_put19 (row_put19 (row_put19 (hU.row h1 (fun e => by have := lB _ e; omega)) 3 (.int .u8 q.mark)) 4 (.int .u8 q.turn)) 5 (.slice a1 n1 c1)
  have k2 := row_other19 (row_other19 (row_other19 (hU.row h2 (fun e => by have := lB _ e; omega)) w.heap.size 3 (by omega) (.int .u8 q.mark)) w.heap.size 4 (by omega) (.int .u8 q.turn)) w.heap.size 5 (by omega) (.slice a1 n1 c1)
  have qq : ∀ j, N ≤ j → (((w1.setCell ⟨w.heap.size, 3, none⟩ (.int .u8 q.mark)).setCell ⟨w.heap.size, 4, none⟩ (.int .u8 q.turn)).setCell ⟨w.heap.size, 5, none⟩ (.slice a1 n1 c1)).heap[j]? = w1.heap[j]? := fun j hj => by
    have hne : w.heap.size ≠ j := by omega
    exact (heap_set19 _ _ _ _ _ hne).trans ((heap_set19 _ _ _ _ _ hne).trans (heap_set19 _ _ _ _ _ hne))
  refine ⟨⟨k1, k2, bel_set (bel_set (bel_set (hU.below h3 h3.size (fun k e => by have := lB k e; omega)) (Nat.le_refl _) _ _) (Nat.le_refl _) _ _) (Nat.le_refl _) _ _⟩, ⟨owb_keep (owb_outs hR.a hU (fun k e e' => hR.d k e e')) fun j e => qq j (lA j e).1, owb_keep hO fun j e => qq j (lC j e), fun k e e' => ?_⟩, by have := hU.size; simp; omega, fun k e => ?_⟩
  · rcases hat k e' with h | h
    · exact hR.d k e h
    · have := lA k e; omega
  · rcases e with e | e
    · have := lA k e; omega
    · have := lC k e; omega
theorem do_a {R : RomT} {x : WrT} (h : x.slot = 0) : doT R x = ⟨intoT R.a x, R.b⟩ := by unfold doT; rw [if_pos h]
theorem do_b {R : RomT} {x : WrT} (h : x.slot = 1) : doT R x = ⟨R.a, intoT R.b x⟩ := by unfold doT; rw [if_neg (by omega), if_pos h]
theorem play_snoc (r : RomT) {ws : List WrT} {k : Nat} (hk : k < ws.length) : playT r (ws.take (k + 1)) = doT (playT r (ws.take k)) (fW ws k) := by
  rw [List.take_add_one, fW_get hk, play_app]
  rfl
set_option maxRecDepth 10000 in
set_option maxHeartbeats 8000000 in
theorem play_s (r : RomT) (xa xb : Option Addr) (na ca nb cb : Nat) (a : Option Addr) (n c : Nat) (ws : List WrT) (k0 : Int) (w : World) (h : RomOk r na nb) (hna : na ≤ 1048576) (hnb : nb ≤ 1048576) (ha : Bt w xa na (fL r.a.data)) (hb : Bt w xb nb (fL r.b.data)) (hn : n = ws.length) (hn2 : n ≤ 2000000) (hw : WsA w a n (fW ws)) :
    Calls Try.prog 21 #[romV r xa xb na ca nb cb, .slice a n c, .int .i64 k0] w fun e w' => RomR (playT r (ws.take k0.toNat)) w e w' := by
  have HR : Hid (∀ W, Below w.heap.size w W → Calls Try.prog 52 #[romV r xa xb na ca nb cb] W fun e w' => RomR r W e w') := fun W b => rom_s r xa xb na ca nb cb W h hna hnb (ha.later b (Nat.le_refl _)) (hb.later b (Nat.le_refl _))
  obtain ⟨j0, j1, hz, b0⟩ := two_alloc w (.cells #[.int .u8 r.a.mark, .int .u8 r.a.turn, .slice xa na ca, .int .u8 r.b.mark, .int .u8 r.b.turn, .slice xb nb cb] 26) (.cells #[.int .u8 0, .int .u8 0, .slice none 0 0, .int .u8 0, .int .u8 0, .slice none 0 0] 26)
  obtain ⟨m, hm, hmk, hT⟩ : ∃ m : Nat, m ≤ n ∧ ((m : Int) < k0 → m = n) ∧ ws.take k0.toNat = ws.take m := by
    by_cases h1 : k0 < 0
    · exact ⟨0, by omega, by omega, by rw [show k0.toNat = 0 by omega]⟩
    · by_cases h2 : k0 ≤ n
      · exact ⟨k0.toNat, by omega, by omega, rfl⟩
      · exact ⟨n, Nat.le_refl _, fun _ => rfl, by rw [List.take_of_length_le (by omega), List.take_of_length_le (by omega)]⟩
  have hmk2 : ∀ k : Nat, k < m → (k : Int) < k0 := by
    intro k hk
    by_cases h1 : (m : Int) ≤ k0
    · omega
    · exact absurd hT (fun e => by
        have := congrArg List.length e
        rw [List.length_take, List.length_take] at this
        omega)
  rw [hT]
  have HN : Hid (n = ws.length) := hn
  have HW : Hid (WsA w a n (fW ws)) := hw
  have HMK : Hid (∀ k : Nat, k < m → (k : Int) < k0) := hmk2
  have HMM : Hid ((m : Int) < k0 → m = n) := hmk
  clear h ha hb hn hw hT hmk2 hmk
  unfold romV at HR ⊢
  go_enter Try.func21, Try.ntmps21
  go_wp2_with fail
  generalize ((w.alloc (.cells #[.int .u8 r.a.mark, .int .u8 r.a.turn, .slice xa na ca, .int .u8 r.b.mark, .int .u8 r.b.turn, .slice xb nb cb] 26)).alloc (.cells #[.int .u8 0, .int .u8 0, .slice none 0 0, .int .u8 0, .int .u8 0, .slice none 0 0] 26)) = W0 at j0 j1 hz b0 ⊢
  refine (HR.out W0 b0).mono ?_
  rintro e w1 ⟨ya, pa, ea, yb, pb, eb, rfl, hO, g1⟩
  have i0 := row_later19 j0 g1
  have i1 := row_later19 j1 g1
  obtain ⟨s0, s1, s2, s3, s4, s5, sf⟩ := row_cells6 i0
  have HX0 : PlX w r ya pa ea yb pb eb ((((((w1.setCell ⟨w.heap.size, 0, none⟩ (.int .u8 r.a.mark)).setCell ⟨w.heap.size, 1, none⟩ (.int .u8 r.a.turn)).setCell ⟨w.heap.size, 2, none⟩ (.slice ya pa ea)).setCell ⟨w.heap.size, 3, none⟩ (.int .u8 r.b.mark)).setCell ⟨w.heap.size, 4, none⟩ (.int .u8 r.b.turn)).setCell ⟨w.heap.size, 5, none⟩ (.slice yb pb eb)) := by
    refine ⟨row_put19 (row_put19 (row_put19 (row_put19 (row_put19 (row_put19 i0 0 (.int .u8 r.a.mark)) 1 (.int .u8 r.a.turn)) 2 (.slice ya pa ea)) 3 (.int .u8 r.b.mark)) 4 (.int .u8 r.b.turn)) 5 (.slice yb pb eb), ?_, ?_⟩
    · iterate 6 refine row_other19 ?_ _ _ (by omega) _
      exact i1
    · iterate 6 refine bel_set ?_ (Nat.le_refl _) _ _
      exact b0.trans (g1.mono b0.size)
  have HV0 : PlV w (w.heap.size + 2) r ya pa ea yb pb eb ((((((w1.setCell ⟨w.heap.size, 0, none⟩ (.int .u8 r.a.mark)).setCell ⟨w.heap.size, 1, none⟩ (.int .u8 r.a.turn)).setCell ⟨w.heap.size, 2, none⟩ (.slice ya pa ea)).setCell ⟨w.heap.size, 3, none⟩ (.int .u8 r.b.mark)).setCell ⟨w.heap.size, 4, none⟩ (.int .u8 r.b.turn)).setCell ⟨w.heap.size, 5, none⟩ (.slice yb pb eb)) := by
    have q : ∀ j, W0.heap.size ≤ j → ((((((w1.setCell ⟨w.heap.size, 0, none⟩ (.int .u8 r.a.mark)).setCell ⟨w.heap.size, 1, none⟩ (.int .u8 r.a.turn)).setCell ⟨w.heap.size, 2, none⟩ (.slice ya pa ea)).setCell ⟨w.heap.size, 3, none⟩ (.int .u8 r.b.mark)).setCell ⟨w.heap.size, 4, none⟩ (.int .u8 r.b.turn)).setCell ⟨w.heap.size, 5, none⟩ (.slice yb pb eb)).heap[j]? = w1.heap[j]? := fun j hj => by
      have hne : w.heap.size ≠ j := by omega
      exact (heap_set19 _ _ _ _ _ hne).trans ((heap_set19 _ _ _ _ _ hne).trans ((heap_set19 _ _ _ _ _ hne).trans ((heap_set19 _ _ _ _ _ hne).trans ((heap_set19 _ _ _ _ _ hne).trans (heap_set19 _ _ _ _ _ hne)))))
    refine ⟨⟨owb_base (owb_keep hO.a fun j e => q j (owb_lt hO.a j e).1) (by omega), owb_base (owb_keep hO.b fun j e => q j (owb_lt hO.b j e).1) (by omega), hO.d⟩, by have := g1.size; simp; omega, fun k e => ?_⟩
    rcases e with e | e
    · have := (owb_lt hO.a k e).1; omega
    · have := (owb_lt hO.b k e).1; omega
  clear i0 i1 j0 j1 b0 g1 hO HR
  unfold romV
  go_upto_region 2 with fail
  generalize ((((((w1.setCell ⟨w.heap.size, 0, none⟩ (.int .u8 r.a.mark)).setCell ⟨w.heap.size, 1, none⟩ (.int .u8 r.a.turn)).setCell ⟨w.heap.size, 2, none⟩ (.slice ya pa ea)).setCell ⟨w.heap.size, 3, none⟩ (.int .u8 r.b.mark)).setCell ⟨w.heap.size, 4, none⟩ (.int .u8 r.b.turn)).setCell ⟨w.heap.size, 5, none⟩ (.slice yb pb eb)) = V0 at HX0 HV0 ⊢
  have HX0 : Hid (PlX w r ya pa ea yb pb eb V0) := HX0
  have HV0 : Hid (PlV w (w.heap.size + 2) r ya pa ea yb pb eb V0) := HV0
  clear s0 s1 s2 s3 s4 s5 sf hz
  go_wp2
  go_loopw [7] (fun i wr => ∃ (k : Nat) (R : RomT) (ya : Option Addr) (pa ea : Nat) (yb : Option Addr) (pb eb : Nat), k ≤ m ∧ i = .int .i64 k ∧ Hid (PlX w R ya pa ea yb pb eb wr) ∧ Hid (PlV w (w.heap.size + 2) R ya pa ea yb pb eb wr) ∧ Hid (R = playT r (ws.take k))) (fun i _ => n - (intOf i).toNat)
  case atStart => exact ⟨0, r, ya, pa, ea, yb, pb, eb, Nat.zero_le _, rfl, HX0, HV0, rfl⟩
  case round =>
    clear HX0 HV0
    obtain ⟨k, R, ya, pa, ea, yb, pb, eb, hk, rfl, HX, HV, HP⟩ := hrel
    obtain ⟨N, hN⟩ : ∃ N, w.heap.size + 2 = N := ⟨_, rfl⟩
    rw [hN] at HV
    have HNN : Hid (w.heap.size + 2 = N) := hN
    by_cases hlt : k < m
    · have i1 := HMK.out k hlt
      have i2 : (k : Int) < (n : Int) := by omega
      have i3 : (0 : Int) ≤ (k : Int) := by omega
      have hkn : k < n := by omega
      obtain ⟨b, o, rfl, hb, hcs⟩ : ∃ b o, a = some ⟨b, o, none⟩ ∧ b < w.heap.size ∧ Ws w b o n (fW ws) := by
        rcases HW.out with h | h
        · omega
        · exact h
      obtain ⟨y0, y1, y2⟩ := hcs k hkn
      have HS : Hid (playT r (ws.take (k + 1)) = doT R (fW ws k)) := (by rw [HP.out]; exact play_snoc r (by have := HN.out; omega) : playT r (ws.take (k + 1)) = doT R (fW ws k))
      obtain ⟨x, hx⟩ : ∃ x, fW ws k = x := ⟨_, rfl⟩
      rw [hx] at y0 y1 y2 HS
      have HC : Hid (∀ V, Below w.heap.size w V → V.cell? ⟨b, o + k * 3, none⟩ = some (.int .i64 x.kind) ∧ V.cell? ⟨b, o + k * 3 + 1, none⟩ = some (.int .i64 x.slot) ∧ V.cell? ⟨b, o + k * 3 + 1 + 1, none⟩ = some (.int .u8 x.byte)) := fun V B => ⟨(B.cell (p := ⟨b, o + k * 3, none⟩) hb).trans y0, (B.cell (p := ⟨b, o + k * 3 + 1, none⟩) hb).trans y1, (B.cell (p := ⟨b, o + k * 3 + 1 + 1, none⟩) hb).trans y2⟩
      obtain ⟨t0, t1, t2⟩ := HC.out wr HX.out.2.2
      obtain ⟨p0, p1, p2, p3, p4, p5, pf⟩ := row_cells6 HX.out.1
      have HK : Hid (k + 1 ≤ m) := hlt
      clear hcs y0 y1 y2 hx hkn hb hN HP hlt hk
      by_cases hs0 : x.slot = 0
      · obtain ⟨q, HQ⟩ : ∃ q, Hid (q = intoT R.a x) := ⟨_, rfl⟩
        have e0 : (x.slot == 0) = true := by rw [hs0]; rfl
        have e1 : (x.slot == 1) = false := by rw [hs0]; rfl
        have HD : Hid (doT R x = ⟨q, R.b⟩) := (by rw [HQ.out]; exact do_a hs0 : doT R x = ⟨q, R.b⟩)
        clear hs0
        have HI : Hid (∀ V, Below wr.heap.size wr V → Calls Try.prog 53 #[.agg #[.int .u8 R.a.mark, .int .u8 R.a.turn, .slice ya pa ea], .agg #[.int .i64 x.kind, .int .i64 x.slot, .int .u8 x.byte]] V fun e w' => SlR N q ya V e w') := fun V b => by
          rw [HQ.out]
          exact add_s N R.a ya pa ea x V (owb_later HV.out.1.a b) (Nat.le_trans HV.out.2.1 b.size)
        go_upto_region 6 with fail
        go_region_with (go_at_call 53; refine (HI.out _ (by first | exact Below.refl _ _ | exact (Below.refl _ _).drew)).mono ?_; rintro e w1 ⟨a1, n1, c1, rfl, hO1, hat1, hU1⟩; have hU2 : Outs (atB ya) wr w1 := (by first | exact hU1 | exact (Outs.of_below (Below.refl _ _).drew).trans hU1); have hat2 : ∀ j, atB a1 j → atB ya j ∨ wr.heap.size ≤ j := hat1; have HN1 := next_a (w := w) HX.out HV.out HQ.out hO1 hat2 hU2; have z := row_cells6 (hU2.row HX.out.1 (fun e => HV.out.2.2 _ (by first | exact .inl e | exact .inr e) rfl)); obtain ⟨z0, z1, z2, z3, z4, z5, zf⟩ := z)
        all_goals
          have HN1 : Hid _ := HN1
          clear hO1 hat1 hU1 hat2 hU2 HI
          obtain ⟨f0, f1, f2⟩ := HC.out _ HN1.out.1.2.2
          clear t0 t1 t2 p0 p1 p2 p3 p4 p5 pf z0 z1 z2 z3 z4 z5 zf HX HV
          generalize (((w1.setCell ⟨w.heap.size, 0, none⟩ (.int .u8 q.mark)).setCell ⟨w.heap.size, 1, none⟩ (.int .u8 q.turn)).setCell ⟨w.heap.size, 2, none⟩ (.slice a1 n1 c1)) = V at HN1 f0 f1 f2 ⊢
          go_wp2
          go_roundw
          case rel => exact ⟨k + 1, ⟨q, R.b⟩, a1, n1, c1, yb, pb, eb, HK.out, by go_num, HN1.out.1, (by rw [HNN.out]; exact HN1.out.2), (by rw [← HD.out]; exact HS.out.symm : (⟨q, R.b⟩ : RomT) = playT r (ws.take (k + 1)))⟩
          case measure => simp [intOf]; have := HK.out; omega
      by_cases hs1 : x.slot = 1
      · obtain ⟨q, HQ⟩ : ∃ q, Hid (q = intoT R.b x) := ⟨_, rfl⟩
        have e0 : (x.slot == 0) = false := by rw [hs1]; rfl
        have e1 : (x.slot == 1) = true := by rw [hs1]; rfl
        have HD : Hid (doT R x = ⟨R.a, q⟩) := (by rw [HQ.out]; exact do_b hs1 : doT R x = ⟨R.a, q⟩)
        clear hs0 hs1
        have HI : Hid (∀ V, Below wr.heap.size wr V → Calls Try.prog 53 #[.agg #[.int .u8 R.b.mark, .int .u8 R.b.turn, .slice yb pb eb], .agg #[.int .i64 x.kind, .int .i64 x.slot, .int .u8 x.byte]] V fun e w' => SlR N q yb V e w') := fun V b => by
          rw [HQ.out]
          exact add_s N R.b yb pb eb x V (owb_later HV.out.1.b b) (Nat.le_trans HV.out.2.1 b.size)
        go_upto_region 8 with fail
        go_region_with (go_at_call 53; refine (HI.out _ (by first | exact Below.refl _ _ | exact (Below.refl _ _).drew)).mono ?_; rintro e w1 ⟨a1, n1, c1, rfl, hO1, hat1, hU1⟩; have hU2 : Outs (atB yb) wr w1 := (by first | exact hU1 | exact (Outs.of_below (Below.refl _ _).drew).trans hU1); have hat2 : ∀ j, atB a1 j → atB yb j ∨ wr.heap.size ≤ j := hat1; have HN1 := next_b (w := w) HX.out HV.out HQ.out hO1 hat2 hU2; have z := row_cells6 (hU2.row HX.out.1 (fun e => HV.out.2.2 _ (by first | exact .inl e | exact .inr e) rfl)); obtain ⟨z0, z1, z2, z3, z4, z5, zf⟩ := z)
        all_goals
          have HN1 : Hid _ := HN1
          clear hO1 hat1 hU1 hat2 hU2 HI
          clear t0 t1 t2 p0 p1 p2 p3 p4 p5 pf z0 z1 z2 z3 z4 z5 zf HX HV
          generalize (((w1.setCell ⟨w.heap.size, 3, none⟩ (.int .u8 q.mark)).setCell ⟨w.heap.size, 4, none⟩ (.int .u8 q.turn)).setCell ⟨w.heap.size, 5, none⟩ (.slice a1 n1 c1)) = V at HN1 ⊢
          go_wp2
          go_roundw
          case rel => exact ⟨k + 1, ⟨R.a, q⟩, ya, pa, ea, a1, n1, c1, HK.out, by go_num, HN1.out.1, (by rw [HNN.out]; exact HN1.out.2), (by rw [← HD.out]; exact HS.out.symm : (⟨R.a, q⟩ : RomT) = playT r (ws.take (k + 1)))⟩
          case measure => simp [intOf]; have := HK.out; omega
      · have e0 : (x.slot == 0) = false := by simp [hs0]
        have e1 : (x.slot == 1) = false := by simp [hs1]
        have HD : Hid (doT R x = R) := (do_none (.inl ⟨hs0, hs1⟩) : doT R x = R)
        clear hs0 hs1
        go_wp2
        go_roundw
        case rel => exact ⟨k + 1, R, ya, pa, ea, yb, pb, eb, HK.out, by go_num, HX, (by rw [HNN.out]; exact HV), (by rw [HS.out, HD.out] : R = playT r (ws.take (k + 1)))⟩
        case measure => simp [intOf]; have := HK.out; omega
    · have hkm : k = m := by omega
      obtain ⟨p0, p1, p2, p3, p4, p5, pf⟩ := row_cells6 HX.out.1
      obtain ⟨s0, s1, s2, s3, s4, s5, sf⟩ := row_cells6 HX.out.2.1
      have HF : Hid _ := put_rom (R := R) (w := w) HX.out.2.1 HV.out.1 (by omega) HX.out.2.2 (by omega)
      have HRm : Hid (playT r (ws.take m) = R) := (by rw [HP.out, hkm] : playT r (ws.take m) = R)
      have i3 : (0 : Int) ≤ (k : Int) := by omega
      by_cases h1 : (k : Int) < k0
      · have i2 : ¬ (k : Int) < (n : Int) := by have := HMM.out (by omega); omega
        clear HX HV HP hkm hlt hk
        go_wp2
        obtain ⟨q0, q1, q2, q3, q4, q5, qf⟩ := row_cells6 HF.out.1
        have HG := HF.out.2
        generalize ((((((wr.setCell ⟨w.heap.size + 1, 0, none⟩ (.int .u8 R.a.mark)).setCell ⟨w.heap.size + 1, 1, none⟩ (.int .u8 R.a.turn)).setCell ⟨w.heap.size + 1, 2, none⟩ (.slice ya pa ea)).setCell ⟨w.heap.size + 1, 3, none⟩ (.int .u8 R.b.mark)).setCell ⟨w.heap.size + 1, 4, none⟩ (.int .u8 R.b.turn)).setCell ⟨w.heap.size + 1, 5, none⟩ (.slice yb pb eb)) = V at q0 q1 q2 q3 q4 q5 qf HG ⊢
        exact bodyPost_ret (v := .agg #[.int .u8 R.a.mark, .int .u8 R.a.turn, .slice ya pa ea, .int .u8 R.b.mark, .int .u8 R.b.turn, .slice yb pb eb]) (by simp [results, Try.results21, go_sem, q0, q1, q2, q3, q4, q5]) rfl (by rw [HRm.out]; exact HG)
      · clear HX HV HP hkm hlt hk
        go_wp2
        obtain ⟨q0, q1, q2, q3, q4, q5, qf⟩ := row_cells6 HF.out.1
        have HG := HF.out.2
        generalize ((((((wr.setCell ⟨w.heap.size + 1, 0, none⟩ (.int .u8 R.a.mark)).setCell ⟨w.heap.size + 1, 1, none⟩ (.int .u8 R.a.turn)).setCell ⟨w.heap.size + 1, 2, none⟩ (.slice ya pa ea)).setCell ⟨w.heap.size + 1, 3, none⟩ (.int .u8 R.b.mark)).setCell ⟨w.heap.size + 1, 4, none⟩ (.int .u8 R.b.turn)).setCell ⟨w.heap.size + 1, 5, none⟩ (.slice yb pb eb)) = V at q0 q1 q2 q3 q4 q5 qf HG ⊢
        exact bodyPost_ret (v := .agg #[.int .u8 R.a.mark, .int .u8 R.a.turn, .slice ya pa ea, .int .u8 R.b.mark, .int .u8 R.b.turn, .slice yb pb eb]) (by simp [results, Try.results21, go_sem, q0, q1, q2, q3, q4, q5]) rfl (by rw [HRm.out]; exact HG)
end Go.Proofs.Ytfhdpafaamkipaa
