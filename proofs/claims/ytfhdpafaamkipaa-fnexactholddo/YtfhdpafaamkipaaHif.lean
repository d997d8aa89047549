/- Slots and stores as answers: marked, and held. -/
import Derived.Test.YtfhdpafaamkipaaHie
namespace Go.Proofs.Ytfhdpafaamkipaa
open Go.RowKit
set_option linter.unusedVariables false
set_option linter.unusedSimpArgs false

set_option maxHeartbeats 1000000 in
theorem mark_slot (base m t : Nat) (a : Option Addr) (n c q : Nat) (k : Int) (hk : k = q) (f : Nat → Nat) (w : World) (h : Ob w base a n f) (hn : n ≤ 1048576) (hq : q ≤ 4194304) :
    Calls Try.prog 60 #[.agg #[.int .u8 m, .int .u8 t, .slice a n c], .int .i64 k] w fun e w' => e = .returned (.int .i64 ((q + n : Nat) : Int)) ∧ Ob w' base a n (mkN q) ∧ Outs (atB a) w w' := by
  have HM : Hid (∀ W, Below w.heap.size w W → Calls Try.prog 36 #[.slice a n c, .int .i64 k] W fun e w' => e = .returned (.int .i64 ((q + n : Nat) : Int)) ∧ Ob w' base a n (mkN q) ∧ Outs (atB a) W w') := fun W b => by
    rw [hk]
    exact mark_obk base a n c q f W (h.later b) hn hq
  have b0 : Hid (Below w.heap.size w (w.alloc (.cells #[.int .u8 m, .int .u8 t, .slice a n c] 24))) := (Below.refl _ _).alloc (Nat.le_refl _) _
  obtain ⟨Z, HZ⟩ : ∃ Z : Int, Hid (Z = ((q + n : Nat) : Int)) := ⟨_, rfl⟩
  rw [← HZ.out] at HM ⊢
  clear h hk hn hq
  go_enter Try.func60, Try.ntmps60
  go_wp2_with fail
  refine (HM.out _ b0.out).mono ?_
  rintro e w1 ⟨rfl, h1, g1⟩
  have HF : Hid (Ob w1 base a n (mkN q) ∧ Outs (atB a) w w1) := ⟨h1, (Outs.of_below b0.out).trans g1⟩
  clear HM b0 h1 g1
  go_wp2
  go_ret
  exact ⟨rfl, HF.out⟩
set_option maxHeartbeats 1000000 in
theorem held_slot (base m t : Nat) (a : Option Addr) (n c q : Nat) (k : Int) (hk : k = q) (w : World) (h : Ob w base a n (mkN q)) (hn : n ≤ 1048576) (hq : q ≤ 4194304) :
    Calls Try.prog 61 #[.agg #[.int .u8 m, .int .u8 t, .slice a n c], .int .i64 k] w fun e w' => e = .returned (.int .i64 ((q + n : Nat) : Int)) ∧ Below w.heap.size w w' := by
  have HM : Hid (∀ W, Below w.heap.size w W → Calls Try.prog 37 #[.slice a n c, .int .i64 k] W fun e w' => e = .returned (.int .i64 ((q + n : Nat) : Int)) ∧ Below W.heap.size W w') := fun W b => by
    rw [hk]
    exact held_obk base a n c q W (h.later b) hn hq
  have b0 : Hid (Below w.heap.size w (w.alloc (.cells #[.int .u8 m, .int .u8 t, .slice a n c] 24))) := (Below.refl _ _).alloc (Nat.le_refl _) _
  obtain ⟨Z, HZ⟩ : ∃ Z : Int, Hid (Z = ((q + n : Nat) : Int)) := ⟨_, rfl⟩
  rw [← HZ.out] at HM ⊢
  have hz : ¬ Z < 0 := by have := HZ.out; omega
  clear h hk hn hq HZ
  go_enter Try.func61, Try.ntmps61
  go_wp2_with fail
  refine (HM.out _ b0.out).mono ?_
  rintro e w1 ⟨rfl, g1⟩
  have HF : Hid (Below w.heap.size w w1) := b0.out.trans (g1.mono b0.out.size)
  clear HM b0 g1
  go_wp2
  go_ret
  exact ⟨rfl, HF.out⟩
/-- The blocks of two slices. -/
def atB2 (a b : Option Addr) (k : Nat) : Prop := atB a k ∨ atB b k
set_option maxRecDepth 10000 in
set_option maxHeartbeats 2000000 in
theorem mark_rom (base : Nat) (r : RomT) (xa xb : Option Addr) (na ca nb cb : Nat) (f g : Nat → Nat) (w : World) (ha : Ob w base xa na f) (hb : Ob w base xb nb g) (hd : ∀ k, atB xa k → ¬ atB xb k) (hna : na ≤ 1048576) (hnb : nb ≤ 1048576) :
    Calls Try.prog 29 #[romV r xa xb na ca nb cb, .int .i64 1] w fun e w' => e = .returned (.int .i64 ((1 + na + nb : Nat) : Int)) ∧ Ob w' base xa na (mkN 1) ∧ Ob w' base xb nb (mkN (1 + na)) ∧ Outs (atB2 xa xb) w w' := by
  obtain ⟨⟨am, at', ad⟩, ⟨bm, bt, bd⟩⟩ := r
  have HA : Hid (∀ W, Below w.heap.size w W → Calls Try.prog 60 #[.agg #[.int .u8 am, .int .u8 at', .slice xa na ca], .int .i64 1] W fun e w' => e = .returned (.int .i64 ((1 + na : Nat) : Int)) ∧ Ob w' base xa na (mkN 1) ∧ Outs (atB xa) W w') := fun W b => mark_slot base am at' xa na ca 1 1 rfl f W (ha.later b) hna (by omega)
  have HB : Hid (∀ W, Ob W base xb nb g → Calls Try.prog 60 #[.agg #[.int .u8 bm, .int .u8 bt, .slice xb nb cb], .int .i64 ((1 + na : Nat) : Int)] W fun e w' => e = .returned (.int .i64 ((1 + na + nb : Nat) : Int)) ∧ Ob w' base xb nb (mkN (1 + na)) ∧ Outs (atB xb) W w') := fun W b => mark_slot base bm bt xb nb cb (1 + na) _ rfl g W b hnb (by omega)
  have b0 : Hid (Below w.heap.size w (w.alloc (.cells #[.int .u8 am, .int .u8 at', .slice xa na ca, .int .u8 bm, .int .u8 bt, .slice xb nb cb] 26))) := (Below.refl _ _).alloc (Nat.le_refl _) _
  have k0 := heap_alloc_last w (.cells #[.int .u8 am, .int .u8 at', .slice xa na ca, .int .u8 bm, .int .u8 bt, .slice xb nb cb] 26)
  have hlt : Hid (∀ k, atB xa k → k < w.heap.size) := (fun k e => by
    rcases ha with ⟨e1, _⟩ | ⟨g', e1, _, e3⟩
    · unfold atB at e; rw [e1] at e; cases e
    · unfold atB at e; rw [e1] at e; cases e; exact e3.lt : ∀ k, atB xa k → k < w.heap.size)
  have HO : Hid (Ob w base xb nb g ∧ ∀ k, atB xa k → ¬ atB xb k) := ⟨hb, hd⟩
  obtain ⟨Z, HZ⟩ : ∃ Z : Int, Hid (Z = ((1 + na : Nat) : Int)) := ⟨_, rfl⟩
  obtain ⟨Y, HY⟩ : ∃ Y : Int, Hid (Y = ((1 + na + nb : Nat) : Int)) := ⟨_, rfl⟩
  rw [← HZ.out] at HA HB
  rw [← HY.out] at HB ⊢
  unfold romV
  clear ha hb hd hna hnb
  go_enter Try.func29, Try.ntmps29
  go_wp2_with fail
  generalize (w.alloc (.cells #[.int .u8 am, .int .u8 at', .slice xa na ca, .int .u8 bm, .int .u8 bt, .slice xb nb cb] 26)) = W0 at b0 k0 ⊢
  refine (HA.out _ b0.out).mono ?_
  rintro e w1 ⟨rfl, h1, g1⟩
  have k1 := g1.row k0 (fun e => by have := hlt.out _ e; omega)
  obtain ⟨p0, p1, p2, p3, p4, p5, pf⟩ := row_cells6 k1
  have HB1 : Hid (Ob w1 base xa na (mkN 1) ∧ Ob w1 base xb nb g ∧ Outs (atB xa) w w1) := ⟨h1, (HO.out.1.later b0.out).outs g1 (fun k e e' => HO.out.2 k e' e), (Outs.of_below b0.out).trans g1⟩
  clear g1 h1 k1 k0 b0 HA hlt
  go_wp2_with fail
  refine (HB.out _ HB1.out.2.1).mono ?_
  rintro e w2 ⟨rfl, h2, g2⟩
  have HF : Hid (Ob w2 base xa na (mkN 1) ∧ Ob w2 base xb nb (mkN (1 + na)) ∧ Outs (atB2 xa xb) w w2) := ⟨HB1.out.1.outs g2 (fun k e e' => HO.out.2 k e e'), h2, (HB1.out.2.2.wide fun k e => .inl e).trans (g2.wide fun k e => .inr e)⟩
  clear p0 p1 p2 p3 p4 p5 pf HB HB1 h2 g2
  go_wp2
  go_ret
  exact ⟨rfl, HF.out⟩
set_option maxRecDepth 10000 in
set_option maxHeartbeats 2000000 in
theorem held_rom (base : Nat) (r : RomT) (xa xb : Option Addr) (na ca nb cb : Nat) (w : World) (ha : Ob w base xa na (mkN 1)) (hb : Ob w base xb nb (mkN (1 + na))) (hna : na ≤ 1048576) (hnb : nb ≤ 1048576) :
    Calls Try.prog 30 #[romV r xa xb na ca nb cb, .int .i64 1] w fun e w' => e = .returned (.int .i64 ((1 + na + nb : Nat) : Int)) ∧ Below w.heap.size w w' := by
  obtain ⟨⟨am, at', ad⟩, ⟨bm, bt, bd⟩⟩ := r
  have HA : Hid (∀ W, Below w.heap.size w W → Calls Try.prog 61 #[.agg #[.int .u8 am, .int .u8 at', .slice xa na ca], .int .i64 1] W fun e w' => e = .returned (.int .i64 ((1 + na : Nat) : Int)) ∧ Below W.heap.size W w') := fun W b => held_slot base am at' xa na ca 1 1 rfl W (ha.later b) hna (by omega)
  have HB : Hid (∀ W, Below w.heap.size w W → Calls Try.prog 61 #[.agg #[.int .u8 bm, .int .u8 bt, .slice xb nb cb], .int .i64 ((1 + na : Nat) : Int)] W fun e w' => e = .returned (.int .i64 ((1 + na + nb : Nat) : Int)) ∧ Below W.heap.size W w') := fun W b => held_slot base bm bt xb nb cb (1 + na) _ rfl W (hb.later b) hnb (by omega)
  have b0 : Hid (Below w.heap.size w (w.alloc (.cells #[.int .u8 am, .int .u8 at', .slice xa na ca, .int .u8 bm, .int .u8 bt, .slice xb nb cb] 26))) := (Below.refl _ _).alloc (Nat.le_refl _) _
  have k0 := heap_alloc_last w (.cells #[.int .u8 am, .int .u8 at', .slice xa na ca, .int .u8 bm, .int .u8 bt, .slice xb nb cb] 26)
  obtain ⟨Z, HZ⟩ : ∃ Z : Int, Hid (Z = ((1 + na : Nat) : Int)) := ⟨_, rfl⟩
  obtain ⟨Y, HY⟩ : ∃ Y : Int, Hid (Y = ((1 + na + nb : Nat) : Int)) := ⟨_, rfl⟩
  rw [← HZ.out] at HA HB
  rw [← HY.out] at HB ⊢
  have hz : ¬ Z < 0 := by have := HZ.out; omega
  have hy : ¬ Y < 0 := by have := HY.out; omega
  unfold romV
  clear ha hb hna hnb
  go_enter Try.func30, Try.ntmps30
  go_wp2_with fail
  generalize (w.alloc (.cells #[.int .u8 am, .int .u8 at', .slice xa na ca, .int .u8 bm, .int .u8 bt, .slice xb nb cb] 26)) = W0 at b0 k0 ⊢
  refine (HA.out _ b0.out).mono ?_
  rintro e w1 ⟨rfl, g1⟩
  have k1 := (g1.block _ (Array.getElem?_eq_some_iff.1 k0).1).trans k0
  obtain ⟨p0, p1, p2, p3, p4, p5, pf⟩ := row_cells6 k1
  have b1 : Hid (Below w.heap.size w w1) := b0.out.trans (g1.mono b0.out.size)
  clear g1 k1 k0 b0 HA
  go_wp2_with fail
  refine (HB.out _ b1.out).mono ?_
  rintro e w2 ⟨rfl, g2⟩
  have HF : Hid (Below w.heap.size w w2) := b1.out.trans (g2.mono b1.out.size)
  clear p0 p1 p2 p3 p4 p5 pf HB b1 g2
  go_wp2
  go_ret
  exact ⟨rfl, HF.out⟩
end Go.Proofs.Ytfhdpafaamkipaa
