/- The law FnExactElemRead. -/
import Derived.Test.YtjbdcbamkdnjhaaGreatDoorJnM
namespace Go.Proofs.YtjbdcbamkdnjhaaGreatDoor
open Go.RowKit Go.Shelf Go.Lib
set_option linter.unusedVariables false

set_option maxHeartbeats 1000000 in
theorem markE_r (op : Int) (base g cap n : Nat) (m : Int) (vs : List Value) (w : World) (hn : n ≤ 1000) (hm0 : 0 ≤ m) (hm1 : m ≤ 1000000) (h : Row3 w base g cap n vs) (hb : base ≤ w.heap.size) :
    Calls Tryz.prog 32 #[.agg #[.int .i64 op, .slice (some ⟨g, 0, none⟩) n cap], .int .i64 m] w fun e w' => e = .returned (.int .i64 (m + 3 * (n : Int))) ∧ ∃ vs', Row3 w' base g cap n vs' ∧ Marked m (n * 3) vs' ∧ w.grownBy w' (some g) := by
  have h1 : Row3 (w.alloc (.cells #[.int .i64 op, .slice (some ⟨g, 0, none⟩) n cap] 25)) base g cap n vs := World.ownsRow.alloc h _
  have HM : Hid (Calls Tryz.prog 87 #[.slice (some ⟨g, 0, none⟩) n cap, .int .i64 m] (w.alloc (.cells #[.int .i64 op, .slice (some ⟨g, 0, none⟩) n cap] 25)) fun e w' => ∃ vs', e = .returned (.int .i64 (m + 3 * (n : Int))) ∧ Row3 w' base g cap n vs' ∧ Marked m (n * 3) vs' ∧ (w.alloc (.cells #[.int .i64 op, .slice (some ⟨g, 0, none⟩) n cap] 25)).grownBy w' (some g)) := mark_r base g cap n m vs _ hn hm0 hm1 h1
  obtain ⟨K, hK⟩ : ∃ K, m + 3 * (n : Int) = K := ⟨_, rfl⟩
  rw [hK] at HM ⊢
  clear hK h1
  go_enter Tryz.func32, Tryz.ntmps32
  go_wp2_with fail
  refine HM.out.mono ?_
  rintro e w1 ⟨vs', rfl, h2, h3, h4⟩
  have h5 : w.grownBy w1 (some g) := gb_step (World.grownBy_alloc w _ (some g)) h4
  clear h4
  go_wp2
  go_ret
  exact ⟨rfl, vs', h2, h3, h5⟩
set_option maxHeartbeats 1000000 in
theorem heldE_r (op : Int) (base g cap n : Nat) (m : Int) (vs : List Value) (w : World) (hn : n ≤ 1000) (hm0 : 0 ≤ m) (hm1 : m ≤ 1000000) (h : Row3 w base g cap n vs) (hv : Marked m (n * 3) vs) :
    Calls Tryz.prog 33 #[.agg #[.int .i64 op, .slice (some ⟨g, 0, none⟩) n cap], .int .i64 m] w fun e w' => e = .returned (.int .i64 (m + 3 * (n : Int))) ∧ Below w.heap.size w w' := by
  have HM : Hid (Calls Tryz.prog 88 #[.slice (some ⟨g, 0, none⟩) n cap, .int .i64 m] (w.alloc (.cells #[.int .i64 op, .slice (some ⟨g, 0, none⟩) n cap] 25)) fun e w' => e = .returned (.int .i64 (m + 3 * (n : Int))) ∧ w' = w.alloc (.cells #[.int .i64 op, .slice (some ⟨g, 0, none⟩) n cap] 25)) := held_r base g cap n m vs _ hn hm0 hm1 (World.ownsRow.alloc h _) hv
  obtain ⟨K, hK⟩ : ∃ K, m + 3 * (n : Int) = K := ⟨_, rfl⟩
  have hK0 : ¬ (K < 0) := by omega
  rw [hK] at HM ⊢
  clear hK
  go_enter Tryz.func33, Tryz.ntmps33
  go_wp2_with fail
  refine HM.out.mono ?_
  rintro e w1 ⟨rfl, rfl⟩
  go_wp2
  go_ret
  exact ⟨rfl, by go_grown⟩
set_option maxHeartbeats 1000000 in
theorem markE_none (op : Int) (w : World) :
    Calls Tryz.prog 32 #[.agg #[.int .i64 op, .slice none 0 0], .int .i64 1] w fun e w' => e = .returned (.int .i64 1) ∧ Below w.heap.size w w' := by
  go_enter Tryz.func32, Tryz.ntmps32
  go_wp2_with fail
  refine (mark_none _ 1).mono ?_
  rintro e w1 ⟨rfl, rfl⟩
  go_wp2
  go_ret
  exact ⟨rfl, by go_grown⟩
set_option maxHeartbeats 1000000 in
theorem heldE_none (op : Int) (w : World) :
    Calls Tryz.prog 33 #[.agg #[.int .i64 op, .slice none 0 0], .int .i64 1] w fun e w' => e = .returned (.int .i64 1) ∧ Below w.heap.size w w' := by
  go_enter Tryz.func33, Tryz.ntmps33
  go_wp2_with fail
  refine (held_none _ 1).mono ?_
  rintro e w1 ⟨rfl, rfl⟩
  go_wp2
  go_ret
  exact ⟨rfl, by go_grown⟩

/-- What is asked of the world. -/
structure Asks (w : World) : Prop where
  t : Tabs w
  m : ML w
  h : EH w
theorem Asks.later {w w' : World} (h : Asks w) (g : Below w.heap.size w w') : Asks w' := ⟨h.t.later g, h.m.later g, h.h.later g⟩

set_option maxRecDepth 10000 in
set_option maxHeartbeats 4000000 in
theorem law_long (s : ByteArray) (w : World) (h : 1048576 < s.size) :
    Calls Tryz.prog 6 #[.string s] w fun e w' => e = .returned (.bool true) ∧ Below w.heap.size w w' := by
  have h1 : (1048576 : Int) < (s.size : Int) := by omega
  go_enter Tryz.func6, Tryz.ntmps6
  go_wp2
  go_ret
  exact ⟨rfl, Below.refl _ _⟩

theorem row_kept {w w' : World} {base g cap n k : Nat} {vs : List Value} (h : Row3 w base g cap n vs) (hg : w.grownBy w' (some k)) (hne : g ≠ k) : Row3 w' base g cap n vs := by
  obtain ⟨h1, h2 | ⟨g', cap', cur, hv, hb', hh, h3⟩⟩ := h
  · exact ⟨h1, .inl h2⟩
  · have hq : g' = g := by simp only [Value.slice.injEq, Option.some.injEq, Addr.mk.injEq] at hv; omega
    refine ⟨h1, .inr ⟨g', cap', cur, hv, hb', ?_, h3⟩⟩
    rw [← hh]
    exact hg.block g' (Array.getElem?_eq_some_iff.1 hh).1 (by simp; omega)
theorem row_ops {w : World} {base g cap n : Nat} {xs : List Arg} (hn : n = xs.length) (h : Row3 w base g cap n (opsL xs)) : Ops w g 0 xs := by
  subst hn
  exact OpsOwn.ops h

set_option maxRecDepth 10000 in
set_option maxHeartbeats 4000000 in
theorem law_none (s : ByteArray) (w : World) (hs : s.size ≤ 1048576)
    (HS : Hid (∀ W, Below w.heap.size w W → Calls Tryz.prog 16 #[.string s] W fun e w' => e = .returned (.tuple #[.agg #[.int .i64 0, .slice none 0 0], .bool false]) ∧ Below W.heap.size W w'))
    (HI : Hid (∀ W, Below w.heap.size w W → Calls Tryz.prog 13 #[.string s] W fun e w' => e = .returned (.tuple #[.agg #[.int .i64 0, .slice none 0 0], .bool false]) ∧ Below W.heap.size W w')) :
    Calls Tryz.prog 6 #[.string s] w fun e w' => e = .returned (.bool true) ∧ Below w.heap.size w w' := by
  have h1 : ¬ ((1048576 : Int) < (s.size : Int)) := by omega
  have HE : Hid (∀ W, Calls Tryz.prog 31 #[.agg #[.int .i64 0, .slice none 0 0], .agg #[.int .i64 0, .slice none 0 0]] W fun e w' => e = .returned (.bool true) ∧ Below W.heap.size W w') := fun W => eq_r 0 none none [] 0 0 0 rfl (by omega) W (.inl rfl) (.inl rfl)
  go_enter Tryz.func6, Tryz.ntmps6
  go_wp2_with fail
  refine (HS.out _ (Below.refl _ _)).mono ?_
  rintro e w1 ⟨rfl, g1⟩
  have B1 : Below w.heap.size w (w1.alloc (.cells #[.int .i64 0, .slice none 0 0] 25)) := g1.alloc g1.size _
  have EA : E2 (w1.alloc (.cells #[.int .i64 0, .slice none 0 0] 25)) w1.heap.size (.int .i64 0) (.slice none 0 0) := E2.fresh w1 _ _ _
  have z1 : (w1.alloc (.cells #[.int .i64 0, .slice none 0 0] 25)).heap.size = w1.heap.size + 1 := by simp
  clear g1
  go_wp2_with fail
  generalize (w1.alloc (.cells #[.int .i64 0, .slice none 0 0] 25)) = W1 at B1 EA z1 ⊢
  refine (HI.out W1 B1).mono ?_
  rintro e w2 ⟨rfl, g2⟩
  have B2a := B1.trans (g2.mono B1.size)
  have B2 : Below w.heap.size w (w2.alloc (.cells #[.int .i64 0, .slice none 0 0] 25)) := B2a.alloc B2a.size _
  have EA2 := (EA.later g2).alloc (.cells #[.int .i64 0, .slice none 0 0] 25)
  have EB2 : E2 (w2.alloc (.cells #[.int .i64 0, .slice none 0 0] 25)) w2.heap.size (.int .i64 0) (.slice none 0 0) := E2.fresh w2 _ _ _
  have lA := (EA.later g2).lt
  have z2 : (w2.alloc (.cells #[.int .i64 0, .slice none 0 0] 25)).heap.size = w2.heap.size + 1 := by simp
  clear B1 EA g2 B2a
  obtain ⟨a0, a1, _, _⟩ := id EA2
  obtain ⟨b0, b1, _, _⟩ := id EB2
  go_wp2_with fail
  generalize (w2.alloc (.cells #[.int .i64 0, .slice none 0 0] 25)) = W2 at B2 EA2 EB2 z2 a0 a1 b0 b1 ⊢
  refine (HE.out W2).mono ?_
  rintro e w3 ⟨rfl, g3⟩
  have B3 := B2.trans (g3.mono B2.size)
  have EA3 := EA2.later g3
  have EB3 := EB2.later g3
  clear B2 EA2 EB2 g3 a0 a1 b0 b1
  obtain ⟨b0, b1, _, _⟩ := id EB3
  go_wp2_with fail
  refine (markE_none 0 w3).mono ?_
  rintro e w4 ⟨rfl, g4⟩
  have B4 := B3.trans (g4.mono B3.size)
  have EA4 := EA3.later g4
  have EB4 := EB3.later g4
  clear g4
  clear B3 EA3 EB3 b0 b1
  obtain ⟨b0, b1, _, _⟩ := id EB4
  go_wp2_with fail
  refine (heldE_none 0 w4).mono ?_
  rintro e w5 ⟨rfl, g5⟩
  have B5 := B4.trans (g5.mono B4.size)
  have EA5 := EA4.later g5
  have EB5 := EB4.later g5
  clear B4 EA4 EB4 g5 b0 b1
  go_wp2_with fail
  refine (HI.out w5 B5).mono ?_
  rintro e w6 ⟨rfl, g6⟩
  have B6a := B5.trans (g6.mono B5.size)
  have B6 : Below w.heap.size w (w6.alloc (.cells #[.int .i64 0, .slice none 0 0] 25)) := B6a.alloc B6a.size _
  have EA6 := (EA5.later g6).alloc (.cells #[.int .i64 0, .slice none 0 0] 25)
  have EB6 := (EB5.later g6).alloc (.cells #[.int .i64 0, .slice none 0 0] 25)
  have EC6 : E2 (w6.alloc (.cells #[.int .i64 0, .slice none 0 0] 25)) w6.heap.size (.int .i64 0) (.slice none 0 0) := E2.fresh w6 _ _ _
  clear B5 EA5 EB5 g6 B6a
  obtain ⟨a0, a1, _, _⟩ := id EA6
  obtain ⟨c0, c1, _, _⟩ := id EC6
  go_wp2_with fail
  generalize (w6.alloc (.cells #[.int .i64 0, .slice none 0 0] 25)) = W6 at B6 EA6 EB6 EC6 a0 a1 c0 c1 ⊢
  refine (HE.out W6).mono ?_
  rintro e w7 ⟨rfl, g7⟩
  have B7 := B6.trans (g7.mono B6.size)
  have EB7 := EB6.later g7
  clear B6 EA6 EB6 EC6 g7 a0 a1 c0 c1
  obtain ⟨b0, b1, _, _⟩ := id EB7
  go_wp2_with fail
  refine (heldE_none 0 w7).mono ?_
  rintro e w8 ⟨rfl, g8⟩
  have B8 := B7.trans (g8.mono B7.size)
  clear B7 g8 b0 b1 EB7
  go_wp2
  go_ret
  exact ⟨rfl, B8⟩

set_option maxRecDepth 10000 in
set_option maxHeartbeats 4000000 in
theorem law_some (s : ByteArray) (op : Int) (n : Nat) (xs : List Arg) (w : World) (hs : s.size ≤ 1048576) (hn : n ≤ 1000) (hln : n = xs.length)
    (HS : Hid (∀ W, Below w.heap.size w W → Calls Tryz.prog 16 #[.string s] W fun e w' => ∃ g cap, e = .returned (.tuple #[.agg #[.int .i64 op, .slice (some ⟨g, 0, none⟩) n cap], .bool true]) ∧ Row3 w' W.heap.size g cap n (opsL xs) ∧ Below W.heap.size W w'))
    (HI : Hid (∀ W, Below w.heap.size w W → Calls Tryz.prog 13 #[.string s] W fun e w' => ∃ g cap, e = .returned (.tuple #[.agg #[.int .i64 op, .slice (some ⟨g, 0, none⟩) n cap], .bool true]) ∧ Row3 w' W.heap.size g cap n (opsL xs) ∧ Below W.heap.size W w')) :
    Calls Tryz.prog 6 #[.string s] w fun e w' => e = .returned (.bool true) ∧ Below w.heap.size w w' := by
  have h1 : ¬ ((1048576 : Int) < (s.size : Int)) := by omega
  have HE : Hid (∀ (g g' cap cap' : Nat) W, Ops W g 0 xs → Ops W g' 0 xs → Calls Tryz.prog 31 #[.agg #[.int .i64 op, .slice (some ⟨g, 0, none⟩) n cap], .agg #[.int .i64 op, .slice (some ⟨g', 0, none⟩) n cap']] W fun e w' => e = .returned (.bool true) ∧ Below W.heap.size W w') := fun g g' cap cap' W ha hb => eq_r op _ _ xs n cap cap' hln (by omega) W (.inr ⟨g, 0, rfl, ha⟩) (.inr ⟨g', 0, rfl, hb⟩)
  have HLn : Hid (n = xs.length) := hln
  clear hln
  obtain ⟨K, hK⟩ : ∃ K : Int, 1 + 3 * (n : Int) = K := ⟨_, rfl⟩
  have hK0 : ¬ (K < 0) := by omega
  have HK : Hid (1 + 3 * (n : Int) = K) := hK
  clear hK
  go_enter Tryz.func6, Tryz.ntmps6
  go_wp2_with fail
  refine (HS.out _ (Below.refl _ _)).mono ?_
  rintro e w1 ⟨gs, cs, rfl, os1, g1⟩
  have B1 : Below w.heap.size w (w1.alloc (.cells #[.int .i64 op, .slice (some ⟨gs, 0, none⟩) n cs] 25)) := g1.alloc g1.size _
  have EA : E2 (w1.alloc (.cells #[.int .i64 op, .slice (some ⟨gs, 0, none⟩) n cs] 25)) w1.heap.size (.int .i64 op) (.slice (some ⟨gs, 0, none⟩) n cs) := E2.fresh w1 _ _ _
  have z1 : (w1.alloc (.cells #[.int .i64 op, .slice (some ⟨gs, 0, none⟩) n cs] 25)).heap.size = w1.heap.size + 1 := by simp
  have OS : Row3 (w1.alloc (.cells #[.int .i64 op, .slice (some ⟨gs, 0, none⟩) n cs] 25)) w.heap.size gs cs n (opsL xs) := World.ownsRow.alloc os1 _
  have lgs := os1.lt gs rfl
  clear os1
  clear g1
  go_wp2_with fail
  generalize (w1.alloc (.cells #[.int .i64 op, .slice (some ⟨gs, 0, none⟩) n cs] 25)) = W1 at B1 EA z1 OS ⊢
  refine (HI.out W1 B1).mono ?_
  rintro e w2 ⟨g, cap, rfl, oi, g2⟩
  have B2a := B1.trans (g2.mono B1.size)
  have B2 : Below w.heap.size w (w2.alloc (.cells #[.int .i64 op, .slice (some ⟨g, 0, none⟩) n cap] 25)) := B2a.alloc B2a.size _
  have EA2 := (EA.later g2).alloc (.cells #[.int .i64 op, .slice (some ⟨g, 0, none⟩) n cap] 25)
  have EB2 : E2 (w2.alloc (.cells #[.int .i64 op, .slice (some ⟨g, 0, none⟩) n cap] 25)) w2.heap.size (.int .i64 op) (.slice (some ⟨g, 0, none⟩) n cap) := E2.fresh w2 _ _ _
  have lA := (EA.later g2).lt
  have z2 : (w2.alloc (.cells #[.int .i64 op, .slice (some ⟨g, 0, none⟩) n cap] 25)).heap.size = w2.heap.size + 1 := by simp
  have OS2 : Row3 (w2.alloc (.cells #[.int .i64 op, .slice (some ⟨g, 0, none⟩) n cap] 25)) w.heap.size gs cs n (opsL xs) := World.ownsRow.alloc (owns_later OS g2) _
  have OI2 : Row3 (w2.alloc (.cells #[.int .i64 op, .slice (some ⟨g, 0, none⟩) n cap] 25)) W1.heap.size g cap n (opsL xs) := World.ownsRow.alloc oi _
  have lg := oi.lt g rfl
  rw [z1] at lg OI2
  clear oi OS
  clear B1 EA g2 B2a
  obtain ⟨a0, a1, _, _⟩ := id EA2
  obtain ⟨b0, b1, _, _⟩ := id EB2
  go_wp2_with fail
  generalize (w2.alloc (.cells #[.int .i64 op, .slice (some ⟨g, 0, none⟩) n cap] 25)) = W2 at B2 EA2 EB2 z2 a0 a1 b0 b1 OS2 OI2 ⊢
  refine (HE.out g gs cap cs W2 (row_ops HLn.out OI2) (row_ops HLn.out OS2)).mono ?_
  rintro e w3 ⟨rfl, g3⟩
  have B3 := B2.trans (g3.mono B2.size)
  have EA3 := EA2.later g3
  have EB3 := EB2.later g3
  have OS3 : Row3 w3 w.heap.size gs cs n (opsL xs) := owns_later OS2 g3
  have OI3 : Row3 w3 (w1.heap.size + 1) g cap n (opsL xs) := owns_later OI2 g3
  have z3 := g3.size
  clear B2 EA2 EB2 g3 a0 a1 b0 b1 OS2 OI2
  obtain ⟨b0, b1, _, _⟩ := id EB3
  go_wp2_with fail
  refine (markE_r op (w1.heap.size + 1) g cap n 1 (opsL xs) w3 hn (by omega) (by omega) OI3 (by omega)).mono ?_
  rw [HK.out]
  rintro e w4 ⟨rfl, vs, OI4, mk4, g4⟩
  have B4 : Below w.heap.size w w4 := B3.grown g4 (by have := B3.size; omega) (fun z hz => by simp at hz; omega)
  have EA4 := EA3.grown g4 (by simp; omega)
  have EB4 := EB3.grown g4 (by simp; omega)
  have OS4 : Row3 w4 w.heap.size gs cs n (opsL xs) := row_kept OS3 g4 (by omega)
  have MK : Hid (Marked 1 (n * 3) vs) := mk4
  clear OS3 OI3 g4 mk4
  clear B3 EA3 EB3 b0 b1
  obtain ⟨b0, b1, _, _⟩ := id EB4
  go_wp2_with fail
  refine (heldE_r op (w1.heap.size + 1) g cap n 1 vs w4 hn (by omega) (by omega) OI4 MK.out).mono ?_
  rw [HK.out]
  rintro e w5 ⟨rfl, g5⟩
  have B5 := B4.trans (g5.mono B4.size)
  have EA5 := EA4.later g5
  have EB5 := EB4.later g5
  have OS5 : Row3 w5 w.heap.size gs cs n (opsL xs) := owns_later OS4 g5
  have OI5 : Row3 w5 (w1.heap.size + 1) g cap n vs := owns_later OI4 g5
  clear OS4 OI4
  clear B4 EA4 EB4 g5 b0 b1
  go_wp2_with fail
  refine (HI.out w5 B5).mono ?_
  rintro e w6 ⟨gh, ch, rfl, oh, g6⟩
  have B6a := B5.trans (g6.mono B5.size)
  have B6 : Below w.heap.size w (w6.alloc (.cells #[.int .i64 op, .slice (some ⟨gh, 0, none⟩) n ch] 25)) := B6a.alloc B6a.size _
  have EA6 := (EA5.later g6).alloc (.cells #[.int .i64 op, .slice (some ⟨gh, 0, none⟩) n ch] 25)
  have EB6 := (EB5.later g6).alloc (.cells #[.int .i64 op, .slice (some ⟨gh, 0, none⟩) n ch] 25)
  have EC6 : E2 (w6.alloc (.cells #[.int .i64 op, .slice (some ⟨gh, 0, none⟩) n ch] 25)) w6.heap.size (.int .i64 op) (.slice (some ⟨gh, 0, none⟩) n ch) := E2.fresh w6 _ _ _
  have OS6 : Row3 (w6.alloc (.cells #[.int .i64 op, .slice (some ⟨gh, 0, none⟩) n ch] 25)) w.heap.size gs cs n (opsL xs) := World.ownsRow.alloc (owns_later OS5 g6) _
  have OI6 : Row3 (w6.alloc (.cells #[.int .i64 op, .slice (some ⟨gh, 0, none⟩) n ch] 25)) (w1.heap.size + 1) g cap n vs := World.ownsRow.alloc (owns_later OI5 g6) _
  have OH6 : Row3 (w6.alloc (.cells #[.int .i64 op, .slice (some ⟨gh, 0, none⟩) n ch] 25)) w5.heap.size gh ch n (opsL xs) := World.ownsRow.alloc oh _
  clear OS5 OI5 oh
  clear B5 EA5 EB5 g6 B6a
  obtain ⟨a0, a1, _, _⟩ := id EA6
  obtain ⟨c0, c1, _, _⟩ := id EC6
  go_wp2_with fail
  generalize (w6.alloc (.cells #[.int .i64 op, .slice (some ⟨gh, 0, none⟩) n ch] 25)) = W6 at B6 EA6 EB6 EC6 a0 a1 c0 c1 OS6 OI6 OH6 ⊢
  refine (HE.out gh gs ch cs W6 (row_ops HLn.out OH6) (row_ops HLn.out OS6)).mono ?_
  rintro e w7 ⟨rfl, g7⟩
  have B7 := B6.trans (g7.mono B6.size)
  have EB7 := EB6.later g7
  have OI7 : Row3 w7 (w1.heap.size + 1) g cap n vs := owns_later OI6 g7
  clear B6 EA6 EB6 EC6 g7 a0 a1 c0 c1 OS6 OI6 OH6
  obtain ⟨b0, b1, _, _⟩ := id EB7
  go_wp2_with fail
  refine (heldE_r op (w1.heap.size + 1) g cap n 1 vs w7 hn (by omega) (by omega) OI7 MK.out).mono ?_
  rw [HK.out]
  rintro e w8 ⟨rfl, g8⟩
  have B8 := B7.trans (g8.mono B7.size)
  clear B7 g8 b0 b1 EB7 OI7
  go_wp2
  go_ret
  exact ⟨rfl, B8⟩

/-- The law FnExactElemRead. -/
theorem law_eread (s : ByteArray) (w : World) (hA : Asks w) :
    Calls Tryz.prog 6 #[.string s] w fun e w' => e = .returned (.bool true) ∧ Below w.heap.size w w' := by
  by_cases hs : s.size ≤ 1048576
  · by_cases hx : ∃ op xs, IsEl s op xs
    · obtain ⟨op, xs, hx⟩ := hx
      have hl := rtk_form hx.1
      have hr := row_sort op hl.1
      have conv : ∀ (W : World) (e : Ending) (w' : World), IsERead s W e w' → ∃ g cap, e = .returned (.tuple #[.agg #[.int .i64 op, .slice (some ⟨g, 0, none⟩) xs.length cap], .bool true]) ∧ Row3 w' W.heap.size g cap xs.length (opsL xs) ∧ Below W.heap.size W w' := by
        intro W e w' h
        rcases h with ⟨op', xs', g, cap, he, rfl, ho, hb⟩ | ⟨hno, _, _⟩
        · obtain ⟨rfl, rfl⟩ := etl_inj he.1 hx.1 (he.2.trans hx.2.symm)
          exact ⟨g, cap, rfl, ho, hb⟩
        · exact absurd hx (hno op xs)
      exact law_some s op xs.length xs w hs (by omega) rfl (fun W hW => (eread_s s W hs).mono fun e w' h => conv W e w' h) (fun W hW => (eread_i s W (hA.later hW).t (hA.later hW).m (hA.later hW).h hs).mono fun e w' h => conv W e w' h)
    · have conv : ∀ (W : World) (e : Ending) (w' : World), IsERead s W e w' → e = .returned (.tuple #[.agg #[.int .i64 0, .slice none 0 0], .bool false]) ∧ Below W.heap.size W w' := by
        intro W e w' h
        rcases h with ⟨op', xs', g, cap, he, _, _, _⟩ | ⟨_, he, hb⟩
        · exact absurd ⟨op', xs', he⟩ hx
        · exact ⟨he, hb⟩
      exact law_none s w hs (fun W hW => (eread_s s W hs).mono fun e w' h => conv W e w' h) (fun W hW => (eread_i s W (hA.later hW).t (hA.later hW).m (hA.later hW).h hs).mono fun e w' h => conv W e w' h)
  · exact law_long s w (by omega)
end Go.Proofs.YtjbdcbamkdnjhaaGreatDoor
