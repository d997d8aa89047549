/- The law FnExactElemRead. -/
import Derived.Test.YtjbdcbamkdnjhaaGreatDoorJnM
import Derived.LaidLaws
import Derived.LaidHandle
import Derived.Handed
import Derived.Shelf.Vars
import Derived.Lib.LaidU8
import Derived.Lay
namespace Go.Proofs.YtjbdcbamkdnjhaaGreatDoor
open Go.RowKit Go.Shelf Go.Lib
set_option linter.unusedVariables false

set_option maxHeartbeats 1000000 in
theorem markE_r (op : Int) (base g cap n : Nat) (m : Int) (vs : List Value) (w : World) (hn : n ≤ 1000) (hm0 : 0 ≤ m) (hm1 : m ≤ 1000000) (h : Row3 w base g cap n vs) (hb : base ≤ w.heap.size) :
    Calls Tryz.prog 32 #[.agg #[.int .i64 op, .slice (some ⟨g, 0, none⟩) n cap], .int .i64 m] w fun e w' => e = .returned (.int .i64 (m + 3 * (n : Int))) ∧ ∃ vs', Row3 w' base g cap n vs' ∧ Marked m (n * 3) vs' ∧ w.grownBy w' (some g) := by
  have h1 : Row3 (w.alloc (.cells #[.int .i64 op, .slice (some ⟨g, 0, none⟩) n cap] 25)) base g cap n vs := World.ownsRow.alloc h _
  have HM : Hid (Calls Tryz.prog 87 #[.slice (some ⟨g, 0, none⟩) n cap, .int .i64 m] (w.alloc (.cells #[.int .i64 op, .slice (some ⟨g, 0, none⟩) n cap] 25)) fun e w' => ∃ vs', e = .returned (.int .i64 (m + 3 * (n : Int))) ∧ Row3 w' base g cap n vs' ∧ Marked m (n * 3) vs' ∧ (w.alloc (.cells #[.int .i64 op, .slice (some ⟨g, 0, none⟩) n cap] 25)).grownBy w' (some g)) := mark_r base g cap n m vs _ hn hm0 hm1 h1
  obtain ⟨K, hK⟩ : ∃ K, m + 3 * (n : Int) = K := ⟨_, rfl⟩
  rw [hK] at HM ⊢
  clear hK h1
  go_enter Tryz.func32, Tryz.ntmps32
  go_wp2_with fail
  refine HM.out.mono ?_
  rintro e w1 ⟨vs', rfl, h2, h3, h4⟩
  have h5 : w.grownBy w1 (some g) := gb_step (World.grownBy_alloc w _ (some g)) h4
  clear h4
  go_wp2
  go_ret
  exact ⟨rfl, vs', h2, h3, h5⟩
set_option maxHeartbeats 1000000 in
theorem heldE_r (op : Int) (base g cap n : Nat) (m : Int) (vs : List Value) (w : World) (hn : n ≤ 1000) (hm0 : 0 ≤ m) (hm1 : m ≤ 1000000) (h : Row3 w base g cap n vs) (hv : Marked m (n * 3) vs) :
    Calls Tryz.prog 33 #[.agg #[.int .i64 op, .slice (some ⟨g, 0, none⟩) n cap], .int .i64 m] w fun e w' => e = .returned (.int .i64 (m + 3 * (n : Int))) ∧ Below w.heap.size w w' := by
  have HM : Hid (Calls Tryz.prog 88 #[.slice (some ⟨g, 0, none⟩) n cap, .int .i64 m] (w.alloc (.cells #[.int .i64 op, .slice (some ⟨g, 0, none⟩) n cap] 25)) fun e w' => e = .returned (.int .i64 (m + 3 * (n : Int))) ∧ w' = w.alloc (.cells #[.int .i64 op, .slice (some ⟨g, 0, none⟩) n cap] 25)) := held_r base g cap n m vs _ hn hm0 hm1 (World.ownsRow.alloc h _) hv
  obtain ⟨K, hK⟩ : ∃ K, m + 3 * (n : Int) = K := ⟨_, rfl⟩
  have hK0 : ¬ (K < 0) := by omega
  rw [hK] at HM ⊢
  clear hK
  go_enter Tryz.func33, Tryz.ntmps33
  go_wp2_with fail
  refine HM.out.mono ?_
  rintro e w1 ⟨rfl, rfl⟩
  go_wp2
  go_ret
  exact ⟨rfl, by go_grown⟩
set_option maxHeartbeats 1000000 in
theorem markE_none (op : Int) (w : World) :
    Calls Tryz.prog 32 #[.agg #[.int .i64 op, .slice none 0 0], .int .i64 1] w fun e w' => e = .returned (.int .i64 1) ∧ Below w.heap.size w w' := by
  go_enter Tryz.func32, Tryz.ntmps32
  go_wp2_with fail
  refine (mark_none _ 1).mono ?_
  rintro e w1 ⟨rfl, rfl⟩
  go_wp2
  go_ret
  exact ⟨rfl, by go_grown⟩
set_option maxHeartbeats 1000000 in
theorem heldE_none (op : Int) (w : World) :
    Calls Tryz.prog 33 #[.agg #[.int .i64 op, .slice none 0 0], .int .i64 1] w fun e w' => e = .returned (.int .i64 1) ∧ Below w.heap.size w w' := by
  go_enter Tryz.func33, Tryz.ntmps33
  go_wp2_with fail
  refine (held_none _ 1).mono ?_
  rintro e w1 ⟨rfl, rfl⟩
  go_wp2
  go_ret
  exact ⟨rfl, by go_grown⟩

/-- What is asked of the world. -/
structure Asks (w : World) : Prop where
  t : Tabs w
  m : ML w
  h : EH w
theorem Asks.later {w w' : World} (h : Asks w) (g : Below w.heap.size w w') : Asks w' := ⟨h.t.later g, h.m.later g, h.h.later g⟩

set_option maxRecDepth 10000 in
set_option maxHeartbeats 4000000 in
theorem law_long (s : ByteArray) (w : World) (h : 1048576 < s.size) :
    Calls Tryz.prog 6 #[.string s] w fun e w' => e = .returned (.bool true) ∧ Below w.heap.size w w' := by
  have h1 : (1048576 : Int) < (s.size : Int) := by omega
  go_enter Tryz.func6, Tryz.ntmps6
  go_wp2
  go_ret
  exact ⟨rfl, Below.refl _ _⟩

theorem row_kept {w w' : World} {base g cap n k : Nat} {vs : List Value} (h : Row3 w base g cap n vs) (hg : w.grownBy w' (some k)) (hne : g ≠ k) : Row3 w' base g cap n vs := by
  obtain ⟨h1, h2 | ⟨g', cap', cur, hv, hb', hh, h3⟩⟩ := h
  · exact ⟨h1, .inl h2⟩
  · have hq : g' = g := by simp only [Value.slice.injEq, Option.some.injEq, Addr.mk.injEq] at hv; omega
    refine ⟨h1, .inr ⟨g', cap', cur, hv, hb', ?_, h3⟩⟩
    rw [← hh]
    exact hg.block g' (Array.getElem?_eq_some_iff.1 hh).1 (by simp; omega)
theorem row_ops {w : World} {base g cap n : Nat} {xs : List Arg} (hn : n = xs.length) (h : Row3 w base g cap n (opsL xs)) : Ops w g 0 xs := by
  subst hn
  exact OpsOwn.ops h

set_option maxRecDepth 10000 in
set_option maxHeartbeats 4000000 in
theorem law_none (s : ByteArray) (w : World) (hs : s.size ≤ 1048576)
    (HS : Hid (∀ W, Below w.heap.size w W → Calls Tryz.prog 16 #[.string s] W fun e w' => e = .returned (.tuple #[.agg #[.int .i64 0, .slice none 0 0], .bool false]) ∧ Below W.heap.size W w'))
    (HI : Hid (∀ W, Below w.heap.size w W → Calls Tryz.prog 13 #[.string s] W fun e w' => e = .returned (.tuple #[.agg #[.int .i64 0, .slice none 0 0], .bool false]) ∧ Below W.heap.size W w')) :
    Calls Tryz.prog 6 #[.string s] w fun e w' => e = .returned (.bool true) ∧ Below w.heap.size w w' := by
  have h1 : ¬ ((1048576 : Int) < (s.size : Int)) := by omega
  have HE : Hid (∀ W, Calls Tryz.prog 31 #[.agg #[.int .i64 0, .slice none 0 0], .agg #[.int .i64 0, .slice none 0 0]] W fun e w' => e = .returned (.bool true) ∧ Below W.heap.size W w') := fun W => eq_r 0 none none [] 0 0 0 rfl (by omega) W (.inl rfl) (.inl rfl)
  go_enter Tryz.func6, Tryz.ntmps6
  go_wp2_with fail
  refine (HS.out _ (Below.refl _ _)).mono ?_
  rintro e w1 ⟨rfl, g1⟩
  have B1 : Below w.heap.size w (w1.alloc (.cells #[.int .i64 0, .slice none 0 0] 25)) := g1.alloc g1.size _
  have EA : E2 (w1.alloc (.cells #[.int .i64 0, .slice none 0 0] 25)) w1.heap.size (.int .i64 0) (.slice none 0 0) := E2.fresh w1 _ _ _
  have z1 : (w1.alloc (.cells #[.int .i64 0, .slice none 0 0] 25)).heap.size = w1.heap.size + 1 := by simp
  clear g1
  go_wp2_with fail
  generalize (w1.alloc (.cells #[.int .i64 0, .slice none 0 0] 25)) = W1 at B1 EA z1 ⊢
  refine (HI.out W1 B1).mono ?_
  rintro e w2 ⟨rfl, g2⟩
  have B2a := B1.trans (g2.mono B1.size)
  have B2 : Below w.heap.size w (w2.alloc (.cells #[.int .i64 0, .slice none 0 0] 25)) := B2a.alloc B2a.size _
  have EA2 := (EA.later g2).alloc (.cells #[.int .i64 0, .slice none 0 0] 25)
  have EB2 : E2 (w2.alloc (.cells #[.int .i64 0, .slice none 0 0] 25)) w2.heap.size (.int .i64 0) (.slice none 0 0) := E2.fresh w2 _ _ _
  have lA := (EA.later g2).lt
  have z2 : (w2.alloc (.cells #[.int .i64 0, .slice none 0 0] 25)).heap.size = w2.heap.size + 1 := by simp
  clear B1 EA g2 B2a
  obtain ⟨a0, a1, _, _⟩ := id EA2
  obtain ⟨b0, b1, _, _⟩ := id EB2
  go_wp2_with fail
  generalize (w2.alloc (.cells #[.int .i64 0, .slice none 0 0] 25)) = W2 at B2 EA2 EB2 z2 a0 a1 b0 b1 ⊢
  refine (HE.out W2).mono ?_
  rintro e w3 ⟨rfl, g3⟩
  have B3 := B2.trans (g3.mono B2.size)
  have EA3 := EA2.later g3
  have EB3 := EB2.later g3
  clear B2 EA2 EB2 g3 a0 a1 b0 b1
  obtain ⟨b0, b1, _, _⟩ := id EB3
  go_wp2_with fail
  refine (markE_none 0 w3).mono ?_
  rintro e w4 ⟨rfl, g4⟩
  have B4 := B3.trans (g4.mono B3.size)
  have EA4 := EA3.later g4
  have EB4 := EB3.later g4
  clear g4
  clear B3 EA3 EB3 b0 b1
  obtain ⟨b0, b1, _, _⟩ := id EB4
  go_wp2_with fail
  refine (heldE_none 0 w4).mono ?_
  rintro e w5 ⟨rfl, g5⟩
  have B5 := B4.trans (g5.mono B4.size)
  have EA5 := EA4.later g5
  have EB5 := EB4.later g5
  clear B4 EA4 EB4 g5 b0 b1
  go_wp2_with fail
  refine (HI.out w5 B5).mono ?_
  rintro e w6 ⟨rfl, g6⟩
  have B6a := B5.trans (g6.mono B5.size)
  have B6 : Below w.heap.size w (w6.alloc (.cells #[.int .i64 0, .slice none 0 0] 25)) := B6a.alloc B6a.size _
  have EA6 := (EA5.later g6).alloc (.cells #[.int .i64 0, .slice none 0 0] 25)
  have EB6 := (EB5.later g6).alloc (.cells #[.int .i64 0, .slice none 0 0] 25)
  have EC6 : E2 (w6.alloc (.cells #[.int .i64 0, .slice none 0 0] 25)) w6.heap.size (.int .i64 0) (.slice none 0 0) := E2.fresh w6 _ _ _
  clear B5 EA5 EB5 g6 B6a
  obtain ⟨a0, a1, _, _⟩ := id EA6
  obtain ⟨c0, c1, _, _⟩ := id EC6
  go_wp2_with fail
  generalize (w6.alloc (.cells #[.int .i64 0, .slice none 0 0] 25)) = W6 at B6 EA6 EB6 EC6 a0 a1 c0 c1 ⊢
  refine (HE.out W6).mono ?_
  rintro e w7 ⟨rfl, g7⟩
  have B7 := B6.trans (g7.mono B6.size)
  have EB7 := EB6.later g7
  clear B6 EA6 EB6 EC6 g7 a0 a1 c0 c1
  obtain ⟨b0, b1, _, _⟩ := id EB7
  go_wp2_with fail
  refine (heldE_none 0 w7).mono ?_
  rintro e w8 ⟨rfl, g8⟩
  have B8 := B7.trans (g8.mono B7.size)
  clear B7 g8 b0 b1 EB7
  go_wp2
  go_ret
  exact ⟨rfl, B8⟩

set_option maxRecDepth 10000 in
set_option maxHeartbeats 4000000 in
theorem law_some (s : ByteArray) (op : Int) (n : Nat) (xs : List Arg) (w : World) (hs : s.size ≤ 1048576) (hn : n ≤ 1000) (hln : n = xs.length)
    (HS : Hid (∀ W, Below w.heap.size w W → Calls Tryz.prog 16 #[.string s] W fun e w' => ∃ g cap, e = .returned (.tuple #[.agg #[.int .i64 op, .slice (some ⟨g, 0, none⟩) n cap], .bool true]) ∧ Row3 w' W.heap.size g cap n (opsL xs) ∧ Below W.heap.size W w'))
    (HI : Hid (∀ W, Below w.heap.size w W → Calls Tryz.prog 13 #[.string s] W fun e w' => ∃ g cap, e = .returned (.tuple #[.agg #[.int .i64 op, .slice (some ⟨g, 0, none⟩) n cap], .bool true]) ∧ Row3 w' W.heap.size g cap n (opsL xs) ∧ Below W.heap.size W w')) :
    Calls Tryz.prog 6 #[.string s] w fun e w' => e = .returned (.bool true) ∧ Below w.heap.size w w' := by
  have h1 : ¬ ((1048576 : Int) < (s.size : Int)) := by omega
  have HE : Hid (∀ (g g' cap cap' : Nat) W, Ops W g 0 xs → Ops W g' 0 xs → Calls Tryz.prog 31 #[.agg #[.int .i64 op, .slice (some ⟨g, 0, none⟩) n cap], .agg #[.int .i64 op, .slice (some ⟨g', 0, none⟩) n cap']] W fun e w' => e = .returned (.bool true) ∧ Below W.heap.size W w') := fun g g' cap cap' W ha hb => eq_r op _ _ xs n cap cap' hln (by omega) W (.inr ⟨g, 0, rfl, ha⟩) (.inr ⟨g', 0, rfl, hb⟩)
  have HLn : Hid (n = xs.length) := hln
  clear hln
  obtain ⟨K, hK⟩ : ∃ K : Int, 1 + 3 * (n : Int) = K := ⟨_, rfl⟩
  have hK0 : ¬ (K < 0) := by omega
  have HK : Hid (1 + 3 * (n : Int) = K) := hK
  clear hK
  go_enter Tryz.func6, Tryz.ntmps6
  go_wp2_with fail
  refine (HS.out _ (Below.refl _ _)).mono ?_
  rintro e w1 ⟨gs, cs, rfl, os1, g1⟩
  have B1 : Below w.heap.size w (w1.alloc (.cells #[.int .i64 op, .slice (some ⟨gs, 0, none⟩) n cs] 25)) := g1.alloc g1.size _
  have EA : E2 (w1.alloc (.cells #[.int .i64 op, .slice (some ⟨gs, 0, none⟩) n cs] 25)) w1.heap.size (.int .i64 op) (.slice (some ⟨gs, 0, none⟩) n cs) := E2.fresh w1 _ _ _
  have z1 : (w1.alloc (.cells #[.int .i64 op, .slice (some ⟨gs, 0, none⟩) n cs] 25)).heap.size = w1.heap.size + 1 := by simp
  have OS : Row3 (w1.alloc (.cells #[.int .i64 op, .slice (some ⟨gs, 0, none⟩) n cs] 25)) w.heap.size gs cs n (opsL xs) := World.ownsRow.alloc os1 _
  have lgs := os1.lt gs rfl
  clear os1
  clear g1
  go_wp2_with fail
  generalize (w1.alloc (.cells #[.int .i64 op, .slice (some ⟨gs, 0, none⟩) n cs] 25)) = W1 at B1 EA z1 OS ⊢
  refine (HI.out W1 B1).mono ?_
  rintro e w2 ⟨g, cap, rfl, oi, g2⟩
  have B2a := B1.trans (g2.mono B1.size)
  have B2 : Below w.heap.size w (w2.alloc (.cells #[.int .i64 op, .slice (some ⟨g, 0, none⟩) n cap] 25)) := B2a.alloc B2a.size _
  have EA2 := (EA.later g2).alloc (.cells #[.int .i64 op, .slice (some ⟨g, 0, none⟩) n cap] 25)
  have EB2 : E2 (w2.alloc (.cells #[.int .i64 op, .slice (some ⟨g, 0, none⟩) n cap] 25)) w2.heap.size (.int .i64 op) (.slice (some ⟨g, 0, none⟩) n cap) := E2.fresh w2 _ _ _
  have lA := (EA.later g2).lt
  have z2 : (w2.alloc (.cells #[.int .i64 op, .slice (some ⟨g, 0, none⟩) n cap] 25)).heap.size = w2.heap.size + 1 := by simp
  have OS2 : Row3 (w2.alloc (.cells #[.int .i64 op, .slice (some ⟨g, 0, none⟩) n cap] 25)) w.heap.size gs cs n (opsL xs) := World.ownsRow.alloc (owns_later OS g2) _
  have OI2 : Row3 (w2.alloc (.cells #[.int .i64 op, .slice (some ⟨g, 0, none⟩) n cap] 25)) W1.heap.size g cap n (opsL xs) := World.ownsRow.alloc oi _
  have lg := oi.lt g rfl
  rw [z1] at lg OI2
  clear oi OS
  clear B1 EA g2 B2a
  obtain ⟨a0, a1, _, _⟩ := id EA2
  obtain ⟨b0, b1, _, _⟩ := id EB2
  go_wp2_with fail
  generalize (w2.alloc (.cells #[.int .i64 op, .slice (some ⟨g, 0, none⟩) n cap] 25)) = W2 at B2 EA2 EB2 z2 a0 a1 b0 b1 OS2 OI2 ⊢
  refine (HE.out g gs cap cs W2 (row_ops HLn.out OI2) (row_ops HLn.out OS2)).mono ?_
  rintro e w3 ⟨rfl, g3⟩
  have B3 := B2.trans (g3.mono B2.size)
  have EA3 := EA2.later g3
  have EB3 := EB2.later g3
  have OS3 : Row3 w3 w.heap.size gs cs n (opsL xs) := owns_later OS2 g3
  have OI3 : Row3 w3 (w1.heap.size + 1) g cap n (opsL xs) := owns_later OI2 g3
  have z3 := g3.size
  clear B2 EA2 EB2 g3 a0 a1 b0 b1 OS2 OI2
  obtain ⟨b0, b1, _, _⟩ := id EB3
  go_wp2_with fail
  refine (markE_r op (w1.heap.size + 1) g cap n 1 (opsL xs) w3 hn (by omega) (by omega) OI3 (by omega)).mono ?_
  rw [HK.out]
  rintro e w4 ⟨rfl, vs, OI4, mk4, g4⟩
  have B4 : Below w.heap.size w w4 := B3.grown g4 (by have := B3.size; omega) (fun z hz => by simp at hz; omega)
  have EA4 := EA3.grown g4 (by simp; omega)
  have EB4 := EB3.grown g4 (by simp; omega)
  have OS4 : Row3 w4 w.heap.size gs cs n (opsL xs) := row_kept OS3 g4 (by omega)
  have MK : Hid (Marked 1 (n * 3) vs) := mk4
  clear OS3 OI3 g4 mk4
  clear B3 EA3 EB3 b0 b1
  obtain ⟨b0, b1, _, _⟩ := id EB4
  go_wp2_with fail
  refine (heldE_r op (w1.heap.size + 1) g cap n 1 vs w4 hn (by omega) (by omega) OI4 MK.out).mono ?_
  rw [HK.out]
  rintro e w5 ⟨rfl, g5⟩
  have B5 := B4.trans (g5.mono B4.size)
  have EA5 := EA4.later g5
  have EB5 := EB4.later g5
  have OS5 : Row3 w5 w.heap.size gs cs n (opsL xs) := owns_later OS4 g5
  have OI5 : Row3 w5 (w1.heap.size + 1) g cap n vs := owns_later OI4 g5
  clear OS4 OI4
  clear B4 EA4 EB4 g5 b0 b1
  go_wp2_with fail
  refine (HI.out w5 B5).mono ?_
  rintro e w6 ⟨gh, ch, rfl, oh, g6⟩
  have B6a := B5.trans (g6.mono B5.size)
  have B6 : Below w.heap.size w (w6.alloc (.cells #[.int .i64 op, .slice (some ⟨gh, 0, none⟩) n ch] 25)) := B6a.alloc B6a.size _
  have EA6 := (EA5.later g6).alloc (.cells #[.int .i64 op, .slice (some ⟨gh, 0, none⟩) n ch] 25)
  have EB6 := (EB5.later g6).alloc (.cells #[.int .i64 op, .slice (some ⟨gh, 0, none⟩) n ch] 25)
  have EC6 : E2 (w6.alloc (.cells #[.int .i64 op, .slice (some ⟨gh, 0, none⟩) n ch] 25)) w6.heap.size (.int .i64 op) (.slice (some ⟨gh, 0, none⟩) n ch) := E2.fresh w6 _ _ _
  have OS6 : Row3 (w6.alloc (.cells #[.int .i64 op, .slice (some ⟨gh, 0, none⟩) n ch] 25)) w.heap.size gs cs n (opsL xs) := World.ownsRow.alloc (owns_later OS5 g6) _
  have OI6 : Row3 (w6.alloc (.cells #[.int .i64 op, .slice (some ⟨gh, 0, none⟩) n ch] 25)) (w1.heap.size + 1) g cap n vs := World.ownsRow.alloc (owns_later OI5 g6) _
  have OH6 : Row3 (w6.alloc (.cells #[.int .i64 op, .slice (some ⟨gh, 0, none⟩) n ch] 25)) w5.heap.size gh ch n (opsL xs) := World.ownsRow.alloc oh _
  clear OS5 OI5 oh
  clear B5 EA5 EB5 g6 B6a
  obtain ⟨a0, a1, _, _⟩ := id EA6
  obtain ⟨c0, c1, _, _⟩ := id EC6
  go_wp2_with fail
  generalize (w6.alloc (.cells #[.int .i64 op, .slice (some ⟨gh, 0, none⟩) n ch] 25)) = W6 at B6 EA6 EB6 EC6 a0 a1 c0 c1 OS6 OI6 OH6 ⊢
  refine (HE.out gh gs ch cs W6 (row_ops HLn.out OH6) (row_ops HLn.out OS6)).mono ?_
  rintro e w7 ⟨rfl, g7⟩
  have B7 := B6.trans (g7.mono B6.size)
  have EB7 := EB6.later g7
  have OI7 : Row3 w7 (w1.heap.size + 1) g cap n vs := owns_later OI6 g7
  clear B6 EA6 EB6 EC6 g7 a0 a1 c0 c1 OS6 OI6 OH6
  obtain ⟨b0, b1, _, _⟩ := id EB7
  go_wp2_with fail
  refine (heldE_r op (w1.heap.size + 1) g cap n 1 vs w7 hn (by omega) (by omega) OI7 MK.out).mono ?_
  rw [HK.out]
  rintro e w8 ⟨rfl, g8⟩
  have B8 := B7.trans (g8.mono B7.size)
  clear B7 g8 b0 b1 EB7 OI7
  go_wp2
  go_ret
  exact ⟨rfl, B8⟩

/-- The law FnExactElemRead. -/
theorem law_eread (s : ByteArray) (w : World) (hA : Asks w) :
    Calls Tryz.prog 6 #[.string s] w fun e w' => e = .returned (.bool true) ∧ Below w.heap.size w w' := by
  by_cases hs : s.size ≤ 1048576
  · by_cases hx : ∃ op xs, IsEl s op xs
    · obtain ⟨op, xs, hx⟩ := hx
      have hl := rtk_form hx.1
      have hr := row_sort op hl.1
      have conv : ∀ (W : World) (e : Ending) (w' : World), IsERead s W e w' → ∃ g cap, e = .returned (.tuple #[.agg #[.int .i64 op, .slice (some ⟨g, 0, none⟩) xs.length cap], .bool true]) ∧ Row3 w' W.heap.size g cap xs.length (opsL xs) ∧ Below W.heap.size W w' := by
        intro W e w' h
        rcases h with ⟨op', xs', g, cap, he, rfl, ho, hb⟩ | ⟨hno, _, _⟩
        · obtain ⟨rfl, rfl⟩ := etl_inj he.1 hx.1 (he.2.trans hx.2.symm)
          exact ⟨g, cap, rfl, ho, hb⟩
        · exact absurd hx (hno op xs)
      exact law_some s op xs.length xs w hs (by omega) rfl (fun W hW => (eread_s s W hs).mono fun e w' h => conv W e w' h) (fun W hW => (eread_i s W (hA.later hW).t (hA.later hW).m (hA.later hW).h hs).mono fun e w' h => conv W e w' h)
    · have conv : ∀ (W : World) (e : Ending) (w' : World), IsERead s W e w' → e = .returned (.tuple #[.agg #[.int .i64 0, .slice none 0 0], .bool false]) ∧ Below W.heap.size W w' := by
        intro W e w' h
        rcases h with ⟨op', xs', g, cap, he, _, _, _⟩ | ⟨_, he, hb⟩
        · exact absurd ⟨op', xs', he⟩ hx
        · exact ⟨he, hb⟩
      exact law_none s w hs (fun W hW => (eread_s s W hs).mono fun e w' h => conv W e w' h) (fun W hW => (eread_i s W (hA.later hW).t (hA.later hW).m (hA.later hW).h hs).mono fun e w' h => conv W e w' h)
  · exact law_long s w (by omega)
end Go.Proofs.YtjbdcbamkdnjhaaGreatDoor
/- What the listed variables, the handle and the world's shape give the walks that read elements; the wrap of a law whose walk asks for the shape too. -/
namespace Go.Proofs.YtjbdcbamkdnjhaaGreatDoor
open Go.RowKit Go.Lib
set_option linter.unusedVariables false

theorem ml_of_shape {W : World} (h : W.ShapedOpen Tryz.prog) : ML W :=
  cell_of_shapedOpen_int (t := 3) (zero := #[.int .i64 0]) h (of_decide_eq_true (by kernel_rfl)) (by kernel_rfl) rfl (by kernel_rfl) (by kernel_rfl) Tryz.underlying3
theorem et_named : Tryz.prog.globalNamed "errors.errorType" = some 1 := by kernel_rfl
theorem rt_type : (Tryz.prog.cutTypes.find? (·.1 == "internal/reflectlite.rtype")).map (·.2) = some 222 := by kernel_rfl
theorem err_row : ((List.range 353).filter fun t => Tryz.prog.rowNamed t [101, 114, 114, 111, 114]) = [80] := by kernel_rfl
theorem types_size : Tryz.prog.types.size = 353 := by kernel_rfl
theorem err_name : (Rows.laid_errors_errorType : DataW Unit).handleName? = some [101, 114, 114, 111, 114] := by kernel_rfl
theorem err_nofn : (Rows.laid_errors_errorType : DataW Unit).funcsIn? = none := by kernel_rfl
theorem eh_of_laid {W : World} (h : handlesMet Tryz.prog [("errors.errorType", Rows.laid_errors_errorType)] W) : EH W := by
  have h1 := h _ (List.mem_singleton.2 rfl)
  simp only [err_nofn] at h1
  obtain ⟨name, u, ty, e1, e2, e3, e4, e5⟩ := h1
  obtain rfl := Option.some.inj (err_name.symm.trans e1)
  obtain rfl := Option.some.inj (rt_type.symm.trans e2)
  have hm : ty ∈ (List.range 353).filter fun t => Tryz.prog.rowNamed t [101, 114, 114, 111, 114] := List.mem_filter.2 ⟨List.mem_range.2 (by rw [← types_size]; exact e3), e4⟩
  rw [err_row] at hm
  obtain rfl := List.mem_singleton.1 hm
  have hh : typeHandle Tryz.prog 80 = .pointer (some ⟨12, 80, none⟩) := by kernel_rfl
  rw [hh] at e5
  have := World.var?_cell et_named e5 0
  simpa [EH] using this

/-- The world in which nothing is laid but the handle. -/
noncomputable def handleBase (os : Os) : World :=
  let w0 := World.holding Tryz.prog os ⟨#[], #[], []⟩
  { w0 with heap := w0.heap.modify 1 fun
      | .cells _ t frozen => .cells #[.iface 222 (.agg #[.pointer (some ⟨12, 80, none⟩)])] t frozen
      | o => o }
/-- The handle, and the plain data on a list. -/
noncomputable def handleWorld (os : Os) (plain : List (String × DataW Unit)) : World := (handleBase os).layVars Tryz.prog plain
theorem handleWorld_os (os : Os) (plain : List (String × DataW Unit)) : (handleWorld os plain).os = os := World.layVars_os _ _ _
theorem handleWorld_met {os : Os} {laid : List (String × DataW Unit)} (args : Array Value)
    (hf : (handleBase os).layFits Tryz.prog (laid.filter fun x => x.2.handleName?.isNone) [] = true)
    (hi : (handleBase os).layIfaces Tryz.prog (laid.filter fun x => x.2.handleName?.isNone) (handleWorld os (laid.filter fun x => x.2.handleName?.isNone)) = true)
    (hh : (laid.filter fun x => x.2.handleName?.isSome).all (handleAtB Tryz.prog ((handleWorld os (laid.filter fun x => x.2.handleName?.isNone)).forCall (fun _ _ => 0) ⟨#[], args, []⟩).memory) = true) :
    laidMetH Tryz.prog laid ((handleWorld os (laid.filter fun x => x.2.handleName?.isNone)).forCall (fun _ _ => 0) ⟨#[], args, []⟩).memory := by
  refine laidMetH_of_parts ?_ hh
  generalize (laid.filter fun x => x.2.handleName?.isNone) = pl at hf hi
  have e1 : (pl.filter fun x => (pl.map (·.1)).contains x.1) = pl := List.filter_eq_self.2 fun x hx => List.contains_iff_mem.2 (List.mem_map.2 ⟨x, hx, rfl⟩)
  have e2 : (pl.filter fun x => !(pl.map (·.1)).contains x.1) = [] := List.filter_eq_nil_iff.2 fun x hx => by rw [List.contains_iff_mem.2 (List.mem_map.2 ⟨x, hx, rfl⟩)]; simp
  have h : laidMet Tryz.prog pl (handleWorld os pl) := laidMet_layVars (w0 := handleBase os) (pl.map (·.1)) [] (by rw [e1]; rfl) (by rw [e1]; exact hf) (by rw [e1]; exact hi) (by rw [e2]; exact LaidIn.none)
  exact h.of_heap (by simp [World.memory, World.forCall, Input.heap])

/-- A law's lifted form out of a walk that is handed the world's shape beside what is laid. -/
theorem lift_shaped {H : Type} {enc : TypeId × Value → H} {asm0 : Assume} {C : Checked} {os : Os} {f : FuncId} {fn : Func} {s : ChangeSpec} {cs : List PathCond} {b1 b2 b3 b4 : Bool} {X : World → Array Value → Prop}
    (keep : ∀ (w w' : World) (args : Array Value), w.heap = w'.heap → X w args → X w' args) (own : ownKnob C.prog.godebug = none) (st : os.Started) (ni : C.prog.inits.idxOf? f = none) (hfn : C.prog.funcs[f]? = some fn)
    (wit : ∃ (w : World) (tape : Tape) (i : Input), w.os = os ∧ (w.forCall tape i).Shaped C.prog ∧ i.vars = [] ∧ Input.okWide C.prog (w.forCall tape i) .any w.heap.size f i ∧
      ((s.pre enc C.prog fn cs b1 (w.forCall tape i).memory i.args ∧ X (w.forCall tape i).memory i.args) ∧ sizedMet enc C.prog fn (OpenSpec.ofChange s) b1 (w.forCall tape i).memory i.args) ∧ asm0.holds C.prog (lone (Frame.enter C.prog f i.args .normal) [] (w.forCall tape i)))
    (walk : ∀ (W : World) (base : Nat) (args : Array Value) (ds gs : List (DataW H)) (before : List MemPlace),
      (∀ (j : Nat) t v, fn.params[j]? = some t → args[j]? = some v → Value.okWide C.prog W .any base t v) →
      DataW.Whole enc C.prog fn.params.toList s.vars b1 W args.toList ds gs before → W.ShapedOpen C.prog → X W args →
      Calls C.prog f args W fun e W' => ∃ v, e = .returned v ∧ s.post enc C.prog fn b1 b2 b3 b4 W args v W') :
    ReturnsInHanded asm0 C os f .any (fun w args => (s.pre enc C.prog fn cs b1 w args ∧ X w args) ∧ sizedMet enc C.prog fn (OpenSpec.ofChange s) b1 w args) (s.post enc C.prog fn b1 b2 b3 b4) := by
  refine returnsInHanded_of_calls own st ni wit (fun w tape i _ shape _ ok pre _ => ?_)
  obtain ⟨-, -, -, fn', hfn', -, -, -, -, vals⟩ := ok
  obtain rfl := Option.some.inj (hfn'.symm.trans hfn)
  obtain ⟨⟨⟨ds, gs, before, whole, -⟩, x⟩, -⟩ := pre
  refine (walk (w.forCall tape i) w.heap.size i.args ds gs before vals (DataW.Whole.of_heap (w' := w.forCall tape i) (by rfl) whole) shape (keep _ _ _ (by rfl) x)).mono ?_
  rintro e W' ⟨v, rfl, hp⟩
  exact ChangeSpec.post_blind hp

/-- The law's walk, as the frame calls it. -/
theorem walk_eread (s : ByteArray) (W : World) {X : Prop} (_ : X) (k : KT W) (p : PT W) (t : WT W) (m : ML W) (h : EH W) :
    Calls Tryz.prog 6 #[.string s] W fun e w' => e = .returned (.bool true) ∧ Below W.heap.size W w' := law_eread s W ⟨⟨k, p, t⟩, m, h⟩
end Go.Proofs.YtjbdcbamkdnjhaaGreatDoor
