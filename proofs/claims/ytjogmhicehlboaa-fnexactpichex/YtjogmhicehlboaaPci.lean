/- The law FnExactPicHex. -/
import Derived.Test.YtjogmhicehlboaaPch
namespace Go.Proofs.Ytjogmhicehlboaa
open Go.RowKit Go.Shelf
set_option linter.unusedVariables false

/-- The text of bytes: empty, if there are too many. -/
def hexT (f : Nat → Nat) (n : Nat) : ByteArray := if n ≤ 20008 then ⟨(hexL f n).toArray⟩ else ⟨#[]⟩

set_option maxHeartbeats 1000000 in
theorem hexT_i (a : Option Addr) (n c : Nat) (f : Nat → Nat) (hf : ∀ j, f j < 256) (w : World) (hn : n ≤ 1048576) (h : Bt w a n f) :
    Calls Try.prog 12 #[.slice a n c] w fun e w' => e = .returned (.string (hexT f n)) ∧ Below w.heap.size w w' := by
  unfold hexT
  split
  · next hl => exact hex_i a n c f hf w hl h
  · next hl =>
    have i9 : (20008 : Int) < (n : Int) := by omega
    clear h hf
    go_enter Try.func12, Try.ntmps12
    go_wp2
    go_ret
    exact ⟨rfl, Below.refl _ _⟩

set_option maxHeartbeats 1000000 in
theorem hexT_s (a : Option Addr) (n c : Nat) (f : Nat → Nat) (hf : ∀ j, f j < 256) (w : World) (hn : n ≤ 1048576) (h : Bt w a n f) :
    Calls Try.prog 14 #[.slice a n c] w fun e w' => e = .returned (.string (hexT f n)) ∧ Below w.heap.size w w' := by
  unfold hexT
  split
  · next hl => exact hex_s a n c f hf w hl h
  · next hl =>
    have i9 : (20008 : Int) < (n : Int) := by omega
    clear h hf
    go_enter Try.func14, Try.ntmps14
    go_wp2
    go_ret
    exact ⟨rfl, Below.refl _ _⟩

set_option maxHeartbeats 1000000 in
theorem law_phex (a : Option Addr) (n c : Nat) (f : Nat → Nat) (hf : ∀ j, f j < 256) (w : World) (hn : n ≤ 1048576) (h : Bt w a n f) :
    Calls Try.prog 6 #[.slice a n c] w fun e w' => e = .returned (.bool true) ∧ Below w.heap.size w w' := by
  have HT : Hid (∀ W, Below w.heap.size w W → Calls Try.prog 17 #[.slice a n c] W fun e w' => e = .returned (.slice (some ⟨W.heap.size, 0, none⟩) n n) ∧ By w' W.heap.size n f ∧ Below W.heap.size W w') := fun W g => to_bytes a n c f W hn (h.later g (Nat.le_refl _))
  have HS : Hid (∀ W g c, By W g n f → Calls Try.prog 14 #[.slice (some ⟨g, 0, none⟩) n c] W fun e w' => e = .returned (.string (hexT f n)) ∧ Below W.heap.size W w') := fun W g c h => hexT_s _ n c f hf W hn h.bt
  have HI : Hid (∀ W g c, By W g n f → Calls Try.prog 12 #[.slice (some ⟨g, 0, none⟩) n c] W fun e w' => e = .returned (.string (hexT f n)) ∧ Below W.heap.size W w') := fun W g c h => hexT_i _ n c f hf W hn h.bt
  have HE : Hid (∀ W g1 g2 c1 c2, By W g1 n f → By W g2 n f → Calls Try.prog 18 #[.slice (some ⟨g1, 0, none⟩) n c1, .slice (some ⟨g2, 0, none⟩) n c2] W fun e w' => e = .returned (.bool true) ∧ Below W.heap.size W w') := fun W g1 g2 c1 c2 h1 h2 => eq_bytes _ _ n c1 c2 f W h1.bt h2.bt hn
  obtain ⟨V, HV⟩ : ∃ V : ByteArray, Hid (V = hexT f n) := ⟨_, rfl⟩
  rw [← HV.out] at HS HI
  have i1 : ¬ ((1048576 : Int) < (n : Int)) := by omega
  have b0 : Hid (Below w.heap.size w w) := Below.refl _ _
  clear h hf hn
  go_enter Try.func6, Try.ntmps6
  go_wp2_with fail
  refine (HT.out _ b0.out).mono ?_
  rintro e w1 ⟨rfl, r1, g1⟩
  have b1 : Hid (Below w.heap.size w w1) := g1
  clear g1
  go_wp2_with fail
  refine (HS.out _ _ _ r1).mono ?_
  rintro e w1' ⟨rfl, gs⟩
  have b1' : Hid (Below w.heap.size w w1') := b1.out.trans (gs.mono b1.out.size)
  clear gs r1 b1
  go_wp2_with fail
  refine (HT.out _ b1'.out).mono ?_
  rintro e w2 ⟨rfl, r2, g2⟩
  have b2 : Hid (Below w.heap.size w w2) := b1'.out.trans (g2.mono b1'.out.size)
  clear g2 b1'
  go_wp2_with fail
  refine (HI.out _ _ _ r2).mono ?_
  rintro e w2' ⟨rfl, gi⟩
  have b2' : Hid (Below w.heap.size w w2') := b2.out.trans (gi.mono b2.out.size)
  have r2' := r2.later gi r2.lt
  clear gi r2 b2
  go_wp2_with fail
  refine (HT.out _ b2'.out).mono ?_
  rintro e w3 ⟨rfl, r3, g3⟩
  have b3 : Hid (Below w.heap.size w w3) := b2'.out.trans (g3.mono b2'.out.size)
  have r2'' := r2'.later g3 r2'.lt
  clear g3 r2'
  go_wp2_with fail
  refine (HE.out _ _ _ _ _ r2'' r3).mono ?_
  rintro e w4 ⟨rfl, g4⟩
  have b4 := b3.out.trans (g4.mono b3.out.size)
  clear g4
  go_wp2
  go_ret
  exact ⟨rfl, b4⟩

set_option maxHeartbeats 400000 in
theorem walk_phex (a : Option Addr) (len cap : Nat) (zs : List Int) (w : World) (h : IsRow .u8 w a len cap zs) :
    Calls Try.prog 6 #[.slice a len cap] w fun e w' => e = .returned (.bool true) ∧ Below w.heap.size w w' := by
  obtain ⟨hm, f, hf, hb⟩ := h.bt
  by_cases hl : len ≤ 1048576
  · exact law_phex a len cap f hf w hl hb
  · unfold maxLen at hm
    have i1 : (1048576 : Int) < (len : Int) := by omega
    clear h hb
    go_enter Try.func6, Try.ntmps6
    go_wp2
    go_ret
    exact ⟨rfl, Below.refl _ _⟩
end Go.Proofs.Ytjogmhicehlboaa
