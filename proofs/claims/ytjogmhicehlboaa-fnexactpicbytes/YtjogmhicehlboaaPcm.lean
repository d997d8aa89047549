/- The law FnExactPicBytes. -/
import Derived.Test.YtjogmhicehlboaaPcl
namespace Go.Proofs.Ytjogmhicehlboaa
open Go.RowKit Go.Shelf
set_option linter.unusedVariables false

/-- What PicBytes answers at any text. -/
def okT (s : ByteArray) : Bool := decide (s.size % 2 = 0) && decide (s.size ≤ 40016) && allP s (s.size / 2)
def lnT (s : ByteArray) : Nat := if okT s then s.size / 2 else 0
def PtR (s : ByteArray) (w : World) (e : Ending) (w' : World) : Prop :=
  ∃ (a : Option Addr) (c : Nat), e = .returned (.tuple #[.slice a (lnT s) c, .bool (okT s)]) ∧ Ob w' w.heap.size a (lnT s) (byP s) ∧ Below w.heap.size w w'
theorem ptR_no {s : ByteArray} {w w' : World} (h : okT s = false) (b : Below w.heap.size w w') : PtR s w (.returned (.tuple #[.slice none 0 0, .bool false])) w' := by
  refine ⟨none, 0, ?_, ?_, b⟩
  · unfold lnT; rw [h]; rfl
  · unfold lnT; rw [h]; exact .inl ⟨rfl, rfl⟩
theorem ptR_of {s : ByteArray} {m : Nat} {w : World} {e : Ending} {w' : World} (hs : s.size = 2 * m) (hm : m ≤ 20008) (h : PbR s m w e w') : PtR s w e w' := by
  have e1 : s.size / 2 = m := by omega
  have e2 : okT s = allP s m := by
    unfold okT
    rw [e1, show decide (s.size % 2 = 0) = true from decide_eq_true (by omega), show decide (s.size ≤ 40016) = true from decide_eq_true (by omega)]
    rfl
  have e3 : lnT s = if allP s m then m else 0 := by unfold lnT; rw [e2, e1]
  obtain ⟨a, c, h1, h2, h3⟩ := h
  exact ⟨a, c, by rw [e3, e2]; exact h1, by rw [e3]; exact h2, h3⟩
theorem lnT_le (s : ByteArray) : lnT s ≤ 20008 := by
  unfold lnT
  split
  · next h => unfold okT at h; simp at h; omega
  · omega

set_option maxHeartbeats 1000000 in
theorem pt_i (s : ByteArray) (w : World) (hs : s.size ≤ 1048576) : Calls Try.prog 13 #[.string s] w fun e w' => PtR s w e w' := by
  by_cases h1 : s.size % 2 = 0
  · by_cases h2 : s.size ≤ 40016
    · exact (bytes_i s (s.size / 2) w (by omega) (by omega)).mono fun e w' h => ptR_of (by omega) (by omega) h
    · have HN : Hid (PtR s w (.returned (.tuple #[.slice none 0 0, .bool false])) w) := ptR_no (by unfold okT; simp; omega) (Below.refl _ _)
      have e0 : ((s.size : Int)).tmod 2 = 0 := by rw [Int.tmod_eq_emod_of_nonneg (by omega)]; omega
      have e1 : (40016 : Int) < (s.size : Int) := by omega
      go_enter Try.func13, Try.ntmps13
      go_wp2
      go_ret2
      exact HN.out
  · have HN : Hid (PtR s w (.returned (.tuple #[.slice none 0 0, .bool false])) w) := ptR_no (by unfold okT; simp [h1]) (Below.refl _ _)
    have e0 : ((s.size : Int)).tmod 2 = 1 := by rw [Int.tmod_eq_emod_of_nonneg (by omega)]; omega
    go_enter Try.func13, Try.ntmps13
    go_wp2
    go_ret2
    exact HN.out

set_option maxHeartbeats 1000000 in
theorem pt_s (s : ByteArray) (w : World) (hs : s.size ≤ 1048576) : Calls Try.prog 16 #[.string s] w fun e w' => PtR s w e w' := by
  by_cases h1 : s.size % 2 = 0
  · by_cases h2 : s.size ≤ 40016
    · exact (bytes_s s (s.size / 2) w (by omega) (by omega)).mono fun e w' h => ptR_of (by omega) (by omega) h
    · have HN : Hid (PtR s w (.returned (.tuple #[.slice none 0 0, .bool false])) w) := ptR_no (by unfold okT; simp; omega) (Below.refl _ _)
      have e0 : ((s.size : Int)).tmod 2 = 0 := by rw [Int.tmod_eq_emod_of_nonneg (by omega)]; omega
      have e1 : (40016 : Int) < (s.size : Int) := by omega
      go_enter Try.func16, Try.ntmps16
      go_wp2
      go_ret2
      exact HN.out
  · have HN : Hid (PtR s w (.returned (.tuple #[.slice none 0 0, .bool false])) w) := ptR_no (by unfold okT; simp [h1]) (Below.refl _ _)
    have e0 : ((s.size : Int)).tmod 2 = 1 := by rw [Int.tmod_eq_emod_of_nonneg (by omega)]; omega
    go_enter Try.func16, Try.ntmps16
    go_wp2
    go_ret2
    exact HN.out

set_option maxHeartbeats 2000000 in
theorem law_pbytes (s : ByteArray) (w : World) (hs : s.size ≤ 1048576) :
    Calls Try.prog 7 #[.string s] w fun e w' => e = .returned (.bool true) ∧ Below w.heap.size w w' := by
  obtain ⟨n, Hn⟩ : ∃ n, Hid (n = lnT s) := ⟨_, rfl⟩
  obtain ⟨ok, Hok⟩ : ∃ b, Hid (b = okT s) := ⟨_, rfl⟩
  obtain ⟨f, Hf⟩ : ∃ f, Hid (f = byP s) := ⟨_, rfl⟩
  have hn : n ≤ 1048576 := by rw [Hn.out]; have := lnT_le s; omega
  have HS : Hid (∀ W, Calls Try.prog 16 #[.string s] W fun e w' => ∃ (a : Option Addr) (c : Nat), e = .returned (.tuple #[.slice a n c, .bool ok]) ∧ Ob w' W.heap.size a n f ∧ Below W.heap.size W w') := fun W => by
    rw [Hn.out, Hok.out, Hf.out]; exact pt_s s W hs
  have HI : Hid (∀ W, Calls Try.prog 13 #[.string s] W fun e w' => ∃ (a : Option Addr) (c : Nat), e = .returned (.tuple #[.slice a n c, .bool ok]) ∧ Ob w' W.heap.size a n f ∧ Below W.heap.size W w') := fun W => by
    rw [Hn.out, Hok.out, Hf.out]; exact pt_i s W hs
  have HE : Hid (∀ W a1 a2 c1 c2, Bt W a1 n f → Bt W a2 n f → Calls Try.prog 18 #[.slice a1 n c1, .slice a2 n c2] W fun e w' => e = .returned (.bool true) ∧ Below W.heap.size W w') := fun W a1 a2 c1 c2 h1 h2 => eq_bytes a1 a2 n c1 c2 f W h1 h2 hn
  have i1 : ¬ ((1048576 : Int) < (s.size : Int)) := by omega
  have Hn2 : Hid (n ≤ 1048576) := hn
  have ib : (ok != ok) = false := by cases ok <;> rfl
  clear hs hn
  go_enter Try.func7, Try.ntmps7
  go_wp2_with fail
  refine (HS.out _).mono ?_
  rintro e w1 ⟨a, c, rfl, r1, g1⟩
  have b1 : Hid (Below w.heap.size w w1) := g1
  have R1 : Hid (Ob w1 w.heap.size a n f) := r1
  have L1 : Hid (∀ g, a = some ⟨g, 0, none⟩ → g < w1.heap.size) := (fun g hg => by
    rcases r1 with ⟨h, _⟩ | ⟨g', h, _, h2⟩
    · rw [h] at hg; cases hg
    · rw [h] at hg; cases hg; exact h2.lt : ∀ g, a = some ⟨g, 0, none⟩ → g < w1.heap.size)
  clear g1 r1
  go_wp2_with fail
  refine (HI.out _).mono ?_
  rintro e w2 ⟨a', c', rfl, r2, g2⟩
  have b2 : Hid (Below w.heap.size w w2) := b1.out.trans (g2.mono b1.out.size)
  have R2 : Hid (Ob w2 w.heap.size a n f) := R1.out.later g2
  have Q2 : Hid (Ob w2 w1.heap.size a' n f) := r2
  have BL : Hid (∀ j, (Value.slice a' n c').ownBlock = some j → w1.heap.size ≤ j) := (fun j hj => by
    rcases r2 with ⟨h, _⟩ | ⟨g', h, h3, _⟩
    · rw [h] at hj; simp [Value.ownBlock] at hj
    · rw [h] at hj; simp [Value.ownBlock] at hj; omega : ∀ j, (Value.slice a' n c').ownBlock = some j → w1.heap.size ≤ j)
  clear g2 r2 R1
  go_wp2_with fail
  refine (HE.out _ _ _ _ _ Q2.out.bt R2.out.bt).mono ?_
  rintro e w3 ⟨rfl, g3⟩
  have b3 : Hid (Below w.heap.size w w3) := b2.out.trans (g3.mono b2.out.size)
  have R3 : Hid (Ob w3 w.heap.size a n f) := R2.out.later g3
  have Q3 : Hid (Ob w3 w1.heap.size a' n f) := Q2.out.later g3
  clear g3 R2 Q2 b2
  go_wp2_with fail
  refine (mark_ob w1.heap.size a' n c' f _ Q3.out Hn2.out).mono ?_
  rintro e w4 ⟨rfl, q4, g4⟩
  have b4 : Hid (Below w.heap.size w w4) := b3.out.grown g4 b3.out.size (fun j hj => by have := BL.out j hj; have := b1.out.size; omega)
  have R4 : Hid (Ob w4 w.heap.size a n f) := R3.out.grown L1.out g4 BL.out
  have Q4 : Hid (Ob w4 w1.heap.size a' n mk8) := q4
  have j1 : ¬ (1 + (n : Int) < 0) := by omega
  have j2 : (1 + (n : Int) != 1 + (n : Int)) = false := by simp
  clear g4 q4 R3 Q3 b3
  go_wp2_with fail
  refine (held_ob w1.heap.size a' n c' _ Q4.out Hn2.out).mono ?_
  rintro e w5 ⟨rfl, g5⟩
  have b5 : Hid (Below w.heap.size w w5) := b4.out.trans (g5.mono b4.out.size)
  have R5 : Hid (Ob w5 w.heap.size a n f) := R4.out.later g5
  have Q5 : Hid (Ob w5 w1.heap.size a' n mk8) := Q4.out.later g5
  clear g5 R4 Q4 b4
  go_wp2_with fail
  refine (HI.out _).mono ?_
  rintro e w6 ⟨a2, c2, rfl, r6, g6⟩
  have b6 : Hid (Below w.heap.size w w6) := b5.out.trans (g6.mono b5.out.size)
  have R6 : Hid (Ob w6 w.heap.size a n f) := R5.out.later g6
  have Q6 : Hid (Ob w6 w1.heap.size a' n mk8) := Q5.out.later g6
  have H6 : Hid (Bt w6 a2 n f) := r6.bt
  clear g6 R5 Q5 b5 r6
  go_wp2_with fail
  refine (HE.out _ _ _ _ _ H6.out R6.out.bt).mono ?_
  rintro e w7 ⟨rfl, g7⟩
  have b7 : Hid (Below w.heap.size w w7) := b6.out.trans (g7.mono b6.out.size)
  have Q7 : Hid (Ob w7 w1.heap.size a' n mk8) := Q6.out.later g7
  clear g7 R6 Q6 b6 H6
  go_wp2_with fail
  refine (held_ob w1.heap.size a' n c' _ Q7.out Hn2.out).mono ?_
  rintro e w8 ⟨rfl, g8⟩
  have b8 := b7.out.trans (g8.mono b7.out.size)
  clear g8 Q7 b7
  go_wp2
  go_ret
  exact ⟨rfl, b8⟩

set_option maxHeartbeats 400000 in
theorem walk_pbytes (s : ByteArray) (w : World) (hs : s.size ≤ maxLen) :
    Calls Try.prog 7 #[.string s] w fun e w' => e = .returned (.bool true) ∧ Below w.heap.size w w' := by
  by_cases hl : s.size ≤ 1048576
  · exact law_pbytes s w hl
  · unfold maxLen at hs
    have i1 : (1048576 : Int) < (s.size : Int) := by omega
    go_enter Try.func7, Try.ntmps7
    go_wp2
    go_ret
    exact ⟨rfl, Below.refl _ _⟩
end Go.Proofs.Ytjogmhicehlboaa
