/- The law FnExactBitList. -/
import Derived.Test.YtlpeianinlnbeaaB
import Derived.Test.YtlpeianinlnbeaaL
namespace Go.Proofs.Ytlpeianinlnbeaa
open Go.RowKit
set_option linter.unusedVariables false

/-- A list of bits as a value: nil, where it is empty, or a row in new memory. -/
def RowV (w : World) (base : Nat) (v : Value) (n : Nat) (f : Nat → Bool) : Prop :=
  (n = 0 ∧ v = .slice none 0 0) ∨ ∃ g cap, v = .slice (some ⟨g, 0, none⟩) n cap ∧ base ≤ g ∧ Rw w g n f

theorem spec_list16 (b n : Int) (w : World) (h0 : 0 ≤ b) (h1 : b ≤ 65535) :
    Calls Try.prog 23 #[.agg #[.int .u16 b, .int .i64 n]] w fun e w' => ∃ v, e = .returned v ∧ RowV w' w.heap.size v (nn 16 b n) (bitAt (nb 16 b n) (nn 16 b n)) ∧ Below w.heap.size w w' := by
  refine (list_any b n w h0 h1).mono ?_
  rintro e w' ⟨v, rfl, hown, hb⟩
  refine ⟨v, rfl, ?_, hb⟩
  have hl := Ls_length b n
  have hL : Ls b n = (rb (nn 16 b n) (nb 16 b n)).reverse := by rw [← Ls_rev, List.reverse_reverse]
  rcases row_form hown with ⟨rfl, h2⟩ | ⟨g, cap, rfl, hg1, hg2, hc, _, hf⟩
  · exact .inl ⟨by rw [← hl, h2]; rfl, rfl⟩
  · refine .inr ⟨g, cap, by rw [hl], by omega, ⟨fun j hj => hc j _ ?_, hf, hg2⟩⟩
    rw [hL]
    exact rev_get _ _ _ hj

theorem RowV.kept {w w' : World} {base n : Nat} {v : Value} {f : Nat → Bool} {row : Option Nat} (h : RowV w base v n f) (b : w.grownBy w' row) (hr : ∀ j, row = some j → w.heap.size ≤ j ∨ j < base) : RowV w' base v n f := by
  rcases h with ⟨h1, h2⟩ | ⟨g, cap, h1, h2, h3⟩
  · exact .inl ⟨h1, h2⟩
  · exact .inr ⟨g, cap, h1, h2, h3.kept b (fun e => by have := h3.lt; rcases hr g e.symm with h | h <;> omega)⟩

set_option maxHeartbeats 400000 in
theorem eq_nil (g c1 : Nat) (w : World) :
    Calls Try.prog 50 #[.slice (some ⟨g, 0, none⟩) 0 c1, .slice none 0 0] w fun e w' => e = .returned (.bool true) ∧ Below w.heap.size w w' := by
  go_enter Try.func50, Try.ntmps50
  go_wp2
  go_rounds 1
  go_ret
  exact ⟨rfl, Below.refl _ _⟩

theorem eq_any (g n c1 base : Nat) (v : Value) (f : Nat → Bool) (w : World) (h1 : Rw w g n f) (h2 : RowV w base v n f) (hn : n ≤ 1000) :
    Calls Try.prog 50 #[.slice (some ⟨g, 0, none⟩) n c1, v] w fun e w' => e = .returned (.bool true) ∧ Below w.heap.size w w' := by
  rcases h2 with ⟨rfl, rfl⟩ | ⟨g2, cap, rfl, _, h3⟩
  · exact eq_nil g c1 w
  · exact eq_rows g g2 n c1 cap f w h1 h3 hn

set_option maxHeartbeats 1000000 in
theorem law13 (b n : Int) (w : World) (hb0 : 0 ≤ b) (hb1 : b ≤ 65535) :
    Calls Try.prog 13 #[.agg #[.int .u16 b, .int .i64 n]] w fun e w' => e = .returned (.bool true) ∧ Below w.heap.size w w' := by
  have hN : nn 16 b n ≤ 16 := nn_le 16 b n
  have HS : Hid (∀ W : World, Calls Try.prog 23 #[.agg #[.int .u16 b, .int .i64 n]] W fun e w' => ∃ v, e = .returned v ∧ RowV w' W.heap.size v (nn 16 b n) (bitAt (nb 16 b n) (nn 16 b n)) ∧ Below W.heap.size W w') := fun W => spec_list16 b n W hb0 hb1
  have HI : Hid (∀ W : World, Calls Try.prog 21 #[.agg #[.int .u16 b, .int .i64 n]] W fun e w' => ∃ g, e = .returned (.slice (some ⟨g, 0, none⟩) (nn 16 b n) (nn 16 b n)) ∧ W.heap.size ≤ g ∧ Rw w' g (nn 16 b n) (bitAt (nb 16 b n) (nn 16 b n)) ∧ Below W.heap.size W w') := fun W => impl_list b n W hb0 (by omega)
  obtain ⟨N, HN⟩ : ∃ N, Hid (N = nn 16 b n) := ⟨_, rfl⟩
  obtain ⟨f, HF⟩ : ∃ f, Hid (f = bitAt (nb 16 b n) (nn 16 b n)) := ⟨_, rfl⟩
  rw [← HF.out, ← HN.out] at HS HI
  rw [← HN.out] at hN
  clear HF HN
  go_enter Try.func13, Try.ntmps13
  go_wp2_with fail
  refine (to_stack b n _).mono ?_
  rintro e w1 ⟨rfl, g1⟩
  have a0 : w1.cell? ⟨w.heap.size, 0, none⟩ = some (.int .u16 b) := cell_later g1 (by simp)
  have a1 : w1.cell? ⟨w.heap.size, 1, none⟩ = some (.int .i64 n) := cell_later g1 (by simp)
  have z1 : w.heap.size + 1 ≤ w1.heap.size := by have := g1.size; simpa using this
  have b1 : Below w.heap.size w w1 := ((Below.refl _ _).alloc (Nat.le_refl _) _).trans (g1.mono (by simp))
  clear g1
  go_wp2_with fail
  refine (HS.out _).mono ?_
  rintro e w2 ⟨v, rfl, v2, g2⟩
  have c0 := cell_later g2 a0
  have c1 := cell_later g2 a1
  have b2 : Below w.heap.size w w2 := b1.trans (g2.mono (by omega))
  have z2 : w.heap.size + 1 ≤ w2.heap.size := by have := g2.size; omega
  clear g2 a0 a1 b1
  go_wp2_with fail
  refine (to_stack b n _).mono ?_
  rintro e w3 ⟨rfl, g3⟩
  have d0 := cell_later g3 c0
  have d1 := cell_later g3 c1
  have v3 := v2.kept (gb_below g3) (fun j hj => by cases hj)
  have b3 : Below w.heap.size w w3 := b2.trans (g3.mono (by omega))
  have z3 : w.heap.size + 1 ≤ w3.heap.size := by have := g3.size; omega
  clear g3 c0 c1 b2 v2
  go_wp2_with fail
  refine (HI.out _).mono ?_
  rintro e w4 ⟨g, rfl, hg, r4, g4⟩
  have e0 := cell_later g4 d0
  have e1 := cell_later g4 d1
  have v4 := v3.kept (gb_below g4) (fun j hj => by cases hj)
  have b4 : Below w.heap.size w w4 := b3.trans (g4.mono (by omega))
  have z4 : w.heap.size + 1 ≤ w4.heap.size := by have := g4.size; omega
  have vg : ∀ j, some g = some j → w4.heap.size ≤ j ∨ j < w1.heap.size ∨ w3.heap.size ≤ j := fun j hj => by cases hj; right; right; exact hg
  have hvl : RowV w3 w1.heap.size v N f := v3
  clear d0 d1 b3 v3
  go_wp2_with fail
  refine (eq_any g N N _ v f _ r4 v4 (by omega)).mono ?_
  rintro e w5 ⟨rfl, g5⟩
  have f0 := cell_later g5 e0
  have f1 := cell_later g5 e1
  have v5 := v4.kept (gb_below g5) (fun j hj => by cases hj)
  have r5 := r4.later g5 r4.lt
  have b5 : Below w.heap.size w w5 := b4.trans (g5.mono (by omega))
  have z5 : w.heap.size + 1 ≤ w5.heap.size := by have := g5.size; omega
  clear g5 e0 e1 b4 v4 r4 g4
  go_wp2_with fail
  refine (mark_row g N N f _ r5 (by omega)).mono ?_
  rintro e w6 ⟨rfl, r6, g6⟩
  have k0 := g6.cell f0 (by simp; omega)
  have k1 := g6.cell f1 (by simp; omega)
  have v6 : RowV w6 w1.heap.size v N f := by
    rcases v5 with ⟨h1, h2⟩ | ⟨g', cap, h1, h2, h3⟩
    · exact .inl ⟨h1, h2⟩
    · refine .inr ⟨g', cap, h1, h2, h3.kept g6 ?_⟩
      rcases hvl with ⟨_, h5⟩ | ⟨g'', cap', h5, _, h6⟩
      · rw [h5] at h1; cases h1
      · rw [h5] at h1
        cases h1
        have := h6.lt
        simp; omega
  have b6 : Below w.heap.size w w6 := b5.grown g6 (by omega) (fun j hj => by cases hj; omega)
  have z6 : w.heap.size + 1 ≤ w6.heap.size := by have := g6.size; omega
  clear g6 f0 f1 b5 v5 r5 hvl vg
  go_wp2_with fail
  refine (held_row g N N _ r6 (by omega)).mono ?_
  rintro e w7 ⟨rfl, rfl⟩
  have hpos : ¬ (N : Int) + 1 < 0 := by omega
  go_wp2_with fail
  refine (to_stack b n _).mono ?_
  rintro e w8 ⟨rfl, g8⟩
  have v8 := v6.kept (gb_below g8) (fun j hj => by cases hj)
  have r8 := r6.later g8 r6.lt
  have b8 : Below w.heap.size w w8 := b6.trans (g8.mono (by omega))
  have z8 : w.heap.size + 1 ≤ w8.heap.size := by have := g8.size; omega
  clear g8 k0 k1 b6 v6 r6
  go_wp2_with fail
  refine (HI.out _).mono ?_
  rintro e w9 ⟨g', rfl, hg', r9, g9⟩
  have v9 := v8.kept (gb_below g9) (fun j hj => by cases hj)
  have q9 := r8.later g9 r8.lt
  have b9 : Below w.heap.size w w9 := b8.trans (g9.mono (by omega))
  have z9 : w.heap.size + 1 ≤ w9.heap.size := by have := g9.size; omega
  clear g9 b8 v8 r8
  go_wp2_with fail
  refine (eq_any g' N N _ v f _ r9 v9 (by omega)).mono ?_
  rintro e w10 ⟨rfl, g10⟩
  have q10 := q9.later g10 q9.lt
  have b10 : Below w.heap.size w w10 := b9.trans (g10.mono (by omega))
  clear g10 b9 v9 q9 r9
  go_wp2_with fail
  refine (held_row g N N _ q10 (by omega)).mono ?_
  rintro e w11 ⟨rfl, rfl⟩
  go_wp2
  go_ret
  exact ⟨rfl, b10⟩

theorem walk13 (b n : Int) (w : World) (hb : (Lit.int .u16 b).wf = true) (hn : (Lit.int .i64 n).wf = true) :
    Calls Try.prog 13 #[.agg #[.int .u16 b, .int .i64 n]] w fun e w' => e = .returned (.bool true) ∧ Below w.heap.size w w' := by
  have h := bounds_u16 hb
  exact law13 b n w h.1 (by omega)
end Go.Proofs.Ytlpeianinlnbeaa
