/- The law FnExactPicSum. -/
import Derived.Test.YtjogmhicehlboaaPce
namespace Go.Proofs.Ytjogmhicehlboaa
open Go.RowKit
set_option linter.unusedVariables false

/-- A slice of integers that came in: nil, or a row of its capacity's cells. -/
def IsRow (k : IntKind) (w : World) (a : Option Addr) (len cap : Nat) (zs : List Int) : Prop :=
  (a = none ∧ len = 0 ∧ cap = 0 ∧ zs = []) ∨
  ∃ x, a = some x ∧ len ≤ cap ∧ cap ≤ maxLen ∧ zs.length = cap ∧ (∀ i, i < zs.length → w.cell? (x.add i) = some (.int k (zs.getD i 0))) ∧ ∀ n ∈ zs, (Lit.int k n).wf = true

/-- Bytes that came in. -/
theorem IsRow.bt {w : World} {a : Option Addr} {len cap : Nat} {zs : List Int} (h : IsRow .u8 w a len cap zs) : len ≤ maxLen ∧ ∃ f : Nat → Nat, (∀ j, f j < 256) ∧ Bt w a len f := by
  rcases h with ⟨rfl, rfl, rfl, rfl⟩ | ⟨x, rfl, h1, h2, h3, hc, hw⟩
  · exact ⟨Nat.zero_le _, fun _ => 0, fun _ => by show 0 < 256; omega, .inl rfl⟩
  · refine ⟨by omega, fun j => (zs.getD j 0).toNat % 256, fun j => Nat.mod_lt _ (by decide), ?_⟩
    by_cases h0 : len = 0
    · exact .inl h0
    · obtain ⟨b, off, spot⟩ := x
      have hc0 := hc 0 (by omega)
      have hspot : spot = none := by simpa [Addr.add] using World.cell?_spot hc0
      subst hspot
      have hlt := World.block_lt_of_cell? _ _ hc0
      refine .inr ⟨b, off, rfl, by simpa [Addr.add] using hlt, fun j hj => ?_⟩
      have h := hc j (by omega)
      have hm : zs.getD j 0 ∈ zs := by
        rw [List.getD_eq_getElem?_getD, List.getElem?_eq_getElem (by omega)]
        exact List.getElem_mem (by omega)
      have hb := bounds_u8 (hw _ hm)
      have e1 : (((zs.getD j 0).toNat % 256 : Nat) : Int) = zs.getD j 0 := by omega
      rw [e1]
      by_cases e : j = 0
      · subst e; simpa [Addr.add] using h
      · simpa [Addr.add, e] using h

set_option maxHeartbeats 1000000 in
theorem law_psum (a : Option Addr) (n c : Nat) (f : Nat → Nat) (hf : ∀ j, f j < 256) (w : World) (hn : n ≤ 1048576) (h : Bt w a n f) :
    Calls Try.prog 5 #[.slice a n c] w fun e w' => e = .returned (.bool true) ∧ Below w.heap.size w w' := by
  have HT : Hid (∀ W, Below w.heap.size w W → Calls Try.prog 17 #[.slice a n c] W fun e w' => e = .returned (.slice (some ⟨W.heap.size, 0, none⟩) n n) ∧ By w' W.heap.size n f ∧ Below W.heap.size W w') := fun W g => to_bytes a n c f W hn (h.later g (Nat.le_refl _))
  have HS : Hid (∀ W g c, By W g n f → Calls Try.prog 10 #[.slice (some ⟨g, 0, none⟩) n c] W fun e w' => e = .returned (.int .u16 (sumF f n : Nat)) ∧ W = w') := fun W g c h => psum_s _ n c f hf W hn h.bt
  have HI : Hid (∀ W g c, By W g n f → Calls Try.prog 9 #[.slice (some ⟨g, 0, none⟩) n c] W fun e w' => e = .returned (.int .u16 (sumF f n : Nat)) ∧ W = w') := fun W g c h => psum_i _ n c f hf W hn h.bt
  have HE : Hid (∀ W g1 g2 c1 c2, By W g1 n f → By W g2 n f → Calls Try.prog 18 #[.slice (some ⟨g1, 0, none⟩) n c1, .slice (some ⟨g2, 0, none⟩) n c2] W fun e w' => e = .returned (.bool true) ∧ Below W.heap.size W w') := fun W g1 g2 c1 c2 h1 h2 => eq_bytes _ _ n c1 c2 f W h1.bt h2.bt hn
  obtain ⟨V, HV⟩ : ∃ V : Int, Hid (V = (sumF f n : Nat)) := ⟨_, rfl⟩
  rw [← HV.out] at HS HI
  have i1 : ¬ ((1048576 : Int) < (n : Int)) := by omega
  have b0 : Hid (Below w.heap.size w w) := Below.refl _ _
  clear h hf hn
  go_enter Try.func5, Try.ntmps5
  go_wp2_with fail
  refine (HT.out _ b0.out).mono ?_
  rintro e w1 ⟨rfl, r1, g1⟩
  have b1 : Hid (Below w.heap.size w w1) := g1
  have l1 := r1.lt
  clear g1
  go_wp2_with fail
  refine (HS.out _ _ _ r1).mono ?_
  rintro e w1' ⟨rfl, rfl⟩
  go_wp2_with fail
  refine (HT.out _ b1.out).mono ?_
  rintro e w2 ⟨rfl, r2, g2⟩
  have b2 : Hid (Below w.heap.size w w2) := b1.out.trans (g2.mono b1.out.size)
  clear g2 r1
  go_wp2_with fail
  refine (HI.out _ _ _ r2).mono ?_
  rintro e w2' ⟨rfl, rfl⟩
  have i2 : (V != V) = false := by simp
  go_wp2_with fail
  refine (HT.out _ b2.out).mono ?_
  rintro e w3 ⟨rfl, r3, g3⟩
  have b3 : Hid (Below w.heap.size w w3) := b2.out.trans (g3.mono b2.out.size)
  have r2' := r2.later g3 r2.lt
  clear g3 r2
  go_wp2_with fail
  refine (HE.out _ _ _ _ _ r2' r3).mono ?_
  rintro e w4 ⟨rfl, g4⟩
  have b4 := b3.out.trans (g4.mono b3.out.size)
  clear g4
  go_wp2
  go_ret
  exact ⟨rfl, b4⟩

set_option maxHeartbeats 400000 in
theorem walk_psum (a : Option Addr) (len cap : Nat) (zs : List Int) (w : World) (h : IsRow .u8 w a len cap zs) :
    Calls Try.prog 5 #[.slice a len cap] w fun e w' => e = .returned (.bool true) ∧ Below w.heap.size w w' := by
  obtain ⟨hm, f, hf, hb⟩ := h.bt
  by_cases hl : len ≤ 1048576
  · exact law_psum a len cap f hf w hl hb
  · unfold maxLen at hm
    have i1 : (1048576 : Int) < (len : Int) := by omega
    clear h hb
    go_enter Try.func5, Try.ntmps5
    go_wp2
    go_ret
    exact ⟨rfl, Below.refl _ _⟩
end Go.Proofs.Ytjogmhicehlboaa
