/- Walks of the specification's pop, top and turn. -/
import Derived.Test.YtlpeianinlnbeaaT
import Derived.Deep.RegionWith
namespace Go.Proofs.Ytlpeianinlnbeaa
open Go.RowKit
set_option linter.unusedVariables false

theorem list_split (l : List Bool) : l = [] ∨ ∃ l' x, l = l' ++ [x] := by
  rcases List.eq_nil_or_concat l with h | ⟨l', x, h⟩
  · exact .inl h
  · exact .inr ⟨l', x, by simpa using h⟩

set_option maxHeartbeats 1000000 in
theorem spec_pop_empty (b n : Int) (w : World) (hb0 : 0 ≤ b) (hb1 : b ≤ 65535) (h : Ls b n = []) :
    Calls Try.prog 47 #[.agg #[.int .u16 b, .int .i64 n]] w fun e w' => e = .returned (.tuple #[.agg #[.int .u16 0, .int .i64 0], .bool false]) ∧ Below w.heap.size w w' := by
  go_enter Try.func47, Try.ntmps47
  go_wp2_with fail
  refine (list_any b n _ hb0 hb1).mono ?_
  rintro e w1 ⟨v, rfl, hown, g1⟩
  have b1 : Below w.heap.size w w1 := (((Below.refl _ _).alloc (Nat.le_refl _) _).alloc (by simp) _).trans (g1.mono (by simp; omega))
  have s1 : Sk .u16 w1 (w.heap.size + 1) 0 0 := by
    have h := (Sk.fresh .u16 (w.alloc (.cells #[.int .u16 b, .int .i64 n] 25)) 0 0 25).later g1 (by simp)
    simpa using h
  clear g1
  rw [h] at hown
  clear h
  obtain ⟨q0, q1, _, _⟩ := s1.set 0 0
  obtain ⟨c0, c1, f0, f1⟩ := s1
  rcases row_form hown with ⟨rfl, _⟩ | ⟨g, cap, rfl, _⟩
  all_goals
    go_wp2
    exact bodyPost_ret (v := .tuple #[.agg #[.int .u16 0, .int .i64 0], .bool false]) (by simp [results, Try.results47, go_sem, q0, q1]) rfl ⟨rfl, by go_grown⟩

theorem pop_call {l' : List Bool} {m : Nat} {V : Int} {w1 : World} (g cap : Nat) (W : World) (hm : m = l'.length) (hV : V = val (l'.reverse.take 16)) (hl : m ≤ 1000) (hc : ∀ j y, l'[j]? = some y → w1.cell? ⟨g, j, none⟩ = some (.bool y)) (hg : g < w1.heap.size) (hW : Below w1.heap.size w1 W) :
    Calls Try.prog 79 #[.slice (some ⟨g, 0, none⟩) m cap] W fun e w' => e = .returned (.agg #[.int .u16 V, .int .i64 (min m 16 : Nat)]) ∧ Below w1.heap.size w1 w' := by
  subst hm hV
  refine (stack_of l' g cap W hl (fun j y hj => (hW.cell hg).trans (hc j y hj)) (Nat.lt_of_lt_of_le hg hW.size)).mono ?_
  rintro e w' ⟨rfl, hb⟩
  exact ⟨rfl, hW.trans (hb.mono hW.size)⟩

set_option maxHeartbeats 1000000 in
theorem spec_pop_some (b n : Int) (l' : List Bool) (x : Bool) (w : World) (hb0 : 0 ≤ b) (hb1 : b ≤ 65535) (h : Ls b n = l' ++ [x]) :
    Calls Try.prog 47 #[.agg #[.int .u16 b, .int .i64 n]] w fun e w' => e = .returned (.tuple #[.agg #[.int .u16 (val (l'.reverse.take 16)), .int .i64 (min l'.length 16 : Nat)], .bool x]) ∧ Below w.heap.size w w' := by
  have hlen := Ls_len b n
  go_enter Try.func47, Try.ntmps47
  go_wp2_with fail
  refine (list_any b n _ hb0 hb1).mono ?_
  rintro e w1 ⟨v, rfl, hown, g1⟩
  have b1 : Below w.heap.size w w1 := (((Below.refl _ _).alloc (Nat.le_refl _) _).alloc (by simp) _).trans (g1.mono (by simp; omega))
  have s1 : Sk .u16 w1 (w.heap.size + 1) 0 0 := by
    have h := (Sk.fresh .u16 (w.alloc (.cells #[.int .u16 b, .int .i64 n] 25)) 0 0 25).later g1 (by simp)
    simpa using h
  clear g1
  rw [h] at hown hlen
  clear h
  rcases row_form hown with ⟨_, h0⟩ | ⟨g, cap, rfl, hg1, hg2, hc, hcap, _⟩
  · simp at h0
  obtain ⟨m, HM⟩ : ∃ m, Hid (m = l'.length) := ⟨_, rfl⟩
  have hl : (l' ++ [x]).length = m + 1 := by simp [HM.out]
  rw [hl] at hcap hlen ⊢
  clear hl hown
  have hx : w1.cell? ⟨g, m, none⟩ = some (.bool x) := hc m x (by simp [HM.out])
  have HC : Hid (∀ j y, l'[j]? = some y → w1.cell? ⟨g, j, none⟩ = some (.bool y)) := by
    intro j y hj
    exact hc j y (by rw [List.getElem?_append_left (by rcases Nat.lt_or_ge j l'.length with h1 | h1; exact h1; rw [List.getElem?_eq_none h1] at hj; cases hj)]; exact hj)
  clear hc
  have hs1 := s1
  obtain ⟨c0, c1, f0, f1⟩ := s1
  have n1 : g ≠ w.heap.size + 1 := by simp at hg1; omega
  have n2 : w.heap.size + 1 ≠ g := fun e => n1 e.symm
  have i1 : (m : Int) ≤ (cap : Int) := by omega
  have i2 : m ≤ cap := by omega
  have i3 : ((m : Int) + 1 == 0) = false := by simp; omega
  have i4 : IntKind.i64.wrap (m : Int) = m := by rw [IntKind.wrap_i64]; omega
  obtain ⟨V, HV⟩ : ∃ V, Hid (V = val (l'.reverse.take 16)) := ⟨_, rfl⟩
  have HK := fun (W : World) (hW : Below w1.heap.size w1 W) => pop_call (m := m) (V := V) g cap W HM.out HV.out (by omega) HC.out (by omega) hW
  have HK' : Hid (∀ (W : World), Below w1.heap.size w1 W → Calls Try.prog 79 #[.slice (some ⟨g, 0, none⟩) m cap] W fun e w' => e = .returned (.agg #[.int .u16 V, .int .i64 (min m 16 : Nat)]) ∧ Below w1.heap.size w1 w') := HK
  clear HK HC
  go_wp2
  go_region_with (go_at_call 79; refine (HK'.out _ (by first | exact (Below.refl _ _).drew | exact Below.refl _ _)).mono ?_; rintro e w2 ⟨rfl, g2⟩; have hx2 : w2.cell? ⟨g, m, none⟩ = some (.bool x) := cell_later g2 hx; obtain ⟨d0, d1, e0, e1⟩ := hs1.later g2 hs1.lt)
  all_goals
    have b2 : Below w.heap.size w w2 := b1.trans (g2.mono b1.size)
    obtain ⟨q0, q1, _, _⟩ := (⟨d0, d1, e0, e1⟩ : Sk .u16 w2 (w.heap.size + 1) 0 0).set V (min m 16 : Nat)
    clear b1 g2
    go_wp2
    exact bodyPost_ret (v := .tuple #[.agg #[.int .u16 V, .int .i64 (min m 16 : Nat)], .bool x]) (by simp [results, Try.results47, go_sem, q0, q1]) rfl ⟨by rw [HV.out, HM.out], by go_grown⟩
end Go.Proofs.Ytlpeianinlnbeaa
