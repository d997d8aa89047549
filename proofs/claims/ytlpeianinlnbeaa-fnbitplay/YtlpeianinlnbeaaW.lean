/- Walks of the specification's top and turn; what both sides come to is one number. -/
import Derived.Test.YtlpeianinlnbeaaV
import Derived.Test.YtlpeianinlnbeaaU
namespace Go.Proofs.Ytlpeianinlnbeaa
open Go.RowKit
set_option linter.unusedVariables false

set_option maxHeartbeats 1000000 in
theorem spec_top_empty (b n : Int) (w : World) (hb0 : 0 ≤ b) (hb1 : b ≤ 65535) (h : Ls b n = []) :
    Calls Try.prog 48 #[.agg #[.int .u16 b, .int .i64 n]] w fun e w' => e = .returned (.bool false) ∧ Below w.heap.size w w' := by
  go_enter Try.func48, Try.ntmps48
  go_wp2_with fail
  refine (list_any b n _ hb0 hb1).mono ?_
  rintro e w1 ⟨v, rfl, hown, g1⟩
  have b1 : Below w.heap.size w w1 := ((Below.refl _ _).alloc (Nat.le_refl _) _).trans (g1.mono (by simp))
  clear g1
  rw [h] at hown
  clear h
  rcases row_form hown with ⟨rfl, _⟩ | ⟨g, cap, rfl, _⟩
  all_goals
    go_wp2
    go_ret
    exact ⟨rfl, b1⟩

set_option maxHeartbeats 1000000 in
theorem spec_top_some (b n : Int) (l' : List Bool) (x : Bool) (w : World) (hb0 : 0 ≤ b) (hb1 : b ≤ 65535) (h : Ls b n = l' ++ [x]) :
    Calls Try.prog 48 #[.agg #[.int .u16 b, .int .i64 n]] w fun e w' => e = .returned (.bool x) ∧ Below w.heap.size w w' := by
  have hlen := Ls_len b n
  go_enter Try.func48, Try.ntmps48
  go_wp2_with fail
  refine (list_any b n _ hb0 hb1).mono ?_
  rintro e w1 ⟨v, rfl, hown, g1⟩
  have b1 : Below w.heap.size w w1 := ((Below.refl _ _).alloc (Nat.le_refl _) _).trans (g1.mono (by simp))
  clear g1
  rw [h] at hown hlen
  clear h
  rcases row_form hown with ⟨_, h0⟩ | ⟨g, cap, rfl, hg1, hg2, hc, hcap, _⟩
  · simp at h0
  obtain ⟨m, HM⟩ : ∃ m, Hid (m = l'.length) := ⟨_, rfl⟩
  have hl : (l' ++ [x]).length = m + 1 := by simp [HM.out]
  rw [hl] at hcap hlen ⊢
  clear hl hown
  have hx : w1.cell? ⟨g, m, none⟩ = some (.bool x) := hc m x (by simp [HM.out])
  clear hc
  have i1 : (0 : Int) < (m : Int) + 1 := by omega
  go_wp2
  go_ret
  exact ⟨rfl, b1⟩

set_option maxHeartbeats 1000000 in
theorem spec_turn_empty (b n : Int) (y : Bool) (w : World) (hb0 : 0 ≤ b) (hb1 : b ≤ 65535) (h : Ls b n = []) :
    Calls Try.prog 49 #[.agg #[.int .u16 b, .int .i64 n], .bool y] w fun e w' => e = .returned (.agg #[.int .u16 0, .int .i64 0]) ∧ Below w.heap.size w w' := by
  go_enter Try.func49, Try.ntmps49
  go_wp2_with fail
  refine (list_any b n _ hb0 hb1).mono ?_
  rintro e w1 ⟨v, rfl, hown, g1⟩
  have b1 : Below w.heap.size w w1 := (((Below.refl _ _).alloc (Nat.le_refl _) _).alloc (by simp) _).trans (g1.mono (by simp; omega))
  have s1 : Sk .u16 w1 (w.heap.size + 1) 0 0 := by
    have h := (Sk.fresh .u16 (w.alloc (.cells #[.int .u16 b, .int .i64 n] 25)) 0 0 25).later g1 (by simp)
    simpa using h
  clear g1
  rw [h] at hown
  clear h
  obtain ⟨q0, q1, _, _⟩ := s1.set 0 0
  obtain ⟨c0, c1, f0, f1⟩ := s1
  rcases row_form hown with ⟨rfl, _⟩ | ⟨g, cap, rfl, _⟩
  all_goals
    go_wp2
    exact bodyPost_ret (v := .agg #[.int .u16 0, .int .i64 0]) (by simp [results, Try.results49, go_sem, q0, q1]) rfl ⟨rfl, by go_grown⟩

set_option maxHeartbeats 1000000 in
theorem spec_turn_some (b n : Int) (l' : List Bool) (x y : Bool) (w : World) (hb0 : 0 ≤ b) (hb1 : b ≤ 65535) (h : Ls b n = l' ++ [x]) :
    Calls Try.prog 49 #[.agg #[.int .u16 b, .int .i64 n], .bool y] w fun e w' => e = .returned (.agg #[.int .u16 (val ((y :: l'.reverse).take 16)), .int .i64 (min (l'.length + 1) 16 : Nat)]) ∧ Below w.heap.size w w' := by
  have hlen := Ls_len b n
  go_enter Try.func49, Try.ntmps49
  go_wp2_with fail
  refine (list_any b n _ hb0 hb1).mono ?_
  rintro e w1 ⟨v, rfl, hown, g1⟩
  have b1 : Below w.heap.size w w1 := (((Below.refl _ _).alloc (Nat.le_refl _) _).alloc (by simp) _).trans (g1.mono (by simp; omega))
  have s1 : Sk .u16 w1 (w.heap.size + 1) 0 0 := by
    have h := (Sk.fresh .u16 (w.alloc (.cells #[.int .u16 b, .int .i64 n] 25)) 0 0 25).later g1 (by simp)
    simpa using h
  clear g1
  rw [h] at hown hlen
  clear h
  rcases row_form hown with ⟨_, h0⟩ | ⟨g, cap, rfl, hg1, hg2, hc, hcap, hf⟩
  · simp at h0
  obtain ⟨m, HM⟩ : ∃ m, Hid (m = l'.length) := ⟨_, rfl⟩
  have hl : (l' ++ [x]).length = m + 1 := by simp [HM.out]
  rw [hl] at hcap hlen ⊢
  clear hl hown
  have hx : w1.cell? ⟨g, m, none⟩ = some (.bool x) := hc m x (by simp [HM.out])
  have hfm := hf m
  clear hf
  have HC : Hid (∀ j z, (l' ++ [y])[j]? = some z → (w1.setCell ⟨g, m, none⟩ (.bool y)).cell? ⟨g, j, none⟩ = some (.bool z)) := by
    intro j z hj
    by_cases hjm : j = m
    · subst hjm
      have hz : z = y := by simpa [HM.out] using hj.symm
      rw [hz]
      exact World.cell?_setCell_same _ _ _ hx
    · rw [World.cell?_setCell_other _ _ _ _ (by simp)]
      have hjl : j < l'.length := by
        rcases Nat.lt_or_ge j l'.length with h1 | h1
        · exact h1
        · have : (l' ++ [y])[j]? = none := List.getElem?_eq_none (by simp; have := HM.out; omega)
          rw [this] at hj; cases hj
      refine hc j z ?_
      rw [List.getElem?_append_left hjl] at hj ⊢
      exact hj
  clear hc
  have n1 : g ≠ w.heap.size + 1 := by simp at hg1; omega
  have s2 : Sk .u16 (w1.setCell ⟨g, m, none⟩ (.bool y)) (w.heap.size + 1) 0 0 :=
    ⟨(World.cell?_setCell_other _ _ _ _ (by simp)).trans s1.c0, (World.cell?_setCell_other _ _ _ _ (by simp)).trans s1.c1, by simpa using s1.f0, by simpa using s1.f1⟩
  have i3 : ((m : Int) + 1 == 0) = false := by simp; omega
  have hg3 : w.heap.size ≤ g := by simp at hg1; omega
  go_wp2_with fail
  have HL : (l' ++ [y]).length = m + 1 := by simp [HM.out]
  rw [← HL]
  refine (stack_of (l' ++ [y]) g cap _ (by omega) HC.out (by simpa using hg2)).mono ?_
  rintro e w3 ⟨rfl, g3⟩
  have s3 : Sk .u16 w3 (w.heap.size + 1) 0 0 := s2.later g3 s2.lt
  have b3 : Below w.heap.size w w3 := (b1.setCell (p := ⟨g, m, none⟩) hg3 (.bool y)).trans (g3.mono (by simpa using b1.size))
  clear g3 s1 s2 b1 HC hx hfm HL
  have e1 : (l' ++ [y]).reverse = y :: l'.reverse := by simp
  have e2 : (l' ++ [y]).length = l'.length + 1 := by simp
  rw [e1, e2]
  clear e1 e2
  obtain ⟨V, HV⟩ : ∃ V, Hid (V = val ((y :: l'.reverse).take 16)) := ⟨_, rfl⟩
  obtain ⟨M, HN⟩ : ∃ M, Hid (M = min (l'.length + 1) 16) := ⟨_, rfl⟩
  rw [← HV.out, ← HN.out]
  obtain ⟨q0, q1, _, _⟩ := s3.set V M
  obtain ⟨c0, c1, f0, f1⟩ := s3
  go_wp2
  exact bodyPost_ret (v := .agg #[.int .u16 V, .int .i64 M]) (by simp [results, Try.results49, go_sem, q0, q1]) rfl ⟨by rw [HV.out, HN.out], by go_grown⟩

theorem Ls_rev (b n : Int) : (Ls b n).reverse = rb (nn 16 b n) (nb 16 b n) := by
  unfold Ls nn nb
  split <;> simp [rb]
theorem Ls_length (b n : Int) : (Ls b n).length = nn 16 b n := by
  rw [← List.length_reverse, Ls_rev, rb_length]
theorem pow_cap (N K : Nat) (h : N ≤ K) : (2 : Int) ^ N ≤ 2 ^ K := by
  obtain ⟨d, rfl⟩ : ∃ d, K = N + d := ⟨K - N, by omega⟩
  rw [Int.pow_add]
  have h1 : (1 : Int) ≤ 2 ^ d := Int.pow_pos (by decide)
  have h2 : (0 : Int) < 2 ^ N := Int.pow_pos (by decide)
  have h3 : (2 : Int) ^ N * 1 ≤ 2 ^ N * 2 ^ d := Int.mul_le_mul_of_nonneg_left h1 (by omega)
  omega
theorem val_push (x : Bool) (N : Nat) (B : Int) (hN : N ≤ 16) (h0 : 0 ≤ B) (h1 : B < 2 ^ N) : val ((x :: rb N B).take 16) = 2 * B % 65536 + bit01 x := by
  simp only [List.take_succ_cons, val]
  by_cases h : N ≤ 15
  · rw [List.take_of_length_le (by rw [rb_length]; exact h), val_rb _ _ h0, Int.emod_eq_of_lt h0 h1]
    have := pow_cap N 15 h
    have e : (2 : Int) ^ 15 = 32768 := by decide
    omega
  · obtain rfl : N = 16 := by omega
    rw [rb_take 16 B 15 (by decide), val_rb _ _ h0]
    have e : (2 : Int) ^ 15 = 32768 := by decide
    rw [e]; omega
theorem pop_math {l' : List Bool} {x : Bool} {N : Nat} {B : Int} (h : (l' ++ [x]).reverse = rb N B) (hN : N ≤ 16) (h0 : 0 ≤ B) (h1 : B < 2 ^ N) :
    x = (B % 2 == 1) ∧ val (l'.reverse.take 16) = B / 2 ∧ min l'.length 16 = N - 1 ∧ 0 < N ∧ l'.length + 1 = N ∧ ∀ y, val ((y :: l'.reverse).take 16) = 2 * (B / 2) % 65536 + bit01 y := by
  cases N with
  | zero => simp [rb] at h
  | succ K =>
    simp only [List.reverse_append, List.reverse_cons, List.reverse_nil, List.nil_append, List.singleton_append, rb, List.cons.injEq] at h
    obtain ⟨hx, hl⟩ := h
    have hlen : l'.length = K := by rw [← List.length_reverse, hl, rb_length]
    have hd : B / 2 < 2 ^ K := by rw [Int.pow_succ] at h1; omega
    have hv : val (rb K (B / 2)) = B / 2 := by rw [val_rb _ _ (by omega), Int.emod_eq_of_lt (by omega) hd]
    refine ⟨hx, ?_, by omega, by omega, by omega, ?_⟩
    · rw [hl, List.take_of_length_le (by rw [rb_length]; omega), hv]
    · intro y
      rw [hl, List.take_of_length_le (by simp [rb_length]; omega)]
      simp only [val, hv]
      have := pow_cap K 15 (by omega)
      have e : (2 : Int) ^ 15 = 32768 := by decide
      omega
end Go.Proofs.Ytlpeianinlnbeaa
