/- Calculations with whole numbers: the specification's; the walk of FnExactWholeCalc. -/
import Derived.Test.YtpjpjndichpfaaaC
namespace Go.Proofs.Ytpjpjndichpfaaa
open Go.RowKit
set_option linter.unusedVariables false

set_option maxHeartbeats 1000000 in
theorem spec_wrap (n : Int) (w : World) (h1 : -2147483648 ≤ n) (h2 : n ≤ 2147483647) :
    Calls Try.prog 30 #[.int .i64 n] w fun e w' => e = .returned (.int .i16 (IntKind.i16.wrap n)) ∧ w' = w := by
  have e0 := Int.tmod_add_mul_tdiv n 65536
  have e1 : (n.tmod 65536).natAbs < 65536 := by rw [Int.natAbs_tmod]; exact Nat.mod_lt _ (by decide)
  obtain ⟨t, Ht⟩ : ∃ t, Hid (t = n.tmod 65536) := ⟨_, rfl⟩
  have e2 : n.tmod 65536 = t := Ht.out.symm
  rw [e2] at e0 e1
  have f1 : -65536 < t := by omega
  have f2 : t < 65536 := by omega
  obtain ⟨X, HX⟩ : ∃ X, Hid (X = IntKind.i16.wrap n) := ⟨_, rfl⟩
  rw [← HX.out]
  by_cases c1 : t < -32768
  · have HK : Hid (t + 65536 = X) := by
      have := HX.out
      rw [wrap16] at this
      show t + 65536 = X
      omega
    clear HX e0 e1 Ht
    go_enter Try.func30, Try.ntmps30
    go_wp2
    go_ret
    exact ⟨by rw [← HK.out]; rfl, rfl⟩
  · by_cases c2 : 32767 < t
    · have HK : Hid (t - 65536 = X) := by
        have := HX.out
        rw [wrap16] at this
        show t - 65536 = X
        omega
      clear HX e0 e1 Ht
      go_enter Try.func30, Try.ntmps30
      go_wp2
      go_ret
      exact ⟨by rw [← HK.out]; rfl, rfl⟩
    · have HK : Hid (t = X) := by
        have := HX.out
        rw [wrap16] at this
        show t = X
        omega
      clear HX e0 e1 Ht
      go_enter Try.func30, Try.ntmps30
      go_wp2
      go_ret
      exact ⟨by rw [← HK.out]; rfl, rfl⟩

set_option maxHeartbeats 1000000 in
theorem spec_calc (op a b : Int) (w : World) (ha : -32768 ≤ a ∧ a ≤ 32767) (hb : -32768 ≤ b ∧ b ≤ 32767) :
    Calls Try.prog 17 #[.int .i64 op, .int .i16 a, .int .i16 b] w fun e w' => e = .returned (.tuple #[.int .i16 (wk op a b), .bool (wok op b)]) ∧ w' = w := by
  obtain ⟨m1, m2⟩ := mul_bd ha hb
  obtain ⟨d1, d2⟩ := div_bd (b := b) ha
  obtain ⟨t1, t2⟩ := mod_bd (b := b) ha
  obtain ⟨ha1, ha2⟩ := ha
  obtain ⟨hb1, hb2⟩ := hb
  rcases calc_cases op with h | rfl | rfl | rfl | h | h
  · rw [wk_out op a b h, wok_out op b h]
    have n1 : (op == 1) = false := by simp; omega
    have n2 : (op == 2) = false := by simp; omega
    have n3 : (op == 3) = false := by simp; omega
    have n4 : (op == 4) = false := by simp; omega
    have n5 : (op == 5) = false := by simp; omega
    by_cases h0 : b = 0
    · subst h0
      go_enter Try.func17, Try.ntmps17
      go_wp2
      go_ret2
      exact ⟨rfl, rfl⟩
    · have b0 : (b == 0) = false := by simp [h0]
      go_enter Try.func17, Try.ntmps17
      go_wp2
      go_ret2
      exact ⟨rfl, rfl⟩
  · go_enter Try.func17, Try.ntmps17
    go_wp2_with fail
    refine (spec_wrap (a + b) _ (by omega) (by omega)).mono ?_
    rintro e w1 ⟨rfl, rfl⟩
    go_wp2
    go_ret2
    exact ⟨rfl, rfl⟩
  · go_enter Try.func17, Try.ntmps17
    go_wp2_with fail
    refine (spec_wrap (a - b) _ (by omega) (by omega)).mono ?_
    rintro e w1 ⟨rfl, rfl⟩
    go_wp2
    go_ret2
    exact ⟨rfl, rfl⟩
  · go_enter Try.func17, Try.ntmps17
    go_wp2_with fail
    refine (spec_wrap (a * b) _ (by omega) (by omega)).mono ?_
    rintro e w1 ⟨rfl, rfl⟩
    go_wp2
    go_ret2
    exact ⟨rfl, rfl⟩
  all_goals
    subst h
    by_cases h0 : b = 0
    · subst h0
      clear m1 m2 d1 d2 t1 t2
      go_enter Try.func17, Try.ntmps17
      go_wp2
      go_ret2
      exact ⟨rfl, rfl⟩
    · have b0 : (b == 0) = false := by simp [h0]
      have ek : wk 4 a b = IntKind.i16.wrap (a.tdiv b) := by simp [wk, h0]
      have ek5 : wk 5 a b = IntKind.i16.wrap (a.tmod b) := by simp [wk, h0]
      have eo : wok 4 b = true := by simp [wok, h0]
      have eo5 : wok 5 b = true := by simp [wok, h0]
      first | rw [ek, eo] | rw [ek5, eo5]
      clear ek ek5 eo eo5
      go_enter Try.func17, Try.ntmps17
      go_wp2_with fail
      refine (spec_wrap _ _ (by omega) (by omega)).mono ?_
      rintro e w1 ⟨rfl, rfl⟩
      go_wp2
      go_ret2
      exact ⟨rfl, rfl⟩

theorem bd16 {a : Int} (h : (Lit.int .i16 a).wf = true) : -32768 ≤ a ∧ a ≤ 32767 := by
  simpa [Lit.wf, IntKind.min, IntKind.max, IntKind.signed, IntKind.bits] using h

set_option maxHeartbeats 1000000 in
theorem walk_wcalc (op a b : Int) (w : World) (h0 : (Lit.int .i64 op).wf = true) (h1 : (Lit.int .i16 a).wf = true) (h2 : (Lit.int .i16 b).wf = true) :
    Calls Try.prog 6 #[.int .i64 op, .int .i16 a, .int .i16 b] w fun e w' => e = .returned (.bool true) ∧ Below w.heap.size w w' := by
  have s1 := fun w => spec_calc op a b w (bd16 h1) (bd16 h2)
  have s2 := fun w => impl_calc op a b w (bd16 h1) (bd16 h2)
  clear h0 h1 h2
  generalize wk op a b = r at s1 s2
  generalize wok op b = o at s1 s2
  go_enter Try.func6, Try.ntmps6
  go_wp2_with fail
  refine (s1 _).mono ?_
  rintro e w1 ⟨rfl, rfl⟩
  go_wp2_with fail
  refine (s2 _).mono ?_
  rintro e w2 ⟨rfl, rfl⟩
  go_wp2
  go_ret
  exact ⟨rfl, Below.refl _ _⟩
end Go.Proofs.Ytpjpjndichpfaaa
