/- Writing a stack: the specification's BitText; the law FnExactBitText. -/
import Derived.Test.YtlpeianinlnbeaaK
namespace Go.Proofs.Ytlpeianinlnbeaa
open Go.RowKit
set_option linter.unusedVariables false

theorem cat_mk (l : List UInt8) (c : UInt8) : (⟨l.toArray⟩ : ByteArray) ++ ⟨#[c]⟩ = ⟨(l ++ [c]).toArray⟩ := by
  apply ByteArray.ext
  simp

set_option maxHeartbeats 1000000 in
theorem spec_text_ok (b n : Int) (w : World) (hb0 : 0 ≤ b) (hb1 : b ≤ 65535) (hok : okS 16 b n = true) :
    Calls Try.prog 36 #[.agg #[.int .u16 b, .int .i64 n]] w fun e w' => e = .returned (.string ⟨(tb (bitAt (nb 16 b n) (nn 16 b n)) (nn 16 b n)).toArray⟩) ∧ Below w.heap.size w w' := by
  have hN : nn 16 b n ≤ 16 := nn_le 16 b n
  have HS : Hid (∀ W : World, Calls Try.prog 23 #[.agg #[.int .u16 b, .int .i64 n]] W fun e w' => ∃ v, e = .returned v ∧ RowV w' W.heap.size v (nn 16 b n) (bitAt (nb 16 b n) (nn 16 b n)) ∧ Below W.heap.size W w') := fun W => spec_list16 b n W hb0 hb1
  obtain ⟨N, HN⟩ : ∃ N, Hid (N = nn 16 b n) := ⟨_, rfl⟩
  obtain ⟨f, HF⟩ : ∃ f, Hid (f = bitAt (nb 16 b n) (nn 16 b n)) := ⟨_, rfl⟩
  rw [← HF.out, ← HN.out] at HS
  rw [← HF.out, ← HN.out]
  rw [← HN.out] at hN
  clear HF HN
  go_enter Try.func36, Try.ntmps36
  go_wp2_with fail
  refine (spec_ok b n _ hb0 hb1).mono ?_
  rintro e w1 ⟨rfl, g1⟩
  have a0 : w1.cell? ⟨w.heap.size, 0, none⟩ = some (.int .u16 b) := cell_later g1 (by simp)
  have a1 : w1.cell? ⟨w.heap.size, 1, none⟩ = some (.int .i64 n) := cell_later g1 (by simp)
  have z1 : w.heap.size + 1 ≤ w1.heap.size := by have := g1.size; simpa using this
  have b1 : Below w.heap.size w w1 := ((Below.refl _ _).alloc (Nat.le_refl _) _).trans (g1.mono (by simp))
  clear g1
  go_wp2_with fail
  refine (HS.out _).mono ?_
  rintro e w2 ⟨v, rfl, v2, g2⟩
  have b2 : Below w.heap.size w w2 := b1.trans (g2.mono (by omega))
  clear g2 a0 a1 b1
  obtain ⟨a, cap, rfl, hcell⟩ : ∃ a cap, v = .slice a N cap ∧ ∀ k, k < N → ∃ g, a = some ⟨g, 0, none⟩ ∧ w2.cell? ⟨g, k, none⟩ = some (.bool (f k)) := by
    rcases v2 with ⟨rfl, rfl⟩ | ⟨g, cap, rfl, _, hR⟩
    · exact ⟨none, 0, rfl, fun k hk => by omega⟩
    · exact ⟨_, cap, rfl, fun k hk => ⟨g, rfl, hR.cell k hk⟩⟩
  clear v2
  have HC : Hid (∀ k, k < N → ∃ g, a = some ⟨g, 0, none⟩ ∧ w2.cell? ⟨g, k, none⟩ = some (.bool (f k))) := hcell
  clear hcell
  go_wp2
  go_loop [3, 5] (fun s i => ∃ k : Nat, k ≤ N ∧ i = .int .i64 k ∧ s = .string ⟨(tb f k).toArray⟩) (fun _ i => N - (intOf i).toNat)
  case atStart => exact ⟨0, Nat.zero_le _, rfl, rfl⟩
  case round =>
    obtain ⟨k, hk, rfl, rfl⟩ := hrel
    by_cases hlt : k < N
    · obtain ⟨g, rfl, hc⟩ := HC.out k hlt
      have i1 : (k : Int) < (N : Int) := by omega
      have hsz : (⟨(tb f k).toArray⟩ : ByteArray).size = k + 1 := by
        rw [Lib.size_eq]; simp [tb_length]
      cases hfk : f k with
      | true =>
        rw [hfk] at hc
        have HT : Hid ((⟨(tb f k).toArray⟩ : ByteArray) ++ ⟨#[49]⟩ = ⟨(tb f (k + 1)).toArray⟩) := by
          show _ = _; rw [cat_mk]; simp [tb, hfk]
        go_wp2
        go_round
        case rel => exact ⟨k + 1, by omega, by go_num, by rw [← HT.out]⟩
        case measure => simp [intOf]; omega
      | false =>
        rw [hfk] at hc
        have HT : Hid ((⟨(tb f k).toArray⟩ : ByteArray) ++ ⟨#[48]⟩ = ⟨(tb f (k + 1)).toArray⟩) := by
          show _ = _; rw [cat_mk]; simp [tb, hfk]
        go_wp2
        go_round
        case rel => exact ⟨k + 1, by omega, by go_num, by rw [← HT.out]⟩
        case measure => simp [intOf]; omega
    · have hkN : k = N := by omega
      subst hkN
      go_wp2
      go_ret
      exact ⟨rfl, b2⟩

set_option maxHeartbeats 400000 in
theorem spec_text_no (b n : Int) (w : World) (hb0 : 0 ≤ b) (hb1 : b ≤ 65535) (hok : okS 16 b n = false) :
    Calls Try.prog 36 #[.agg #[.int .u16 b, .int .i64 n]] w fun e w' => e = .returned (.string ⟨#[]⟩) ∧ Below w.heap.size w w' := by
  go_enter Try.func36, Try.ntmps36
  go_wp2_with fail
  refine (spec_ok b n _ hb0 hb1).mono ?_
  rintro e w1 ⟨rfl, g1⟩
  have b1 : Below w.heap.size w w1 := ((Below.refl _ _).alloc (Nat.le_refl _) _).trans (g1.mono (by simp))
  clear g1
  go_wp2
  go_ret
  exact ⟨rfl, b1⟩

set_option maxHeartbeats 1000000 in
theorem law14 (b n : Int) (t : ByteArray) (w : World)
    (hs : Hid (∀ W : World, Calls Try.prog 36 #[.agg #[.int .u16 b, .int .i64 n]] W fun e w' => e = .returned (.string t) ∧ Below W.heap.size W w'))
    (hi : Hid (∀ W : World, Calls Try.prog 34 #[.agg #[.int .u16 b, .int .i64 n]] W fun e w' => e = .returned (.string t) ∧ Below W.heap.size W w')) :
    Calls Try.prog 14 #[.agg #[.int .u16 b, .int .i64 n]] w fun e w' => e = .returned (.bool true) ∧ Below w.heap.size w w' := by
  go_enter Try.func14, Try.ntmps14
  go_wp2_with fail
  refine (to_stack b n _).mono ?_
  rintro e w1 ⟨rfl, g1⟩
  have a0 : w1.cell? ⟨w.heap.size, 0, none⟩ = some (.int .u16 b) := cell_later g1 (by simp)
  have a1 : w1.cell? ⟨w.heap.size, 1, none⟩ = some (.int .i64 n) := cell_later g1 (by simp)
  have z1 : w.heap.size + 1 ≤ w1.heap.size := by have := g1.size; simpa using this
  have b1 : Below w.heap.size w w1 := ((Below.refl _ _).alloc (Nat.le_refl _) _).trans (g1.mono (by simp))
  clear g1
  go_wp2_with fail
  refine (hs.out _).mono ?_
  rintro e w2 ⟨rfl, g2⟩
  have c0 := cell_later g2 a0
  have c1 := cell_later g2 a1
  have b2 : Below w.heap.size w w2 := b1.trans (g2.mono (by omega))
  have z2 : w.heap.size + 1 ≤ w2.heap.size := by have := g2.size; omega
  clear g2 a0 a1 b1 z1
  go_wp2_with fail
  refine (to_stack b n _).mono ?_
  rintro e w3 ⟨rfl, g3⟩
  have b3 : Below w.heap.size w w3 := b2.trans (g3.mono (by omega))
  have z3 : w.heap.size + 1 ≤ w3.heap.size := by have := g3.size; omega
  clear g3 b2 c0 c1
  go_wp2_with fail
  refine (hi.out _).mono ?_
  rintro e w4 ⟨rfl, g4⟩
  have b4 : Below w.heap.size w w4 := b3.trans (g4.mono (by omega))
  clear g4 b3
  go_wp2
  go_ret
  exact ⟨rfl, b4⟩

theorem walk14 (b n : Int) (w : World) (hb : (Lit.int .u16 b).wf = true) (hn : (Lit.int .i64 n).wf = true) :
    Calls Try.prog 14 #[.agg #[.int .u16 b, .int .i64 n]] w fun e w' => e = .returned (.bool true) ∧ Below w.heap.size w w' := by
  have h := bounds_u16 hb
  cases hok : okS 16 b n with
  | true => exact law14 b n _ w (fun W => spec_text_ok b n W h.1 (by omega) hok) (fun W => impl_text_ok b n W h.1 (by omega) hok)
  | false => exact law14 b n _ w (fun W => spec_text_no b n W h.1 (by omega) hok) (fun W => impl_text_no b n W h.1 (by omega) hok)
end Go.Proofs.Ytlpeianinlnbeaa
