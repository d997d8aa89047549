/- PicBytes of the specification. -/
import Derived.Test.YtjogmhicehlboaaPck
namespace Go.Proofs.Ytjogmhicehlboaa
open Go.RowKit Go.Shelf
set_option linter.unusedVariables false

set_option maxHeartbeats 400000 in
theorem digit_s (c : UInt8) (w : World) :
    Calls Try.prog 31 #[.int .u8 c.toNat] w fun e w' => e = .returned (.int .i64 (dv c)) ∧ w = w' := by
  have hc := c.toNat_lt
  obtain ⟨n, hn⟩ : ∃ n, c.toNat = n := ⟨_, rfl⟩
  have hd : dv c = if 48 ≤ n ∧ n ≤ 57 then (n : Int) - 48 else if 97 ≤ n ∧ n ≤ 102 then (n : Int) - 87 else -1 := by unfold dv; rw [hn]
  rw [hd]
  rw [hn] at hc ⊢
  clear hd hn
  by_cases h1 : 48 ≤ n ∧ n ≤ 57
  · rw [if_pos h1]
    obtain ⟨h1, h2⟩ := h1
    have HV : Hid ((n : Int) - 48 = (n : Int) - 48) := rfl
    go_enter Try.func31, Try.ntmps31
    go_wp2
    go_ret
    exact ⟨rfl, rfl⟩
  · rw [if_neg h1]
    by_cases h2 : 97 ≤ n ∧ n ≤ 102
    · rw [if_pos h2]
      obtain ⟨h2, h3⟩ := h2
      have k1 : ¬ ((n : Int) ≤ 57) := by omega
      have k2 : (48 : Int) ≤ n := by omega
      have k3 : (97 : Int) ≤ n := by omega
      have k4 : (n : Int) ≤ 102 := by omega
      clear h1
      go_enter Try.func31, Try.ntmps31
      go_wp2
      go_ret
      refine ⟨?_, rfl⟩
      have e : (n : Int) - 97 + 10 = (n : Int) - 87 := by omega
      rw [e]; rfl
    · rw [if_neg h2]
      have h3 : (n : Int) < 48 ∨ (57 < (n : Int) ∧ (n : Int) < 97) ∨ 102 < (n : Int) := by omega
      clear h1 h2
      rcases h3 with h3 | ⟨h3, h4⟩ | h3
      all_goals
        go_enter Try.func31, Try.ntmps31
        go_wp2
        go_ret
        exact ⟨rfl, rfl⟩

set_option maxRecDepth 10000 in
set_option maxHeartbeats 2000000 in
theorem bytes_s (s : ByteArray) (m : Nat) (w : World) (hs : s.size = 2 * m) (hm : m ≤ 20008) :
    Calls Try.prog 16 #[.string s] w fun e w' => PbR s m w e w' := by
  obtain ⟨i0, hi, hz0, hz1, hz2⟩ := info_parts infoU8
  have o1 : (w.alloc (.cells #[] 5)).ownsRow w.heap.size 5 1 (.slice (some ⟨w.heap.size, 0, none⟩) 0 0) 0 (bcs (byP s) 0) := by
    have h := World.ownsRow_made (base := w.heap.size) (e := 5) (size := 1) w #[] 0 (by simp) (by unfold maxLen; omega) (by simp)
    simpa [bcs] using h
  have b0 : Below w.heap.size w (w.alloc (.cells #[] 5)) := (Below.refl _ _).alloc (Nat.le_refl _) _
  have e0 : ((s.size : Int)).tmod 2 = 0 := by rw [hs, Int.tmod_eq_emod_of_nonneg (by omega)]; omega
  have e1 : ¬ ((40016 : Int) < (s.size : Int)) := by omega
  go_enter Try.func16, Try.ntmps16
  go_wp2
  generalize (w.alloc (.cells #[] 5)) = W0 at o1 b0 ⊢
  go_loopw [4, 5, 6, 7] (fun v i _ _ wr => ∃ k : Nat, k ≤ m ∧ i = .int .i64 ((2 * k : Nat) : Int) ∧ Hid (allP s k = true ∧ wr.ownsRow w.heap.size 5 1 v k (bcs (byP s) k) ∧ Below w.heap.size w wr)) (fun _ i _ _ _ => 2 * m - (intOf i).toNat)
  case atStart => exact ⟨0, Nat.zero_le _, rfl, rfl, o1, b0⟩
  case round =>
    obtain ⟨k, hk, rfl, HB⟩ := hrel
    by_cases hlt : k < m
    · have ik : ((2 * k : Nat) : Int) < (s.size : Int) := by omega
      have ik1 : ((2 * k : Nat) : Int) + 1 < (s.size : Int) := by omega
      obtain ⟨D0, hD0, HD0⟩ : ∃ D, dv (s[2 * k]'(by omega)) = D ∧ Hid (D = dn s (2 * k)) := ⟨_, rfl, by show _ = _; unfold dn; rw [at_s]⟩
      obtain ⟨D1, hD1, HD1⟩ : ∃ D, dv (s[2 * k + 1]'(by omega)) = D ∧ Hid (D = dn s (2 * k + 1)) := ⟨_, rfl, by show _ = _; unfold dn; rw [at_s]⟩
      have bd0 : -1 ≤ D0 ∧ D0 ≤ 15 := by rw [← hD0]; exact dv_bd _
      have bd1 : -1 ≤ D1 ∧ D1 ≤ 15 := by rw [← hD1]; exact dv_bd _
      have HI0 : Hid (∀ W h, Calls Try.prog 31 #[.int .u8 (s[2 * k]'h).toNat] W fun e w' => e = .returned (.int .i64 D0) ∧ W = w') := fun W h => by rw [← hD0]; exact digit_s _ W
      have HI1 : Hid (∀ W h, Calls Try.prog 31 #[.int .u8 (s[2 * k + 1]'h).toNat] W fun e w' => e = .returned (.int .i64 D1) ∧ W = w') := fun W h => by rw [← hD1]; exact digit_s _ W
      clear hD0 hD1
      go_wp2_with fail
      refine (HI0.out _ _).mono ?_
      rintro e w1 ⟨rfl, rfl⟩
      go_wp2_with fail
      refine (HI1.out _ _).mono ?_
      rintro e w1 ⟨rfl, rfl⟩
      by_cases n0 : D0 < 0
      · have HN : Hid (PbR s m w (.returned (.tuple #[.slice none 0 0, .bool false])) wr) := pbR_no (allP_no (k := k) (by unfold gdP; rw [← HD0.out, ← HD1.out]; simp; omega) m hlt) HB.out.2.2
        clear HI0 HI1 HB HD0 HD1
        go_wp2
        go_ret2
        exact HN.out
      · by_cases n1 : D1 < 0
        · have HN : Hid (PbR s m w (.returned (.tuple #[.slice none 0 0, .bool false])) wr) := pbR_no (allP_no (k := k) (by unfold gdP; rw [← HD0.out, ← HD1.out]; simp [n1]) m hlt) HB.out.2.2
          clear HI0 HI1 HB HD0 HD1
          go_wp2
          go_ret2
          exact HN.out
        · clear HI0 HI1
          obtain ⟨V, hV, HV⟩ : ∃ V : Int, D0 * 16 + D1 = V ∧ Hid (V = (byP s k : Nat)) := ⟨_, rfl, by
            show _ = _
            unfold byP
            rw [← HD0.out, ← HD1.out]
            omega⟩
          have HG : Hid (gdP s k = true) := (by unfold gdP; rw [← HD0.out, ← HD1.out]; simp; omega : gdP s k = true)
          have j0 : 0 ≤ D0 := by omega
          have j1 : 0 ≤ D1 := by omega
          clear HD0 HD1
          go_wp2_with (at_builtin; refine wpList_append_lies _ rfl _ _ 22 rfl w.heap.size 5 i0 (.int .u8 0) 1 1 Try.underlying22 hi hz0 hz1 hz2 rfl (by decide) _ k (bcs (byP s) k) rfl (HB.out.2.1.alloc _) ⟨wr.heap.size, 0, none⟩ 1 1 [.int .u8 V] rfl rfl (cell_one_new _ _ _) ?c2 (by decide) ?c3 ?c4 ?c5 _ rfl ?_)
          case c2 => intro u hu; simp at hu; subst hu; rfl
          case c3 => unfold maxLen; omega
          case c4 => omega
          case c5 => have := HB.out.2.2.size; simp; omega
          intro g' cap' w2 hown' hgrow hat hlt'
          have HF : Hid (allP s (k + 1) = true ∧ w2.ownsRow w.heap.size 5 1 (.slice (some ⟨g', 0, none⟩) (k + 1) cap') (k + 1) (bcs (byP s) (k + 1)) ∧ Below w.heap.size w w2) := by
            refine ⟨by unfold allP; rw [HB.out.1, HG.out]; rfl, ?_, ?_⟩
            · have e : bcs (byP s) (k + 1) = bcs (byP s) k ++ [.int .u8 V] := by rw [HV.out]; rfl
              rw [e]
              exact hown'
            · have hz := HB.out.2.2.size
              exact (HB.out.2.2.alloc hz _).grown hgrow (by simp; omega) (fun j hj => (HB.out.2.1.lt j hj).1)
          clear hown' hgrow hat hlt' HB
          go_wp2
          go_roundw
          case rel => exact ⟨k + 1, by omega, by go_num, HF⟩
          case measure => simp [intOf]; omega
    · have hkn : k = m := by omega
      subst hkn
      obtain ⟨a, c, rfl, ho⟩ := ob_of HB.out.2.1
      have HN : Hid (PbR s k w (.returned (.tuple #[.slice a k c, .bool true])) wr) := ⟨a, c, by rw [HB.out.1]; rfl, by rw [HB.out.1]; exact ho, HB.out.2.2⟩
      clear HB ho
      go_wp2
      go_ret2
      exact HN.out
end Go.Proofs.Ytjogmhicehlboaa
