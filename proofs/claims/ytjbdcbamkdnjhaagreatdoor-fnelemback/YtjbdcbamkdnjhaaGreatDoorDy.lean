/- The walk of the specification's l2Guess. -/
import Derived.Test.YtjbdcbamkdnjhaaGreatDoorDwM
import Derived.Deep.RegionWith
namespace Go.Proofs.YtjbdcbamkdnjhaaGreatDoor
open Go.RowKit
set_option linter.unusedVariables false

theorem ext1 (s : ByteArray) (h : 0 < s.size) : (s.extract 0 1).toList = [s[0]'h] := by
  rw [Lib.extract_toList]
  have h0 : 0 < s.data.toList.length := by rw [← Lib.size_eq]; exact h
  rw [List.drop_zero]
  cases hl : s.data.toList with
  | nil => rw [hl] at h0; simp at h0
  | cons a r =>
    have e : s[0]'h = a := by
      have := drop_at s 0 h
      rw [List.drop_zero, hl] at this
      simp at this
      exact this.symm
    rw [e]
    rfl
theorem cmpF (s : ByteArray) (k : Nat) (h : 0 < s.size) (h1 : 1 ≤ k) (h2 : k ≤ 10) : ((s.extract 0 1).toList == (kL k).toList) = decide (ltr (s[0]'h).toNat = k) := by
  rw [ext1 s h]
  generalize s[0]'h = b
  have key : ∀ (k : Fin 11) (b : Fin 256), 1 ≤ k.val → ([UInt8.ofNat b.val] == (kL (k.val : Nat)).toList) = decide (ltr b.val = k.val) := by decide +kernel
  have := key ⟨k, by omega⟩ ⟨b.toNat, b.toNat_lt⟩ h1
  simpa using this

set_option maxRecDepth 100000 in
set_option maxHeartbeats 4000000 in
theorem sguess_ltr (s : ByteArray) (w : World) (hs : s.size ≤ 1048576) (h0 : 0 < s.size) (hl : ltr (s[0]'h0).toNat ≠ 0) (Hw : Hid (∀ i : Nat, i < 4 → (s.toList == (wd i).toList) = false)) :
    Calls Tryz.prog 204 #[.string s] w fun e w' => e = .returned (.agg #[.int .i64 (ltr (s[0]'h0).toNat), .int .i64 (digS (s.data.toList.drop 1)), .int .i64 0]) ∧ Below w.heap.size w w' := by
  have HC := fun k => cmpF s k h0
  have Hc : Hid (∀ k : Nat, 1 ≤ k → k ≤ 10 → ((s.extract 0 1).toList == (kL k).toList) = decide (ltr (s[0]'h0).toNat = k)) := HC
  clear HC
  have hk10 := ltr_le (s[0]'h0).toNat
  obtain ⟨kk, Hk⟩ : ∃ kk, Hid (kk = ltr (s[0]'h0).toNat) := ⟨_, Eq.refl (ltr (s[0]'h0).toNat)⟩
  rw [← Hk.out] at hl hk10 Hc ⊢
  have HD : Hid (∀ W : World, Calls Tryz.prog 237 #[.string (s.extract 1 s.size)] W fun e w' => e = .returned (.int .i64 (digS (s.data.toList.drop 1))) ∧ w' = W) := fun W => by
    have h := digits_any (s.extract 1 s.size) W (by simp; omega)
    have e : (s.extract 1 s.size).data.toList = s.data.toList.drop 1 := Lib.extract_to_end s 1
    rw [e] at h
    exact h
  obtain ⟨D, HDD⟩ : ∃ D, Hid (D = digS (s.data.toList.drop 1)) := ⟨_, Eq.refl (digS (s.data.toList.drop 1))⟩
  rw [← HDD.out] at HD ⊢
  clear HDD Hk
  have hne : s.toList.isEmpty = false := by
    rw [Lib.toList_data]
    have : 0 < s.data.toList.length := by rw [← Lib.size_eq]; exact h0
    cases hx : s.data.toList with
    | nil => rw [hx] at this; simp at this
    | cons a r => rfl
  have i1 : (1 : Int) ≤ (s.size : Int) := by omega
  go_enter Tryz.func204, Tryz.ntmps204
  go_wp2
  go_loopg [3] 4 (fun g i wr => ∃ n : Nat, n + g = 4 ∧ i = .int .i64 n ∧ A3 wr w.heap.size 0 0 0 ∧ Below w.heap.size w wr)
  case atStart => exact ⟨0, rfl, rfl, A3.fresh w 0 0 0 59, (Below.refl _ _).alloc (Nat.le_refl _) _⟩
  case round =>
    obtain ⟨n, hn, rfl, r1, b1⟩ := hrel
    by_cases hlt : n < 4
    · have hcmp := Hw.out n hlt
      have hlt' : (n : Int) < 4 := by omega
      go_wp2_with fail
      refine (words_b _).mono ?_
      rintro e w1 ⟨rfl, g1, hx⟩
      have hxn := hx n hlt
      have r2 := r1.later g1
      have b2 := b1.trans (g1.mono b1.size)
      clear hx g1 r1 b1
      go_wp2
      go_roundg (gk - 1)
      case measure => omega
      case rel => exact ⟨n + 1, by omega, by go_num, r2, b2⟩
    · clear Hw
      go_wp2
      go_loopg [4] 10 (fun g i wr => ∃ n : Nat, n + g = 11 ∧ i = .int .i64 n ∧ 1 ≤ n ∧ n ≤ kk ∧ A3 wr w.heap.size 0 0 0 ∧ Below w.heap.size w wr)
      case atStart => exact ⟨1, rfl, rfl, by omega, by omega, r1, b1⟩
      case round =>
        clear r1 b1
        obtain ⟨n, hn, rfl, n1, n2, r1, b1⟩ := hrel
        have hcmp := Hc.out n n1 (by omega)
        have HL : Hid (∀ W : World, Calls Tryz.prog 107 #[.int .i64 n] W fun e w' => e = .returned (.string (kL n)) ∧ w' = W) := fun W => spec_letter n W
        have hlt' : (n : Int) ≤ 10 := by omega
        by_cases hhit : kk = n
        · rw [decide_eq_true hhit] at hcmp
          go_upto_region 9 with fail
          go_quiet (first | (go_at_call 107; refine Calls.quiet_of_same (HL.out _)))
          clear HL
          go_wp2_with fail
          refine (HD.out _).mono ?_
          rintro e w1 ⟨rfl, rfl⟩
          have r2 : A3 (wr.drewN nq) w.heap.size 0 0 0 := ⟨r1.c0, r1.c1, r1.c2, r1.f0, r1.f1, r1.f2⟩
          have b2 : Below w.heap.size w (wr.drewN nq) := bdrew b1 nq
          have r3 := r2.set n D 0
          obtain ⟨x0, x1, x2, y0, y1, y2⟩ := r2
          obtain ⟨z0, z1, z2, _, _, _⟩ := r3
          clear r1 b1 HD
          go_wp2
          refine bodyPost_ret (v := .agg #[.int .i64 n, .int .i64 D, .int .i64 0]) (by simp [results, Tryz.results204, go_sem, z0, z1, z2]) rfl ⟨by rw [hhit], ?_⟩
          exact ((b2.setCell (Nat.le_refl _) _).setCell (Nat.le_refl _) _).setCell (Nat.le_refl _) _
        · rw [decide_eq_false hhit] at hcmp
          go_upto_region 9 with fail
          go_quiet (first | (go_at_call 107; refine Calls.quiet_of_same (HL.out _)))
          clear HL
          have r2 : A3 (wr.drewN nq) w.heap.size 0 0 0 := ⟨r1.c0, r1.c1, r1.c2, r1.f0, r1.f1, r1.f2⟩
          have b2 : Below w.heap.size w (wr.drewN nq) := bdrew b1 nq
          go_wp2
          go_roundg (gk - 1)
          case measure => omega
          case rel => exact ⟨n + 1, by omega, by go_num, by omega, by omega, r2, b2⟩
end Go.Proofs.YtjbdcbamkdnjhaaGreatDoor
