/- The walk of the specification's l2Guess: numbers. -/
import Derived.Test.YtjbdcbamkdnjhaaGreatDoorDy
import Derived.Lib.IndexBytes
namespace Go.Proofs.YtjbdcbamkdnjhaaGreatDoor
open Go.RowKit
set_option linter.unusedVariables false

/-- The number that a text would be, its first point at d. -/
def numG (sg : Int) (T : ByteArray) (d : Nat) : Int × Int × Int :=
  if d < T.size then (12, sg * digS ((T.data.toList.take d) ++ (T.data.toList.drop (d + 1))), (T.size : Int) - d - 1) else (11, sg * digS T.data.toList, 0)

theorem dig_cut (T : ByteArray) (d : Nat) (hd : d < T.size) (hTs : T.size ≤ 1048576) (W : World) :
    Calls Tryz.prog 237 #[.string (T.extract 0 d ++ T.extract (d + 1) T.size)] W fun e w' => e = .returned (.int .i64 (digS ((T.data.toList.take d) ++ (T.data.toList.drop (d + 1))))) ∧ w' = W := by
  have e : (T.extract 0 d ++ T.extract (d + 1) T.size).data.toList = (T.data.toList.take d) ++ (T.data.toList.drop (d + 1)) := by
    have e1 : (T.extract 0 d).data.toList = T.data.toList.take d := by rw [Lib.extract_data]; simp
    have e2 : (T.extract (d + 1) T.size).data.toList = T.data.toList.drop (d + 1) := Lib.extract_to_end T (d + 1)
    rw [← e1, ← e2]
    simp
  have h := digits_any (T.extract 0 d ++ T.extract (d + 1) T.size) W (by
    rw [Lib.size_eq, e, List.length_append, List.length_take, List.length_drop, ← Lib.size_eq]; omega)
  rw [e] at h
  exact h

set_option maxRecDepth 100000 in
set_option maxHeartbeats 4000000 in
theorem sguess_pos (s : ByteArray) (G : Int × Int × Int) (d : Nat) (w : World) (hs : s.size ≤ 1048576) (h0 : 0 < s.size) (Hw : Hid (∀ i : Nat, i < 4 → (s.toList == (wd i).toList) = false))
    (Hc : Hid (∀ k : Nat, 1 ≤ k → k ≤ 10 → ((s.extract 0 1).toList == (kL k).toList) = false)) (hne : s.toList.isEmpty = false) (h45 : (((s[0]'h0).toNat : Int) == 45) = false) (hTs : s.size ≤ 1048576) (hd0 : d ≤ s.size)
    (Hno : Hid (∀ j, j < d → ∀ h : j < s.size, (s[j]'h).toNat ≠ 46)) (Hat : Hid (∀ h : d < s.size, (s[d]'h).toNat = 46)) (HG : Hid (G = numG (1) s d)) :
    Calls Tryz.prog 204 #[.string s] w fun e w' => e = .returned (.agg #[.int .i64 G.1, .int .i64 G.2.1, .int .i64 G.2.2]) ∧ Below w.heap.size w w' := by
  have i1 : (1 : Int) ≤ (s.size : Int) := by omega
  have i0 : (0 : Int) < (s.size : Int) := by omega
  go_enter Tryz.func204, Tryz.ntmps204
  go_wp2
  go_loopg [3] 4 (fun g i wr => ∃ n : Nat, n + g = 4 ∧ i = .int .i64 n ∧ A3 wr w.heap.size 0 0 0 ∧ Below w.heap.size w wr)
  case atStart => exact ⟨0, rfl, rfl, A3.fresh w 0 0 0 59, (Below.refl _ _).alloc (Nat.le_refl _) _⟩
  case round =>
    obtain ⟨n, hn, rfl, r1, b1⟩ := hrel
    by_cases hlt : n < 4
    · have hcmp := Hw.out n hlt
      have hlt' : (n : Int) < 4 := by omega
      go_wp2_with fail
      refine (words_b _).mono ?_
      rintro e w1 ⟨rfl, g1, hx⟩
      have hxn := hx n hlt
      have r2 := r1.later g1
      have b2 := b1.trans (g1.mono b1.size)
      clear hx g1 r1 b1
      go_wp2
      go_roundg (gk - 1)
      case measure => omega
      case rel => exact ⟨n + 1, by omega, by go_num, r2, b2⟩
    · clear Hw
      go_wp2
      go_loopg [4] 10 (fun g i wr => ∃ n : Nat, n + g = 11 ∧ i = .int .i64 n ∧ 1 ≤ n ∧ A3 wr w.heap.size 0 0 0 ∧ Below w.heap.size w wr)
      case atStart => exact ⟨1, rfl, rfl, by omega, r1, b1⟩
      case round =>
        clear r1 b1
        obtain ⟨n, hn, rfl, n1, r1, b1⟩ := hrel
        by_cases hlt : n ≤ 10
        · have hcmp := Hc.out n n1 hlt
          have HL : Hid (∀ W : World, Calls Tryz.prog 107 #[.int .i64 n] W fun e w' => e = .returned (.string (kL n)) ∧ w' = W) := fun W => spec_letter n W
          have hlt' : (n : Int) ≤ 10 := by omega
          go_upto_region 9 with fail
          go_quiet (first | (go_at_call 107; refine Calls.quiet_of_same (HL.out _)))
          clear HL
          have r2 : A3 (wr.drewN nq) w.heap.size 0 0 0 := ⟨r1.c0, r1.c1, r1.c2, r1.f0, r1.f1, r1.f2⟩
          have b2 : Below w.heap.size w (wr.drewN nq) := bdrew b1 nq
          go_wp2
          go_roundg (gk - 1)
          case measure => omega
          case rel => exact ⟨n + 1, by omega, by go_num, by omega, r2, b2⟩
        · clear Hc
          go_wp2_with fail
          refine (find_r s _ d hTs hd0 Hno.out Hat.out).mono ?_
          rintro e w1 ⟨rfl, rfl⟩
          clear Hno Hat
          by_cases hd : d < s.size
          · have HE : Hid (G = (12, 1 * digS ((s.data.toList.take d) ++ (s.data.toList.drop (d + 1))), (s.size : Int) - d - 1)) := by have h := HG.out; rw [numG, if_pos hd] at h; exact h
            have HD : Hid (∀ W : World, Calls Tryz.prog 237 #[.string (s.extract 0 d ++ s.extract (d + 1) s.size)] W fun e w' => e = .returned (.int .i64 (digS ((s.data.toList.take d) ++ (s.data.toList.drop (d + 1))))) ∧ w' = W) := fun W => dig_cut s d hd hTs W
            have bdg := digS_bd ((s.data.toList.take d) ++ (s.data.toList.drop (d + 1)))
            obtain ⟨D, HDD⟩ : ∃ D, Hid (D = digS ((s.data.toList.take d) ++ (s.data.toList.drop (d + 1)))) := ⟨_, Eq.refl (digS ((s.data.toList.take d) ++ (s.data.toList.drop (d + 1))))⟩
            rw [← HDD.out] at HD bdg HE
            rw [if_pos hd]
            clear HDD HG
            have r3 := r1.set 12 D ((s.size : Int) - d - 1)
            obtain ⟨x0, x1, x2, y0, y1, y2⟩ := r1
            obtain ⟨z0, z1, z2, _, _, _⟩ := r3
            have j1 : (d : Int) ≤ (s.size : Int) := by omega
            have j2 : (d : Int) + 1 ≤ (s.size : Int) := by omega
            have j3 : (0 : Int) ≤ (d : Int) + 1 := by omega
            have j6 : d + 1 ≤ s.size := hd
            have v1 : IntKind.i64.wrap ((d : Int) + 1) = (d : Int) + 1 := by rw [IntKind.wrap_i64]; omega
            have v2 : IntKind.i64.wrap ((s.size : Int) - (d : Int)) = (s.size : Int) - (d : Int) := by rw [IntKind.wrap_i64]; omega
            have v3 : IntKind.i64.wrap ((s.size : Int) - (d : Int) - 1) = (s.size : Int) - (d : Int) - 1 := by rw [IntKind.wrap_i64]; omega
            have v4 : IntKind.i64.wrap (1 * D) = D := by rw [IntKind.wrap_i64]; omega
            have v6 : IntKind.i64.wrap D = D := by rw [IntKind.wrap_i64]; omega
            have v5 : ((d : Int) + 1).toNat = d + 1 := by omega
            go_upto_region 18 with fail
            go_region_with (go_at_call 237; refine (HD.out _).mono ?_; rintro e w2 ⟨rfl, rfl⟩)
            all_goals
              go_wp2
              refine bodyPost_ret (v := .agg #[.int .i64 12, .int .i64 D, .int .i64 ((s.size : Int) - d - 1)]) (by simp [results, Tryz.results204, go_sem, z0, z1, z2]) rfl ⟨by rw [HE.out]; simp, ?_⟩
              exact (((b1.setCell (Nat.le_refl _) _).setCell (Nat.le_refl _) _).setCell (Nat.le_refl _) _).drew
          · have HE : Hid (G = (11, 1 * digS s.data.toList, 0)) := by have h := HG.out; rw [numG, if_neg hd] at h; exact h
            have HD : Hid (∀ W : World, Calls Tryz.prog 237 #[.string s] W fun e w' => e = .returned (.int .i64 (digS s.data.toList)) ∧ w' = W) := fun W => digits_any s W (by omega)
            have bdg := digS_bd s.data.toList
            obtain ⟨D, HDD⟩ : ∃ D, Hid (D = digS s.data.toList) := ⟨_, Eq.refl (digS s.data.toList)⟩
            rw [← HDD.out] at HD bdg HE
            rw [if_neg hd]
            clear HDD HG
            go_wp2_with fail
            refine (HD.out _).mono ?_
            rintro e w2 ⟨rfl, rfl⟩
            have r3 := r1.set 11 D 0
            obtain ⟨x0, x1, x2, y0, y1, y2⟩ := r1
            obtain ⟨z0, z1, z2, _, _, _⟩ := r3
            clear HD
            go_wp2
            refine bodyPost_ret (v := .agg #[.int .i64 11, .int .i64 D, .int .i64 0]) (by simp [results, Tryz.results204, go_sem, z0, z1, z2]) rfl ⟨by rw [HE.out]; simp, ?_⟩
            exact ((b1.setCell (Nat.le_refl _) _).setCell (Nat.le_refl _) _).setCell (Nat.le_refl _) _

set_option maxRecDepth 100000 in
set_option maxHeartbeats 4000000 in
theorem sguess_neg (s : ByteArray) (T : ByteArray) (G : Int × Int × Int) (d : Nat) (w : World) (hs : s.size ≤ 1048576) (h0 : 0 < s.size) (Hw : Hid (∀ i : Nat, i < 4 → (s.toList == (wd i).toList) = false))
    (Hc : Hid (∀ k : Nat, 1 ≤ k → k ≤ 10 → ((s.extract 0 1).toList == (kL k).toList) = false)) (hne : s.toList.isEmpty = false) (hT1 : s.extract 1 s.size = T) (h45 : (((s[0]'h0).toNat : Int) == 45) = true) (hTs : T.size ≤ 1048576) (hd0 : d ≤ T.size)
    (Hno : Hid (∀ j, j < d → ∀ h : j < T.size, (T[j]'h).toNat ≠ 46)) (Hat : Hid (∀ h : d < T.size, (T[d]'h).toNat = 46)) (HG : Hid (G = numG (-1) T d)) :
    Calls Tryz.prog 204 #[.string s] w fun e w' => e = .returned (.agg #[.int .i64 G.1, .int .i64 G.2.1, .int .i64 G.2.2]) ∧ Below w.heap.size w w' := by
  have i1 : (1 : Int) ≤ (s.size : Int) := by omega
  have i0 : (0 : Int) < (s.size : Int) := by omega
  go_enter Tryz.func204, Tryz.ntmps204
  go_wp2
  go_loopg [3] 4 (fun g i wr => ∃ n : Nat, n + g = 4 ∧ i = .int .i64 n ∧ A3 wr w.heap.size 0 0 0 ∧ Below w.heap.size w wr)
  case atStart => exact ⟨0, rfl, rfl, A3.fresh w 0 0 0 59, (Below.refl _ _).alloc (Nat.le_refl _) _⟩
  case round =>
    obtain ⟨n, hn, rfl, r1, b1⟩ := hrel
    by_cases hlt : n < 4
    · have hcmp := Hw.out n hlt
      have hlt' : (n : Int) < 4 := by omega
      go_wp2_with fail
      refine (words_b _).mono ?_
      rintro e w1 ⟨rfl, g1, hx⟩
      have hxn := hx n hlt
      have r2 := r1.later g1
      have b2 := b1.trans (g1.mono b1.size)
      clear hx g1 r1 b1
      go_wp2
      go_roundg (gk - 1)
      case measure => omega
      case rel => exact ⟨n + 1, by omega, by go_num, r2, b2⟩
    · clear Hw
      go_wp2
      go_loopg [4] 10 (fun g i wr => ∃ n : Nat, n + g = 11 ∧ i = .int .i64 n ∧ 1 ≤ n ∧ A3 wr w.heap.size 0 0 0 ∧ Below w.heap.size w wr)
      case atStart => exact ⟨1, rfl, rfl, by omega, r1, b1⟩
      case round =>
        clear r1 b1
        obtain ⟨n, hn, rfl, n1, r1, b1⟩ := hrel
        by_cases hlt : n ≤ 10
        · have hcmp := Hc.out n n1 hlt
          have HL : Hid (∀ W : World, Calls Tryz.prog 107 #[.int .i64 n] W fun e w' => e = .returned (.string (kL n)) ∧ w' = W) := fun W => spec_letter n W
          have hlt' : (n : Int) ≤ 10 := by omega
          go_upto_region 9 with fail
          go_quiet (first | (go_at_call 107; refine Calls.quiet_of_same (HL.out _)))
          clear HL
          have r2 : A3 (wr.drewN nq) w.heap.size 0 0 0 := ⟨r1.c0, r1.c1, r1.c2, r1.f0, r1.f1, r1.f2⟩
          have b2 : Below w.heap.size w (wr.drewN nq) := bdrew b1 nq
          go_wp2
          go_roundg (gk - 1)
          case measure => omega
          case rel => exact ⟨n + 1, by omega, by go_num, by omega, r2, b2⟩
        · clear Hc
          go_wp2_with fail
          refine (find_r T _ d hTs hd0 Hno.out Hat.out).mono ?_
          rintro e w1 ⟨rfl, rfl⟩
          clear Hno Hat
          by_cases hd : d < T.size
          · have HE : Hid (G = (12, -1 * digS ((T.data.toList.take d) ++ (T.data.toList.drop (d + 1))), (T.size : Int) - d - 1)) := by have h := HG.out; rw [numG, if_pos hd] at h; exact h
            have HD : Hid (∀ W : World, Calls Tryz.prog 237 #[.string (T.extract 0 d ++ T.extract (d + 1) T.size)] W fun e w' => e = .returned (.int .i64 (digS ((T.data.toList.take d) ++ (T.data.toList.drop (d + 1))))) ∧ w' = W) := fun W => dig_cut T d hd hTs W
            have bdg := digS_bd ((T.data.toList.take d) ++ (T.data.toList.drop (d + 1)))
            obtain ⟨D, HDD⟩ : ∃ D, Hid (D = digS ((T.data.toList.take d) ++ (T.data.toList.drop (d + 1)))) := ⟨_, Eq.refl (digS ((T.data.toList.take d) ++ (T.data.toList.drop (d + 1))))⟩
            rw [← HDD.out] at HD bdg HE
            rw [if_pos hd]
            clear HDD HG
            have r3 := r1.set 12 (-D) ((T.size : Int) - d - 1)
            obtain ⟨x0, x1, x2, y0, y1, y2⟩ := r1
            obtain ⟨z0, z1, z2, _, _, _⟩ := r3
            have j1 : (d : Int) ≤ (T.size : Int) := by omega
            have j2 : (d : Int) + 1 ≤ (T.size : Int) := by omega
            have j3 : (0 : Int) ≤ (d : Int) + 1 := by omega
            have j6 : d + 1 ≤ T.size := hd
            have v1 : IntKind.i64.wrap ((d : Int) + 1) = (d : Int) + 1 := by rw [IntKind.wrap_i64]; omega
            have v2 : IntKind.i64.wrap ((T.size : Int) - (d : Int)) = (T.size : Int) - (d : Int) := by rw [IntKind.wrap_i64]; omega
            have v3 : IntKind.i64.wrap ((T.size : Int) - (d : Int) - 1) = (T.size : Int) - (d : Int) - 1 := by rw [IntKind.wrap_i64]; omega
            have v4 : IntKind.i64.wrap (-1 * D) = (-D) := by rw [IntKind.wrap_i64]; omega
            have v6 : IntKind.i64.wrap (-D) = (-D) := by rw [IntKind.wrap_i64]; omega
            have v5 : ((d : Int) + 1).toNat = d + 1 := by omega
            go_upto_region 18 with fail
            go_region_with (go_at_call 237; refine (HD.out _).mono ?_; rintro e w2 ⟨rfl, rfl⟩)
            all_goals
              go_wp2
              refine bodyPost_ret (v := .agg #[.int .i64 12, .int .i64 (-D), .int .i64 ((T.size : Int) - d - 1)]) (by simp [results, Tryz.results204, go_sem, z0, z1, z2]) rfl ⟨by rw [HE.out]; simp, ?_⟩
              exact (((b1.setCell (Nat.le_refl _) _).setCell (Nat.le_refl _) _).setCell (Nat.le_refl _) _).drew
          · have HE : Hid (G = (11, -1 * digS T.data.toList, 0)) := by have h := HG.out; rw [numG, if_neg hd] at h; exact h
            have HD : Hid (∀ W : World, Calls Tryz.prog 237 #[.string T] W fun e w' => e = .returned (.int .i64 (digS T.data.toList)) ∧ w' = W) := fun W => digits_any T W (by omega)
            have bdg := digS_bd T.data.toList
            obtain ⟨D, HDD⟩ : ∃ D, Hid (D = digS T.data.toList) := ⟨_, Eq.refl (digS T.data.toList)⟩
            rw [← HDD.out] at HD bdg HE
            rw [if_neg hd]
            clear HDD HG
            go_wp2_with fail
            refine (HD.out _).mono ?_
            rintro e w2 ⟨rfl, rfl⟩
            have r3 := r1.set 11 (-D) 0
            obtain ⟨x0, x1, x2, y0, y1, y2⟩ := r1
            obtain ⟨z0, z1, z2, _, _, _⟩ := r3
            clear HD
            go_wp2
            refine bodyPost_ret (v := .agg #[.int .i64 11, .int .i64 (-D), .int .i64 0]) (by simp [results, Tryz.results204, go_sem, z0, z1, z2]) rfl ⟨by rw [HE.out]; simp, ?_⟩
            exact ((b1.setCell (Nat.le_refl _) _).setCell (Nat.le_refl _) _).setCell (Nat.le_refl _) _

set_option maxRecDepth 100000 in
set_option maxHeartbeats 4000000 in
theorem sguess_word (s : ByteArray) (j : Nat) (hj : j < 4) (w : World) (Hw : Hid (∀ i : Nat, i < 4 → (s.toList == (wd i).toList) = decide (i = j))) :
    Calls Tryz.prog 204 #[.string s] w fun e w' => e = .returned (.agg #[.int .i64 13, .int .i64 j, .int .i64 0]) ∧ Below w.heap.size w w' := by
  go_enter Tryz.func204, Tryz.ntmps204
  go_wp2
  go_loopg [3] 4 (fun g i wr => ∃ n : Nat, n + g = 4 ∧ i = .int .i64 n ∧ n ≤ j ∧ A3 wr w.heap.size 0 0 0 ∧ Below w.heap.size w wr)
  case atStart => exact ⟨0, rfl, rfl, by omega, A3.fresh w 0 0 0 59, (Below.refl _ _).alloc (Nat.le_refl _) _⟩
  case round =>
    obtain ⟨n, hn, rfl, hnj, r1, b1⟩ := hrel
    have hlt : n < 4 := by omega
    have hcmp := Hw.out n hlt
    have hlt' : (n : Int) < 4 := by omega
    by_cases e : n = j
    · subst e
      rw [decide_eq_true rfl] at hcmp
      clear Hw hnj hj
      go_wp2_with fail
      refine (words_b _).mono ?_
      rintro e w1 ⟨rfl, g1, hx⟩
      have hxn := hx n hlt
      have r2 := r1.later g1
      have b2 := b1.trans (g1.mono b1.size)
      clear hx g1 r1 b1
      have r3 := r2.set 13 n 0
      obtain ⟨x0, x1, x2, y0, y1, y2⟩ := r2
      obtain ⟨z0, z1, z2, _, _, _⟩ := r3
      go_wp2
      refine bodyPost_ret (v := .agg #[.int .i64 13, .int .i64 n, .int .i64 0]) (by simp [results, Tryz.results204, go_sem, z0, z1, z2]) rfl ⟨rfl, ?_⟩
      exact ((b2.setCell (Nat.le_refl _) _).setCell (Nat.le_refl _) _).setCell (Nat.le_refl _) _
    · rw [decide_eq_false e] at hcmp
      go_wp2_with fail
      refine (words_b _).mono ?_
      rintro e w1 ⟨rfl, g1, hx⟩
      have hxn := hx n hlt
      have r2 := r1.later g1
      have b2 := b1.trans (g1.mono b1.size)
      clear hx g1 r1 b1
      go_wp2
      go_roundg (gk - 1)
      case measure => omega
      case rel => exact ⟨n + 1, by omega, by go_num, by omega, r2, b2⟩

set_option maxRecDepth 100000 in
set_option maxHeartbeats 4000000 in
theorem sguess_empty (w : World) :
    Calls Tryz.prog 204 #[.string ⟨#[]⟩] w fun e w' => e = .returned (.agg #[.int .i64 11, .int .i64 (-1), .int .i64 0]) ∧ Below w.heap.size w w' := by
  have Hw : Hid (∀ i : Nat, i < 4 → ((ByteArray.mk #[]).toList == (wd i).toList) = false) := by
    intro i hi
    rcases c4 i hi with rfl | rfl | rfl | rfl <;> decide +kernel
  have Hno : Hid (∀ j, j < 0 → ∀ h : j < (ByteArray.mk #[]).size, ((ByteArray.mk #[])[j]'h).toNat ≠ 46) := fun j hj => by omega
  have HF : Hid (∀ W : World, Calls Tryz.prog 136 #[.string ⟨#[]⟩, .int .u8 46] W fun e w' => e = .returned (.int .i64 (-1)) ∧ w' = W) := fun W => find_r ⟨#[]⟩ W 0 (by decide) (by decide) Hno.out (fun h => absurd h (by decide))
  have HD : Hid (∀ W : World, Calls Tryz.prog 237 #[.string ⟨#[]⟩] W fun e w' => e = .returned (.int .i64 (-1)) ∧ w' = W) := fun W => digits_out ⟨#[]⟩ W (.inl rfl) (by decide)
  clear Hno
  obtain ⟨s, HS⟩ : ∃ s : ByteArray, Hid (s = ⟨#[]⟩) := ⟨_, Eq.refl (ByteArray.mk #[])⟩
  have hne : s.toList.isEmpty = true := by rw [HS.out]; decide +kernel
  rw [← HS.out] at Hw HF HD ⊢
  clear HS
  go_enter Tryz.func204, Tryz.ntmps204
  go_wp2
  go_loopg [3] 4 (fun g i wr => ∃ n : Nat, n + g = 4 ∧ i = .int .i64 n ∧ A3 wr w.heap.size 0 0 0 ∧ Below w.heap.size w wr)
  case atStart => exact ⟨0, rfl, rfl, A3.fresh w 0 0 0 59, (Below.refl _ _).alloc (Nat.le_refl _) _⟩
  case round =>
    obtain ⟨n, hn, rfl, r1, b1⟩ := hrel
    by_cases hlt : n < 4
    · have hcmp := Hw.out n hlt
      have hlt' : (n : Int) < 4 := by omega
      go_wp2_with fail
      refine (words_b _).mono ?_
      rintro e w1 ⟨rfl, g1, hx⟩
      have hxn := hx n hlt
      have r2 := r1.later g1
      have b2 := b1.trans (g1.mono b1.size)
      clear hx g1 r1 b1
      go_wp2
      go_roundg (gk - 1)
      case measure => omega
      case rel => exact ⟨n + 1, by omega, by go_num, r2, b2⟩
    · clear Hw
      go_wp2
      go_loopg [4] 10 (fun g i wr => ∃ n : Nat, n + g = 11 ∧ i = .int .i64 n ∧ 1 ≤ n ∧ A3 wr w.heap.size 0 0 0 ∧ Below w.heap.size w wr)
      case atStart => exact ⟨1, rfl, rfl, by omega, r1, b1⟩
      case round =>
        clear r1 b1
        obtain ⟨n, hn, rfl, n1, r1, b1⟩ := hrel
        by_cases hlt : n ≤ 10
        · have hlt' : (n : Int) ≤ 10 := by omega
          go_upto_region 9 with fail
          go_quiet (fail)
          have r2 : A3 (wr.drewN nq) w.heap.size 0 0 0 := ⟨r1.c0, r1.c1, r1.c2, r1.f0, r1.f1, r1.f2⟩
          have b2 : Below w.heap.size w (wr.drewN nq) := bdrew b1 nq
          go_wp2
          go_roundg (gk - 1)
          case measure => omega
          case rel => exact ⟨n + 1, by omega, by go_num, by omega, r2, b2⟩
        · go_wp2_with fail
          refine (HF.out _).mono ?_
          rintro e w1 ⟨rfl, rfl⟩
          go_wp2_with fail
          refine (HD.out _).mono ?_
          rintro e w2 ⟨rfl, rfl⟩
          have r3 := r1.set 11 (-1) 0
          obtain ⟨x0, x1, x2, y0, y1, y2⟩ := r1
          obtain ⟨z0, z1, z2, _, _, _⟩ := r3
          go_wp2
          refine bodyPost_ret (v := .agg #[.int .i64 11, .int .i64 (-1), .int .i64 0]) (by simp [results, Tryz.results204, go_sem, z0, z1, z2]) rfl ⟨rfl, ?_⟩
          exact ((b1.setCell (Nat.le_refl _) _).setCell (Nat.le_refl _) _).setCell (Nat.le_refl _) _
end Go.Proofs.YtjbdcbamkdnjhaaGreatDoor
