/- The place of a device, counted round: the program's and the specification's. -/
import Derived.Test.YtjnddfpieogpiaaDoorDe
import Derived.Test.YtjnddfpieogpiaaDoorMb
namespace Go.Proofs.YtjnddfpieogpiaaDoor
open Go.RowKit Go.Shelf
set_option linter.unusedVariables false

/-- How many places a kind has, as they are counted round. -/
def kZ (k : Int) : Int := if k = 6 then 8 else kS k
/-- The place of a device, counted round. -/
def pl (k n : Int) : Int := if kZ k = 0 then 0 else n % kZ k

theorem kS_le (k : Int) : 0 ≤ kS k ∧ kS k ≤ 64 := by
  unfold kS
  repeat' split
  all_goals omega
theorem kZ_le (k : Int) : 0 ≤ kZ k ∧ kZ k ≤ 64 := by
  unfold kZ
  split
  · omega
  · exact kS_le k
theorem pl_lt (k n : Int) (h : kZ k ≠ 0) : 0 ≤ pl k n ∧ pl k n < kZ k := by
  unfold pl
  rw [if_neg h]
  have := kZ_le k
  exact ⟨Int.emod_nonneg _ h, Int.emod_lt_of_pos _ (by omega)⟩
theorem rem_rem (n s : Int) (h : 0 < s) : (n.tmod s + s).tmod s = n % s := by
  have h1 := Int.emod_nonneg n (by omega : s ≠ 0)
  have h2 := Int.emod_lt_of_pos n h
  by_cases hn : 0 ≤ n
  · rw [Int.tmod_eq_emod_of_nonneg hn, Int.tmod_eq_emod_of_nonneg (by omega)]
    simp
  · by_cases hd : n % s = 0
    · have : n.tmod s = 0 := by rw [Int.tmod_eq_emod]; simp [hd, Int.dvd_of_emod_eq_zero hd]
      rw [this, hd]
      simp [Int.tmod_self]
    · have : n.tmod s = n % s - s := by
        rw [Int.tmod_eq_emod]
        have : ¬ (0 ≤ n ∨ s ∣ n) := by
          rintro (h | h)
          · exact hn h
          · exact hd (Int.emod_eq_zero_of_dvd h)
        rw [if_neg this]
        omega
      rw [this, show n % s - s + s = n % s by omega, Int.tmod_eq_emod_of_nonneg h1]
      exact Int.emod_emod_of_dvd n (Int.dvd_refl s)
theorem rem_up (n s : Int) (h : 0 < s) : (if n.tmod s < 0 then n.tmod s + s else n.tmod s) = n % s := by
  have h1 := Int.emod_nonneg n (by omega : s ≠ 0)
  have h2 := Int.emod_lt_of_pos n h
  rw [Int.tmod_eq_emod]
  by_cases hd : 0 ≤ n ∨ s ∣ n
  · rw [if_pos hd, if_neg (by omega)]; omega
  · rw [if_neg hd, if_pos (by omega)]; omega
theorem rem_bd (n s : Int) (h : 0 < s) : -s < n.tmod s ∧ n.tmod s < s := by
  have h1 := Int.emod_nonneg n (by omega : s ≠ 0)
  have h2 := Int.emod_lt_of_pos n h
  rw [Int.tmod_eq_emod]
  split
  · omega
  · rename_i hh
    have : n % s ≠ 0 := fun e => hh (Or.inr (Int.dvd_of_emod_eq_zero e))
    omega

theorem kZ_six : kZ 6 = 8 := rfl
theorem kZ_ne {k : Int} (h : k ≠ 6) : kZ k = kS k := if_neg h

set_option maxHeartbeats 2000000 in
theorem place_r (k n p : Int) (w : World) (hT : KT w) :
    Calls Tryd.prog 19 #[.agg #[.int .i64 k, .int .i64 n, .int .i64 p]] w fun e w' => e = .returned (.int .i64 (pl k n)) ∧ Below w.heap.size w w' := by
  have HT : Hid (KT w) := hT
  clear hT
  obtain ⟨s, HS⟩ : ∃ s, Hid (s = kS k) := ⟨_, rfl⟩
  have HD : Hid (∀ W, KT W → Calls Tryd.prog 29 #[.int .i64 k] W fun e w' => e = .returned (.int .i64 s) ∧ Below W.heap.size W w') := fun W h => by
    rw [HS.out]; exact impl_size k W h
  have hs := kS_le k
  rw [← HS.out] at hs
  obtain ⟨q, HQ⟩ : ∃ q, Hid (q = pl k n) := ⟨_, rfl⟩
  rw [← HQ.out]
  by_cases h6 : k = 6
  · have e6 : (k == 6) = true := by simp [h6]
    have hq : (n.tmod 8 + 8).tmod 8 = q := by rw [HQ.out, h6, pl, kZ_six, if_neg (by omega)]; exact rem_rem n 8 (by omega)
    have hb := rem_bd n 8 (by omega)
    clear h6 HS
    go_enter Tryd.func19, Tryd.ntmps19
    go_wp2_with fail
    refine (HD.out _ (HT.out.alloc _)).mono ?_
    rintro e w1 ⟨rfl, g1⟩
    have b1 : Below w.heap.size w w1 := ((Below.refl _ _).alloc (Nat.le_refl _) _).trans (g1.mono (by simp))
    have r0 : w1.cell? ⟨w.heap.size, 0, none⟩ = some (.int .i64 k) := by rw [g1.cell (by simp)]; exact (cell_of_row _ _ _ _ _ _ (heap_alloc_last w _)).trans rfl
    have r1 : w1.cell? ⟨w.heap.size, 1, none⟩ = some (.int .i64 n) := by rw [g1.cell (by simp)]; exact (cell_of_row _ _ _ _ _ _ (heap_alloc_last w _)).trans rfl
    clear g1
    go_wp2
    go_ret
    exact ⟨rfl, b1⟩
  by_cases h0 : s = 0
  · have e6 : (k == 6) = false := by simp [h6]
    have e0 : (s == 0) = true := by simp [h0]
    have hq : q = 0 := by rw [HQ.out, pl, kZ_ne h6, ← HS.out, h0]; rfl
    subst hq
    clear h6 HS hs h0
    go_enter Tryd.func19, Tryd.ntmps19
    go_wp2_with fail
    refine (HD.out _ (HT.out.alloc _)).mono ?_
    rintro e w1 ⟨rfl, g1⟩
    have b1 : Below w.heap.size w w1 := ((Below.refl _ _).alloc (Nat.le_refl _) _).trans (g1.mono (by simp))
    have r0 : w1.cell? ⟨w.heap.size, 0, none⟩ = some (.int .i64 k) := by rw [g1.cell (by simp)]; exact (cell_of_row _ _ _ _ _ _ (heap_alloc_last w _)).trans rfl
    have r1 : w1.cell? ⟨w.heap.size, 1, none⟩ = some (.int .i64 n) := by rw [g1.cell (by simp)]; exact (cell_of_row _ _ _ _ _ _ (heap_alloc_last w _)).trans rfl
    clear g1
    go_wp2
    go_ret
    exact ⟨rfl, b1⟩
  · have e6 : (k == 6) = false := by simp [h6]
    have e0 : (s == 0) = false := by simp [h0]
    have hq : (n.tmod s + s).tmod s = q := by rw [HQ.out, pl, kZ_ne h6, ← HS.out, if_neg h0]; exact rem_rem n s (by omega)
    have hb := rem_bd n s (by omega)
    clear h6 HS
    go_enter Tryd.func19, Tryd.ntmps19
    go_wp2_with fail
    refine (HD.out _ (HT.out.alloc _)).mono ?_
    rintro e w1 ⟨rfl, g1⟩
    have b1 : Below w.heap.size w w1 := ((Below.refl _ _).alloc (Nat.le_refl _) _).trans (g1.mono (by simp))
    have r0 : w1.cell? ⟨w.heap.size, 0, none⟩ = some (.int .i64 k) := by rw [g1.cell (by simp)]; exact (cell_of_row _ _ _ _ _ _ (heap_alloc_last w _)).trans rfl
    have r1 : w1.cell? ⟨w.heap.size, 1, none⟩ = some (.int .i64 n) := by rw [g1.cell (by simp)]; exact (cell_of_row _ _ _ _ _ _ (heap_alloc_last w _)).trans rfl
    clear g1
    go_wp2
    go_ret
    exact ⟨rfl, b1⟩

end Go.Proofs.YtjnddfpieogpiaaDoor
