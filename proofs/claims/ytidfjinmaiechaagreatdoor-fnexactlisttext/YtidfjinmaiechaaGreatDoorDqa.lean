/- Walks of the program's DevText: devices and whole numbers. -/
import Derived.Test.YtidfjinmaiechaaGreatDoorDq
import Derived.Deep.Cut
namespace Go.Proofs.YtidfjinmaiechaaGreatDoor
open Go.RowKit
open Go.Lib (decDigits itoa VarReads)
set_option linter.unusedVariables false

theorem tx_def (l : List UInt8) : (⟨l.toArray⟩ : ByteArray) = tx l := rfl
theorem itoa_t (n : Int) (h0 : -9223372036854775808 ≤ n) (h1 : n ≤ 9223372036854775807) (w : World) (hP : PT w) :
    Calls Tryz.prog 89 #[.int .i64 n] w fun e w' => e = .returned (.string (tx (itoa n))) ∧ Below w.heap.size w w' := by
  have h := itoa_r n h0 h1 w hP
  rw [tx_def] at h
  exact h

set_option maxHeartbeats 400000 in
theorem text_dev (k n p : Int) (w : World) (hT : Tabs w) (ho : okA k n p = true) (k2 : k ≠ 12) (k3 : k ≠ 13) :
    Calls Tryz.prog 66 #[.agg #[.int .i64 k, .int .i64 n, .int .i64 p]] w fun e w' => e = .returned (.string (kL k ++ tx (itoa n))) ∧ Below w.heap.size w w' := by
  have HK : Hid (∀ W, KT W → Calls Tryz.prog 86 #[.agg #[.int .i64 k, .int .i64 n, .int .i64 p]] W fun e w' => e = .returned (.bool true) ∧ Below W.heap.size W w') := fun W hW => by have := impl_ok k n p W hW; rwa [ho] at this
  have bn0 := (ok_bd ho k2).1
  have bn1 := (ok_bd ho k2).2.1
  have s1 := kL_small k
  have s2 := itoa_size n (by omega) (by omega)
  have HL : Hid (∀ W, KT W → Calls Tryz.prog 88 #[.int .i64 k] W fun e w' => e = .returned (.string (kL k)) ∧ Below W.heap.size W w') := fun W hW => impl_letter k W hW
  have HI : Hid (∀ W, PT W → Calls Tryz.prog 89 #[.int .i64 n] W fun e w' => e = .returned (.string (tx (itoa n))) ∧ Below W.heap.size W w') := fun W hW => itoa_t n (by omega) (by omega) W hW
  obtain ⟨S, HS⟩ : ∃ S, Hid (S = tx (itoa n)) := ⟨_, Eq.refl (tx (itoa n))⟩
  obtain ⟨K, HKK⟩ : ∃ K, Hid (K = kL k) := ⟨_, Eq.refl (kL k)⟩
  rw [← HS.out] at HI s2
  rw [← HKK.out] at HL s1
  rw [← HS.out, ← HKK.out]
  clear HS HKK ho bn0 bn1
  have e2 : (k == 12) = false := by simp [k2]
  have e3 : (k == 13) = false := by simp [k3]
  go_enter Tryz.func66, Tryz.ntmps66
  go_wp2_with fail
  refine (HK.out _ (hT.k.alloc _)).mono ?_
  rintro e w1 ⟨rfl, g1⟩
  have c0 : w1.cell? ⟨w.heap.size, 0, none⟩ = some (.int .i64 k) := cell_later g1 (by simp)
  have c1 : w1.cell? ⟨w.heap.size, 1, none⟩ = some (.int .i64 n) := cell_later g1 (by simp)
  have b1 : Below w.heap.size w w1 := ((Below.refl _ _).alloc (Nat.le_refl _) _).trans (g1.mono (by simp))
  have T1 : Tabs w1 := hT.later b1
  clear g1 HK
  go_upto_region 8 with fail
  have k0 := cell_regrown c0
  have k1 := cell_regrown c1
  have cL : ∀ d os, Calls Tryz.prog 88 #[.int .i64 k] (Sort.grow (redrawn w1 d) os) fun e w'' => e = .returned (.string K) ∧ ∃ p : Regrown, w'' = Sort.grow (redrawn w1 p.d) p.os := fun d os => Calls.regrown_of (HL.out _ (T1.k.later (below_regrown w1 d os)))
  have cI : ∀ d os, Calls Tryz.prog 89 #[.int .i64 n] (Sort.grow (redrawn w1 d) os) fun e w'' => e = .returned (.string S) ∧ ∃ p : Regrown, w'' = Sort.grow (redrawn w1 p.d) p.os := fun d os => Calls.regrown_of (HI.out _ (T1.p.later (below_regrown w1 d os)))
  have hz : ¬ 9223372036854775807 < K.size + S.size := by omega
  clear hT T1 HL HI
  refine wp_region_quiet_below (by kernel_rfl) (by kernel_rfl) ?_
  repeat (go_big_quiet_step (first | exact cL _ _ | exact cI _ _))
  refine wpQuiet_nil ?_
  intro _ hw'
  obtain ⟨⟨dq, osq⟩, hw''⟩ := hw'
  subst hw''
  go_wp2
  go_ret
  exact ⟨rfl, b1.trans ((below_regrown w1 dq osq).mono b1.size)⟩

theorem impl_text (k n p : Int) (w : World) (hT : Tabs w) :
    Calls Tryz.prog 66 #[.agg #[.int .i64 k, .int .i64 n, .int .i64 p]] w fun e w' => e = .returned (.string (txt k n p)) ∧ Below w.heap.size w w' := by
  unfold txt
  cases ho : okA k n p with
  | false => exact text_no k n p w hT ho
  | true =>
    rw [if_pos rfl]
    by_cases k2 : k = 12
    · subst k2
      rw [if_pos rfl]
      have bd := okD_bd (by rw [← okA_dec]; exact ho)
      obtain ⟨P, rfl⟩ := Int.eq_ofNat_of_zero_le (by omega : 0 ≤ p)
      exact text_dec n P w hT ho
    rw [if_neg k2]
    by_cases k3 : k = 13
    · subst k3
      rw [if_pos rfl]
      have bd := ok_word ho
      obtain ⟨i, rfl⟩ := Int.eq_ofNat_of_zero_le bd.1
      exact text_word i p w hT ho
    rw [if_neg k3]
    exact text_dev k n p w hT ho k2 k3
end Go.Proofs.YtidfjinmaiechaaGreatDoor
