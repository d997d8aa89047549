/- One byte changed: what was an image is none any more. -/
import Derived.Test.YtcihplachlokiaaGreatDoorQrjM
namespace Go.Proofs.YtcihplachlokiaaGreatDoor
open Go.RowKit Go.Shelf
set_option linter.unusedVariables false

theorem xor_cancel {a b c : Nat} (h : a ^^^ c = b ^^^ c) : a = b := by
  have := congrArg (fun x => x ^^^ c) h
  simpa [Nat.xor_assoc] using this
theorem rnd_inj {s t : Nat} (hs : s < 65536) (ht : t < 65536) (h : rnd s = rnd t) : s = t := by
  have h1 := @Nat.xor_mod_two_eq_one (s * 2 - 65536) 4129
  have h2 := @Nat.xor_mod_two_eq_one (t * 2 - 65536) 4129
  unfold rnd at h
  split at h
  · split at h
    · have := xor_cancel h; omega
    · omega
  · split at h
    · omega
    · omega
theorem rnds_inj {s t : Nat} (hs : s < 65536) (ht : t < 65536) : ∀ k, rnds k s = rnds k t → s = t
  | 0, h => h
  | k + 1, h => rnds_inj hs ht k (rnd_inj (rnds_lt hs k) (rnds_lt ht k) h)
theorem sumF_ne {f g : Nat → Nat} (hf : ∀ j, f j < 256) (hg : ∀ j, g j < 256) {k : Nat} (he : ∀ j, j ≠ k → f j = g j) (hne : f k ≠ g k) : ∀ m, k < m → sumF f m ≠ sumF g m
  | 0, h => by omega
  | m + 1, h => by
    intro e
    have hF := sumF_lt f hf m
    have hG := sumF_lt g hg m
    have hfm := hf m
    have hgm := hg m
    have h2 : sumF f m ^^^ f m * 256 = sumF g m ^^^ g m * 256 := rnds_inj (xor_lt hF (by omega)) (xor_lt hG (by omega)) 8 e
    by_cases hk : k = m
    · subst hk
      rw [sumF_same (g := g) k fun j hj => he j (by omega)] at h2
      rw [Nat.xor_comm _ (f k * 256), Nat.xor_comm _ (g k * 256)] at h2
      have := xor_cancel h2
      exact hne (by omega)
    · rw [he m (by omega)] at h2
      exact sumF_ne hf hg he hne m (by omega) (xor_cancel h2)
theorem env_cases (f : Nat → Nat) (n : Nat) : 0 ≤ envW f n := by
  unfold envW
  repeat' split
  all_goals omega
theorem env_all {f : Nat → Nat} {n : Nat} (h : envW f n = 0) : 8 ≤ n ∧ n ≤ 20008 ∧ f 0 = 83 ∧ f 1 = 116 ∧ f 2 * 256 + f 3 = n ∧ sumF f (n - 2) = f (n - 2) * 256 + f (n - 1) := by
  unfold envW at h
  split at h
  · simp at h
  · split at h
    · simp at h
    · split at h
      · simp at h
      · next h1 h2 h3 =>
        simp only [not_or, Decidable.not_not] at h2 h3
        exact ⟨by omega, by omega, h2.1, h2.2.1, h2.2.2, h3⟩
/-- An image in which one byte is another one is none. -/
theorem one_byte {f g : Nat → Nat} {n k : Nat} {xs : List InstT} (hf : ∀ j, f j < 256) (hg : ∀ j, g j < 256) (hr : readM f n = .inr xs) (hk : k < n) (he : ∀ j, j ≠ k → f j = g j) (hne : f k ≠ g k) : ∃ c, 0 < c ∧ readM g n = .inl (c, 0) := by
  have hE : envW f n = 0 := by
    by_cases h : envW f n = 0
    · exact h
    · unfold readM at hr; rw [if_pos h] at hr; cases hr
  have hG : envW g n ≠ 0 := by
    intro hG
    obtain ⟨a1, a2, a3, a4, a5, a6⟩ := env_all hE
    obtain ⟨b1, b2, b3, b4, b5, b6⟩ := env_all hG
    by_cases k0 : k = 0
    · subst k0; omega
    by_cases k1 : k = 1
    · subst k1; omega
    by_cases k2 : k = 2
    · subst k2; have := he 3 (by omega); omega
    by_cases k3 : k = 3
    · subst k3; have := he 2 (by omega); omega
    by_cases k4 : k < n - 2
    · have h1 := sumF_ne hf hg he hne (n - 2) k4
      have h2 := he (n - 2) (by omega)
      have h3 := he (n - 1) (by omega)
      rw [h2, h3] at a6
      exact h1 (a6.trans b6.symm)
    · have h1 := sumF_same (f := f) (g := g) (n - 2) fun j hj => he j (by omega)
      have h4 := hf (n - 1)
      have h5 := hg (n - 1)
      by_cases k5 : k = n - 2
      · have h3 := he (n - 1) (by omega)
        rw [k5] at hne
        omega
      · have k6 : k = n - 1 := by omega
        have h3 := he (n - 2) (by omega)
        rw [k6] at hne
        omega
  refine ⟨envW g n, ?_, ?_⟩
  · have := env_cases g n; omega
  · unfold readM; rw [if_pos hG]
end Go.Proofs.YtcihplachlokiaaGreatDoor
