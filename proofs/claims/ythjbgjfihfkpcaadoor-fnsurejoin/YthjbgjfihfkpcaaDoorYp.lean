/- A list that is verified: the heights stay within their bounds. -/
import Derived.Test.YthjbgjfihfkpcaaDoorBaM
import Derived.Test.YthjbgjfihfkpcaaDoorZaM
namespace Go.Proofs.YthjbgjfihfkpcaaDoor
open Go.RowKit
set_option linter.unusedVariables false

theorem chk_pos (xs : List InstT) : ∀ (n : Nat) (r : Rn), 0 ≤ (chk xs n r).1 ∧ 0 ≤ (chk xs n r).2 ∧ (chk xs n r).2 ≤ (n : Int) + xs.length := by
  induction xs with
  | nil => intro n r; rw [chk]; split <;> simp
  | cons x xs ih =>
    intro n r
    rw [chk]
    split
    · have := ih (n + 1) (nx r x.code)
      simp at this ⊢
      omega
    · have := wrong_in r (okT' x) x.code
      simp
      omega
theorem check_pos (xs : List InstT) : 0 ≤ (checkT xs).1 ∧ 0 ≤ (checkT xs).2 ∧ (checkT xs).2 ≤ xs.length := by
  unfold checkT
  split
  · simp
  · have := chk_pos xs 0 ⟨0, 0, false, false⟩
    omega
/-- Where a list that is verified stands ahead of its n-th instruction. -/
theorem runs {xs : List InstT} (h : (checkT xs).1 = 0) : xs.length ≤ 1000 ∧ ∀ n, n ≤ xs.length → ∃ r, RnOk r ∧ r.b = htB xs n ∧ r.f = htF xs n ∧ (chk (xs.drop n) n r).1 = 0 := by
  unfold checkT at h
  split at h
  · simp at h
  · next hk =>
    refine ⟨by omega, fun n => ?_⟩
    induction n with
    | zero => exact fun _ => ⟨_, rn_zero, rfl, rfl, h⟩
    | succ n ih =>
      intro hn
      obtain ⟨r, h1, h2, h3, h4⟩ := ih (by omega)
      obtain ⟨x, hx⟩ : ∃ x, xs[n]? = some x := ⟨_, List.getElem?_eq_getElem (by omega)⟩
      by_cases hw : wrongC r (okT' x) x.code = 0
      · rw [chk_go hx hw] at h4
        obtain ⟨e1, e2, _⟩ := nx_i h1 hw
        exact ⟨_, rn_next h1 (fun h => okI_code h) hw, by rw [e1, h2, htB_succ hx], by rw [e2, h3, htF_succ hx], h4⟩
      · rw [chk_bad hx hw] at h4
        exact absurd h4 hw
theorem peak_in {xs : List InstT} (h : (checkT xs).1 = 0) : ∀ n, n ≤ xs.length → (htB xs n ≤ 16 ∧ htF xs n ≤ 8) ∧ 0 ≤ htB xs n ∧ 0 ≤ htF xs n := fun n hn => by
  obtain ⟨r, h1, h2, h3, _⟩ := (runs h).2 n hn
  rw [← h2, ← h3]
  exact ⟨⟨h1.b1, h1.f1⟩, h1.b0, h1.f0⟩
theorem first_ld {xs : List InstT} (h : (checkT xs).1 = 0) (h0 : 0 < xs.length) : htB xs 1 = 1 := by
  obtain ⟨x, hx⟩ : ∃ x, xs[0]? = some x := ⟨_, List.getElem?_eq_getElem h0⟩
  unfold checkT at h
  split at h
  · simp at h
  · by_cases hw : wrongC ⟨0, 0, false, false⟩ (okT' x) x.code = 0
    · have z1 : ¬ (0 : Int) < needs x.code := of_decide_eq_false (wrong_zero hw 1 (by omega))
      have hc : x.code = 1 := by
        by_cases e : x.code = 1
        · exact e
        · unfold needs at z1
          rw [if_neg e] at z1
          split at z1 <;> omega
      rw [htB_succ hx, hc]
      rfl
    · have := chk_bad (n := 0) hx hw
      rw [List.drop_zero] at this
      rw [this] at h
      exact absurd h hw
end Go.Proofs.YthjbgjfihfkpcaaDoor
