/- An image is read as the list that it was made of; what is read is made to the same bytes. -/
import Derived.Test.YtcihplachlokiaaGreatDoorQrjM
import Derived.Test.YtcihplachlokiaaGreatDoorQkn
namespace Go.Proofs.YtcihplachlokiaaGreatDoor
open Go.RowKit Go.Shelf
set_option linter.unusedVariables false
set_option linter.unusedSimpArgs false

theorem at_left (l k : List Nat) (j : Nat) (h : j < l.length) : atL (l ++ k) j = atL l j := by
  unfold atL
  rw [List.getD_eq_getElem?_getD, List.getElem?_append_left h, List.getD_eq_getElem?_getD]
theorem at_right (l k : List Nat) (n j : Nat) (h : l.length = n) : atL (l ++ k) (n + j) = atL k j := by
  unfold atL
  rw [List.getD_eq_getElem?_getD, List.getElem?_append_right (by omega), List.getD_eq_getElem?_getD, show n + j - l.length = j by omega]
theorem list_at {l k : List Nat} (h : l.length = k.length) (ha : ∀ j, j < l.length → atL l j = atL k j) : l = k := by
  refine List.ext_getElem h fun j h1 h2 => ?_
  have := ha j h1
  unfold atL at this
  rwa [List.getD_eq_getElem?_getD, List.getD_eq_getElem?_getD, List.getElem?_eq_getElem h1, List.getElem?_eq_getElem h2] at this
theorem hd_len (xs : List InstT) : (hdL xs).length = 6 := by unfold hdL; rw [List.length_append, List.length_append, nbL_len, nbL_len]; rfl
theorem hd_eq (xs : List InstT) : hdL xs = [83, 116, ((bodL xs).length + 8) / 256 % 256, ((bodL xs).length + 8) % 256, xs.length / 256 % 256, xs.length % 256] := by
  unfold hdL
  rw [nbL_2, nbL_2]
  rw [show ((((bodL xs).length : Int) + 8) / 256 % 256).toNat = ((bodL xs).length + 8) / 256 % 256 by omega, show ((((bodL xs).length : Int) + 8) % 256).toNat = ((bodL xs).length + 8) % 256 by omega,
    show (((xs.length : Int)) / 256 % 256).toNat = xs.length / 256 % 256 by omega, show (((xs.length : Int)) % 256).toNat = xs.length % 256 by omega]
  rfl
/-- The head's bytes and the body's. -/
theorem hd_at (xs : List InstT) : atL (hdL xs ++ bodL xs) 0 = 83 ∧ atL (hdL xs ++ bodL xs) 1 = 116 ∧ atL (hdL xs ++ bodL xs) 2 = ((bodL xs).length + 8) / 256 % 256 ∧ atL (hdL xs ++ bodL xs) 3 = ((bodL xs).length + 8) % 256 ∧ atL (hdL xs ++ bodL xs) 4 = xs.length / 256 % 256 ∧ atL (hdL xs ++ bodL xs) 5 = xs.length % 256 ∧ ∀ j, atL (hdL xs ++ bodL xs) (6 + j) = atL (bodL xs) j := by
  have h6 := hd_len xs
  rw [at_left _ _ 0 (by omega), at_left _ _ 1 (by omega), at_left _ _ 2 (by omega), at_left _ _ 3 (by omega), at_left _ _ 4 (by omega), at_left _ _ 5 (by omega), hd_eq]
  refine ⟨rfl, rfl, rfl, rfl, rfl, rfl, fun j => ?_⟩
  rw [← hd_eq]
  exact at_right _ _ 6 j h6
theorem img_at (xs : List InstT) : (∀ j, j < 6 + (bodL xs).length → atL (imgL xs) j = atL (hdL xs ++ bodL xs) j) ∧ atL (imgL xs) (6 + (bodL xs).length) = smL (hdL xs ++ bodL xs) / 256 % 256 ∧ atL (imgL xs) (6 + (bodL xs).length + 1) = smL (hdL xs ++ bodL xs) % 256 ∧ (imgL xs).length = 6 + (bodL xs).length + 2 := by
  have hl : (hdL xs ++ bodL xs).length = 6 + (bodL xs).length := by rw [List.length_append, hd_len]
  unfold imgL
  refine ⟨fun j hj => at_left _ _ j (by omega), ?_, ?_, ?_⟩
  · rw [show 6 + (bodL xs).length = 6 + (bodL xs).length + 0 by omega, at_right _ _ _ 0 hl, nbL_2]
    show (((smL (hdL xs ++ bodL xs) : Int)) / 256 % 256).toNat = _
    omega
  · rw [at_right _ _ _ 1 hl, nbL_2]
    show (((smL (hdL xs ++ bodL xs) : Int)) % 256).toNat = _
    omega
  · rw [List.length_append, hl, nbL_len]
theorem mid_eq {f : Nat → Nat} {l : List Nat} {n : Nat} (hn : l.length = n) (h : ∀ j, j < n → f (6 + j) = atL l j) : ((List.range n).map fun j => f (6 + j)) = l := by
  refine list_at (by simp [hn]) fun j hj => ?_
  simp only [List.length_map, List.length_range] at hj
  rw [← h j hj]
  unfold atL
  rw [List.getD_eq_getElem?_getD, List.getElem?_map, List.getElem?_range hj]
  rfl
/-- What was made is read. -/
theorem read_img {xs : List InstT} (h : (pfT xs).1 = 0) : readM (atL (imgL xs)) (imgL xs).length = .inr xs := by
  obtain ⟨h1, h2⟩ := pf_zero h
  have hB := bodL_len xs h2
  obtain ⟨i1, i2, i3, i4⟩ := img_at xs
  obtain ⟨d0, d1, d2, d3, d4, d5, d6⟩ := hd_at xs
  have hS : smL (hdL xs ++ bodL xs) < 65536 := sumF_lt _ (atL_lt (hdL_lt xs)) _
  have hl : (hdL xs ++ bodL xs).length = 6 + (bodL xs).length := by rw [List.length_append, hd_len]
  have hE : envW (atL (imgL xs)) (imgL xs).length = 0 := by
    unfold envW
    rw [i4, if_neg (by omega), i1 0 (by omega), i1 1 (by omega), i1 2 (by omega), i1 3 (by omega), d0, d1, d2, d3, if_neg (by omega), show 6 + (bodL xs).length + 2 - 2 = 6 + (bodL xs).length by omega, show 6 + (bodL xs).length + 2 - 1 = 6 + (bodL xs).length + 1 by omega, i2, i3]
    rw [sumF_same (g := atL (hdL xs ++ bodL xs)) _ i1]
    rw [show sumF (atL (hdL xs ++ bodL xs)) (6 + (bodL xs).length) = smL (hdL xs ++ bodL xs) by unfold smL; rw [hl]]
    rw [if_neg (by omega)]
  unfold readM
  rw [if_neg (by rw [hE]; simp), i1 4 (by omega), i1 5 (by omega), d4, d5, show xs.length / 256 % 256 * 256 + xs.length % 256 = xs.length by omega, i4, show 6 + (bodL xs).length + 2 - 8 = (bodL xs).length by omega,
    mid_eq rfl fun j hj => by rw [i1 _ (by omega), d6 j]]
  unfold listM
  have := insts_ins xs h2 0 []
  rw [List.append_nil] at this
  rw [if_neg (by omega), this]
  rfl
theorem fw_all : ∀ (xs : List InstT) (j : Nat), (∀ x ∈ xs, wrT x = 0) → (fwA xs j).1 = 0
  | [], _, _ => rfl
  | y :: ys, j, h => by
    unfold fwA
    rw [if_pos (h y (List.mem_cons_self ..))]
    exact fw_all ys (j + 1) fun x hx => h x (List.mem_cons_of_mem _ hx)
/-- What was read is made. -/
theorem read_back {l : List Nat} {xs : List InstT} (hb : ∀ b ∈ l, b < 256) (h : readM (atL l) l.length = .inr xs) : (pfT xs).1 = 0 ∧ imgL xs = l := by
  unfold readM at h
  by_cases hE : envW (atL l) l.length ≠ 0
  · rw [if_pos hE] at h; cases h
  rw [if_neg hE] at h
  have hE := Decidable.not_not.1 hE
  unfold listM at h
  by_cases h1 : 1000 < atL l 4 * 256 + atL l 5
  · rw [if_pos h1] at h; cases h
  rw [if_neg h1] at h
  obtain ⟨mid, hm⟩ : ∃ mid, ((List.range (l.length - 8)).map fun j => atL l (6 + j)) = mid := ⟨_, rfl⟩
  rw [hm] at h
  have hml : mid.length = l.length - 8 := by rw [← hm]; simp
  have hma : ∀ j, j < l.length - 8 → atL mid j = atL l (6 + j) := fun j hj => by
    rw [← hm]
    show List.getD _ j 0 = _
    rw [List.getD_eq_getElem?_getD, List.getElem?_map, List.getElem?_range hj]
    rfl
  have hmb : ∀ b ∈ mid, b < 256 := fun b hb' => by
    rw [← hm] at hb'
    obtain ⟨j, _, rfl⟩ := List.mem_map.1 hb'
    exact atL_lt hb _
  cases hi : instsM (atL l 4 * 256 + atL l 5) 0 mid with
  | inl e => rw [hi] at h; cases h
  | inr q =>
    obtain ⟨ys, r'⟩ := q
    rw [hi] at h
    simp only [] at h
    by_cases hr : r' = []
    · rw [if_pos hr] at h
      simp only [Sum.inr.injEq] at h
      subst h
      obtain ⟨e1, e2, e3⟩ := insts_back _ hmb hi
      rw [hr, List.append_nil] at e2
      have hpf : (pfT ys).1 = 0 := by
        unfold pfT
        rw [if_neg (by omega)]
        exact fw_all ys 0 e3
      refine ⟨hpf, ?_⟩
      unfold envW at hE
      by_cases c1 : l.length < 8 ∨ 20008 < l.length
      · rw [if_pos c1] at hE; cases hE
      rw [if_neg c1] at hE
      by_cases c2 : atL l 0 ≠ 83 ∨ atL l 1 ≠ 116 ∨ atL l 2 * 256 + atL l 3 ≠ l.length
      · rw [if_pos c2] at hE; cases hE
      rw [if_neg c2] at hE
      by_cases c3 : sumF (atL l) (l.length - 2) ≠ atL l (l.length - 2) * 256 + atL l (l.length - 1)
      · rw [if_pos c3] at hE; cases hE
      have c3 := Decidable.not_not.1 c3
      have hB : (bodL ys).length = l.length - 8 := by rw [← e2]; exact hml
      have b2 := atL_lt hb 2
      have b3 := atL_lt hb 3
      have b4 := atL_lt hb 4
      have b5 := atL_lt hb 5
      have bu := atL_lt hb (l.length - 2)
      have bv := atL_lt hb (l.length - 1)
      obtain ⟨d0, d1, d2, d3, d4, d5, d6⟩ := hd_at ys
      obtain ⟨i1, i2, i3, i4⟩ := img_at ys
      have hH : ∀ j, j < 6 + (bodL ys).length → atL (hdL ys ++ bodL ys) j = atL l j := fun j hj => by
        by_cases j6 : 6 ≤ j
        · obtain ⟨k, rfl⟩ : ∃ k, j = 6 + k := ⟨j - 6, by omega⟩
          rw [d6 k, ← e2, hma k (by omega)]
        · have : j = 0 ∨ j = 1 ∨ j = 2 ∨ j = 3 ∨ j = 4 ∨ j = 5 := by omega
          rcases this with rfl | rfl | rfl | rfl | rfl | rfl
          · rw [d0]; omega
          · rw [d1]; omega
          · rw [d2, hB]; omega
          · rw [d3, hB]; omega
          · rw [d4, e1]; omega
          · rw [d5, e1]; omega
      have hl : (hdL ys ++ bodL ys).length = 6 + (bodL ys).length := by rw [List.length_append, hd_len]
      have hS : smL (hdL ys ++ bodL ys) = atL l (l.length - 2) * 256 + atL l (l.length - 1) := by
        unfold smL
        rw [hl, sumF_same (g := atL l) _ hH, show 6 + (bodL ys).length = l.length - 2 by omega]
        exact c3
      refine list_at (by omega) fun j hj => ?_
      by_cases j1 : j < 6 + (bodL ys).length
      · rw [i1 j j1, hH j j1]
      · by_cases j2 : j = 6 + (bodL ys).length
        · rw [j2, i2, hS, show 6 + (bodL ys).length = l.length - 2 by omega]; omega
        · rw [show j = 6 + (bodL ys).length + 1 by omega, i3, hS, show 6 + (bodL ys).length + 1 = l.length - 1 by omega]; omega
    · rw [if_neg hr] at h; cases h
end Go.Proofs.YtcihplachlokiaaGreatDoor
