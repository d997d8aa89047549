/- Numbers as bytes: the specification's l17Num. -/
import Derived.Test.YtcihplachlokiaaDoorQkh
namespace Go.Proofs.YtcihplachlokiaaDoor
open Go.RowKit Go.Shelf
set_option linter.unusedVariables false
set_option linter.unusedSimpArgs false

/-- The byte of a number at a place. -/
def nbF (v : Int) (n j : Nat) : Nat := (v / 256 ^ (n - 1 - j) % 256).toNat
theorem nbF_lt (v : Int) (n j : Nat) : nbF v n j < 256 := by unfold nbF; omega
theorem nbL_get (n : Nat) : ∀ (v : Int) (j : Nat), j < n → (nbL v n)[j]? = some (nbF v n j) := by
  induction n with
  | zero => intro v j h; omega
  | succ n ih =>
    intro v j h
    unfold nbL
    by_cases e : j = n
    · subst e
      rw [List.getElem?_append_right (by rw [nbL_len]; omega), nbL_len]
      simp [nbF]
    · rw [List.getElem?_append_left (by rw [nbL_len]; omega), ih (v / 256) j (by omega)]
      unfold nbF
      rw [show n + 1 - 1 - j = (n - 1 - j) + 1 by omega, Int.pow_succ, Int.mul_comm ((256 : Int) ^ (n - 1 - j)) 256, ← Int.ediv_ediv_of_nonneg (by decide)]
theorem tm256 (V : Int) : (0 ≤ V.tmod 256 ∧ V.tmod 256 = V % 256) ∨ (V.tmod 256 < 0 ∧ V.tmod 256 + 256 = V % 256) := by
  rw [Int.tmod_eq_emod]
  by_cases h : 0 ≤ V ∨ (256 : Int) ∣ V
  · rw [if_pos h]; left; omega
  · rw [if_neg h]
    have : ¬ (256 : Int) ∣ V := fun h' => h (.inr h')
    right
    have e : (((256 : Int).natAbs : Nat) : Int) = 256 := rfl
    omega
theorem td256 (V : Int) : (V - V % 256).tdiv 256 = V / 256 := by
  rw [show V - V % 256 = 256 * (V / 256) by omega]
  exact Int.mul_tdiv_cancel_left _ (by decide)
theorem ed_bd (v : Int) (k : Nat) (h : -1099511627776 ≤ v ∧ v ≤ 1099511627776) : -1099511627776 ≤ v / 256 ^ k ∧ v / 256 ^ k ≤ 1099511627776 := by
  have hp : (0 : Int) < 256 ^ k := Int.pow_pos (by decide)
  refine ⟨?_, ?_⟩
  · refine Int.le_ediv_of_mul_le hp ?_
    have : (-1099511627776 : Int) * 256 ^ k ≤ -1099511627776 * 1 := by omega
    omega
  · by_cases h0 : 0 ≤ v
    · have := Int.ediv_le_self ((256 : Int) ^ k) h0; omega
    · have := Int.ediv_neg_of_neg_of_pos (by omega : v < 0) hp; omega

set_option maxRecDepth 10000 in
set_option maxHeartbeats 4000000 in
theorem num_s (v : Int) (n : Nat) (w : World) (hv : -1099511627776 ≤ v ∧ v ≤ 1099511627776) (hn : n ≤ 4) :
    Calls Tryd.prog 35 #[.int .i64 v, .int .i64 (n : Nat)] w fun e w' => e = .returned (.slice (some ⟨w.heap.size, 0, none⟩) n n) ∧ By w' w.heap.size n (nbF v n) ∧ Below w.heap.size w w' := by
  have hmk := run_make_row' (P := Tryd.prog) 22 5 (.int .u8 0) 1 Tryd.underlying22 infoU8 rfl .i64 .i64 n (by omega) (by omega)
  have r1 := By.made w n
  have b1 : Below w.heap.size w (w.alloc (.cells (madeCells #[.int .u8 0] n) 5)) := (Below.refl _ _).alloc (Nat.le_refl _) _
  go_enter Tryd.func35, Tryd.ntmps35
  go_wp2
  generalize (w.alloc (.cells (madeCells #[.int .u8 0] n) 5)) = W1 at r1 b1 ⊢
  clear hmk
  go_loopw [0, 6, 7] (fun vv i _ wr => ∃ (k : Nat) (V : Int), k ≤ n ∧ i = .int .i64 ((n : Int) - 1 - k) ∧ vv = .int .i64 V ∧ Hid (V = v / 256 ^ k) ∧ By wr w.heap.size n (fun j => if n ≤ j + k then nbF v n j else 0) ∧ Below w.heap.size w wr)
    (fun _ i _ _ => (intOf i + 1).toNat)
  case atStart => exact ⟨0, v, Nat.zero_le _, by go_num, rfl, by show v = v / 256 ^ 0; simp, r1.congr (fun j hj => by rw [if_neg (by omega)]), b1⟩
  case round =>
    clear r1 b1
    obtain ⟨k, V, hk, rfl, rfl, HV, hR, hb⟩ := hrel
    by_cases hlt : k < n
    · obtain ⟨K, hK⟩ : ∃ K : Nat, K + k + 1 = n := ⟨n - 1 - k, by omega⟩
      have eK : (n : Int) - 1 - k = (K : Int) := by omega
      rw [eK]
      clear eK
      have bV : -1099511627776 ≤ V ∧ V ≤ 1099511627776 := by rw [HV.out]; exact ed_bd v k hv
      have hT := tm256 V
      have hQ := td256 V
      have HQ2 : Hid (V / 256 = v / 256 ^ (k + 1)) := (by rw [HV.out, Int.pow_succ, Int.ediv_ediv_of_nonneg (Int.le_of_lt (Int.pow_pos (by decide)))] : V / 256 = v / 256 ^ (k + 1))
      have HD2 : Hid ((nbF v n K : Int) = V % 256) := (by unfold nbF; rw [HV.out, show n - 1 - K = k by omega]; omega : (nbF v n K : Int) = V % 256)
      have hf := hR.frz K
      have hc := hR.cell K (by omega)
      rw [if_neg (by omega)] at hc
      obtain ⟨D, hD⟩ : ∃ D, nbF v n K = D := ⟨_, rfl⟩
      obtain ⟨Q, hQd⟩ : ∃ Q, V / 256 = Q := ⟨_, rfl⟩
      have bQ : -1099511627776 ≤ Q ∧ Q ≤ 1099511627776 := by omega
      have bD : D < 256 := by rw [← hD]; exact nbF_lt v n K
      have HNew : Hid (∀ W, W = wr.setCell ⟨w.heap.size, K, none⟩ (.int .u8 (D : Nat)) → By W w.heap.size n (fun j => if n ≤ j + (k + 1) then nbF v n j else 0) ∧ Below w.heap.size w W) := (fun W hW => by
        subst hW
        refine ⟨(hR.set K (by omega) D).congr fun j hj => ?_, bel_set hb (Nat.le_refl _) _ _⟩
        by_cases h1 : j = K
        · subst h1; rw [if_pos rfl, if_pos (by omega), hD]
        · rw [if_neg h1]
          by_cases h2 : n ≤ j + k
          · rw [if_pos h2, if_pos (by omega)]
          · rw [if_neg h2, if_neg (by omega)] : ∀ W, W = wr.setCell ⟨w.heap.size, K, none⟩ (.int .u8 (D : Nat)) → By W w.heap.size n (fun j => if n ≤ j + (k + 1) then nbF v n j else 0) ∧ Below w.heap.size w W)
      rw [hD] at HD2
      rw [hQd] at hQ HQ2
      rw [← HD2.out] at hT hQ
      clear hD hQd HD2 hR hb HV
      rcases hT with ⟨h1, h2⟩ | ⟨h1, h2⟩
      · rw [h2] at h1
        have e1 : ¬ ((D : Int) < 0) := by omega
        have e2 : (D : Int) % 256 = (D : Int) := by omega
        clear h1
        go_wp2
        go_roundw
        case rel => exact ⟨k + 1, Q, by omega, by go_num, rfl, HQ2, (HNew.out _ rfl).1, (HNew.out _ rfl).2⟩
        case measure => simp [intOf]
      · have h3 : V.tmod 256 + 256 = (D : Int) := h2
        obtain ⟨T, hT⟩ : ∃ T, V.tmod 256 = T := ⟨_, rfl⟩
        rw [hT] at h1 h3
        have h4 : T + 256 = (D : Int) := h3
        have e2 : (D : Int) % 256 = (D : Int) := by omega
        clear h2 h3
        go_wp2
        go_roundw
        case rel => exact ⟨k + 1, Q, by omega, by go_num, rfl, HQ2, (HNew.out _ rfl).1, (HNew.out _ rfl).2⟩
        case measure => simp [intOf]
    · have hkn : k = n := by omega
      subst hkn
      have eK : (k : Int) - 1 - k = -1 := by omega
      rw [eK]
      have HR : Hid (By wr w.heap.size k (nbF v k) ∧ Below w.heap.size w wr) := ⟨hR.congr fun j hj => by rw [if_pos (by omega)], hb⟩
      clear hR hb eK HV
      go_wp2
      go_ret
      exact ⟨rfl, HR.out⟩
end Go.Proofs.YtcihplachlokiaaDoor
