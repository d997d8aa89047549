/- SurePeak of the specification. -/
import Derived.Test.YtcmmiamnbefefaaAd
import Derived.Deep.QuietTactic
import Derived.BigQuiet
namespace Go.Proofs.Ytcmmiamnbefefaa
open Go.RowKit
set_option linter.unusedVariables false

theorem TrIs.drewN {W : World} {base : Nat} {v : Value} {xs : List InstT} {n : Nat} (h : TrIs W base v xs n) (q : Nat) : TrIs (W.drewN q) base v xs n := h.later ⟨rfl, rfl, rfl, Nat.le_refl _, fun _ _ => rfl⟩
set_option maxRecDepth 10000 in
set_option maxHeartbeats 4000000 in
theorem peak_s (v : Value) (xs : List InstT) (w : World) (lo : Nat) (hv : InstsIs w lo v xs) (hbig : xs.length ≤ 1048576) :
    Calls Try.prog 18 #[v] w fun e w' => PeakR xs w e w' := by
  have HB0 : Hid (Below w.heap.size w (w.alloc (.cells #[.int .i64 0, .int .i64 0] 26))) := (Below.refl _ _).alloc (Nat.le_refl _) _
  have HTr : Hid (Calls Try.prog 8 #[v] (w.alloc (.cells #[.int .i64 0, .int .i64 0] 26)) fun e w' => TrR xs (w.alloc (.cells #[.int .i64 0, .int .i64 0] 26)) e w') := trace_s v xs _ lo (instsIs_move (Keeps.of_below HB0.out lo) (Nat.le_refl _) hv) hbig
  have hz : (w.alloc (.cells #[.int .i64 0, .int .i64 0] 26)).heap.size = w.heap.size + 1 := by simp
  have HR : Hid ((w.alloc (.cells #[.int .i64 0, .int .i64 0] 26)).heap[w.heap.size]? = some (.cells #[.int .i64 0, .int .i64 0] 26 (0, 0))) := heap_alloc_last w _
  clear hv
  go_enter Try.func18, Try.ntmps18
  go_wp2_with fail
  refine HTr.out.mono ?_
  rintro e w1 ⟨v', rfl, hT, g1⟩
  obtain ⟨N, HN⟩ : ∃ N, Hid (N = trN xs) := ⟨_, rfl⟩
  have hNle := trN_le xs
  rw [← HN.out] at hT hNle
  obtain ⟨ta, tc, rfl, hta⟩ := hT.form
  have k0 : w1.heap[w.heap.size]? = some (.cells #[.int .i64 0, .int .i64 0] 26 (0, 0)) := (g1.block _ (by omega)).trans HR.out
  have kb : Below w.heap.size w w1 := HB0.out.trans (g1.mono (by omega))
  have hpl : w.heap.size < w1.heap.size := (Array.getElem?_eq_some_iff.1 k0).1
  have HA : Hid (∀ j, j < N → ∃ g, ta = some ⟨g, 0, none⟩ ∧ g < w1.heap.size) := fun j hj => by
    obtain ⟨g, e1, _⟩ := hta j hj
    exact ⟨g, e1, (hT.lt g (by rw [e1]; rfl)).2⟩
  have HST : Hid ((w1.alloc (.cells #[.int .i64 0, .int .i64 0] 26)).heap[w.heap.size]? = some (.cells #[.int .i64 0, .int .i64 0] 26 (0, 0)) ∧ (w1.alloc (.cells #[.int .i64 0, .int .i64 0] 26)).heap[w1.heap.size]? = some (.cells #[.int .i64 0, .int .i64 0] 26 (0, 0)) ∧ TrIs (w1.alloc (.cells #[.int .i64 0, .int .i64 0] 26)) (w.heap.size + 1) (.slice ta N tc) xs N ∧ Below w.heap.size w (w1.alloc (.cells #[.int .i64 0, .int .i64 0] 26))) := ⟨(heap_alloc_old _ _ (h := hpl)).trans k0, heap_alloc_last w1 _, by rw [← hz]; exact hT.later ((Below.refl _ _).alloc (Nat.le_refl _) _), kb.alloc kb.size _⟩
  clear hT hta g1 HTr HR HB0 hz k0 kb
  go_wp2
  go_loopg [5] N (fun gg i wr => ∃ (n : Nat) (B F : Int), n + gg = N ∧ i = .int .i64 n ∧ -2000 ≤ B ∧ B ≤ 2000 ∧ -2000 ≤ F ∧ F ≤ 2000 ∧ Hid (B = pkB xs n ∧ F = pkF xs n ∧ wr.heap[w.heap.size]? = some (.cells #[.int .i64 0, .int .i64 0] 26 (0, 0)) ∧ wr.heap[w1.heap.size]? = some (.cells #[.int .i64 B, .int .i64 F] 26 (0, 0)) ∧ TrIs wr (w.heap.size + 1) (.slice ta N tc) xs N ∧ Below w.heap.size w wr))
  case atStart => exact ⟨0, 0, 0, by omega, rfl, by omega, by omega, by omega, by omega, rfl, rfl, HST.out.1, HST.out.2.1, HST.out.2.2.1, HST.out.2.2.2⟩
  case round =>
    clear HST
    obtain ⟨n, B, F, hn, rfl, hB0, hB1, hF0, hF1, HS⟩ := hrel
    by_cases hlt : n < N
    · have i1 : (n : Int) < (N : Int) := by omega
      have i3 : (0 : Int) ≤ (n : Int) := by omega
      obtain ⟨g, rfl, hg⟩ := HA.out n hlt
      have hq1 := htB_in xs (n + 1)
      have hq2 := htF_in xs (n + 1)
      have cB := (HS.out.2.2.2.2.1.cell hlt).1
      have cF := (HS.out.2.2.2.2.1.cell hlt).2
      obtain ⟨b, Hb⟩ : ∃ q, Hid (q = htB xs (n + 1)) := ⟨_, rfl⟩
      obtain ⟨f, Hf⟩ : ∃ q, Hid (q = htF xs (n + 1)) := ⟨_, rfl⟩
      rw [← Hb.out] at hq1 cB
      rw [← Hf.out] at hq2 cF
      have k1 := HS.out.2.2.2.1
      have d0 : wr.cell? ⟨w1.heap.size, 0, none⟩ = some (.int .i64 B) := (cell_of_row _ _ _ _ _ _ k1).trans rfl
      have d1 : wr.cell? ⟨w1.heap.size, 1, none⟩ = some (.int .i64 F) := (cell_of_row _ _ _ _ _ _ k1).trans rfl
      have HNX : Hid (∀ (W : World) (M1 M2 : Int), M1 = max B b → M2 = max F f → W.heap[w.heap.size]? = some (.cells #[.int .i64 0, .int .i64 0] 26 (0, 0)) → W.heap[w1.heap.size]? = some (.cells #[.int .i64 M1, .int .i64 M2] 26 (0, 0)) → TrIs W (w.heap.size + 1) (.slice (some ⟨g, 0, none⟩) N tc) xs N → Below w.heap.size w W → M1 = pkB xs (n + 1) ∧ M2 = pkF xs (n + 1) ∧ W.heap[w.heap.size]? = some (.cells #[.int .i64 0, .int .i64 0] 26 (0, 0)) ∧ W.heap[w1.heap.size]? = some (.cells #[.int .i64 M1, .int .i64 M2] 26 (0, 0)) ∧ TrIs W (w.heap.size + 1) (.slice (some ⟨g, 0, none⟩) N tc) xs N ∧ Below w.heap.size w W) := fun W M1 M2 e1 e2 a1 a2 a3 a4 => ⟨by rw [e1, HS.out.1, Hb.out]; rfl, by rw [e2, HS.out.2.1, Hf.out]; rfl, a1, a2, a3, a4⟩
      by_cases jB : B < b
      · by_cases jF : F < f
        · go_wp2
          go_quiet (fail)
          have K1 : Hid ((wr.drewN nq).heap[w.heap.size]? = some (.cells #[.int .i64 0, .int .i64 0] 26 (0, 0)) ∧ (wr.drewN nq).heap[w1.heap.size]? = some (.cells #[.int .i64 B, .int .i64 F] 26 (0, 0)) ∧ TrIs (wr.drewN nq) (w.heap.size + 1) (.slice (some ⟨g, 0, none⟩) N tc) xs N ∧ Below w.heap.size w (wr.drewN nq)) := ⟨HS.out.2.2.1, HS.out.2.2.2.1, HS.out.2.2.2.2.1.drewN nq, HS.out.2.2.2.2.2.trans ⟨rfl, rfl, rfl, Nat.le_refl _, fun _ _ => rfl⟩⟩
          generalize wr.drewN nq = w2 at K1 ⊢
          have a0 : w2.cell? ⟨g, n * 2, none⟩ = some (.int .i64 b) := by rw [Hb.out]; exact (K1.out.2.2.1.cell hlt).1
          have HS1 : Hid ((storeVar 3 ⟨w1.heap.size, 0, none⟩ (.int .i64 b)).run Try.prog w2 = .ok () (w2.setRow w1.heap.size #[.int .i64 b, .int .i64 F])) := store_one (P := Try.prog) K1.out.2.1 3 0 (.int .i64 b) (by simp) (by kernel_rfl) rfl rfl
          have K2 : Hid ((w2.setRow w1.heap.size #[.int .i64 b, .int .i64 F]).heap[w.heap.size]? = some (.cells #[.int .i64 0, .int .i64 0] 26 (0, 0)) ∧ (w2.setRow w1.heap.size #[.int .i64 b, .int .i64 F]).heap[w1.heap.size]? = some (.cells #[.int .i64 b, .int .i64 F] 26 (0, 0)) ∧ TrIs (w2.setRow w1.heap.size #[.int .i64 b, .int .i64 F]) (w.heap.size + 1) (.slice (some ⟨g, 0, none⟩) N tc) xs N ∧ Below w.heap.size w (w2.setRow w1.heap.size #[.int .i64 b, .int .i64 F])) := ⟨row_beside K1.out.1 _ (by omega) _, row_set K1.out.2.1 _, K1.out.2.2.1.beside _ (by omega), below_setRow K1.out.2.2.2 (by omega) _⟩
          obtain ⟨w3, Hw3⟩ : ∃ W, Hid (W = w2.setRow w1.heap.size #[.int .i64 b, .int .i64 F]) := ⟨_, rfl⟩
          rw [← Hw3.out] at HS1 K2
          clear Hw3
          have a1 : w3.cell? ⟨g, n * 2 + 1, none⟩ = some (.int .i64 f) := by rw [Hf.out]; exact (K2.out.2.2.1.cell hlt).2
          have a2 : w3.cell? ⟨w1.heap.size, 1, none⟩ = some (.int .i64 F) := (cell_of_row _ _ _ _ _ _ K2.out.2.1).trans rfl
          clear cB cF d0 d1 k1
          go_wp2_with (first | (refine wpL_store rfl 3 _ _ rfl _ _ rfl _ rfl _ HS1.out ?_) | fail)
          go_quiet (fail)
          have K3 : Hid ((w3.drewN nq).heap[w.heap.size]? = some (.cells #[.int .i64 0, .int .i64 0] 26 (0, 0)) ∧ (w3.drewN nq).heap[w1.heap.size]? = some (.cells #[.int .i64 b, .int .i64 F] 26 (0, 0)) ∧ TrIs (w3.drewN nq) (w.heap.size + 1) (.slice (some ⟨g, 0, none⟩) N tc) xs N ∧ Below w.heap.size w (w3.drewN nq)) := ⟨K2.out.1, K2.out.2.1, K2.out.2.2.1.drewN nq, K2.out.2.2.2.trans ⟨rfl, rfl, rfl, Nat.le_refl _, fun _ _ => rfl⟩⟩
          generalize w3.drewN nq = w4 at K3 ⊢
          have a3 : w4.cell? ⟨g, n * 2 + 1, none⟩ = some (.int .i64 f) := by rw [Hf.out]; exact (K3.out.2.2.1.cell hlt).2
          have HS3 : Hid ((storeVar 3 ⟨w1.heap.size, 1, none⟩ (.int .i64 f)).run Try.prog w4 = .ok () (w4.setRow w1.heap.size #[.int .i64 b, .int .i64 f])) := store_one (P := Try.prog) K3.out.2.1 3 1 (.int .i64 f) (by simp) (by kernel_rfl) rfl rfl
          have HF := HNX.out (w4.setRow w1.heap.size #[.int .i64 b, .int .i64 f]) b f (by omega) (by omega) (row_beside K3.out.1 _ (by omega) _) (row_set K3.out.2.1 _) (K3.out.2.2.1.beside _ (by omega)) (below_setRow K3.out.2.2.2 (by omega) _)
          have HFF : Hid _ := HF
          clear HF
          go_wp2_with (first | (refine wpL_store rfl 3 _ _ rfl _ _ rfl _ rfl _ HS3.out ?_) | fail)
          go_roundg (gk - 1)
          case measure => omega
          case rel => exact ⟨n + 1, b, f, by omega, by simp, by omega, by omega, by omega, by omega, HFF⟩
        · have jF2 : decide (F < f) = false := by simp; omega
          go_wp2
          go_quiet (fail)
          have K1 : Hid ((wr.drewN nq).heap[w.heap.size]? = some (.cells #[.int .i64 0, .int .i64 0] 26 (0, 0)) ∧ (wr.drewN nq).heap[w1.heap.size]? = some (.cells #[.int .i64 B, .int .i64 F] 26 (0, 0)) ∧ TrIs (wr.drewN nq) (w.heap.size + 1) (.slice (some ⟨g, 0, none⟩) N tc) xs N ∧ Below w.heap.size w (wr.drewN nq)) := ⟨HS.out.2.2.1, HS.out.2.2.2.1, HS.out.2.2.2.2.1.drewN nq, HS.out.2.2.2.2.2.trans ⟨rfl, rfl, rfl, Nat.le_refl _, fun _ _ => rfl⟩⟩
          generalize wr.drewN nq = w2 at K1 ⊢
          have a0 : w2.cell? ⟨g, n * 2, none⟩ = some (.int .i64 b) := by rw [Hb.out]; exact (K1.out.2.2.1.cell hlt).1
          have HS1 : Hid ((storeVar 3 ⟨w1.heap.size, 0, none⟩ (.int .i64 b)).run Try.prog w2 = .ok () (w2.setRow w1.heap.size #[.int .i64 b, .int .i64 F])) := store_one (P := Try.prog) K1.out.2.1 3 0 (.int .i64 b) (by simp) (by kernel_rfl) rfl rfl
          have K2 : Hid ((w2.setRow w1.heap.size #[.int .i64 b, .int .i64 F]).heap[w.heap.size]? = some (.cells #[.int .i64 0, .int .i64 0] 26 (0, 0)) ∧ (w2.setRow w1.heap.size #[.int .i64 b, .int .i64 F]).heap[w1.heap.size]? = some (.cells #[.int .i64 b, .int .i64 F] 26 (0, 0)) ∧ TrIs (w2.setRow w1.heap.size #[.int .i64 b, .int .i64 F]) (w.heap.size + 1) (.slice (some ⟨g, 0, none⟩) N tc) xs N ∧ Below w.heap.size w (w2.setRow w1.heap.size #[.int .i64 b, .int .i64 F])) := ⟨row_beside K1.out.1 _ (by omega) _, row_set K1.out.2.1 _, K1.out.2.2.1.beside _ (by omega), below_setRow K1.out.2.2.2 (by omega) _⟩
          obtain ⟨w3, Hw3⟩ : ∃ W, Hid (W = w2.setRow w1.heap.size #[.int .i64 b, .int .i64 F]) := ⟨_, rfl⟩
          rw [← Hw3.out] at HS1 K2
          clear Hw3
          have a1 : w3.cell? ⟨g, n * 2 + 1, none⟩ = some (.int .i64 f) := by rw [Hf.out]; exact (K2.out.2.2.1.cell hlt).2
          have a2 : w3.cell? ⟨w1.heap.size, 1, none⟩ = some (.int .i64 F) := (cell_of_row _ _ _ _ _ _ K2.out.2.1).trans rfl
          clear cB cF d0 d1 k1
          go_wp2_with (first | (refine wpL_store rfl 3 _ _ rfl _ _ rfl _ rfl _ HS1.out ?_) | fail)
          go_quiet (fail)
          have K3 : Hid ((w3.drewN nq).heap[w.heap.size]? = some (.cells #[.int .i64 0, .int .i64 0] 26 (0, 0)) ∧ (w3.drewN nq).heap[w1.heap.size]? = some (.cells #[.int .i64 b, .int .i64 F] 26 (0, 0)) ∧ TrIs (w3.drewN nq) (w.heap.size + 1) (.slice (some ⟨g, 0, none⟩) N tc) xs N ∧ Below w.heap.size w (w3.drewN nq)) := ⟨K2.out.1, K2.out.2.1, K2.out.2.2.1.drewN nq, K2.out.2.2.2.trans ⟨rfl, rfl, rfl, Nat.le_refl _, fun _ _ => rfl⟩⟩
          generalize w3.drewN nq = w4 at K3 ⊢
          have HF := HNX.out w4 b F (by omega) (by omega) K3.out.1 K3.out.2.1 K3.out.2.2.1 K3.out.2.2.2
          have HFF : Hid _ := HF
          clear HF
          go_wp2_with (first | fail)
          go_roundg (gk - 1)
          case measure => omega
          case rel => exact ⟨n + 1, b, F, by omega, by simp, by omega, by omega, by omega, by omega, HFF⟩
      · have jB2 : decide (B < b) = false := by simp; omega
        by_cases jF : F < f
        · go_wp2
          go_quiet (fail)
          have K1 : Hid ((wr.drewN nq).heap[w.heap.size]? = some (.cells #[.int .i64 0, .int .i64 0] 26 (0, 0)) ∧ (wr.drewN nq).heap[w1.heap.size]? = some (.cells #[.int .i64 B, .int .i64 F] 26 (0, 0)) ∧ TrIs (wr.drewN nq) (w.heap.size + 1) (.slice (some ⟨g, 0, none⟩) N tc) xs N ∧ Below w.heap.size w (wr.drewN nq)) := ⟨HS.out.2.2.1, HS.out.2.2.2.1, HS.out.2.2.2.2.1.drewN nq, HS.out.2.2.2.2.2.trans ⟨rfl, rfl, rfl, Nat.le_refl _, fun _ _ => rfl⟩⟩
          generalize wr.drewN nq = w2 at K1 ⊢
          have a0 : w2.cell? ⟨g, n * 2, none⟩ = some (.int .i64 b) := by rw [Hb.out]; exact (K1.out.2.2.1.cell hlt).1
          obtain ⟨w3, Hw3⟩ : ∃ W, Hid (W = w2) := ⟨_, rfl⟩
          obtain rfl := Hw3.out
          have K2 := K1
          have a1 : w3.cell? ⟨g, n * 2 + 1, none⟩ = some (.int .i64 f) := by rw [Hf.out]; exact (K2.out.2.2.1.cell hlt).2
          have a2 : w3.cell? ⟨w1.heap.size, 1, none⟩ = some (.int .i64 F) := (cell_of_row _ _ _ _ _ _ K2.out.2.1).trans rfl
          clear cB cF d0 d1 k1
          go_wp2_with (first | fail)
          go_quiet (fail)
          have K3 : Hid ((w3.drewN nq).heap[w.heap.size]? = some (.cells #[.int .i64 0, .int .i64 0] 26 (0, 0)) ∧ (w3.drewN nq).heap[w1.heap.size]? = some (.cells #[.int .i64 B, .int .i64 F] 26 (0, 0)) ∧ TrIs (w3.drewN nq) (w.heap.size + 1) (.slice (some ⟨g, 0, none⟩) N tc) xs N ∧ Below w.heap.size w (w3.drewN nq)) := ⟨K2.out.1, K2.out.2.1, K2.out.2.2.1.drewN nq, K2.out.2.2.2.trans ⟨rfl, rfl, rfl, Nat.le_refl _, fun _ _ => rfl⟩⟩
          generalize w3.drewN nq = w4 at K3 ⊢
          have a3 : w4.cell? ⟨g, n * 2 + 1, none⟩ = some (.int .i64 f) := by rw [Hf.out]; exact (K3.out.2.2.1.cell hlt).2
          have HS3 : Hid ((storeVar 3 ⟨w1.heap.size, 1, none⟩ (.int .i64 f)).run Try.prog w4 = .ok () (w4.setRow w1.heap.size #[.int .i64 B, .int .i64 f])) := store_one (P := Try.prog) K3.out.2.1 3 1 (.int .i64 f) (by simp) (by kernel_rfl) rfl rfl
          have HF := HNX.out (w4.setRow w1.heap.size #[.int .i64 B, .int .i64 f]) B f (by omega) (by omega) (row_beside K3.out.1 _ (by omega) _) (row_set K3.out.2.1 _) (K3.out.2.2.1.beside _ (by omega)) (below_setRow K3.out.2.2.2 (by omega) _)
          have HFF : Hid _ := HF
          clear HF
          go_wp2_with (first | (refine wpL_store rfl 3 _ _ rfl _ _ rfl _ rfl _ HS3.out ?_) | fail)
          go_roundg (gk - 1)
          case measure => omega
          case rel => exact ⟨n + 1, B, f, by omega, by simp, by omega, by omega, by omega, by omega, HFF⟩
        · have jF2 : decide (F < f) = false := by simp; omega
          go_wp2
          go_quiet (fail)
          have K1 : Hid ((wr.drewN nq).heap[w.heap.size]? = some (.cells #[.int .i64 0, .int .i64 0] 26 (0, 0)) ∧ (wr.drewN nq).heap[w1.heap.size]? = some (.cells #[.int .i64 B, .int .i64 F] 26 (0, 0)) ∧ TrIs (wr.drewN nq) (w.heap.size + 1) (.slice (some ⟨g, 0, none⟩) N tc) xs N ∧ Below w.heap.size w (wr.drewN nq)) := ⟨HS.out.2.2.1, HS.out.2.2.2.1, HS.out.2.2.2.2.1.drewN nq, HS.out.2.2.2.2.2.trans ⟨rfl, rfl, rfl, Nat.le_refl _, fun _ _ => rfl⟩⟩
          generalize wr.drewN nq = w2 at K1 ⊢
          have a0 : w2.cell? ⟨g, n * 2, none⟩ = some (.int .i64 b) := by rw [Hb.out]; exact (K1.out.2.2.1.cell hlt).1
          obtain ⟨w3, Hw3⟩ : ∃ W, Hid (W = w2) := ⟨_, rfl⟩
          obtain rfl := Hw3.out
          have K2 := K1
          have a1 : w3.cell? ⟨g, n * 2 + 1, none⟩ = some (.int .i64 f) := by rw [Hf.out]; exact (K2.out.2.2.1.cell hlt).2
          have a2 : w3.cell? ⟨w1.heap.size, 1, none⟩ = some (.int .i64 F) := (cell_of_row _ _ _ _ _ _ K2.out.2.1).trans rfl
          clear cB cF d0 d1 k1
          go_wp2_with (first | fail)
          go_quiet (fail)
          have K3 : Hid ((w3.drewN nq).heap[w.heap.size]? = some (.cells #[.int .i64 0, .int .i64 0] 26 (0, 0)) ∧ (w3.drewN nq).heap[w1.heap.size]? = some (.cells #[.int .i64 B, .int .i64 F] 26 (0, 0)) ∧ TrIs (w3.drewN nq) (w.heap.size + 1) (.slice (some ⟨g, 0, none⟩) N tc) xs N ∧ Below w.heap.size w (w3.drewN nq)) := ⟨K2.out.1, K2.out.2.1, K2.out.2.2.1.drewN nq, K2.out.2.2.2.trans ⟨rfl, rfl, rfl, Nat.le_refl _, fun _ _ => rfl⟩⟩
          generalize w3.drewN nq = w4 at K3 ⊢
          have HF := HNX.out w4 B F (by omega) (by omega) K3.out.1 K3.out.2.1 K3.out.2.2.1 K3.out.2.2.2
          have HFF : Hid _ := HF
          clear HF
          go_wp2_with (first | fail)
          go_roundg (gk - 1)
          case measure => omega
          case rel => exact ⟨n + 1, B, F, by omega, by simp, by omega, by omega, by omega, by omega, HFF⟩
    · have i1 : ¬ ((n : Int) < (N : Int)) := by omega
      obtain ⟨h1, h2, k0, k1, k2, k3⟩ := id HS.out
      have hnN : n = N := by omega
      have HLd : Hid ((loadVar 26 ⟨w1.heap.size, 0, none⟩).run Try.prog wr = .ok (.agg #[.int .i64 B, .int .i64 F]) wr) := load_all k1 _ _ Try.underlying26 rfl (by kernel_rfl)
      have HS1 : Hid ((storeVar 26 ⟨w.heap.size, 0, none⟩ (.agg #[.int .i64 B, .int .i64 F])).run Try.prog wr = .ok () (wr.setRow w.heap.size #[.int .i64 B, .int .i64 F])) := store_all k0 26 _ rfl (by kernel_rfl) (all_one [.int .i64 B, .int .i64 F] (one2 B F))
      have HR : Hid ((wr.setRow w.heap.size #[.int .i64 B, .int .i64 F]).heap[w.heap.size]? = some (.cells #[.int .i64 B, .int .i64 F] 26 (0, 0))) := row_set k0 _
      have HF : Hid (PeakR xs w (.returned (.agg #[.int .i64 B, .int .i64 F])) (wr.setRow w.heap.size #[.int .i64 B, .int .i64 F])) := ⟨by rw [← HN.out, ← hnN, h1, h2], below_setRow k3 (Nat.le_refl _) _⟩
      clear HS h1 h2 k0 k1 k2 k3 hnN
      go_wp2_with (first | (refine wpL_load rfl 26 _ rfl _ _ rfl _ HLd.out ?_) | (refine wpL_store rfl 26 _ _ rfl _ _ rfl _ rfl _ HS1.out ?_) | (refine ret_row rfl rfl HR.out Try.underlying26 rfl (by kernel_rfl) rfl ?_) | fail)
      exact HF.out
end Go.Proofs.Ytcmmiamnbefefaa
