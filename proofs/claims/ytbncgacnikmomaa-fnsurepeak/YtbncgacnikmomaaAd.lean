/- SurePeak: as mathematics, and both ways. -/
import Derived.Test.YtbncgacnikmomaaAc
namespace Go.Proofs.Ytbncgacnikmomaa
open Go.RowKit
set_option linter.unusedVariables false

def pkB (xs : List InstT) : Nat → Int
  | 0 => 0
  | n + 1 => max (pkB xs n) (htB xs (n + 1))
def pkF (xs : List InstT) : Nat → Int
  | 0 => 0
  | n + 1 => max (pkF xs n) (htF xs (n + 1))
def PeakR (xs : List InstT) (w : World) (e : Ending) (w' : World) : Prop := e = .returned (.agg #[.int .i64 (pkB xs (trN xs)), .int .i64 (pkF xs (trN xs))]) ∧ Below w.heap.size w w'
theorem TrIs.form {W : World} {base : Nat} {v : Value} {xs : List InstT} {n : Nat} (h : TrIs W base v xs n) : ∃ a cp, v = .slice a n cp ∧ ∀ j, j < n → ∃ g, a = some ⟨g, 0, none⟩ ∧ base ≤ g := by
  rcases h.2 with ⟨rfl, rfl⟩ | ⟨g, cap, cur, rfl, hb, _⟩
  · exact ⟨none, 0, rfl, fun j hj => by omega⟩
  · exact ⟨_, cap, rfl, fun j hj => ⟨g, rfl, hb⟩⟩
theorem TrIs.cell {W : World} {base g cp : Nat} {xs : List InstT} {n j : Nat} (h : TrIs W base (.slice (some ⟨g, 0, none⟩) n cp) xs n) (hj : j < n) : W.cell? ⟨g, j * 2, none⟩ = some (.int .i64 (htB xs (j + 1))) ∧ W.cell? ⟨g, j * 2 + 1, none⟩ = some (.int .i64 (htF xs (j + 1))) := by
  have h1 := trV_at xs n j hj
  exact ⟨(World.ownsRow.cellAt h _ (by omega)).trans h1.1, (World.ownsRow.cellAt h _ (by omega)).trans h1.2⟩
theorem TrIs.load {W : World} {base g cp : Nat} {xs : List InstT} {n j : Nat} (h : TrIs W base (.slice (some ⟨g, 0, none⟩) n cp) xs n) (hj : j < n) : (loadVar 26 ⟨g, j * 2, none⟩).run Try.prog W = .ok (.agg #[.int .i64 (htB xs (j + 1)), .int .i64 (htF xs (j + 1))]) W := by
  have h1 := h.cell hj
  refine run_loadVar_mid W g (j * 2) 26 [.int .i64 (htB xs (j + 1)), .int .i64 (htF xs (j + 1))] _ (fun i c hi => ?_) Try.underlying26 rfl (by kernel_rfl)
  match i with
  | 0 => simp at hi; subst hi; exact h1.1
  | 1 => simp at hi; subst hi; exact h1.2
  | i + 2 => simp at hi

set_option maxRecDepth 10000 in
set_option maxHeartbeats 4000000 in
theorem peak_i (v : Value) (xs : List InstT) (w : World) (lo : Nat) (hv : InstsIs w lo v xs) (hbig : xs.length ≤ 1048576) :
    Calls Try.prog 5 #[v] w fun e w' => PeakR xs w e w' := by
  have HB0 : Hid (Below w.heap.size w ((w.alloc (.cells #[.int .i64 0, .int .i64 0] 26)).alloc (.cells #[.int .i64 0, .int .i64 0] 26))) := ((Below.refl _ _).alloc (Nat.le_refl _) _).alloc (by simp) _
  have HTr : Hid (Calls Try.prog 9 #[v] ((w.alloc (.cells #[.int .i64 0, .int .i64 0] 26)).alloc (.cells #[.int .i64 0, .int .i64 0] 26)) fun e w' => TrR xs ((w.alloc (.cells #[.int .i64 0, .int .i64 0] 26)).alloc (.cells #[.int .i64 0, .int .i64 0] 26)) e w') := trace_i v xs _ lo (instsIs_move (Keeps.of_below HB0.out lo) (Nat.le_refl _) hv) hbig
  have hR := rows2 w (.cells #[.int .i64 0, .int .i64 0] 26) (.cells #[.int .i64 0, .int .i64 0] 26)
  have hz : ((w.alloc (.cells #[.int .i64 0, .int .i64 0] 26)).alloc (.cells #[.int .i64 0, .int .i64 0] 26)).heap.size = w.heap.size + 1 + 1 := by simp
  have HR : Hid (((w.alloc (.cells #[.int .i64 0, .int .i64 0] 26)).alloc (.cells #[.int .i64 0, .int .i64 0] 26)).heap[w.heap.size]? = some (.cells #[.int .i64 0, .int .i64 0] 26 (0, 0)) ∧ ((w.alloc (.cells #[.int .i64 0, .int .i64 0] 26)).alloc (.cells #[.int .i64 0, .int .i64 0] 26)).heap[w.heap.size + 1]? = some (.cells #[.int .i64 0, .int .i64 0] 26 (0, 0))) := hR
  clear hR hv
  go_enter Try.func5, Try.ntmps5
  go_wp2_with fail
  refine HTr.out.mono ?_
  rintro e w1 ⟨v', rfl, hT, g1⟩
  obtain ⟨N, HN⟩ : ∃ N, Hid (N = trN xs) := ⟨_, rfl⟩
  have hNle := trN_le xs
  rw [← HN.out] at hT hNle
  obtain ⟨ta, tc, rfl, hta⟩ := hT.form
  have HA : Hid (∀ j, j < N → ∃ g, ta = some ⟨g, 0, none⟩ ∧ ((w.alloc (.cells #[.int .i64 0, .int .i64 0] 26)).alloc (.cells #[.int .i64 0, .int .i64 0] 26)).heap.size ≤ g) := hta
  have HST : Hid (w1.heap[w.heap.size]? = some (.cells #[.int .i64 0, .int .i64 0] 26 (0, 0)) ∧ w1.heap[w.heap.size + 1]? = some (.cells #[.int .i64 0, .int .i64 0] 26 (0, 0)) ∧ Below w.heap.size w w1) := ⟨(g1.block _ (by omega)).trans HR.out.1, (g1.block _ (by omega)).trans HR.out.2, HB0.out.trans (g1.mono (by omega))⟩
  have HT0 : Hid (TrIs w1 ((w.alloc (.cells #[.int .i64 0, .int .i64 0] 26)).alloc (.cells #[.int .i64 0, .int .i64 0] 26)).heap.size (.slice ta N tc) xs N) := hT
  rw [hz] at HA HT0
  clear hT hta g1 HTr HR HB0 hz
  go_wp2
  go_loopg [10] N (fun gg i wr => ∃ (n : Nat) (B F : Int), n + gg = N ∧ i = .int .i64 n ∧ -2000 ≤ B ∧ B ≤ 2000 ∧ -2000 ≤ F ∧ F ≤ 2000 ∧ Hid (B = pkB xs n ∧ F = pkF xs n ∧ wr.heap[w.heap.size]? = some (.cells #[.int .i64 0, .int .i64 0] 26 (0, 0)) ∧ wr.heap[w.heap.size + 1]? = some (.cells #[.int .i64 B, .int .i64 F] 26 (0, 0)) ∧ TrIs wr (w.heap.size + 1 + 1) (.slice ta N tc) xs N ∧ Below w.heap.size w wr))
  case atStart => exact ⟨0, 0, 0, by omega, rfl, by omega, by omega, by omega, by omega, rfl, rfl, HST.out.1, HST.out.2.1, HT0.out, HST.out.2.2⟩
  case round =>
    clear HST HT0
    obtain ⟨n, B, F, hn, rfl, hB0, hB1, hF0, hF1, HS⟩ := hrel
    by_cases hlt : n < N
    · have i1 : (n : Int) < (N : Int) := by omega
      have i3 : (0 : Int) ≤ (n : Int) := by omega
      obtain ⟨g, rfl, hg⟩ := HA.out n hlt
      have HLd : Hid ((loadVar 26 ⟨g, n * 2, none⟩).run Try.prog wr = .ok (.agg #[.int .i64 (htB xs (n + 1)), .int .i64 (htF xs (n + 1))]) wr) := HS.out.2.2.2.2.1.load hlt
      have hq1 := htB_in xs (n + 1)
      have hq2 := htF_in xs (n + 1)
      obtain ⟨b, Hb⟩ : ∃ q, Hid (q = htB xs (n + 1)) := ⟨_, rfl⟩
      obtain ⟨f, Hf⟩ : ∃ q, Hid (q = htF xs (n + 1)) := ⟨_, rfl⟩
      rw [← Hb.out] at hq1 HLd
      rw [← Hf.out] at hq2 HLd
      by_cases jB : B < b
      · by_cases jF : F < f
        · have k0 := HS.out.2.2.1
          have k1 := HS.out.2.2.2.1
          have k2 := HS.out.2.2.2.2.1
          have k3 := HS.out.2.2.2.2.2
          have c0 : (wr.alloc (.cells #[.int .i64 b, .int .i64 f] 26)).heap[w.heap.size]? = some (.cells #[.int .i64 0, .int .i64 0] 26 (0, 0)) := (heap_alloc_old _ _ (h := (Array.getElem?_eq_some_iff.1 k0).1)).trans k0
          have c1 : (wr.alloc (.cells #[.int .i64 b, .int .i64 f] 26)).heap[w.heap.size + 1]? = some (.cells #[.int .i64 B, .int .i64 F] 26 (0, 0)) := (heap_alloc_old _ _ (h := (Array.getElem?_eq_some_iff.1 k1).1)).trans k1
          have c2 : (wr.alloc (.cells #[.int .i64 b, .int .i64 f] 26)).heap[wr.heap.size]? = some (.cells #[.int .i64 b, .int .i64 f] 26 (0, 0)) := heap_alloc_last wr _
          have hne : w.heap.size + 1 < wr.heap.size := (Array.getElem?_eq_some_iff.1 k1).1
          have HW0 : Hid ((wr.alloc (.cells #[.int .i64 b, .int .i64 f] 26)).heap[w.heap.size]? = some (.cells #[.int .i64 0, .int .i64 0] 26 (0, 0)) ∧ TrIs (wr.alloc (.cells #[.int .i64 b, .int .i64 f] 26)) (w.heap.size + 1 + 1) (.slice (some ⟨g, 0, none⟩) N tc) xs N ∧ Below w.heap.size w (wr.alloc (.cells #[.int .i64 b, .int .i64 f] 26))) := ⟨c0, k2.later ((Below.refl _ _).alloc (Nat.le_refl _) _), k3.alloc k3.size _⟩
          have HL : Hid ((wr.alloc (.cells #[.int .i64 b, .int .i64 f] 26)).heap[wr.heap.size]? = some (.cells #[.int .i64 b, .int .i64 f] 26 (0, 0))) := c2
          have d0 : (wr.alloc (.cells #[.int .i64 b, .int .i64 f] 26)).cell? ⟨w.heap.size + 1, 0, none⟩ = some (.int .i64 B) := (cell_of_row _ _ _ _ _ _ c1).trans rfl
          have HS1 : Hid ((storeVar 3 ⟨w.heap.size + 1, 0, none⟩ (.int .i64 b)).run Try.prog (wr.alloc (.cells #[.int .i64 b, .int .i64 f] 26)) = .ok () ((wr.alloc (.cells #[.int .i64 b, .int .i64 f] 26)).setRow (w.heap.size + 1) #[.int .i64 b, .int .i64 F])) := store_one (P := Try.prog) c1 3 0 (.int .i64 b) (by simp) (by kernel_rfl) rfl rfl
          obtain ⟨w2, Hw2⟩ : ∃ W, Hid (W = (wr.alloc (.cells #[.int .i64 b, .int .i64 f] 26)).setRow (w.heap.size + 1) #[.int .i64 b, .int .i64 F]) := ⟨_, rfl⟩
          have e1 : w2.heap[w.heap.size + 1]? = some (.cells #[.int .i64 b, .int .i64 F] 26 (0, 0)) := by rw [Hw2.out]; exact row_set c1 _
          have e2 : w2.heap[wr.heap.size]? = some (.cells #[.int .i64 b, .int .i64 f] 26 (0, 0)) := by rw [Hw2.out]; exact row_beside c2 _ (by omega) _
          have d1 : w2.cell? ⟨w.heap.size + 1, 1, none⟩ = some (.int .i64 F) := (cell_of_row _ _ _ _ _ _ e1).trans rfl
          have d2 : w2.cell? ⟨wr.heap.size, 1, none⟩ = some (.int .i64 f) := (cell_of_row _ _ _ _ _ _ e2).trans rfl
          have HS2 : Hid ((storeVar 3 ⟨w.heap.size + 1, 1, none⟩ (.int .i64 f)).run Try.prog w2 = .ok () (w2.setRow (w.heap.size + 1) #[.int .i64 b, .int .i64 f])) := store_one (P := Try.prog) e1 3 1 (.int .i64 f) (by simp) (by kernel_rfl) rfl rfl
          have HF : Hid (b = pkB xs (n + 1) ∧ f = pkF xs (n + 1) ∧ (w2.setRow (w.heap.size + 1) #[.int .i64 b, .int .i64 f]).heap[w.heap.size]? = some (.cells #[.int .i64 0, .int .i64 0] 26 (0, 0)) ∧ (w2.setRow (w.heap.size + 1) #[.int .i64 b, .int .i64 f]).heap[w.heap.size + 1]? = some (.cells #[.int .i64 b, .int .i64 f] 26 (0, 0)) ∧ TrIs (w2.setRow (w.heap.size + 1) #[.int .i64 b, .int .i64 f]) (w.heap.size + 1 + 1) (.slice (some ⟨g, 0, none⟩) N tc) xs N ∧ Below w.heap.size w (w2.setRow (w.heap.size + 1) #[.int .i64 b, .int .i64 f])) := by
            refine ⟨by show _ = max _ _; rw [← HS.out.1, ← Hb.out]; omega, by show _ = max _ _; rw [← HS.out.2.1, ← Hf.out]; omega, ?_, row_set e1 _, ?_, ?_⟩
            · refine row_beside ?_ _ (by omega) _
              rw [Hw2.out]; exact row_beside HW0.out.1 _ (by omega) _
            · refine TrIs.beside ?_ _ (by omega)
              rw [Hw2.out]; exact TrIs.beside HW0.out.2.1 _ (by omega)
            · refine below_setRow ?_ (by omega) _
              rw [Hw2.out]; exact below_setRow HW0.out.2.2 (by omega) _
          rw [← Hw2.out] at HS1
          clear Hw2 k0 k1 k2 k3 c0 c1 c2 e1 e2 HW0 HS hne HL
          have hm1 : -2000 ≤ b ∧ b ≤ 2000 := by omega
          have hm2 : -2000 ≤ f ∧ f ≤ 2000 := by omega
          go_wp2_with (first | (refine wpL_load rfl 26 _ rfl _ _ rfl _ HLd.out ?_) | (refine wpL_store rfl 3 _ _ rfl _ _ rfl _ rfl _ HS1.out ?_) | (refine wpL_store rfl 3 _ _ rfl _ _ rfl _ rfl _ HS2.out ?_) | fail)
          go_roundg (gk - 1)
          case measure => omega
          case rel => exact ⟨n + 1, b, f, by omega, by simp, by omega, by omega, by omega, by omega, HF.out⟩
        · have k0 := HS.out.2.2.1
          have k1 := HS.out.2.2.2.1
          have k2 := HS.out.2.2.2.2.1
          have k3 := HS.out.2.2.2.2.2
          have c0 : (wr.alloc (.cells #[.int .i64 b, .int .i64 f] 26)).heap[w.heap.size]? = some (.cells #[.int .i64 0, .int .i64 0] 26 (0, 0)) := (heap_alloc_old _ _ (h := (Array.getElem?_eq_some_iff.1 k0).1)).trans k0
          have c1 : (wr.alloc (.cells #[.int .i64 b, .int .i64 f] 26)).heap[w.heap.size + 1]? = some (.cells #[.int .i64 B, .int .i64 F] 26 (0, 0)) := (heap_alloc_old _ _ (h := (Array.getElem?_eq_some_iff.1 k1).1)).trans k1
          have c2 : (wr.alloc (.cells #[.int .i64 b, .int .i64 f] 26)).heap[wr.heap.size]? = some (.cells #[.int .i64 b, .int .i64 f] 26 (0, 0)) := heap_alloc_last wr _
          have hne : w.heap.size + 1 < wr.heap.size := (Array.getElem?_eq_some_iff.1 k1).1
          have HW0 : Hid ((wr.alloc (.cells #[.int .i64 b, .int .i64 f] 26)).heap[w.heap.size]? = some (.cells #[.int .i64 0, .int .i64 0] 26 (0, 0)) ∧ TrIs (wr.alloc (.cells #[.int .i64 b, .int .i64 f] 26)) (w.heap.size + 1 + 1) (.slice (some ⟨g, 0, none⟩) N tc) xs N ∧ Below w.heap.size w (wr.alloc (.cells #[.int .i64 b, .int .i64 f] 26))) := ⟨c0, k2.later ((Below.refl _ _).alloc (Nat.le_refl _) _), k3.alloc k3.size _⟩
          have HL : Hid ((wr.alloc (.cells #[.int .i64 b, .int .i64 f] 26)).heap[wr.heap.size]? = some (.cells #[.int .i64 b, .int .i64 f] 26 (0, 0))) := c2
          have d0 : (wr.alloc (.cells #[.int .i64 b, .int .i64 f] 26)).cell? ⟨w.heap.size + 1, 0, none⟩ = some (.int .i64 B) := (cell_of_row _ _ _ _ _ _ c1).trans rfl
          have HS1 : Hid ((storeVar 3 ⟨w.heap.size + 1, 0, none⟩ (.int .i64 b)).run Try.prog (wr.alloc (.cells #[.int .i64 b, .int .i64 f] 26)) = .ok () ((wr.alloc (.cells #[.int .i64 b, .int .i64 f] 26)).setRow (w.heap.size + 1) #[.int .i64 b, .int .i64 F])) := store_one (P := Try.prog) c1 3 0 (.int .i64 b) (by simp) (by kernel_rfl) rfl rfl
          obtain ⟨w2, Hw2⟩ : ∃ W, Hid (W = (wr.alloc (.cells #[.int .i64 b, .int .i64 f] 26)).setRow (w.heap.size + 1) #[.int .i64 b, .int .i64 F]) := ⟨_, rfl⟩
          have e1 : w2.heap[w.heap.size + 1]? = some (.cells #[.int .i64 b, .int .i64 F] 26 (0, 0)) := by rw [Hw2.out]; exact row_set c1 _
          have e2 : w2.heap[wr.heap.size]? = some (.cells #[.int .i64 b, .int .i64 f] 26 (0, 0)) := by rw [Hw2.out]; exact row_beside c2 _ (by omega) _
          have d1 : w2.cell? ⟨w.heap.size + 1, 1, none⟩ = some (.int .i64 F) := (cell_of_row _ _ _ _ _ _ e1).trans rfl
          have d2 : w2.cell? ⟨wr.heap.size, 1, none⟩ = some (.int .i64 f) := (cell_of_row _ _ _ _ _ _ e2).trans rfl
          have HS2 : Hid ((storeVar 3 ⟨w.heap.size + 1, 1, none⟩ (.int .i64 F)).run Try.prog w2 = .ok () (w2.setRow (w.heap.size + 1) #[.int .i64 b, .int .i64 F])) := store_one (P := Try.prog) e1 3 1 (.int .i64 F) (by simp) (by kernel_rfl) rfl rfl
          have HF : Hid (b = pkB xs (n + 1) ∧ F = pkF xs (n + 1) ∧ (w2.setRow (w.heap.size + 1) #[.int .i64 b, .int .i64 F]).heap[w.heap.size]? = some (.cells #[.int .i64 0, .int .i64 0] 26 (0, 0)) ∧ (w2.setRow (w.heap.size + 1) #[.int .i64 b, .int .i64 F]).heap[w.heap.size + 1]? = some (.cells #[.int .i64 b, .int .i64 F] 26 (0, 0)) ∧ TrIs (w2.setRow (w.heap.size + 1) #[.int .i64 b, .int .i64 F]) (w.heap.size + 1 + 1) (.slice (some ⟨g, 0, none⟩) N tc) xs N ∧ Below w.heap.size w (w2.setRow (w.heap.size + 1) #[.int .i64 b, .int .i64 F])) := by
            refine ⟨by show _ = max _ _; rw [← HS.out.1, ← Hb.out]; omega, by show _ = max _ _; rw [← HS.out.2.1, ← Hf.out]; omega, ?_, row_set e1 _, ?_, ?_⟩
            · refine row_beside ?_ _ (by omega) _
              rw [Hw2.out]; exact row_beside HW0.out.1 _ (by omega) _
            · refine TrIs.beside ?_ _ (by omega)
              rw [Hw2.out]; exact TrIs.beside HW0.out.2.1 _ (by omega)
            · refine below_setRow ?_ (by omega) _
              rw [Hw2.out]; exact below_setRow HW0.out.2.2 (by omega) _
          rw [← Hw2.out] at HS1
          clear Hw2 k0 k1 k2 k3 c0 c1 c2 e1 e2 HW0 HS hne HL
          have hm1 : -2000 ≤ b ∧ b ≤ 2000 := by omega
          have hm2 : -2000 ≤ F ∧ F ≤ 2000 := by omega
          go_wp2_with (first | (refine wpL_load rfl 26 _ rfl _ _ rfl _ HLd.out ?_) | (refine wpL_store rfl 3 _ _ rfl _ _ rfl _ rfl _ HS1.out ?_) | (refine wpL_store rfl 3 _ _ rfl _ _ rfl _ rfl _ HS2.out ?_) | fail)
          go_roundg (gk - 1)
          case measure => omega
          case rel => exact ⟨n + 1, b, F, by omega, by simp, by omega, by omega, by omega, by omega, HF.out⟩
      · by_cases jF : F < f
        · have k0 := HS.out.2.2.1
          have k1 := HS.out.2.2.2.1
          have k2 := HS.out.2.2.2.2.1
          have k3 := HS.out.2.2.2.2.2
          have c0 : (wr.alloc (.cells #[.int .i64 b, .int .i64 f] 26)).heap[w.heap.size]? = some (.cells #[.int .i64 0, .int .i64 0] 26 (0, 0)) := (heap_alloc_old _ _ (h := (Array.getElem?_eq_some_iff.1 k0).1)).trans k0
          have c1 : (wr.alloc (.cells #[.int .i64 b, .int .i64 f] 26)).heap[w.heap.size + 1]? = some (.cells #[.int .i64 B, .int .i64 F] 26 (0, 0)) := (heap_alloc_old _ _ (h := (Array.getElem?_eq_some_iff.1 k1).1)).trans k1
          have c2 : (wr.alloc (.cells #[.int .i64 b, .int .i64 f] 26)).heap[wr.heap.size]? = some (.cells #[.int .i64 b, .int .i64 f] 26 (0, 0)) := heap_alloc_last wr _
          have hne : w.heap.size + 1 < wr.heap.size := (Array.getElem?_eq_some_iff.1 k1).1
          have HW0 : Hid ((wr.alloc (.cells #[.int .i64 b, .int .i64 f] 26)).heap[w.heap.size]? = some (.cells #[.int .i64 0, .int .i64 0] 26 (0, 0)) ∧ TrIs (wr.alloc (.cells #[.int .i64 b, .int .i64 f] 26)) (w.heap.size + 1 + 1) (.slice (some ⟨g, 0, none⟩) N tc) xs N ∧ Below w.heap.size w (wr.alloc (.cells #[.int .i64 b, .int .i64 f] 26))) := ⟨c0, k2.later ((Below.refl _ _).alloc (Nat.le_refl _) _), k3.alloc k3.size _⟩
          have HL : Hid ((wr.alloc (.cells #[.int .i64 b, .int .i64 f] 26)).heap[wr.heap.size]? = some (.cells #[.int .i64 b, .int .i64 f] 26 (0, 0))) := c2
          have d0 : (wr.alloc (.cells #[.int .i64 b, .int .i64 f] 26)).cell? ⟨w.heap.size + 1, 0, none⟩ = some (.int .i64 B) := (cell_of_row _ _ _ _ _ _ c1).trans rfl
          have HS1 : Hid ((storeVar 3 ⟨w.heap.size + 1, 0, none⟩ (.int .i64 B)).run Try.prog (wr.alloc (.cells #[.int .i64 b, .int .i64 f] 26)) = .ok () ((wr.alloc (.cells #[.int .i64 b, .int .i64 f] 26)).setRow (w.heap.size + 1) #[.int .i64 B, .int .i64 F])) := store_one (P := Try.prog) c1 3 0 (.int .i64 B) (by simp) (by kernel_rfl) rfl rfl
          obtain ⟨w2, Hw2⟩ : ∃ W, Hid (W = (wr.alloc (.cells #[.int .i64 b, .int .i64 f] 26)).setRow (w.heap.size + 1) #[.int .i64 B, .int .i64 F]) := ⟨_, rfl⟩
          have e1 : w2.heap[w.heap.size + 1]? = some (.cells #[.int .i64 B, .int .i64 F] 26 (0, 0)) := by rw [Hw2.out]; exact row_set c1 _
          have e2 : w2.heap[wr.heap.size]? = some (.cells #[.int .i64 b, .int .i64 f] 26 (0, 0)) := by rw [Hw2.out]; exact row_beside c2 _ (by omega) _
          have d1 : w2.cell? ⟨w.heap.size + 1, 1, none⟩ = some (.int .i64 F) := (cell_of_row _ _ _ _ _ _ e1).trans rfl
          have d2 : w2.cell? ⟨wr.heap.size, 1, none⟩ = some (.int .i64 f) := (cell_of_row _ _ _ _ _ _ e2).trans rfl
          have HS2 : Hid ((storeVar 3 ⟨w.heap.size + 1, 1, none⟩ (.int .i64 f)).run Try.prog w2 = .ok () (w2.setRow (w.heap.size + 1) #[.int .i64 B, .int .i64 f])) := store_one (P := Try.prog) e1 3 1 (.int .i64 f) (by simp) (by kernel_rfl) rfl rfl
          have HF : Hid (B = pkB xs (n + 1) ∧ f = pkF xs (n + 1) ∧ (w2.setRow (w.heap.size + 1) #[.int .i64 B, .int .i64 f]).heap[w.heap.size]? = some (.cells #[.int .i64 0, .int .i64 0] 26 (0, 0)) ∧ (w2.setRow (w.heap.size + 1) #[.int .i64 B, .int .i64 f]).heap[w.heap.size + 1]? = some (.cells #[.int .i64 B, .int .i64 f] 26 (0, 0)) ∧ TrIs (w2.setRow (w.heap.size + 1) #[.int .i64 B, .int .i64 f]) (w.heap.size + 1 + 1) (.slice (some ⟨g, 0, none⟩) N tc) xs N ∧ Below w.heap.size w (w2.setRow (w.heap.size + 1) #[.int .i64 B, .int .i64 f])) := by
            refine ⟨by show _ = max _ _; rw [← HS.out.1, ← Hb.out]; omega, by show _ = max _ _; rw [← HS.out.2.1, ← Hf.out]; omega, ?_, row_set e1 _, ?_, ?_⟩
            · refine row_beside ?_ _ (by omega) _
              rw [Hw2.out]; exact row_beside HW0.out.1 _ (by omega) _
            · refine TrIs.beside ?_ _ (by omega)
              rw [Hw2.out]; exact TrIs.beside HW0.out.2.1 _ (by omega)
            · refine below_setRow ?_ (by omega) _
              rw [Hw2.out]; exact below_setRow HW0.out.2.2 (by omega) _
          rw [← Hw2.out] at HS1
          clear Hw2 k0 k1 k2 k3 c0 c1 c2 e1 e2 HW0 HS hne HL
          have hm1 : -2000 ≤ B ∧ B ≤ 2000 := by omega
          have hm2 : -2000 ≤ f ∧ f ≤ 2000 := by omega
          go_wp2_with (first | (refine wpL_load rfl 26 _ rfl _ _ rfl _ HLd.out ?_) | (refine wpL_store rfl 3 _ _ rfl _ _ rfl _ rfl _ HS1.out ?_) | (refine wpL_store rfl 3 _ _ rfl _ _ rfl _ rfl _ HS2.out ?_) | fail)
          go_roundg (gk - 1)
          case measure => omega
          case rel => exact ⟨n + 1, B, f, by omega, by simp, by omega, by omega, by omega, by omega, HF.out⟩
        · have k0 := HS.out.2.2.1
          have k1 := HS.out.2.2.2.1
          have k2 := HS.out.2.2.2.2.1
          have k3 := HS.out.2.2.2.2.2
          have c0 : (wr.alloc (.cells #[.int .i64 b, .int .i64 f] 26)).heap[w.heap.size]? = some (.cells #[.int .i64 0, .int .i64 0] 26 (0, 0)) := (heap_alloc_old _ _ (h := (Array.getElem?_eq_some_iff.1 k0).1)).trans k0
          have c1 : (wr.alloc (.cells #[.int .i64 b, .int .i64 f] 26)).heap[w.heap.size + 1]? = some (.cells #[.int .i64 B, .int .i64 F] 26 (0, 0)) := (heap_alloc_old _ _ (h := (Array.getElem?_eq_some_iff.1 k1).1)).trans k1
          have c2 : (wr.alloc (.cells #[.int .i64 b, .int .i64 f] 26)).heap[wr.heap.size]? = some (.cells #[.int .i64 b, .int .i64 f] 26 (0, 0)) := heap_alloc_last wr _
          have hne : w.heap.size + 1 < wr.heap.size := (Array.getElem?_eq_some_iff.1 k1).1
          have HW0 : Hid ((wr.alloc (.cells #[.int .i64 b, .int .i64 f] 26)).heap[w.heap.size]? = some (.cells #[.int .i64 0, .int .i64 0] 26 (0, 0)) ∧ TrIs (wr.alloc (.cells #[.int .i64 b, .int .i64 f] 26)) (w.heap.size + 1 + 1) (.slice (some ⟨g, 0, none⟩) N tc) xs N ∧ Below w.heap.size w (wr.alloc (.cells #[.int .i64 b, .int .i64 f] 26))) := ⟨c0, k2.later ((Below.refl _ _).alloc (Nat.le_refl _) _), k3.alloc k3.size _⟩
          have HL : Hid ((wr.alloc (.cells #[.int .i64 b, .int .i64 f] 26)).heap[wr.heap.size]? = some (.cells #[.int .i64 b, .int .i64 f] 26 (0, 0))) := c2
          have d0 : (wr.alloc (.cells #[.int .i64 b, .int .i64 f] 26)).cell? ⟨w.heap.size + 1, 0, none⟩ = some (.int .i64 B) := (cell_of_row _ _ _ _ _ _ c1).trans rfl
          have HS1 : Hid ((storeVar 3 ⟨w.heap.size + 1, 0, none⟩ (.int .i64 B)).run Try.prog (wr.alloc (.cells #[.int .i64 b, .int .i64 f] 26)) = .ok () ((wr.alloc (.cells #[.int .i64 b, .int .i64 f] 26)).setRow (w.heap.size + 1) #[.int .i64 B, .int .i64 F])) := store_one (P := Try.prog) c1 3 0 (.int .i64 B) (by simp) (by kernel_rfl) rfl rfl
          obtain ⟨w2, Hw2⟩ : ∃ W, Hid (W = (wr.alloc (.cells #[.int .i64 b, .int .i64 f] 26)).setRow (w.heap.size + 1) #[.int .i64 B, .int .i64 F]) := ⟨_, rfl⟩
          have e1 : w2.heap[w.heap.size + 1]? = some (.cells #[.int .i64 B, .int .i64 F] 26 (0, 0)) := by rw [Hw2.out]; exact row_set c1 _
          have e2 : w2.heap[wr.heap.size]? = some (.cells #[.int .i64 b, .int .i64 f] 26 (0, 0)) := by rw [Hw2.out]; exact row_beside c2 _ (by omega) _
          have d1 : w2.cell? ⟨w.heap.size + 1, 1, none⟩ = some (.int .i64 F) := (cell_of_row _ _ _ _ _ _ e1).trans rfl
          have d2 : w2.cell? ⟨wr.heap.size, 1, none⟩ = some (.int .i64 f) := (cell_of_row _ _ _ _ _ _ e2).trans rfl
          have HS2 : Hid ((storeVar 3 ⟨w.heap.size + 1, 1, none⟩ (.int .i64 F)).run Try.prog w2 = .ok () (w2.setRow (w.heap.size + 1) #[.int .i64 B, .int .i64 F])) := store_one (P := Try.prog) e1 3 1 (.int .i64 F) (by simp) (by kernel_rfl) rfl rfl
          have HF : Hid (B = pkB xs (n + 1) ∧ F = pkF xs (n + 1) ∧ (w2.setRow (w.heap.size + 1) #[.int .i64 B, .int .i64 F]).heap[w.heap.size]? = some (.cells #[.int .i64 0, .int .i64 0] 26 (0, 0)) ∧ (w2.setRow (w.heap.size + 1) #[.int .i64 B, .int .i64 F]).heap[w.heap.size + 1]? = some (.cells #[.int .i64 B, .int .i64 F] 26 (0, 0)) ∧ TrIs (w2.setRow (w.heap.size + 1) #[.int .i64 B, .int .i64 F]) (w.heap.size + 1 + 1) (.slice (some ⟨g, 0, none⟩) N tc) xs N ∧ Below w.heap.size w (w2.setRow (w.heap.size + 1) #[.int .i64 B, .int .i64 F])) := by
            refine ⟨by show _ = max _ _; rw [← HS.out.1, ← Hb.out]; omega, by show _ = max _ _; rw [← HS.out.2.1, ← Hf.out]; omega, ?_, row_set e1 _, ?_, ?_⟩
            · refine row_beside ?_ _ (by omega) _
              rw [Hw2.out]; exact row_beside HW0.out.1 _ (by omega) _
            · refine TrIs.beside ?_ _ (by omega)
              rw [Hw2.out]; exact TrIs.beside HW0.out.2.1 _ (by omega)
            · refine below_setRow ?_ (by omega) _
              rw [Hw2.out]; exact below_setRow HW0.out.2.2 (by omega) _
          rw [← Hw2.out] at HS1
          clear Hw2 k0 k1 k2 k3 c0 c1 c2 e1 e2 HW0 HS hne HL
          have hm1 : -2000 ≤ B ∧ B ≤ 2000 := by omega
          have hm2 : -2000 ≤ F ∧ F ≤ 2000 := by omega
          go_wp2_with (first | (refine wpL_load rfl 26 _ rfl _ _ rfl _ HLd.out ?_) | (refine wpL_store rfl 3 _ _ rfl _ _ rfl _ rfl _ HS1.out ?_) | (refine wpL_store rfl 3 _ _ rfl _ _ rfl _ rfl _ HS2.out ?_) | fail)
          go_roundg (gk - 1)
          case measure => omega
          case rel => exact ⟨n + 1, B, F, by omega, by simp, by omega, by omega, by omega, by omega, HF.out⟩
    · have i1 : ¬ ((n : Int) < (N : Int)) := by omega
      obtain ⟨h1, h2, k0, k1, k2, k3⟩ := id HS.out
      have hnN : n = N := by omega
      have HLd : Hid ((loadVar 26 ⟨w.heap.size + 1, 0, none⟩).run Try.prog wr = .ok (.agg #[.int .i64 B, .int .i64 F]) wr) := load_all k1 _ _ Try.underlying26 rfl (by kernel_rfl)
      have HS1 : Hid ((storeVar 26 ⟨w.heap.size, 0, none⟩ (.agg #[.int .i64 B, .int .i64 F])).run Try.prog wr = .ok () (wr.setRow w.heap.size #[.int .i64 B, .int .i64 F])) := store_all k0 26 _ rfl (by kernel_rfl) (all_one [.int .i64 B, .int .i64 F] (one2 B F))
      have HR : Hid ((wr.setRow w.heap.size #[.int .i64 B, .int .i64 F]).heap[w.heap.size]? = some (.cells #[.int .i64 B, .int .i64 F] 26 (0, 0))) := row_set k0 _
      have HF : Hid (PeakR xs w (.returned (.agg #[.int .i64 B, .int .i64 F])) (wr.setRow w.heap.size #[.int .i64 B, .int .i64 F])) := ⟨by rw [← HN.out, ← hnN, h1, h2], below_setRow k3 (Nat.le_refl _) _⟩
      clear HS h1 h2 k0 k1 k2 k3 hnN
      go_wp2_with (first | (refine wpL_load rfl 26 _ rfl _ _ rfl _ HLd.out ?_) | (refine wpL_store rfl 26 _ _ rfl _ _ rfl _ rfl _ HS1.out ?_) | (refine ret_row rfl rfl HR.out Try.underlying26 rfl (by kernel_rfl) rfl ?_) | fail)
      exact HF.out
end Go.Proofs.Ytbncgacnikmomaa
