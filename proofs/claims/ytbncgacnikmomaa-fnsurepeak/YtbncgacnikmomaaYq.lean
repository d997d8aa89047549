/- The law FnSurePeak. -/
import Derived.Test.YtbncgacnikmomaaYnM
import Derived.Test.YtbncgacnikmomaaYp
import Derived.Test.YtbncgacnikmomaaBg
import Derived.Test.YtbncgacnikmomaaAd
import Derived.Test.YtbncgacnikmomaaAc
import Derived.Lib.QuietBelow
namespace Go.Proofs.Ytbncgacnikmomaa
open Go.RowKit
set_option linter.unusedVariables false

theorem pk_in {xs : List InstT} (h : (checkT xs).1 = 0) : ∀ n, n ≤ xs.length → pkB xs n ≤ 16 ∧ pkF xs n ≤ 8
  | 0, _ => by simp [pkB, pkF]
  | n + 1, hn => by
    have h1 := pk_in h n (by omega)
    have h2 := (peak_in h (n + 1) hn).1
    show max _ _ ≤ _ ∧ max _ _ ≤ _
    omega
theorem pk_up (xs : List InstT) : ∀ n, 1 ≤ n → htB xs 1 ≤ pkB xs n
  | 0, h => by omega
  | 1, _ => by show htB xs 1 ≤ max (pkB xs 0) (htB xs 1); omega
  | n + 2, _ => by
    have := pk_up xs (n + 1) (by omega)
    show _ ≤ max _ _
    omega
theorem pk_bd (xs : List InstT) : ∀ n : Nat, (0 ≤ pkB xs n ∧ pkB xs n ≤ n) ∧ 0 ≤ pkF xs n ∧ pkF xs n ≤ n
  | 0 => by simp [pkB, pkF]
  | n + 1 => by
    have := pk_bd xs n
    have := htB_in xs (n + 1)
    have := htF_in xs (n + 1)
    show (0 ≤ max _ _ ∧ max _ _ ≤ _) ∧ 0 ≤ max _ _ ∧ max _ _ ≤ _
    omega
/-- What the law asks of the peak. -/
theorem peak_law (xs : List InstT) : 0 < (checkT xs).1 ∨ (checkT xs).1 = 0 ∧ pkB xs (trN xs) ≤ 16 ∧ pkF xs (trN xs) ≤ 8 ∧ (xs.length = 0 ∨ 0 < pkB xs (trN xs)) := by
  have hp := (check_pos xs).1
  by_cases h : (checkT xs).1 = 0
  · have hk := (runs h).1
    have hN : trN xs = xs.length := if_pos hk
    have h1 := pk_in h xs.length (Nat.le_refl _)
    refine .inr ⟨h, by rw [hN]; exact h1.1, by rw [hN]; exact h1.2, ?_⟩
    by_cases h0 : xs.length = 0
    · exact .inl h0
    · have h2 := pk_up xs xs.length (by omega)
      rw [first_ld h (by omega)] at h2
      exact .inr (by rw [hN]; omega)
  · exact .inl (by omega)
theorem drawpeak_r {a : Option Addr} {len cap blk off : Nat} {z : Nat → Int} (w : World) (h : Code0 w a len cap blk off z) :
    Calls Try.prog 4 #[.slice a len cap] w fun e w' => HalfR w e w' := by
  have H := half_r w h
  go_enter Try.func4, Try.ntmps4
  go_wp2_with fail
  refine H.mono ?_
  rintro e w1 ⟨b, n, cp, xs, rfl, HX, hn, hs, g⟩
  have HF : Hid (HalfR w (.returned (.slice b n cp)) w1) := ⟨b, n, cp, xs, rfl, HX, hn, hs, g⟩
  clear HX g
  go_wp2
  go_ret
  exact HF.out

set_option maxRecDepth 10000 in
set_option maxHeartbeats 8000000 in
theorem law_speak {a : Option Addr} {len cap blk off : Nat} {zz : Nat → Int} (w : World) (h : Code0 w a len cap blk off zz) :
    Calls Try.prog 3 #[.slice a len cap] w fun e w' => e = .returned (.bool true) ∧ Below w.heap.size w w' := by
  have hl := h.short
  go_enter Try.func3, Try.ntmps3
  go_wp2_with fail
  refine (drawpeak_r w h).mono ?_
  rintro e w1 ⟨b, n, cp, xs, rfl, HX, hn, hs, g1⟩
  have his : InstsIs w1 0 (.slice b n cp) xs := HX.out.2.is (by have := HX.out.1; omega)
  have hxl : xs.length ≤ 1048576 := by have := HX.out.1; omega
  have hlaw := peak_law xs
  obtain ⟨N, HN⟩ : ∃ N, Hid (N = trN xs) := ⟨_, rfl⟩
  have hNle := trN_le xs
  have hpk := pk_bd xs (trN xs)
  rw [← HN.out] at hlaw hNle hpk
  obtain ⟨PB, HPB⟩ : ∃ q, Hid (q = pkB xs N) := ⟨_, rfl⟩
  obtain ⟨PF, HPF⟩ : ∃ q, Hid (q = pkF xs N) := ⟨_, rfl⟩
  obtain ⟨C, HC⟩ : ∃ q, Hid (q = (checkT xs).1) := ⟨_, rfl⟩
  obtain ⟨D, HD⟩ : ∃ q, Hid (q = (checkT xs).2) := ⟨_, rfl⟩
  have HP : Hid (Calls Try.prog 5 #[.slice b n cp] w1 fun e w' => e = .returned (.agg #[.int .i64 PB, .int .i64 PF]) ∧ Below w1.heap.size w1 w') := by
    rw [HPB.out, HPF.out, HN.out]; exact peak_i _ xs w1 0 his hxl
  have HT : Hid (∀ W, Below w1.heap.size w1 W → Calls Try.prog 6 #[.slice b n cp] W fun e w' => ∃ v', e = .returned v' ∧ TrIs w' W.heap.size v' xs N ∧ Below W.heap.size W w') := fun W g => by
    rw [HN.out]; exact trace_s _ xs W 0 (instsIs_move (Keeps.of_below g 0) (Nat.le_refl _) his) hxl
  have HK : Hid (∀ W, Below w1.heap.size w1 W → Calls Try.prog 7 #[.slice b n cp] W fun e w' => e = .returned (.agg #[.int .i64 C, .int .i64 D]) ∧ Below W.heap.size W w') := fun W g => by
    rw [HC.out, HD.out]; exact check_s _ xs W 0 (instsIs_move (Keeps.of_below g 0) (Nat.le_refl _) his) hxl
  rw [← HPB.out, ← HPF.out, ← HC.out, ← HX.out.1] at hlaw
  rw [← HPB.out, ← HPF.out] at hpk
  have HLaw : Hid (0 < C ∨ C = 0 ∧ PB ≤ 16 ∧ PF ≤ 8 ∧ (n = 0 ∨ 0 < PB)) := hlaw
  have HG1 : Hid (Below w.heap.size w w1) := g1
  clear his hxl HX h hlaw g1
  go_wp2_with fail
  refine HP.out.mono ?_
  rintro e w2 ⟨rfl, g2⟩
  have gA : Below w1.heap.size w1 (w2.alloc (.cells #[.int .i64 PB, .int .i64 PF] 26)) := g2.alloc g2.size _
  have kA : (w2.alloc (.cells #[.int .i64 PB, .int .i64 PF] 26)).heap[w2.heap.size]? = some (.cells #[.int .i64 PB, .int .i64 PF] 26 (0, 0)) := heap_alloc_last w2 _
  have hs12 := g2.size
  go_wp2_with fail
  refine (HT.out _ gA).mono ?_
  rintro e w3 ⟨v', rfl, hT, g3⟩
  obtain ⟨ta, tc, rfl, hta⟩ := hT.form
  have k3 : w3.heap[w2.heap.size]? = some (.cells #[.int .i64 PB, .int .i64 PF] 26 (0, 0)) := (g3.block _ (by simp)).trans kA
  have HS0 : Hid (w3.heap[w2.heap.size]? = some (.cells #[.int .i64 PB, .int .i64 PF] 26 (0, 0)) ∧ TrIs w3 (w2.alloc (.cells #[.int .i64 PB, .int .i64 PF] 26)).heap.size (.slice ta N tc) xs N ∧ Below w1.heap.size w1 w3 ∧ ∀ j, j < N → ∃ g, ta = some ⟨g, 0, none⟩) := ⟨k3, hT, gA.trans (g3.mono gA.size), fun j hj => by obtain ⟨g, e, _⟩ := hta j hj; exact ⟨g, e⟩⟩
  clear hT hta g3 gA kA k3 g2 HT HP
  go_wp2
  go_loopg [6, 7, 8] N (fun gg bv fv i wr => ∃ (m : Nat) (B F : Int), m + gg = N ∧ i = .int .i64 m ∧ bv = .int .i64 B ∧ fv = .int .i64 F ∧ wr = w3 ∧ Hid (B = pkB xs m ∧ F = pkF xs m))
  case atStart => exact ⟨0, 0, 0, by omega, rfl, rfl, rfl, rfl, rfl, rfl⟩
  case round =>
    obtain ⟨m, B, F, hm, rfl, rfl, rfl, hWr, HS⟩ := hrel
    have hWs := hWr.symm
    clear hWr
    subst hWs
    by_cases hlt : m < N
    · have i1 : (m : Int) < (N : Int) := by omega
      have i3 : (0 : Int) ≤ (m : Int) := by omega
      obtain ⟨g, rfl⟩ := HS0.out.2.2.2 m hlt
      have cB := (HS0.out.2.1.cell hlt).1
      have cF := (HS0.out.2.1.cell hlt).2
      obtain ⟨bb, Hb⟩ : ∃ q, Hid (q = htB xs (m + 1)) := ⟨_, rfl⟩
      obtain ⟨ff, Hf⟩ : ∃ q, Hid (q = htF xs (m + 1)) := ⟨_, rfl⟩
      rw [← Hb.out] at cB
      rw [← Hf.out] at cF
      by_cases jB : B < bb
      · by_cases jF : F < ff
        · go_wp2
          go_roundg (gk - 1)
          case measure => omega
          case rel => exact ⟨m + 1, bb, ff, by omega, by simp, rfl, rfl, rfl, by show _ = max _ _; rw [← HS.out.1, ← Hb.out]; omega, by show _ = max _ _; rw [← HS.out.2, ← Hf.out]; omega⟩
        · go_wp2
          go_roundg (gk - 1)
          case measure => omega
          case rel => exact ⟨m + 1, bb, F, by omega, by simp, rfl, rfl, rfl, by show _ = max _ _; rw [← HS.out.1, ← Hb.out]; omega, by show _ = max _ _; rw [← HS.out.2, ← Hf.out]; omega⟩
      · by_cases jF : F < ff
        · go_wp2
          go_roundg (gk - 1)
          case measure => omega
          case rel => exact ⟨m + 1, B, ff, by omega, by simp, rfl, rfl, rfl, by show _ = max _ _; rw [← HS.out.1, ← Hb.out]; omega, by show _ = max _ _; rw [← HS.out.2, ← Hf.out]; omega⟩
        · go_wp2
          go_roundg (gk - 1)
          case measure => omega
          case rel => exact ⟨m + 1, B, F, by omega, by simp, rfl, rfl, rfl, by show _ = max _ _; rw [← HS.out.1, ← Hb.out]; omega, by show _ = max _ _; rw [← HS.out.2, ← Hf.out]; omega⟩
    · have i1 : ¬ ((m : Int) < (N : Int)) := by omega
      obtain rfl : m = N := by omega
      have hB : B = PB := by rw [HPB.out]; exact HS.out.1
      have hF : F = PF := by rw [HPF.out]; exact HS.out.2
      subst hB hF
      have d0 : w3.cell? ⟨w2.heap.size, 0, none⟩ = some (.int .i64 B) := (cell_of_row _ _ _ _ _ _ HS0.out.1).trans rfl
      have d1 : w3.cell? ⟨w2.heap.size, 1, none⟩ = some (.int .i64 F) := (cell_of_row _ _ _ _ _ _ HS0.out.1).trans rfl
      have HK3 : Hid (Calls Try.prog 7 #[.slice b n cp] w3 fun e w' => e = .returned (.agg #[.int .i64 C, .int .i64 D]) ∧ Below w3.heap.size w3 w') := HK.out w3 HS0.out.2.2.1
      have HB3 : Hid (Below w.heap.size w w3) := HG1.out.trans (HS0.out.2.2.1.mono HG1.out.size)
      have HK0 : Hid (w3.heap[w2.heap.size]? = some (.cells #[.int .i64 B, .int .i64 F] 26 (0, 0))) := HS0.out.1
      clear HK HS HS0 HPB HPF
      go_wp2_with fail
      refine HK3.out.mono ?_
      rintro e w4 ⟨rfl, g4⟩
      have k4 : w4.heap[w2.heap.size]? = some (.cells #[.int .i64 B, .int .i64 F] 26 (0, 0)) := (g4.block _ (Array.getElem?_eq_some_iff.1 HK0.out).1).trans HK0.out
      have e0 : w4.cell? ⟨w2.heap.size, 0, none⟩ = some (.int .i64 B) := (cell_of_row _ _ _ _ _ _ k4).trans rfl
      have e1 : w4.cell? ⟨w2.heap.size, 1, none⟩ = some (.int .i64 F) := (cell_of_row _ _ _ _ _ _ k4).trans rfl
      have HB4 : Hid (Below w.heap.size w w4) := HB3.out.trans (g4.mono HB3.out.size)
      clear k4 g4 HK0 HB3 HK3
      have hfld : ∀ (x y : Value) (W : World), (Instr.field 31 (.agg #[x, y]) 0).run Try.prog W = .ok x W := fun x y W => by kernel_rfl
      rcases HLaw.out with hc | ⟨hc, hb16, hf8, hz⟩
      · go_wp2
        go_ret
        exact ⟨rfl, HB4.out⟩
      · have hc1 : ¬ (0 < C) := by omega
        clear hc
        by_cases h0 : n = 0
        · have h0' : ((n : Int) == 0) = true := by simp [h0]
          clear h0 hz
          go_wp2
          go_ret
          exact ⟨rfl, HB4.out⟩
        · have h0' : ((n : Int) == 0) = false := by simp; omega
          have hbp : 0 < B := by omega
          clear hz
          go_wp2
          go_ret
          exact ⟨rfl, HB4.out⟩
theorem walk_speak (a : Option Addr) (len cap : Nat) (zs : List Int) (w : World) (h : IsRow .u8 w a len cap zs) :
    Calls Try.prog 3 #[.slice a len cap] w fun e w' => e = .returned (.bool true) ∧ Below w.heap.size w w' := by
  by_cases hl : len ≤ 1048576
  · obtain ⟨blk, off, z, hc⟩ := h.code hl
    exact law_speak w hc
  · have hcap : len ≤ maxLen := by
      rcases h with ⟨_, rfl, _⟩ | ⟨_, _, h1, h2, _⟩
      · omega
      · omega
    unfold maxLen at hcap
    have i1 : (1048576 : Int) < (len : Int) := by omega
    go_enter Try.func3, Try.ntmps3
    go_wp2
    go_ret
    exact ⟨rfl, Below.refl _ _⟩
end Go.Proofs.Ytbncgacnikmomaa
