/- PicHex of the specification. -/
import Derived.Test.YtjogmhicehlboaaPcg
import Derived.Laws.IdiomStrings
import Derived.Deep.RegionHeld3
import Derived.Deep.Cut
namespace Go.Proofs.Ytjogmhicehlboaa
open Go.RowKit Go.Shelf
set_option linter.unusedVariables false

theorem gb_belowH {w w' : World} (h : Below w.heap.size w w') : w.grownBy w' none := ⟨h.os, h.tape, h.output, h.size, fun k hk _ => h.block k hk⟩
/-- Two cells that were laid for an append. -/
theorem cell_two_new (w : World) (x y : Value) (t : TypeId) : ∀ j u, [x, y][j]? = some u → (w.alloc (.cells #[x, y] t)).cell? ((⟨w.heap.size, 0, none⟩ : Addr).add j) = some u := by
  intro j u hj
  match j, hj with
  | 0, hj => simp at hj; subst hj; simp [Addr.add]
  | 1, hj => simp at hj; subst hj; simp [Addr.add]
  | j + 2, hj => simp at hj
theorem byteCells_two (l : List UInt8) (x y : UInt8) : Lib.byteCells (l ++ [x, y]) = Lib.byteCells l ++ [.int .u8 x.toNat, .int .u8 y.toNat] := by simp [Lib.byteCells]

set_option maxRecDepth 10000 in
set_option maxHeartbeats 2000000 in
theorem hex_s (a : Option Addr) (n c : Nat) (f : Nat → Nat) (hf : ∀ j, f j < 256) (w : World) (hn : n ≤ 20008) (h : Bt w a n f) :
    Calls Try.prog 14 #[.slice a n c] w fun e w' => e = .returned (.string ⟨(hexL f n).toArray⟩) ∧ Below w.heap.size w w' := by
  obtain ⟨i0, hi, hz0, hz1, hz2⟩ := info_parts infoU8
  have H0 : Hid (Bt w a n f) := h
  have Hf : Hid (∀ j, f j < 256) := hf
  have i9 : ¬ ((20008 : Int) < (n : Int)) := by omega
  have o1 : (w.alloc (.cells #[] 5)).ownsRow w.heap.size 5 1 (.slice (some ⟨w.heap.size, 0, none⟩) 0 0) 0 (Lib.byteCells (hexL f 0)) := by
    have h := World.ownsRow_made (base := w.heap.size) (e := 5) (size := 1) w #[] 0 (by simp) (by unfold maxLen; omega) (by simp)
    simpa [Lib.byteCells, hexL] using h
  have b0 : Below w.heap.size w (w.alloc (.cells #[] 5)) := (Below.refl _ _).alloc (Nat.le_refl _) _
  clear h hf
  go_enter Try.func14, Try.ntmps14
  go_wp2
  generalize (w.alloc (.cells #[] 5)) = W0 at o1 b0 ⊢
  go_loopw [3, 4] (fun v i wr => ∃ k g cap : Nat, k ≤ n ∧ i = .int .i64 k ∧ v = .slice (some ⟨g, 0, none⟩) (2 * k) cap ∧ Hid (wr.ownsRow w.heap.size 5 1 (.slice (some ⟨g, 0, none⟩) (2 * k) cap) (2 * k) (Lib.byteCells (hexL f k)) ∧ Below w.heap.size w wr)) (fun _ i _ => n - (intOf i).toNat)
  case atStart => exact ⟨0, w.heap.size, 0, Nat.zero_le _, rfl, rfl, o1, b0⟩
  case round =>
    clear o1 b0
    obtain ⟨k, q, cap, hk, rfl, rfl, HB⟩ := hrel
    by_cases hlt : k < n
    · obtain ⟨g, o, rfl, hg, hcs⟩ : ∃ g o, a = some ⟨g, o, none⟩ ∧ g < w.heap.size ∧ ∀ j, j < n → w.cell? ⟨g, o + j, none⟩ = some (.int .u8 (f j)) := by
        rcases H0.out with h | h
        · omega
        · exact h
      have hc : wr.cell? ⟨g, o + k, none⟩ = some (.int .u8 (f k)) := (HB.out.2.cell (p := ⟨g, o + k, none⟩) hg).trans (hcs k hlt)
      have ik : (k : Int) < (n : Int) := by omega
      have i1 := Hf.out k
      obtain ⟨q1, hq1, lq1, E1⟩ : ∃ q1 : Nat, IntKind.u8.wrap ((f k : Int) / 16) = (q1 : Int) ∧ q1 < 16 ∧ Hid (q1 = f k / 16) := ⟨f k / 16, by rw [IntKind.wrap_u8']; omega, by omega, rfl⟩
      obtain ⟨q2, hq2, lq2, E2⟩ : ∃ q2 : Nat, ((f k : Int)).tmod 16 = (q2 : Int) ∧ q2 < 16 ∧ Hid (q2 = f k % 16) := ⟨f k % 16, by rw [Int.tmod_eq_emod_of_nonneg (by omega)]; omega, by omega, rfl⟩
      obtain ⟨d1, hd1, D1⟩ : ∃ d1 : UInt8, (∀ h, (⟨#[48, 49, 50, 51, 52, 53, 54, 55, 56, 57, 97, 98, 99, 100, 101, 102]⟩ : ByteArray)[q1]'h = d1) ∧ Hid (d1 = dg q1) := ⟨dg q1, fun h => hexS_at ⟨q1, lq1⟩, rfl⟩
      obtain ⟨d2, hd2, D2⟩ : ∃ d2 : UInt8, (∀ h, (⟨#[48, 49, 50, 51, 52, 53, 54, 55, 56, 57, 97, 98, 99, 100, 101, 102]⟩ : ByteArray)[q2]'h = d2) ∧ Hid (d2 = dg q2) := ⟨dg q2, fun h => hexS_at ⟨q2, lq2⟩, rfl⟩
      have j1 : (q1 : Int) < 16 := by omega
      have j2 : (q2 : Int) < 16 := by omega
      clear hcs
      go_upto_region 7 with fail
      go_region_law (first | (refine step_append_lies _ rfl (.tmp 15) (.tmp 28) 22 rfl w.heap.size 5 i0 (.int .u8 0) 1 1 Try.underlying22 hi hz0 hz1 hz2 rfl (by decide) _ (2 * k) (Lib.byteCells (hexL f k)) rfl (by exact (HB.out.1.alloc _).drew) ⟨wr.heap.size, 0, none⟩ 2 2 [.int .u8 d1.toNat, .int .u8 d2.toNat] rfl rfl (by exact cell_two_new _ _ _ _) (by intro u hu; simp at hu; rcases hu with rfl | rfl <;> rfl) (by decide) (by unfold maxLen; omega) (by omega) (by have := HB.out.2.size; simp; omega) _ rfl ?_; intro g' cap' w2 hown' hgrow hat hlt') | (trace_state; fail))
      all_goals
        have HF : Hid (w2.ownsRow w.heap.size 5 1 (.slice (some ⟨g', 0, none⟩) (2 * (k + 1)) cap') (2 * (k + 1)) (Lib.byteCells (hexL f (k + 1))) ∧ Below w.heap.size w w2) := by
          refine ⟨?_, ?_⟩
          · have e : Lib.byteCells (hexL f (k + 1)) = Lib.byteCells (hexL f k) ++ [.int .u8 d1.toNat, .int .u8 d2.toNat] := by
              show Lib.byteCells (hexL f k ++ [dg (f k / 16), dg (f k % 16)]) = _
              rw [byteCells_two, D1.out, D2.out, E1.out, E2.out]
            rw [e, show 2 * (k + 1) = 2 * k + 2 by omega]
            exact hown'
          · have hr : ∀ j, (Value.slice (some ⟨q, 0, none⟩) (2 * k) cap).ownBlock = some j → w.heap.size ≤ j := fun j hj => (HB.out.1.lt j hj).1
            have hz := HB.out.2.size
            exact ((HB.out.2.alloc hz _).drew).grown hgrow (by simp; omega) hr
        clear hown' hgrow hat hlt' HB hc hq1 hq2 hd1 hd2 j1 j2
        go_wp2
        go_roundw
        case rel => exact ⟨k + 1, g', cap', by omega, by go_num, by rw [show 2 * (k + 1) = 2 * k + 2 by omega], HF⟩
        case measure => simp [intOf]; omega
    · have hkn : k = n := by omega
      subst hkn
      have HV : Hid ((convert 22 9 (.slice (some ⟨q, 0, none⟩) (2 * k) cap)).run Try.prog wr = .ok (.string ⟨(hexL f k).toArray⟩) wr) := by
        have := run_convert_bytes_back (P := Try.prog) wr 22 9 5 ⟨q, 0, none⟩ cap (hexL f k) Try.underlying22 Try.underlying5 Try.underlying9 (fun j hj => HB.out.1.cells rfl j _ (by simp [Lib.byteCells, hj]))
        rw [hexL_len] at this
        exact this
      have hv := HV.out
      have b5 := HB.out.2
      go_wp2
      go_ret
      exact ⟨rfl, b5⟩
end Go.Proofs.Ytjogmhicehlboaa
