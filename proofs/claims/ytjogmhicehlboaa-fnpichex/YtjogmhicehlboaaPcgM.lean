/- PicHex of the program. -/
import Derived.Test.YtjogmhicehlboaaPccM
import Derived.Test.YtjogmhicehlboaaLh
import Derived.Laws.IdiomStrings
import Derived.Deep.RegionHeld3
import Derived.Deep.Cut
namespace Go.Proofs.Ytjogmhicehlboaa
open Go.RowKit Go.Shelf
set_option linter.unusedVariables false

/-- The sign of a digit. -/
def dg (d : Nat) : UInt8 := if d < 10 then UInt8.ofNat (48 + d) else UInt8.ofNat (87 + d)
/-- The text of the first so many bytes. -/
def hexL (f : Nat → Nat) : Nat → List UInt8
  | 0 => []
  | n + 1 => hexL f n ++ [dg (f n / 16), dg (f n % 16)]
theorem hexL_len (f : Nat → Nat) : ∀ n, (hexL f n).length = 2 * n
  | 0 => rfl
  | n + 1 => by simp [hexL, hexL_len f n]; omega
def hexS : ByteArray := ⟨#[48, 49, 50, 51, 52, 53, 54, 55, 56, 57, 97, 98, 99, 100, 101, 102]⟩
theorem hexS_at : ∀ j : Fin 16, (hexS[j.val]'(by have := j.2; exact this)) = dg j.val := by decide

theorem builder_new (w : World) : Lib.IsBuilder 41 5 w.heap.size w.heap.size [] (w.alloc (.cells #[.pointer none, .slice none 0 0] 41)) :=
  .inl ⟨Nat.le_refl _, .slice none 0 0, heap_alloc_new w _, World.ownsRow_nil _ _ _ _, by simp [Value.ownBlock]⟩
theorem write_b (B : Nat) (l : List UInt8) (c : UInt8) (w : World) (h : Lib.IsBuilder 41 5 B B (Lib.byteCells l) w) (hl : l.length ≤ 1000000) (hB : B ≤ w.heap.size) :
    Calls Try.prog 26 #[.pointer (some ⟨B, 0, none⟩), .int .u8 c.toNat] w fun e w' => e = .returned .nilIface ∧ Lib.IsBuilder 41 5 B B (Lib.byteCells (l ++ [c])) w' ∧ Below B w w' := by
  refine (Any.Builder_WriteByte Go.Proofs.Try.layB Go.Proofs.Try.layB_extra B B (Lib.byteCells l) c.toNat w h (by simp [Lib.byteCells]; omega) hB).mono ?_
  rintro e w' ⟨rfl, h1, h2⟩
  refine ⟨rfl, .inr ?_, h2⟩
  have e : Lib.byteCells (l ++ [c]) = Lib.byteCells l ++ [.int .u8 c.toNat] := by simp [Lib.byteCells]
  rw [e]
  exact h1

theorem write_h (B : Nat) (l : List UInt8) (q : Nat) (hq : q < 16) (hq' : q < hexS.size) (w : World) (h : Lib.IsBuilder 41 5 B B (Lib.byteCells l) w) (hl : l.length ≤ 1000000) (hB : B ≤ w.heap.size) :
    Calls Try.prog 26 #[.pointer (some ⟨B, 0, none⟩), .int .u8 (hexS[q]'hq').toNat] w fun e w' => e = .returned .nilIface ∧ Lib.IsBuilder 41 5 B B (Lib.byteCells (l ++ [dg q])) w' ∧ Below B w w' := by
  rw [show hexS[q]'hq' = dg q from hexS_at ⟨q, hq⟩]
  exact write_b B l (dg q) w h hl hB

set_option maxRecDepth 10000 in
set_option maxHeartbeats 2000000 in
theorem hex_i (a : Option Addr) (n c : Nat) (f : Nat → Nat) (hf : ∀ j, f j < 256) (w : World) (hn : n ≤ 20008) (h : Bt w a n f) :
    Calls Try.prog 12 #[.slice a n c] w fun e w' => e = .returned (.string ⟨(hexL f n).toArray⟩) ∧ Below w.heap.size w w' := by
  have H0 : Hid (Bt w a n f) := h
  have Hf : Hid (∀ j, f j < 256) := hf
  have i9 : ¬ ((20008 : Int) < (n : Int)) := by omega
  have hz := builder_new w
  have b0 : Below w.heap.size w (w.alloc (.cells #[.pointer none, .slice none 0 0] 41)) := (Below.refl _ _).alloc (Nat.le_refl _) _
  clear h hf
  go_enter Try.func12, Try.ntmps12
  go_wp2
  generalize (w.alloc (.cells #[.pointer none, .slice none 0 0] 41)) = W0 at hz b0 ⊢
  go_loopw [5, 11] (fun _ i wr => ∃ k : Nat, k ≤ n ∧ i = .int .i64 k ∧ Hid (Lib.IsBuilder 41 5 w.heap.size w.heap.size (Lib.byteCells (hexL f k)) wr ∧ Below w.heap.size w wr)) (fun _ i _ => n - (intOf i).toNat)
  case atStart => exact ⟨0, Nat.zero_le _, rfl, hz, b0⟩
  case round =>
    clear hz b0
    obtain ⟨k, hk, rfl, HB⟩ := hrel
    by_cases hlt : k < n
    · obtain ⟨g, o, rfl, hg, hcs⟩ : ∃ g o, a = some ⟨g, o, none⟩ ∧ g < w.heap.size ∧ ∀ j, j < n → w.cell? ⟨g, o + j, none⟩ = some (.int .u8 (f j)) := by
        rcases H0.out with h | h
        · omega
        · exact h
      have hc : wr.cell? ⟨g, o + k, none⟩ = some (.int .u8 (f k)) := (HB.out.2.cell (p := ⟨g, o + k, none⟩) hg).trans (hcs k hlt)
      have i0 : (k : Int) < (n : Int) := by omega
      have i1 := Hf.out k
      clear hcs
      go_wp2_with fail
      refine (write_h w.heap.size (hexL f k) (f k / 16) (by omega) _ wr HB.out.1 (by rw [hexL_len]; omega) HB.out.2.size).mono ?_
      rintro e w1 ⟨rfl, h1, g1⟩
      have HB1 : Hid (Lib.IsBuilder 41 5 w.heap.size w.heap.size (Lib.byteCells (hexL f k ++ [dg (f k / 16)])) w1 ∧ Below w.heap.size w w1) := ⟨h1, HB.out.2.trans g1⟩
      clear h1 g1 HB hc
      go_wp2_with fail
      refine (write_h w.heap.size (hexL f k ++ [dg (f k / 16)]) (f k % 16) (by omega) _ w1 HB1.out.1 (by simp [hexL_len]; omega) HB1.out.2.size).mono ?_
      rintro e w2 ⟨rfl, h2, g2⟩
      have HB2 : Hid (Lib.IsBuilder 41 5 w.heap.size w.heap.size (Lib.byteCells (hexL f (k + 1))) w2 ∧ Below w.heap.size w w2) := ⟨by simpa [hexL] using h2, HB1.out.2.trans g2⟩
      clear h2 g2 HB1
      go_wp2
      go_roundw
      case rel => exact ⟨k + 1, by omega, by go_num, HB2⟩
      case measure => simp [intOf]; omega
    · have hkn : k = n := by omega
      subst hkn
      go_wp2_with fail
      refine (Any.Builder_String_any Go.Proofs.Try.layT Go.Proofs.Try.layT_extra w.heap.size w.heap.size (hexL f k) _ HB.out.1 HB.out.2.size).mono ?_
      rintro e w5 ⟨rfl, g5⟩
      have b5 : Below w.heap.size w w5 := HB.out.2.trans g5
      go_wp2
      go_ret
      exact ⟨rfl, b5⟩
end Go.Proofs.Ytjogmhicehlboaa
/- PicHex of the specification. -/
namespace Go.Proofs.Ytjogmhicehlboaa
open Go.RowKit Go.Shelf
set_option linter.unusedVariables false

theorem gb_belowH {w w' : World} (h : Below w.heap.size w w') : w.grownBy w' none := ⟨h.os, h.tape, h.output, h.size, fun k hk _ => h.block k hk⟩
/-- Two cells that were laid for an append. -/
theorem cell_two_new (w : World) (x y : Value) (t : TypeId) : ∀ j u, [x, y][j]? = some u → (w.alloc (.cells #[x, y] t)).cell? ((⟨w.heap.size, 0, none⟩ : Addr).add j) = some u := by
  intro j u hj
  match j, hj with
  | 0, hj => simp at hj; subst hj; simp [Addr.add]
  | 1, hj => simp at hj; subst hj; simp [Addr.add]
  | j + 2, hj => simp at hj
theorem byteCells_two (l : List UInt8) (x y : UInt8) : Lib.byteCells (l ++ [x, y]) = Lib.byteCells l ++ [.int .u8 x.toNat, .int .u8 y.toNat] := by simp [Lib.byteCells]

set_option maxRecDepth 10000 in
set_option maxHeartbeats 2000000 in
theorem hex_s (a : Option Addr) (n c : Nat) (f : Nat → Nat) (hf : ∀ j, f j < 256) (w : World) (hn : n ≤ 20008) (h : Bt w a n f) :
    Calls Try.prog 14 #[.slice a n c] w fun e w' => e = .returned (.string ⟨(hexL f n).toArray⟩) ∧ Below w.heap.size w w' := by
  obtain ⟨i0, hi, hz0, hz1, hz2⟩ := info_parts infoU8
  have H0 : Hid (Bt w a n f) := h
  have Hf : Hid (∀ j, f j < 256) := hf
  have i9 : ¬ ((20008 : Int) < (n : Int)) := by omega
  have o1 : (w.alloc (.cells #[] 5)).ownsRow w.heap.size 5 1 (.slice (some ⟨w.heap.size, 0, none⟩) 0 0) 0 (Lib.byteCells (hexL f 0)) := by
    have h := World.ownsRow_made (base := w.heap.size) (e := 5) (size := 1) w #[] 0 (by simp) (by unfold maxLen; omega) (by simp)
    simpa [Lib.byteCells, hexL] using h
  have b0 : Below w.heap.size w (w.alloc (.cells #[] 5)) := (Below.refl _ _).alloc (Nat.le_refl _) _
  clear h hf
  go_enter Try.func14, Try.ntmps14
  go_wp2
  generalize (w.alloc (.cells #[] 5)) = W0 at o1 b0 ⊢
  go_loopw [3, 4] (fun v i wr => ∃ k g cap : Nat, k ≤ n ∧ i = .int .i64 k ∧ v = .slice (some ⟨g, 0, none⟩) (2 * k) cap ∧ Hid (wr.ownsRow w.heap.size 5 1 (.slice (some ⟨g, 0, none⟩) (2 * k) cap) (2 * k) (Lib.byteCells (hexL f k)) ∧ Below w.heap.size w wr)) (fun _ i _ => n - (intOf i).toNat)
  case atStart => exact ⟨0, w.heap.size, 0, Nat.zero_le _, rfl, rfl, o1, b0⟩
  case round =>
    clear o1 b0
    obtain ⟨k, q, cap, hk, rfl, rfl, HB⟩ := hrel
    by_cases hlt : k < n
    · obtain ⟨g, o, rfl, hg, hcs⟩ : ∃ g o, a = some ⟨g, o, none⟩ ∧ g < w.heap.size ∧ ∀ j, j < n → w.cell? ⟨g, o + j, none⟩ = some (.int .u8 (f j)) := by
        rcases H0.out with h | h
        · omega
        · exact h
      have hc : wr.cell? ⟨g, o + k, none⟩ = some (.int .u8 (f k)) := (HB.out.2.cell (p := ⟨g, o + k, none⟩) hg).trans (hcs k hlt)
      have ik : (k : Int) < (n : Int) := by omega
      have i1 := Hf.out k
      obtain ⟨q1, hq1, lq1, E1⟩ : ∃ q1 : Nat, IntKind.u8.wrap ((f k : Int) / 16) = (q1 : Int) ∧ q1 < 16 ∧ Hid (q1 = f k / 16) := ⟨f k / 16, by rw [IntKind.wrap_u8']; omega, by omega, rfl⟩
      obtain ⟨q2, hq2, lq2, E2⟩ : ∃ q2 : Nat, ((f k : Int)).tmod 16 = (q2 : Int) ∧ q2 < 16 ∧ Hid (q2 = f k % 16) := ⟨f k % 16, by rw [Int.tmod_eq_emod_of_nonneg (by omega)]; omega, by omega, rfl⟩
      obtain ⟨d1, hd1, D1⟩ : ∃ d1 : UInt8, (∀ h, (⟨#[48, 49, 50, 51, 52, 53, 54, 55, 56, 57, 97, 98, 99, 100, 101, 102]⟩ : ByteArray)[q1]'h = d1) ∧ Hid (d1 = dg q1) := ⟨dg q1, fun h => hexS_at ⟨q1, lq1⟩, rfl⟩
      obtain ⟨d2, hd2, D2⟩ : ∃ d2 : UInt8, (∀ h, (⟨#[48, 49, 50, 51, 52, 53, 54, 55, 56, 57, 97, 98, 99, 100, 101, 102]⟩ : ByteArray)[q2]'h = d2) ∧ Hid (d2 = dg q2) := ⟨dg q2, fun h => hexS_at ⟨q2, lq2⟩, rfl⟩
      have j1 : (q1 : Int) < 16 := by omega
      have j2 : (q2 : Int) < 16 := by omega
      clear hcs
      go_upto_region 7 with fail
      go_region_law (first | (refine step_append_lies _ rfl (.tmp 15) (.tmp 28) 22 rfl w.heap.size 5 i0 (.int .u8 0) 1 1 Try.underlying22 hi hz0 hz1 hz2 rfl (by decide) _ (2 * k) (Lib.byteCells (hexL f k)) rfl (by exact (HB.out.1.alloc _).drew) ⟨wr.heap.size, 0, none⟩ 2 2 [.int .u8 d1.toNat, .int .u8 d2.toNat] rfl rfl (by exact cell_two_new _ _ _ _) (by intro u hu; simp at hu; rcases hu with rfl | rfl <;> rfl) (by decide) (by unfold maxLen; omega) (by omega) (by have := HB.out.2.size; simp; omega) _ rfl ?_; intro g' cap' w2 hown' hgrow hat hlt') | (trace_state; fail))
      all_goals
        have HF : Hid (w2.ownsRow w.heap.size 5 1 (.slice (some ⟨g', 0, none⟩) (2 * (k + 1)) cap') (2 * (k + 1)) (Lib.byteCells (hexL f (k + 1))) ∧ Below w.heap.size w w2) := by
          refine ⟨?_, ?_⟩
          · have e : Lib.byteCells (hexL f (k + 1)) = Lib.byteCells (hexL f k) ++ [.int .u8 d1.toNat, .int .u8 d2.toNat] := by
              show Lib.byteCells (hexL f k ++ [dg (f k / 16), dg (f k % 16)]) = _
              rw [byteCells_two, D1.out, D2.out, E1.out, E2.out]
            rw [e, show 2 * (k + 1) = 2 * k + 2 by omega]
            exact hown'
          · have hr : ∀ j, (Value.slice (some ⟨q, 0, none⟩) (2 * k) cap).ownBlock = some j → w.heap.size ≤ j := fun j hj => (HB.out.1.lt j hj).1
            have hz := HB.out.2.size
            exact ((HB.out.2.alloc hz _).drew).grown hgrow (by simp; omega) hr
        clear hown' hgrow hat hlt' HB hc hq1 hq2 hd1 hd2 j1 j2
        go_wp2
        go_roundw
        case rel => exact ⟨k + 1, g', cap', by omega, by go_num, by rw [show 2 * (k + 1) = 2 * k + 2 by omega], HF⟩
        case measure => simp [intOf]; omega
    · have hkn : k = n := by omega
      subst hkn
      have HV : Hid ((convert 22 9 (.slice (some ⟨q, 0, none⟩) (2 * k) cap)).run Try.prog wr = .ok (.string ⟨(hexL f k).toArray⟩) wr) := by
        have := run_convert_bytes_back (P := Try.prog) wr 22 9 5 ⟨q, 0, none⟩ cap (hexL f k) Try.underlying22 Try.underlying5 Try.underlying9 (fun j hj => HB.out.1.cells rfl j _ (by simp [Lib.byteCells, hj]))
        rw [hexL_len] at this
        exact this
      have hv := HV.out
      have b5 := HB.out.2
      go_wp2
      go_ret
      exact ⟨rfl, b5⟩
end Go.Proofs.Ytjogmhicehlboaa
/- The law FnExactPicHex. -/
namespace Go.Proofs.Ytjogmhicehlboaa
open Go.RowKit Go.Shelf
set_option linter.unusedVariables false

/-- The text of bytes: empty, if there are too many. -/
def hexT (f : Nat → Nat) (n : Nat) : ByteArray := if n ≤ 20008 then ⟨(hexL f n).toArray⟩ else ⟨#[]⟩

set_option maxHeartbeats 1000000 in
theorem hexT_i (a : Option Addr) (n c : Nat) (f : Nat → Nat) (hf : ∀ j, f j < 256) (w : World) (hn : n ≤ 1048576) (h : Bt w a n f) :
    Calls Try.prog 12 #[.slice a n c] w fun e w' => e = .returned (.string (hexT f n)) ∧ Below w.heap.size w w' := by
  unfold hexT
  split
  · next hl => exact hex_i a n c f hf w hl h
  · next hl =>
    have i9 : (20008 : Int) < (n : Int) := by omega
    clear h hf
    go_enter Try.func12, Try.ntmps12
    go_wp2
    go_ret
    exact ⟨rfl, Below.refl _ _⟩

set_option maxHeartbeats 1000000 in
theorem hexT_s (a : Option Addr) (n c : Nat) (f : Nat → Nat) (hf : ∀ j, f j < 256) (w : World) (hn : n ≤ 1048576) (h : Bt w a n f) :
    Calls Try.prog 14 #[.slice a n c] w fun e w' => e = .returned (.string (hexT f n)) ∧ Below w.heap.size w w' := by
  unfold hexT
  split
  · next hl => exact hex_s a n c f hf w hl h
  · next hl =>
    have i9 : (20008 : Int) < (n : Int) := by omega
    clear h hf
    go_enter Try.func14, Try.ntmps14
    go_wp2
    go_ret
    exact ⟨rfl, Below.refl _ _⟩

set_option maxHeartbeats 1000000 in
theorem law_phex (a : Option Addr) (n c : Nat) (f : Nat → Nat) (hf : ∀ j, f j < 256) (w : World) (hn : n ≤ 1048576) (h : Bt w a n f) :
    Calls Try.prog 6 #[.slice a n c] w fun e w' => e = .returned (.bool true) ∧ Below w.heap.size w w' := by
  have HT : Hid (∀ W, Below w.heap.size w W → Calls Try.prog 17 #[.slice a n c] W fun e w' => e = .returned (.slice (some ⟨W.heap.size, 0, none⟩) n n) ∧ By w' W.heap.size n f ∧ Below W.heap.size W w') := fun W g => to_bytes a n c f W hn (h.later g (Nat.le_refl _))
  have HS : Hid (∀ W g c, By W g n f → Calls Try.prog 14 #[.slice (some ⟨g, 0, none⟩) n c] W fun e w' => e = .returned (.string (hexT f n)) ∧ Below W.heap.size W w') := fun W g c h => hexT_s _ n c f hf W hn h.bt
  have HI : Hid (∀ W g c, By W g n f → Calls Try.prog 12 #[.slice (some ⟨g, 0, none⟩) n c] W fun e w' => e = .returned (.string (hexT f n)) ∧ Below W.heap.size W w') := fun W g c h => hexT_i _ n c f hf W hn h.bt
  have HE : Hid (∀ W g1 g2 c1 c2, By W g1 n f → By W g2 n f → Calls Try.prog 18 #[.slice (some ⟨g1, 0, none⟩) n c1, .slice (some ⟨g2, 0, none⟩) n c2] W fun e w' => e = .returned (.bool true) ∧ Below W.heap.size W w') := fun W g1 g2 c1 c2 h1 h2 => eq_bytes _ _ n c1 c2 f W h1.bt h2.bt hn
  obtain ⟨V, HV⟩ : ∃ V : ByteArray, Hid (V = hexT f n) := ⟨_, rfl⟩
  rw [← HV.out] at HS HI
  have i1 : ¬ ((1048576 : Int) < (n : Int)) := by omega
  have b0 : Hid (Below w.heap.size w w) := Below.refl _ _
  clear h hf hn
  go_enter Try.func6, Try.ntmps6
  go_wp2_with fail
  refine (HT.out _ b0.out).mono ?_
  rintro e w1 ⟨rfl, r1, g1⟩
  have b1 : Hid (Below w.heap.size w w1) := g1
  clear g1
  go_wp2_with fail
  refine (HS.out _ _ _ r1).mono ?_
  rintro e w1' ⟨rfl, gs⟩
  have b1' : Hid (Below w.heap.size w w1') := b1.out.trans (gs.mono b1.out.size)
  clear gs r1 b1
  go_wp2_with fail
  refine (HT.out _ b1'.out).mono ?_
  rintro e w2 ⟨rfl, r2, g2⟩
  have b2 : Hid (Below w.heap.size w w2) := b1'.out.trans (g2.mono b1'.out.size)
  clear g2 b1'
  go_wp2_with fail
  refine (HI.out _ _ _ r2).mono ?_
  rintro e w2' ⟨rfl, gi⟩
  have b2' : Hid (Below w.heap.size w w2') := b2.out.trans (gi.mono b2.out.size)
  have r2' := r2.later gi r2.lt
  clear gi r2 b2
  go_wp2_with fail
  refine (HT.out _ b2'.out).mono ?_
  rintro e w3 ⟨rfl, r3, g3⟩
  have b3 : Hid (Below w.heap.size w w3) := b2'.out.trans (g3.mono b2'.out.size)
  have r2'' := r2'.later g3 r2'.lt
  clear g3 r2'
  go_wp2_with fail
  refine (HE.out _ _ _ _ _ r2'' r3).mono ?_
  rintro e w4 ⟨rfl, g4⟩
  have b4 := b3.out.trans (g4.mono b3.out.size)
  clear g4
  go_wp2
  go_ret
  exact ⟨rfl, b4⟩

set_option maxHeartbeats 400000 in
theorem walk_phex (a : Option Addr) (len cap : Nat) (zs : List Int) (w : World) (h : IsRow .u8 w a len cap zs) :
    Calls Try.prog 6 #[.slice a len cap] w fun e w' => e = .returned (.bool true) ∧ Below w.heap.size w w' := by
  obtain ⟨hm, f, hf, hb⟩ := h.bt
  by_cases hl : len ≤ 1048576
  · exact law_phex a len cap f hf w hl hb
  · unfold maxLen at hm
    have i1 : (1048576 : Int) < (len : Int) := by omega
    clear h hb
    go_enter Try.func6, Try.ntmps6
    go_wp2
    go_ret
    exact ⟨rfl, Below.refl _ _⟩
end Go.Proofs.Ytjogmhicehlboaa
