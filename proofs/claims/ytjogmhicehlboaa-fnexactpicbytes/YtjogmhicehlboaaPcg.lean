/- PicHex of the program. -/
import Derived.Test.YtjogmhicehlboaaPcf
import Derived.Test.YtjogmhicehlboaaLy
namespace Go.Proofs.Ytjogmhicehlboaa
open Go.RowKit Go.Shelf
set_option linter.unusedVariables false

/-- The sign of a digit. -/
def dg (d : Nat) : UInt8 := if d < 10 then UInt8.ofNat (48 + d) else UInt8.ofNat (87 + d)
/-- The text of the first so many bytes. -/
def hexL (f : Nat → Nat) : Nat → List UInt8
  | 0 => []
  | n + 1 => hexL f n ++ [dg (f n / 16), dg (f n % 16)]
theorem hexL_len (f : Nat → Nat) : ∀ n, (hexL f n).length = 2 * n
  | 0 => rfl
  | n + 1 => by simp [hexL, hexL_len f n]; omega
def hexS : ByteArray := ⟨#[48, 49, 50, 51, 52, 53, 54, 55, 56, 57, 97, 98, 99, 100, 101, 102]⟩
theorem hexS_at : ∀ j : Fin 16, (hexS[j.val]'(by have := j.2; exact this)) = dg j.val := by decide

theorem builder_new (w : World) : Lib.IsBuilder 41 5 w.heap.size w.heap.size [] (w.alloc (.cells #[.pointer none, .slice none 0 0] 41)) :=
  .inl ⟨Nat.le_refl _, .slice none 0 0, heap_alloc_new w _, World.ownsRow_nil _ _ _ _, by simp [Value.ownBlock]⟩
theorem write_b (B : Nat) (l : List UInt8) (c : UInt8) (w : World) (h : Lib.IsBuilder 41 5 B B (Lib.byteCells l) w) (hl : l.length ≤ 1000000) (hB : B ≤ w.heap.size) :
    Calls Try.prog 26 #[.pointer (some ⟨B, 0, none⟩), .int .u8 c.toNat] w fun e w' => e = .returned .nilIface ∧ Lib.IsBuilder 41 5 B B (Lib.byteCells (l ++ [c])) w' ∧ Below B w w' := by
  refine (Any.Builder_WriteByte Go.Proofs.Try.layB Go.Proofs.Try.layB_extra B B (Lib.byteCells l) c.toNat w h (by simp [Lib.byteCells]; omega) hB).mono ?_
  rintro e w' ⟨rfl, h1, h2⟩
  refine ⟨rfl, .inr ?_, h2⟩
  have e : Lib.byteCells (l ++ [c]) = Lib.byteCells l ++ [.int .u8 c.toNat] := by simp [Lib.byteCells]
  rw [e]
  exact h1

theorem write_h (B : Nat) (l : List UInt8) (q : Nat) (hq : q < 16) (hq' : q < hexS.size) (w : World) (h : Lib.IsBuilder 41 5 B B (Lib.byteCells l) w) (hl : l.length ≤ 1000000) (hB : B ≤ w.heap.size) :
    Calls Try.prog 26 #[.pointer (some ⟨B, 0, none⟩), .int .u8 (hexS[q]'hq').toNat] w fun e w' => e = .returned .nilIface ∧ Lib.IsBuilder 41 5 B B (Lib.byteCells (l ++ [dg q])) w' ∧ Below B w w' := by
  rw [show hexS[q]'hq' = dg q from hexS_at ⟨q, hq⟩]
  exact write_b B l (dg q) w h hl hB

set_option maxRecDepth 10000 in
set_option maxHeartbeats 2000000 in
theorem hex_i (a : Option Addr) (n c : Nat) (f : Nat → Nat) (hf : ∀ j, f j < 256) (w : World) (hn : n ≤ 20008) (h : Bt w a n f) :
    Calls Try.prog 12 #[.slice a n c] w fun e w' => e = .returned (.string ⟨(hexL f n).toArray⟩) ∧ Below w.heap.size w w' := by
  have H0 : Hid (Bt w a n f) := h
  have Hf : Hid (∀ j, f j < 256) := hf
  have i9 : ¬ ((20008 : Int) < (n : Int)) := by omega
  have hz := builder_new w
  have b0 : Below w.heap.size w (w.alloc (.cells #[.pointer none, .slice none 0 0] 41)) := (Below.refl _ _).alloc (Nat.le_refl _) _
  clear h hf
  go_enter Try.func12, Try.ntmps12
  go_wp2
  generalize (w.alloc (.cells #[.pointer none, .slice none 0 0] 41)) = W0 at hz b0 ⊢
  go_loopw [5, 11] (fun _ i wr => ∃ k : Nat, k ≤ n ∧ i = .int .i64 k ∧ Hid (Lib.IsBuilder 41 5 w.heap.size w.heap.size (Lib.byteCells (hexL f k)) wr ∧ Below w.heap.size w wr)) (fun _ i _ => n - (intOf i).toNat)
  case atStart => exact ⟨0, Nat.zero_le _, rfl, hz, b0⟩
  case round =>
    clear hz b0
    obtain ⟨k, hk, rfl, HB⟩ := hrel
    by_cases hlt : k < n
    · obtain ⟨g, o, rfl, hg, hcs⟩ : ∃ g o, a = some ⟨g, o, none⟩ ∧ g < w.heap.size ∧ ∀ j, j < n → w.cell? ⟨g, o + j, none⟩ = some (.int .u8 (f j)) := by
        rcases H0.out with h | h
        · omega
        · exact h
      have hc : wr.cell? ⟨g, o + k, none⟩ = some (.int .u8 (f k)) := (HB.out.2.cell (p := ⟨g, o + k, none⟩) hg).trans (hcs k hlt)
      have i0 : (k : Int) < (n : Int) := by omega
      have i1 := Hf.out k
      clear hcs
      go_wp2_with fail
      refine (write_h w.heap.size (hexL f k) (f k / 16) (by omega) _ wr HB.out.1 (by rw [hexL_len]; omega) HB.out.2.size).mono ?_
      rintro e w1 ⟨rfl, h1, g1⟩
      have HB1 : Hid (Lib.IsBuilder 41 5 w.heap.size w.heap.size (Lib.byteCells (hexL f k ++ [dg (f k / 16)])) w1 ∧ Below w.heap.size w w1) := ⟨h1, HB.out.2.trans g1⟩
      clear h1 g1 HB hc
      go_wp2_with fail
      refine (write_h w.heap.size (hexL f k ++ [dg (f k / 16)]) (f k % 16) (by omega) _ w1 HB1.out.1 (by simp [hexL_len]; omega) HB1.out.2.size).mono ?_
      rintro e w2 ⟨rfl, h2, g2⟩
      have HB2 : Hid (Lib.IsBuilder 41 5 w.heap.size w.heap.size (Lib.byteCells (hexL f (k + 1))) w2 ∧ Below w.heap.size w w2) := ⟨by simpa [hexL] using h2, HB1.out.2.trans g2⟩
      clear h2 g2 HB1
      go_wp2
      go_roundw
      case rel => exact ⟨k + 1, by omega, by go_num, HB2⟩
      case measure => simp [intOf]; omega
    · have hkn : k = n := by omega
      subst hkn
      go_wp2_with fail
      refine (Any.Builder_String_any Go.Proofs.Try.layT Go.Proofs.Try.layT_extra w.heap.size w.heap.size (hexL f k) _ HB.out.1 HB.out.2.size).mono ?_
      rintro e w5 ⟨rfl, g5⟩
      have b5 : Below w.heap.size w w5 := HB.out.2.trans g5
      go_wp2
      go_ret
      exact ⟨rfl, b5⟩
end Go.Proofs.Ytjogmhicehlboaa
