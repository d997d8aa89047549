/- The law FnBitBack. -/
import Derived.Test.YtlpeianinlnbeaaBc
import Derived.Test.YtlpeianinlnbeaaQ
namespace Go.Proofs.Ytlpeianinlnbeaa
open Go.RowKit
set_option linter.unusedVariables false

set_option maxHeartbeats 4000000 in
theorem law5_in {a a' : Option Addr} {len cap blk off len' cap' blk' off' : Nat} {z z' : Nat → Int} (w : World) (h : Code0 w a len cap blk off z) (h' : Code0 w a' len' cap' blk' off' z') :
    Calls Try.prog 5 #[.slice a len cap, .slice a' len' cap'] w fun e w' => e = .returned (.bool true) ∧ Below w.heap.size w w' := by
  have hlen := h.short
  have hlen' := h'.short
  go_enter Try.func5, Try.ntmps5
  go_wp2_with fail
  refine (draw_text _ h).mono ?_
  rintro e w1 ⟨⟨b, n, hb0, hb1, rfl⟩, b1⟩
  have z1 := b1.size
  obtain ⟨V, M, HRD, hcase⟩ := read_text b n hb0 hb1
  have hts := textV_size b n
  have HT1 : Hid (∀ W : World, Calls Try.prog 34 #[.agg #[.int .u16 b, .int .i64 n]] W fun e w' => e = .returned (.string (textV b n)) ∧ Below W.heap.size W w') := fun W => impl_text b n W hb0 hb1
  have HT2 : Hid (∀ W : World, Calls Try.prog 36 #[.agg #[.int .u16 b, .int .i64 n]] W fun e w' => e = .returned (.string (textV b n)) ∧ Below W.heap.size W w') := fun W => spec_text b n W hb0 hb1
  have HOK : Hid (∀ W : World, Calls Try.prog 27 #[.agg #[.int .u16 b, .int .i64 n]] W fun e w' => e = .returned (.bool (okS 16 b n)) ∧ Below W.heap.size W w') := fun W => spec_ok b n W hb0 hb1
  obtain ⟨t, HT⟩ : ∃ t, Hid (t = textV b n) := ⟨_, rfl⟩
  obtain ⟨ok, HO⟩ : ∃ ok, Hid (ok = okS 16 b n) := ⟨_, rfl⟩
  rw [← HT.out] at HT1 HT2 HRD hts
  rw [← HO.out] at HOK HRD hcase
  have HCASE : Hid ((ok = false ∧ V = 0 ∧ M = 0) ∨ (ok = true ∧ V = b ∧ M = n)) := hcase
  clear hcase HT HO h
  go_wp2_with fail
  refine (HT1.out _).mono ?_
  rintro e w2 ⟨rfl, g2⟩
  have s2 : Sk .u16 w2 w1.heap.size b n := (Sk.fresh .u16 w1 b n 25).later g2 (by simp)
  have b2 : Below w.heap.size w w2 := (b1.alloc z1 _).trans (g2.mono (by simp; omega))
  have z2 := b2.size
  clear g2 b1
  go_wp2_with fail
  refine (HRD.out _).mono ?_
  rintro e w3 ⟨rfl, g3⟩
  have s3 : Sk .u16 w3 w1.heap.size b n := s2.later g3 s2.lt
  have b3 : Below w.heap.size w w3 := b2.trans (g3.mono z2)
  have z3 := b3.size
  clear g3 b2 s2
  have s3a := s3.alloc (.cells #[.int .u16 V, .int .i64 M] 25)
  have k3a : Sk .u16 (w3.alloc (.cells #[.int .u16 V, .int .i64 M] 25)) w3.heap.size V M := Sk.fresh .u16 w3 V M 25
  have sc0 := s3a.c0
  have sc1 := s3a.c1
  go_wp2_with fail
  refine (HT2.out _).mono ?_
  rintro e w4 ⟨rfl, g4⟩
  have s4 := s3a.later g4 s3a.lt
  have k4 := k3a.later g4 k3a.lt
  have b4 : Below w.heap.size w w4 := (b3.alloc z3 _).trans (g4.mono (by simp; omega))
  have z4 := b4.size
  clear g4 b3 s3 s3a k3a sc0 sc1
  have td0 := s4.c0
  have td1 := s4.c1
  go_wp2_with fail
  refine (HOK.out _).mono ?_
  rintro e w5 ⟨rfl, g5⟩
  have s5 := s4.later g5 s4.lt
  have k5 := k4.later g5 k4.lt
  have b5 : Below w.heap.size w w5 := b4.trans (g5.mono z4)
  have z5 := b5.size
  have c5' : Code0 w5 a' len' cap' blk' off' z' := h'.later b5
  clear g5 b4 s4 k4 td0 td1 HT1 HT2 HRD HOK
  obtain ⟨sc0, sc1, _, _⟩ := s5
  obtain ⟨kc0, kc1, _, _⟩ := k5
  rcases HCASE.out with ⟨rfl, rfl, rfl⟩ | ⟨rfl, rfl, rfl⟩
  all_goals
    clear HCASE
    go_wp2_with fail
    refine (draw_read _ c5').mono ?_
    rintro e w6 ⟨⟨s, hs, rfl⟩, g6⟩
    have b6 : Below w.heap.size w w6 := b5.trans (g6.mono z5)
    have z6 := b6.size
    clear g6 b5 c5' h' sc0 sc1 kc0 kc1
    obtain ⟨V2, M2, r, HS, HI, hc2⟩ := read_both s (by omega)
    have HC2 : Hid ((r = false ∧ V2 = 0 ∧ M2 = 0) ∨ (r = true ∧ 0 ≤ V2 ∧ V2 ≤ 65535 ∧ okS 16 V2 M2 = true ∧ textV V2 M2 = s)) := hc2
    clear hc2
    go_wp2_with fail
    refine (HI.out _).mono ?_
    rintro e w7 ⟨rfl, g7⟩
    have b7 : Below w.heap.size w w7 := b6.trans (g7.mono z6)
    have z7 := b7.size
    clear g7 b6
    go_wp2_with fail
    refine (HS.out _).mono ?_
    rintro e w8 ⟨rfl, g8⟩
    have x8 : Sk .u16 w8 w7.heap.size V2 M2 := (Sk.fresh .u16 w7 V2 M2 25).later g8 (by simp)
    have b8 : Below w.heap.size w w8 := (b7.alloc z7 _).trans (g8.mono (by simp; omega))
    have z8 := b8.size
    clear g8 b7 HI HS
    have x9 := x8.alloc (.cells #[.int .u16 V2, .int .i64 M2] 25)
    have b9 : Below w.heap.size w (w8.alloc (.cells #[.int .u16 V2, .int .i64 M2] 25)) := b8.alloc z8 _
    have z9 := b9.size
    clear b8 x8
    have y0 := x9.c0
    have y1 := x9.c1
    rcases HC2.out with ⟨rfl, rfl, rfl⟩ | ⟨rfl, v0, v1, hok, ht⟩
    · clear HC2
      go_wp2
      go_ret
      exact ⟨rfl, b9⟩
    · have HB : Hid (∀ W : World, Calls Try.prog 26 #[.agg #[.int .u16 V2, .int .i64 M2]] W fun e w' => e = .returned (.bool true) ∧ Below W.heap.size W w') := by
        intro W; have h := impl_ok V2 M2 W v0 v1; rw [hok] at h; exact h
      have HX : Hid (∀ W : World, Calls Try.prog 34 #[.agg #[.int .u16 V2, .int .i64 M2]] W fun e w' => e = .returned (.string s) ∧ Below W.heap.size W w') := by
        intro W; have h := impl_text V2 M2 W v0 v1; rw [ht] at h; exact h
      clear HC2 hok ht
      go_wp2_with fail
      refine (HB.out _).mono ?_
      rintro e w10 ⟨rfl, g10⟩
      have x10 := x9.later g10 x9.lt
      have b10 : Below w.heap.size w w10 := b9.trans (g10.mono z9)
      have z10 := b10.size
      clear g10 b9 x9 y0 y1
      have u0 := x10.c0
      have u1 := x10.c1
      go_wp2_with fail
      refine (HX.out _).mono ?_
      rintro e w11 ⟨rfl, g11⟩
      have b11 : Below w.heap.size w w11 := b10.trans (g11.mono z10)
      clear g11 b10 x10 u0 u1
      go_wp2
      go_ret
      exact ⟨rfl, b11⟩

theorem IsRow.big {w : World} {a : Option Addr} {len cap : Nat} {zs : List Int} (h : IsRow .u8 w a len cap zs) : len ≤ 9223372036854775807 := by
  rcases h with ⟨_, rfl, _⟩ | ⟨_, _, h1, h2, _⟩
  · omega
  · unfold maxLen at h2; omega

set_option maxHeartbeats 400000 in
theorem walk5 (a : Option Addr) (len cap : Nat) (zs : List Int) (a' : Option Addr) (len' cap' : Nat) (zs' : List Int) (w : World) (h : IsRow .u8 w a len cap zs) (h' : IsRow .u8 w a' len' cap' zs') :
    Calls Try.prog 5 #[.slice a len cap, .slice a' len' cap'] w fun e w' => e = .returned (.bool true) ∧ Below w.heap.size w w' := by
  by_cases hl : len ≤ 1048576
  · by_cases hl' : len' ≤ 1048576
    · obtain ⟨blk, off, z, hc⟩ := h.code hl
      obtain ⟨blk', off', z', hc'⟩ := h'.code hl'
      exact law5_in w hc hc'
    · have hb := h'.big
      have i0 : ¬ (1048576 : Int) < (len : Int) := by omega
      have i1 : (1048576 : Int) < (len' : Int) := by omega
      go_enter Try.func5, Try.ntmps5
      go_wp2
      go_ret
      exact ⟨rfl, Below.refl _ _⟩
  · have hb := h.big
    have i1 : (1048576 : Int) < (len : Int) := by omega
    go_enter Try.func5, Try.ntmps5
    go_wp2
    go_ret
    exact ⟨rfl, Below.refl _ _⟩
end Go.Proofs.Ytlpeianinlnbeaa
