/- The specification's reader of codes: pick gives a number from 0 to n-1, whatever the code. -/
import Derived.Test.YtlpeianinlnbeaaI
import Derived.Test.YtlpeianinlnbeaaT
import Derived.Deep.Light
namespace Go.Proofs.Ytlpeianinlnbeaa
open Go.RowKit
set_option linter.unusedVariables false

/-- The code that a reader reads: nothing, or a row of bytes. -/
structure Src (w : World) (a : Option Addr) (len blk off : Nat) (z : Nat → Int) : Prop where
  at_ : 0 < len → a = some ⟨blk, off, none⟩
  byte : ∀ j, j < len → w.cell? ⟨blk, off + j, none⟩ = some (.int .u8 (z j))
  fits : ∀ j, 0 ≤ z j ∧ z j ≤ 255
  short : len ≤ 2000

/-- A reader at R, so many numbers read. -/
structure Rd (w : World) (R : Nat) (a : Option Addr) (len cap : Nat) (p : Nat) : Prop where
  c0 : w.cell? ⟨R, 0, none⟩ = some (.slice a len cap)
  c1 : w.cell? ⟨R, 1, none⟩ = some (.int .i64 p)
  f1 : w.frozen? ⟨R, 1, none⟩ = false

theorem Rd.set {w : World} {R : Nat} {a : Option Addr} {len cap p : Nat} (h : Rd w R a len cap p) (q : Int) (p' : Nat) (e : q = p') : Rd (w.setCell ⟨R, 1, none⟩ (.int .i64 q)) R a len cap p' := by
  subst e
  exact ⟨(World.cell?_setCell_other _ _ _ _ (by simp)).trans h.c0, World.cell?_setCell_same _ _ _ h.c1, by simpa using h.f1⟩

theorem Rd.drewN {w : World} {R : Nat} {a : Option Addr} {len cap p : Nat} (h : Rd w R a len cap p) (k : Nat) : Rd (w.drewN k) R a len cap p := ⟨h.c0, h.c1, h.f1⟩

set_option maxHeartbeats 400000 in
theorem pick_none (R : Nat) (a : Option Addr) (cap p : Nat) (n : Int) (w : World) (h : Rd w R a 0 cap p) (hn : 1 ≤ n) (hp : p < 1000000) :
    Calls Try.prog 58 #[.pointer (some ⟨R, 0, none⟩), .int .i64 n] w fun e w' => e = .returned (.int .i64 0) ∧ Rd w' R a 0 cap (p + 1) ∧ w.grownBy w' (some R) := by
  have hr := h
  obtain ⟨c0, c1, f1⟩ := h
  go_enter Try.func58, Try.ntmps58
  go_wp2
  go_ret
  exact ⟨rfl, hr.set _ _ (by omega), gb_set (gb_refl _ _) _ _⟩

set_option maxHeartbeats 1000000 in
theorem pick_in (R : Nat) (a : Option Addr) (len cap p blk off : Nat) (z : Nat → Int) (n : Int) (w : World) (h : Rd w R a len cap p) (s : Src w a len blk off z) (hne : blk ≠ R) (hn : 1 ≤ n) (hn2 : n ≤ 1000000) (hp : p < len) :
    Calls Try.prog 58 #[.pointer (some ⟨R, 0, none⟩), .int .i64 n] w fun e w' => ∃ r, 0 ≤ r ∧ r < n ∧ e = .returned (.int .i64 r) ∧ Rd w' R a len cap (p + 1) ∧ w.grownBy w' (some R) := by
  have hr := h
  obtain ⟨c0, c1, f1⟩ := h
  have hs := s.short
  have hz := s.fits p
  have hc := s.byte p hp
  have ha := s.at_ (by omega)
  subst ha
  obtain ⟨Z, HZ⟩ : ∃ Z, Hid (Z = z p) := ⟨_, rfl⟩
  rw [← HZ.out] at hz hc
  clear s
  have hne' : R ≠ blk := fun e => hne e.symm
  have hl : ((len : Int) == 0) = false := by simp; omega
  go_enter Try.func58, Try.ntmps58
  go_wp2
  go_ret
  refine ⟨_, ?_, ?_, rfl, hr.set _ _ (by omega), gb_set (gb_refl _ _) _ _⟩
  · exact Int.emod_nonneg _ (by omega)
  · exact Int.emod_lt_of_pos _ (by omega)

theorem xor_pos (a b : Nat) (ha : a < 2 ^ 62) (hb : b < 2 ^ 62) : 0 ≤ bits .xor .i64 (a : Int) (b : Int) := by
  show 0 ≤ IntKind.i64.wrap ((BitVec.ofInt 64 (a : Int) ^^^ BitVec.ofInt 64 (b : Int)).toNat : Int)
  have h62 : (2 : Nat) ^ 62 < 2 ^ 64 := by decide
  rw [BitVec.toNat_xor, BitVec.ofInt_natCast, BitVec.ofInt_natCast, BitVec.toNat_ofNat, BitVec.toNat_ofNat, Nat.mod_eq_of_lt (Nat.lt_trans ha h62), Nat.mod_eq_of_lt (Nat.lt_trans hb h62)]
  have hx : a ^^^ b < 2 ^ 62 := Nat.xor_lt_two_pow ha hb
  have e : (2 : Nat) ^ 62 = 4611686018427387904 := by decide
  rw [e] at hx
  rw [IntKind.wrap_i64]
  omega
theorem xor_half (x : Int) (h0 : 0 ≤ x) (h1 : x < 1000000000000) : 0 ≤ bits .xor .i64 x (x / 64) := by
  obtain ⟨X, rfl⟩ := Int.eq_ofNat_of_zero_le h0
  have e : (2 : Nat) ^ 62 = 4611686018427387904 := by decide
  have h := xor_pos X (X / 64) (by rw [e]; omega) (by rw [e]; omega)
  simpa using h

set_option maxHeartbeats 2000000 in
theorem pick_far (R : Nat) (a : Option Addr) (len cap p blk off : Nat) (z : Nat → Int) (n : Int) (w : World) (h : Rd w R a len cap p) (s : Src w a len blk off z) (hne : blk ≠ R) (hn : 1 ≤ n) (hn2 : n ≤ 1000000) (hp : len ≤ p) (hp2 : p < 1000000) (hl0 : 0 < len) :
    Calls Try.prog 58 #[.pointer (some ⟨R, 0, none⟩), .int .i64 n] w fun e w' => ∃ r, 0 ≤ r ∧ r < n ∧ e = .returned (.int .i64 r) ∧ Rd w' R a len cap (p + 1) ∧ w.grownBy w' (some R) := by
  have hr := h
  obtain ⟨c0, c1, f1⟩ := h
  have hs := s.short
  have ha := s.at_ (by omega)
  subst ha
  obtain ⟨K, e1, hK⟩ : ∃ K : Nat, (p : Int) % (len : Int) = (K : Int) ∧ K < len := ⟨p % len, by omega, Nat.mod_lt _ hl0⟩
  obtain ⟨J, e2, hJ⟩ : ∃ J : Nat, ((p : Int) * 7 + 3) % (len : Int) = (J : Int) ∧ J < len := ⟨(p * 7 + 3) % len, by rw [Int.natCast_emod, show ((p * 7 + 3 : Nat) : Int) = (p : Int) * 7 + 3 by omega], Nat.mod_lt _ hl0⟩
  obtain ⟨Q, e3, hQ⟩ : ∃ Q : Nat, (p : Int) / (len : Int) = (Q : Int) ∧ Q ≤ 1000000 := ⟨p / len, by omega, by have := Nat.div_le_self p len; omega⟩
  have hzK := s.fits K
  have hcK := s.byte K hK
  have hzJ := s.fits J
  have hcJ := s.byte J hJ
  obtain ⟨A, HA⟩ : ∃ Z, Hid (Z = z K) := ⟨_, rfl⟩
  obtain ⟨B, HB⟩ : ∃ Z, Hid (Z = z J) := ⟨_, rfl⟩
  rw [← HA.out] at hzK hcK
  rw [← HB.out] at hzJ hcJ
  clear s
  have hne' : R ≠ blk := fun e => hne e.symm
  have hl : ((len : Int) == 0) = false := by simp; omega
  have hl2 : ¬ (len : Int) = 0 := by omega
  have i1 : (K : Int) < (len : Int) := by omega
  have i2 : (J : Int) < (len : Int) := by omega
  have i3 : (len : Int) ≤ (p : Int) := by omega
  go_enter Try.func58, Try.ntmps58
  go_wp2
  go_quiet (fail)
  go_wp2
  go_ret
  refine ⟨_, ?_, ?_, rfl, (hr.set _ (p + 1) (by omega)).drewN nq, gb_drewN (gb_set (gb_refl _ _) _ _) _⟩
  · exact Int.tmod_nonneg _ (xor_half _ (by omega) (by omega))
  · exact Int.tmod_lt_of_pos _ (by omega)

theorem pick_any (R : Nat) (a : Option Addr) (len cap p blk off : Nat) (z : Nat → Int) (n : Int) (w : World) (h : Rd w R a len cap p) (s : Src w a len blk off z) (hne : blk ≠ R) (hn : 1 ≤ n) (hn2 : n ≤ 1000000) (hp2 : p < 1000000) :
    Calls Try.prog 58 #[.pointer (some ⟨R, 0, none⟩), .int .i64 n] w fun e w' => ∃ r, 0 ≤ r ∧ r < n ∧ e = .returned (.int .i64 r) ∧ Rd w' R a len cap (p + 1) ∧ w.grownBy w' (some R) := by
  by_cases h0 : len = 0
  · subst h0
    refine (pick_none R a cap p n w h hn hp2).mono ?_
    rintro e w' ⟨rfl, h1, h2⟩
    exact ⟨0, by omega, by omega, rfl, h1, h2⟩
  · by_cases h1 : p < len
    · exact pick_in R a len cap p blk off z n w h s hne hn hn2 h1
    · exact pick_far R a len cap p blk off z n w h s hne hn hn2 (by omega) hp2 (by omega)
end Go.Proofs.Ytlpeianinlnbeaa
