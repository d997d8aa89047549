/- Walks of the program's own packed stacks, both widths: ok, at, settle, push, pop, out, made from one template. -/
import Derived.Test.YtlpeianinlnbeaaA
import Derived.Test.YtlpeianinlnbeaaM
import Derived.WalkSpells
import Derived.BigRegion
import Derived.Laws.BitsAll
namespace Go.Proofs.Ytlpeianinlnbeaa
open Go.RowKit
set_option linter.unusedVariables false

structure Pk (k : IntKind) (w : World) (bl o : Nat) (b n m : Int) : Prop where
  c0 : w.cell? ⟨bl, o, none⟩ = some (.int k b)
  c1 : w.cell? ⟨bl, o + 1, none⟩ = some (.int .i64 n)
  c2 : w.cell? ⟨bl, o + 2, none⟩ = some (.int .i64 m)
  f0 : w.frozen? ⟨bl, o, none⟩ = false
  f1 : w.frozen? ⟨bl, o + 1, none⟩ = false

theorem Pk.set0 {k : IntKind} {w : World} {bl o : Nat} {b n m : Int} (h : Pk k w bl o b n m) (b' : Int) : Pk k (w.setCell ⟨bl, o, none⟩ (.int k b')) bl o b' n m :=
  ⟨World.cell?_setCell_same _ _ _ h.c0, (World.cell?_setCell_other _ _ _ _ (by simp)).trans h.c1, (World.cell?_setCell_other _ _ _ _ (by simp)).trans h.c2, by simpa using h.f0, by simpa using h.f1⟩
theorem Pk.set1 {k : IntKind} {w : World} {bl o : Nat} {b n m : Int} (h : Pk k w bl o b n m) (n' : Int) : Pk k (w.setCell ⟨bl, o + 1, none⟩ (.int .i64 n')) bl o b n' m :=
  ⟨(World.cell?_setCell_other _ _ _ _ (by simp)).trans h.c0, World.cell?_setCell_same _ _ _ h.c1, (World.cell?_setCell_other _ _ _ _ (by simp)).trans h.c2, by simpa using h.f0, by simpa using h.f1⟩
theorem Pk.drew {k : IntKind} {w : World} {bl o : Nat} {b n m : Int} (h : Pk k w bl o b n m) : Pk k w.drew bl o b n m := ⟨h.c0, h.c1, h.c2, h.f0, h.f1⟩
theorem Pk.eq {k : IntKind} {w : World} {bl o : Nat} {b n m b' n' : Int} (h : Pk k w bl o b n m) (hb : b = b') (hn : n = n') : Pk k w bl o b' n' m := by subst hb; subst hn; exact h
theorem gb_set {w w' : World} {b : Nat} (h : w.grownBy w' (some b)) (o : Nat) (v : Value) : w.grownBy (w'.setCell ⟨b, o, none⟩ v) (some b) :=
  ⟨h.os, h.tape, h.output, by simpa using h.size, fun k hk hne => (Below.heap_setCell w' ⟨b, o, none⟩ v k (fun e => hne (by simp [e]))).trans (h.block k hk hne)⟩
theorem gb_drew {w w' : World} {row : Option Nat} (h : w.grownBy w' row) : w.grownBy w'.drew row := ⟨h.os, h.tape, h.output, h.size, h.block⟩
theorem gb_drewN {w w' : World} {row : Option Nat} (h : w.grownBy w' row) (n : Nat) : w.grownBy (w'.drewN n) row := ⟨h.os, h.tape, h.output, h.size, h.block⟩
theorem gb_refl (w : World) (row : Option Nat) : w.grownBy w row := ⟨rfl, rfl, rfl, Nat.le_refl _, fun _ _ _ => rfl⟩

theorem nat_or1 (z : Nat) : (2 * z) ||| 1 = 2 * z + 1 := by
  have := Nat.two_pow_add_eq_or_of_lt (i := 1) (b := 1) (by decide) z
  simpa using this.symm

theorem and1_16 (a : Int) (h0 : 0 ≤ a) (h1 : a < 65536) : bits .and .u16 a 1 = a % 2 := by
  rw [u16_and a 1 h0 h1 (by decide) (by decide)]
  show (((a.toNat &&& 1 : Nat)) : Int) = _
  rw [Nat.and_one_is_mod]; omega
theorem or1_16 (a : Int) (h0 : 0 ≤ a) (h1 : a < 65536) (h2 : a % 2 = 0) : bits .or .u16 a 1 = a + 1 := by
  rw [u16_or a 1 h0 h1 (by decide) (by decide)]
  show (((a.toNat ||| 1 : Nat)) : Int) = _
  obtain ⟨z, hz⟩ : ∃ z : Nat, a.toNat = 2 * z := ⟨a.toNat / 2, by omega⟩
  rw [hz, nat_or1]; omega

set_option maxHeartbeats 400000 in
theorem at16 (bl o : Nat) (b : Int) (d : Nat) (w : World) (hb0 : 0 ≤ b) (hb1 : b < 65536) (hd : d ≤ 16) (c0 : w.cell? ⟨bl, o, none⟩ = some (.int .u16 b)) :
    Calls Try.prog 61 #[.pointer (some ⟨bl, o, none⟩), .int .i64 d] w fun e w' => e = .returned (.bool (b / 2 ^ d % 2 == 1)) ∧ w = w' := by
  have hq0 : 0 ≤ b / 2 ^ d := Int.ediv_nonneg hb0 (Int.le_of_lt (Int.pow_pos (by decide)))
  have hq1 : b / 2 ^ d < 65536 := Int.lt_of_le_of_lt (Int.ediv_le_self _ hb0) hb1
  have ha : bits .and .u16 (b / 2 ^ d) 1 = b / 2 ^ d % 2 := and1_16 _ hq0 hq1
  have HA : Hid (bits .and .u16 (b / 2 ^ d) 1 = b / 2 ^ d % 2) := ha
  clear ha
  go_enter Try.func61, Try.ntmps61
  go_wp2
  go_ret
  exact ⟨ret_bool (by rw [← HA.out]), rfl⟩

theorem at16_zero (bl o : Nat) (b : Int) (w : World) (hb0 : 0 ≤ b) (hb1 : b < 65536) (c0 : w.cell? ⟨bl, o, none⟩ = some (.int .u16 b)) :
    Calls Try.prog 61 #[.pointer (some ⟨bl, o, none⟩), .int .i64 0] w fun e w' => e = .returned (.bool (b % 2 == 1)) ∧ w = w' := by
  have h := at16 bl o b 0 w hb0 hb1 (by decide) c0
  simpa using h

set_option maxHeartbeats 1000000 in
theorem push16 (bl o : Nat) (b : Int) (N : Nat) (x : Bool) (w : World) (hb0 : 0 ≤ b) (hb1 : b < 65536) (hN : N ≤ 16) (h : Pk .u16 w bl o b N 16) :
    Calls Try.prog 63 #[.pointer (some ⟨bl, o, none⟩), .bool x] w fun e w' => e = .returned (.tuple #[]) ∧ Pk .u16 w' bl o (2 * b % 65536 + bit01 x) (min (N + 1) 16 : Nat) 16 ∧ w.grownBy w' (some bl) := by
  obtain ⟨c0, c1, c2, f0, f1⟩ := h
  have h : Pk .u16 w bl o b N 16 := ⟨c0, c1, c2, f0, f1⟩
  have HB : Hid (IntKind.u16.wrap (b * 2) = 2 * b % 65536) := by show _ = _; rw [IntKind.wrap_u16, Int.mul_comm]
  have HO : Hid (bits .or .u16 (2 * b % 65536) 1 = 2 * b % 65536 + 1) := or1_16 _ (by omega) (by omega) (by omega)
  by_cases hlt : N < 16
  · cases x
    · go_enter Try.func63, Try.ntmps63
      go_wp2
      go_region
      go_end0
      exact ⟨rfl, ((h.set0 _).set1 _).drew.eq (by first | (rw [HB.out]; simp [bit01]; done) | (simp [bit01]; omega)) (by omega), gb_drew (gb_set (gb_set (gb_refl _ _) _ _) _ _)⟩
    · go_enter Try.func63, Try.ntmps63
      go_wp2
      go_region
      go_end0
      exact ⟨rfl, (((h.set0 _).set0 _).set1 _).drew.eq (by first | (rw [HB.out, HO.out]; simp [bit01]; done) | (rw [Int.mul_comm b 2, HO.out]; simp [bit01]; done)) (by omega), gb_drew (gb_set (gb_set (gb_set (gb_refl _ _) _ _) _ _) _ _)⟩
  · obtain rfl : N = 16 := by omega
    cases x
    · go_enter Try.func63, Try.ntmps63
      go_wp2
      go_region
      go_end0
      exact ⟨rfl, ((h.set0 _).set1 _).drew.eq (by first | (rw [HB.out]; simp [bit01]; done) | (simp [bit01]; omega)) (by omega), gb_drew (gb_set (gb_set (gb_refl _ _) _ _) _ _)⟩
    · go_enter Try.func63, Try.ntmps63
      go_wp2
      go_region
      go_end0
      exact ⟨rfl, (((h.set0 _).set0 _).set1 _).drew.eq (by first | (rw [HB.out, HO.out]; simp [bit01]; done) | (rw [Int.mul_comm b 2, HO.out]; simp [bit01]; done)) (by omega), gb_drew (gb_set (gb_set (gb_set (gb_refl _ _) _ _) _ _) _ _)⟩

set_option maxHeartbeats 1000000 in
theorem pop16 (bl o : Nat) (b : Int) (N : Nat) (w : World) (hb0 : 0 ≤ b) (hb1 : b < 65536) (hN : N ≤ 16) (h : Pk .u16 w bl o b N 16) :
    Calls Try.prog 65 #[.pointer (some ⟨bl, o, none⟩)] w fun e w' => e = .returned (.bool (b % 2 == 1)) ∧ Pk .u16 w' bl o (b / 2) (N - 1 : Nat) 16 ∧ w.grownBy w' (some bl) := by
  obtain ⟨c0, c1, c2, f0, f1⟩ := h
  have h : Pk .u16 w bl o b N 16 := ⟨c0, c1, c2, f0, f1⟩
  by_cases hlt : 0 < N
  · go_enter Try.func65, Try.ntmps65
    go_wp2_with fail
    refine (at16_zero bl o b _ hb0 hb1 (by simp [c0])).mono ?_
    rintro e w' ⟨rfl, rfl⟩
    go_wp2
    go_ret
    exact ⟨rfl, ((h.set0 _).set1 _).eq rfl (by omega), (gb_set (gb_set (gb_refl _ _) _ _) _ _)⟩
  · obtain rfl : N = 0 := by omega
    go_enter Try.func65, Try.ntmps65
    go_wp2_with fail
    refine (at16_zero bl o b _ hb0 hb1 (by simp [c0])).mono ?_
    rintro e w' ⟨rfl, rfl⟩
    go_wp2
    go_ret
    exact ⟨rfl, ((h.set0 _).set1 _).eq rfl (by simp), (gb_set (gb_set (gb_refl _ _) _ _) _ _)⟩

set_option maxHeartbeats 1000000 in
theorem of16_ok (b n : Int) (w : World) (hb0 : 0 ≤ b) (hb1 : b < 65536) (hok : okS 16 b n = true) :
    Calls Try.prog 60 #[.agg #[.int .u16 b, .int .i64 n]] w fun e w' => e = .returned (.agg #[.int .u16 b, .int .i64 n, .int .i64 16]) ∧ Below w.heap.size w w' := by
  go_enter Try.func60, Try.ntmps60
  go_wp2_with (first | (go_at_call 67; go_call (ok16 _ _ b n _ hb0 (by omega) _ _ _) as e w1 ⟨rfl, k, rfl⟩) | go_in)
  go_returns
  exact ⟨rfl, by repeat' (first | (with_reducible exact Below.refl _ _) | (with_reducible refine Below.alloc ?_ ?_ _) | (with_reducible refine Below.setCell ?_ ?_ _) | (with_reducible refine below_drewN ?_ _) | (with_reducible refine Below.drew ?_) | go_size)⟩

set_option maxHeartbeats 1000000 in
theorem of16_no (b n : Int) (w : World) (hb0 : 0 ≤ b) (hb1 : b < 65536) (hok : okS 16 b n = false) :
    Calls Try.prog 60 #[.agg #[.int .u16 b, .int .i64 n]] w fun e w' => e = .returned (.agg #[.int .u16 0, .int .i64 0, .int .i64 16]) ∧ Below w.heap.size w w' := by
  go_enter Try.func60, Try.ntmps60
  go_wp2_with (first | (go_at_call 67; go_call (ok16 _ _ b n _ hb0 (by omega) _ _ _) as e w1 ⟨rfl, k, rfl⟩) | go_in)
  go_returns
  exact ⟨rfl, by repeat' (first | (with_reducible exact Below.refl _ _) | (with_reducible refine Below.alloc ?_ ?_ _) | (with_reducible refine Below.setCell ?_ ?_ _) | (with_reducible refine below_drewN ?_ _) | (with_reducible refine Below.drew ?_) | go_size)⟩

set_option maxHeartbeats 1000000 in
theorem out16 (bl o : Nat) (b n m : Int) (w : World) (h : Pk .u16 w bl o b n m) :
    Calls Try.prog 64 #[.pointer (some ⟨bl, o, none⟩)] w fun e w' => e = .returned (.agg #[.int .u16 b, .int .i64 n]) ∧ Below w.heap.size w w' := by
  obtain ⟨c0, c1, c2, f0, f1⟩ := h
  have hlt := World.block_lt_of_cell? _ _ c0
  have hne : bl ≠ w.heap.size := by simp at hlt; omega
  go_enter Try.func64, Try.ntmps64
  go_wp2
  go_region
  go_wp2
  go_returns
  exact ⟨rfl, by repeat' (first | (with_reducible exact Below.refl _ _) | (with_reducible refine Below.alloc ?_ ?_ _) | (with_reducible refine Below.setCell ?_ ?_ _) | (with_reducible refine below_drewN ?_ _) | (with_reducible refine Below.drew ?_) | go_size)⟩

set_option maxHeartbeats 400000 in
theorem ok8 (bl o : Nat) (b n : Int) (w : World) (hb0 : 0 ≤ b) (hb1 : b ≤ 255) (c0 : w.cell? ⟨bl, o, none⟩ = some (.int .u8 b)) (c1 : w.cell? ⟨bl, o + 1, none⟩ = some (.int .i64 n)) (c2 : w.cell? ⟨bl, o + 2, none⟩ = some (.int .i64 8)) :
    Calls Try.prog 74 #[.pointer (some ⟨bl, o, none⟩)] w fun e w' => e = .returned (.bool (okS 8 b n)) ∧ ∃ k, w' = w.drewN k := by
  by_cases h0 : n < 0
  · have d0 : decide (0 ≤ n) = false := by simp; omega
    go_enter Try.func74, Try.ntmps74
    go_wp2
    go_quiet (fail)
    go_wp2
    go_ret
    exact ⟨ret_bool (okS_neg _ _ _ h0).symm, _, rfl⟩
  · by_cases h1 : 8 < n
    · have d0 : 0 ≤ n := by omega
      have d1 : decide (n ≤ 8) = false := by simp; omega
      go_enter Try.func74, Try.ntmps74
      go_wp2
      go_quiet (fail)
      go_wp2
      go_ret
      exact ⟨ret_bool (okS_over _ _ _ h1).symm, _, rfl⟩
    · obtain ⟨N, rfl⟩ := Int.eq_ofNat_of_zero_le (by omega : 0 ≤ n)
      have d1 : (N : Int) ≤ 8 := by omega
      go_enter Try.func74, Try.ntmps74
      go_wp2
      go_quiet (fail)
      go_wp2
      go_ret
      exact ⟨ret_bool (okS_div _ _ _ hb0 d1), _, rfl⟩

set_option maxHeartbeats 400000 in
theorem impl_fork_ok (b n : Int) (w : World) (hb0 : 0 ≤ b) (hb1 : b ≤ 255) :
    Calls Try.prog 32 #[.agg #[.int .u8 b, .int .i64 n]] w fun e w' => e = .returned (.bool (okS 8 b n)) ∧ Below w.heap.size w w' := by
  go_enter Try.func32, Try.ntmps32
  go_wp2_with (first | (go_at_call 74; go_call (ok8 _ _ b n _ hb0 hb1 _ _ _) as e w1 ⟨rfl, k, rfl⟩) | go_in)
  go_ret
  exact ⟨rfl, below_drewN (by go_grown) _⟩

set_option maxHeartbeats 400000 in
theorem to_fork (b n : Int) (w : World) :
    Calls Try.prog 53 #[.agg #[.int .u8 b, .int .i64 n]] w fun e w' => e = .returned (.agg #[.int .u8 b, .int .i64 n]) ∧ Below w.heap.size w w' := by
  go_enter Try.func53, Try.ntmps53
  go_wp2
  go_returns
  refine ⟨?_, ?_⟩
  · rfl
  · go_grown

theorem and1_8 (a : Int) (h0 : 0 ≤ a) (h1 : a < 256) : bits .and .u8 a 1 = a % 2 := by
  rw [u8_and a 1 h0 h1 (by decide) (by decide)]
  show (((a.toNat &&& 1 : Nat)) : Int) = _
  rw [Nat.and_one_is_mod]; omega
theorem or1_8 (a : Int) (h0 : 0 ≤ a) (h1 : a < 256) (h2 : a % 2 = 0) : bits .or .u8 a 1 = a + 1 := by
  rw [u8_or a 1 h0 h1 (by decide) (by decide)]
  show (((a.toNat ||| 1 : Nat)) : Int) = _
  obtain ⟨z, hz⟩ : ∃ z : Nat, a.toNat = 2 * z := ⟨a.toNat / 2, by omega⟩
  rw [hz, nat_or1]; omega

set_option maxHeartbeats 400000 in
theorem at8 (bl o : Nat) (b : Int) (d : Nat) (w : World) (hb0 : 0 ≤ b) (hb1 : b < 256) (hd : d ≤ 8) (c0 : w.cell? ⟨bl, o, none⟩ = some (.int .u8 b)) :
    Calls Try.prog 71 #[.pointer (some ⟨bl, o, none⟩), .int .i64 d] w fun e w' => e = .returned (.bool (b / 2 ^ d % 2 == 1)) ∧ w = w' := by
  have hq0 : 0 ≤ b / 2 ^ d := Int.ediv_nonneg hb0 (Int.le_of_lt (Int.pow_pos (by decide)))
  have hq1 : b / 2 ^ d < 256 := Int.lt_of_le_of_lt (Int.ediv_le_self _ hb0) hb1
  have ha : bits .and .u8 (b / 2 ^ d) 1 = b / 2 ^ d % 2 := and1_8 _ hq0 hq1
  have HA : Hid (bits .and .u8 (b / 2 ^ d) 1 = b / 2 ^ d % 2) := ha
  clear ha
  go_enter Try.func71, Try.ntmps71
  go_wp2
  go_ret
  exact ⟨ret_bool (by rw [← HA.out]), rfl⟩

theorem at8_zero (bl o : Nat) (b : Int) (w : World) (hb0 : 0 ≤ b) (hb1 : b < 256) (c0 : w.cell? ⟨bl, o, none⟩ = some (.int .u8 b)) :
    Calls Try.prog 71 #[.pointer (some ⟨bl, o, none⟩), .int .i64 0] w fun e w' => e = .returned (.bool (b % 2 == 1)) ∧ w = w' := by
  have h := at8 bl o b 0 w hb0 hb1 (by decide) c0
  simpa using h

set_option maxHeartbeats 1000000 in
theorem push8 (bl o : Nat) (b : Int) (N : Nat) (x : Bool) (w : World) (hb0 : 0 ≤ b) (hb1 : b < 256) (hN : N ≤ 8) (h : Pk .u8 w bl o b N 8) :
    Calls Try.prog 69 #[.pointer (some ⟨bl, o, none⟩), .bool x] w fun e w' => e = .returned (.tuple #[]) ∧ Pk .u8 w' bl o (2 * b % 256 + bit01 x) (min (N + 1) 8 : Nat) 8 ∧ w.grownBy w' (some bl) := by
  obtain ⟨c0, c1, c2, f0, f1⟩ := h
  have h : Pk .u8 w bl o b N 8 := ⟨c0, c1, c2, f0, f1⟩
  have HB : Hid (IntKind.u8.wrap (b * 2) = 2 * b % 256) := by show _ = _; rw [IntKind.wrap_u8, Int.mul_comm]
  have HO : Hid (bits .or .u8 (2 * b % 256) 1 = 2 * b % 256 + 1) := or1_8 _ (by omega) (by omega) (by omega)
  by_cases hlt : N < 8
  · cases x
    · go_enter Try.func69, Try.ntmps69
      go_wp2
      go_region
      go_end0
      exact ⟨rfl, ((h.set0 _).set1 _).drew.eq (by first | (rw [HB.out]; simp [bit01]; done) | (simp [bit01]; omega)) (by omega), gb_drew (gb_set (gb_set (gb_refl _ _) _ _) _ _)⟩
    · go_enter Try.func69, Try.ntmps69
      go_wp2
      go_region
      go_end0
      exact ⟨rfl, (((h.set0 _).set0 _).set1 _).drew.eq (by first | (rw [HB.out, HO.out]; simp [bit01]; done) | (rw [Int.mul_comm b 2, HO.out]; simp [bit01]; done)) (by omega), gb_drew (gb_set (gb_set (gb_set (gb_refl _ _) _ _) _ _) _ _)⟩
  · obtain rfl : N = 8 := by omega
    cases x
    · go_enter Try.func69, Try.ntmps69
      go_wp2
      go_region
      go_end0
      exact ⟨rfl, ((h.set0 _).set1 _).drew.eq (by first | (rw [HB.out]; simp [bit01]; done) | (simp [bit01]; omega)) (by omega), gb_drew (gb_set (gb_set (gb_refl _ _) _ _) _ _)⟩
    · go_enter Try.func69, Try.ntmps69
      go_wp2
      go_region
      go_end0
      exact ⟨rfl, (((h.set0 _).set0 _).set1 _).drew.eq (by first | (rw [HB.out, HO.out]; simp [bit01]; done) | (rw [Int.mul_comm b 2, HO.out]; simp [bit01]; done)) (by omega), gb_drew (gb_set (gb_set (gb_set (gb_refl _ _) _ _) _ _) _ _)⟩

set_option maxHeartbeats 1000000 in
theorem pop8 (bl o : Nat) (b : Int) (N : Nat) (w : World) (hb0 : 0 ≤ b) (hb1 : b < 256) (hN : N ≤ 8) (h : Pk .u8 w bl o b N 8) :
    Calls Try.prog 72 #[.pointer (some ⟨bl, o, none⟩)] w fun e w' => e = .returned (.bool (b % 2 == 1)) ∧ Pk .u8 w' bl o (b / 2) (N - 1 : Nat) 8 ∧ w.grownBy w' (some bl) := by
  obtain ⟨c0, c1, c2, f0, f1⟩ := h
  have h : Pk .u8 w bl o b N 8 := ⟨c0, c1, c2, f0, f1⟩
  by_cases hlt : 0 < N
  · go_enter Try.func72, Try.ntmps72
    go_wp2_with fail
    refine (at8_zero bl o b _ hb0 hb1 (by simp [c0])).mono ?_
    rintro e w' ⟨rfl, rfl⟩
    go_wp2
    go_ret
    exact ⟨rfl, ((h.set0 _).set1 _).eq rfl (by omega), (gb_set (gb_set (gb_refl _ _) _ _) _ _)⟩
  · obtain rfl : N = 0 := by omega
    go_enter Try.func72, Try.ntmps72
    go_wp2_with fail
    refine (at8_zero bl o b _ hb0 hb1 (by simp [c0])).mono ?_
    rintro e w' ⟨rfl, rfl⟩
    go_wp2
    go_ret
    exact ⟨rfl, ((h.set0 _).set1 _).eq rfl (by simp), (gb_set (gb_set (gb_refl _ _) _ _) _ _)⟩

set_option maxHeartbeats 1000000 in
theorem of8_ok (b n : Int) (w : World) (hb0 : 0 ≤ b) (hb1 : b < 256) (hok : okS 8 b n = true) :
    Calls Try.prog 68 #[.agg #[.int .u8 b, .int .i64 n]] w fun e w' => e = .returned (.agg #[.int .u8 b, .int .i64 n, .int .i64 8]) ∧ Below w.heap.size w w' := by
  go_enter Try.func68, Try.ntmps68
  go_wp2_with (first | (go_at_call 74; go_call (ok8 _ _ b n _ hb0 (by omega) _ _ _) as e w1 ⟨rfl, k, rfl⟩) | go_in)
  go_returns
  exact ⟨rfl, by repeat' (first | (with_reducible exact Below.refl _ _) | (with_reducible refine Below.alloc ?_ ?_ _) | (with_reducible refine Below.setCell ?_ ?_ _) | (with_reducible refine below_drewN ?_ _) | (with_reducible refine Below.drew ?_) | go_size)⟩

set_option maxHeartbeats 1000000 in
theorem of8_no (b n : Int) (w : World) (hb0 : 0 ≤ b) (hb1 : b < 256) (hok : okS 8 b n = false) :
    Calls Try.prog 68 #[.agg #[.int .u8 b, .int .i64 n]] w fun e w' => e = .returned (.agg #[.int .u8 0, .int .i64 0, .int .i64 8]) ∧ Below w.heap.size w w' := by
  go_enter Try.func68, Try.ntmps68
  go_wp2_with (first | (go_at_call 74; go_call (ok8 _ _ b n _ hb0 (by omega) _ _ _) as e w1 ⟨rfl, k, rfl⟩) | go_in)
  go_returns
  exact ⟨rfl, by repeat' (first | (with_reducible exact Below.refl _ _) | (with_reducible refine Below.alloc ?_ ?_ _) | (with_reducible refine Below.setCell ?_ ?_ _) | (with_reducible refine below_drewN ?_ _) | (with_reducible refine Below.drew ?_) | go_size)⟩

set_option maxHeartbeats 1000000 in
theorem out8 (bl o : Nat) (b n m : Int) (w : World) (h : Pk .u8 w bl o b n m) :
    Calls Try.prog 70 #[.pointer (some ⟨bl, o, none⟩)] w fun e w' => e = .returned (.agg #[.int .u8 b, .int .i64 n]) ∧ Below w.heap.size w w' := by
  obtain ⟨c0, c1, c2, f0, f1⟩ := h
  have hlt := World.block_lt_of_cell? _ _ c0
  have hne : bl ≠ w.heap.size := by simp at hlt; omega
  go_enter Try.func70, Try.ntmps70
  go_wp2
  go_region
  go_wp2
  go_returns
  exact ⟨rfl, by repeat' (first | (with_reducible exact Below.refl _ _) | (with_reducible refine Below.alloc ?_ ?_ _) | (with_reducible refine Below.setCell ?_ ?_ _) | (with_reducible refine below_drewN ?_ _) | (with_reducible refine Below.drew ?_) | go_size)⟩
end Go.Proofs.Ytlpeianinlnbeaa
