/- The program's BitPush, BitPop, BitTop, BitTurn, ForkPush, ForkPop, ForkTop by their contracts. -/
import Derived.Test.YtlpeianinlnbeaaI
import Derived.Test.YtlpeianinlnbeaaT
namespace Go.Proofs.Ytlpeianinlnbeaa
open Go.RowKit
set_option linter.unusedVariables false

def nb (m b n : Int) : Int := if okS m b n then b else 0
def nn (m b n : Int) : Nat := if okS m b n then n.toNat else 0
theorem nn_le (m : Nat) (b n : Int) : nn m b n ≤ m := by
  unfold nn
  split
  · rename_i h
    obtain ⟨K, rfl, h1, h2⟩ := okS_nat h
    simp; omega
  · omega
theorem nb_bd (m b n : Int) (h0 : 0 ≤ b) : 0 ≤ nb m b n ∧ nb m b n < 2 ^ nn m b n := by
  unfold nb nn
  split
  · rename_i h
    obtain ⟨K, rfl, h1, h2⟩ := okS_nat h
    exact ⟨h0, by simpa using h2⟩
  · simp
theorem nb_le (m b n : Int) (h0 : 0 ≤ b) : nb m b n ≤ b := by
  unfold nb
  split <;> omega

theorem Pk.fresh (k : IntKind) (w : World) (b n m : Int) (t : TypeId) : Pk k (w.alloc (.cells #[.int k b, .int .i64 n, .int .i64 m] t)) w.heap.size 0 b n m := by
  refine ⟨?_, ?_, ?_, ?_, ?_⟩ <;> simp
theorem Pk.lt {k : IntKind} {w : World} {bl o : Nat} {b n m : Int} (h : Pk k w bl o b n m) : bl < w.heap.size := World.block_lt_of_cell? _ _ h.c0
theorem Pk.later {k : IntKind} {w w' : World} {bl o : Nat} {b n m : Int} (h : Pk k w bl o b n m) {B : Nat} (g : Below B w w') (hb : bl < B) : Pk k w' bl o b n m :=
  ⟨(g.cell hb).trans h.c0, (g.cell hb).trans h.c1, (g.cell hb).trans h.c2, (g.frozen hb).trans h.f0, (g.frozen hb).trans h.f1⟩

theorem of16_any (b n : Int) (w : World) (hb0 : 0 ≤ b) (hb1 : b < 65536) :
    Calls Try.prog 60 #[.agg #[.int .u16 b, .int .i64 n]] w fun e w' => e = .returned (.agg #[.int .u16 (nb 16 b n), .int .i64 (nn 16 b n), .int .i64 16]) ∧ Below w.heap.size w w' := by
  cases hok : okS 16 b n with
  | true =>
    obtain ⟨K, rfl, h1, h2⟩ := okS_nat hok
    have e0 : nb 16 b K = b := by simp [nb, hok]
    have e1 : nn 16 b K = K := by simp [nn, hok]
    rw [e0, e1]
    exact of16_ok b K w hb0 hb1 hok
  | false =>
    have e0 : nb 16 b n = 0 := by simp [nb, hok]
    have e1 : nn 16 b n = 0 := by simp [nn, hok]
    rw [e0, e1]
    exact of16_no b n w hb0 hb1 hok

set_option maxHeartbeats 1000000 in
theorem impl_push16 (b n : Int) (x : Bool) (w : World) (hb0 : 0 ≤ b) (hb1 : b < 65536) :
    Calls Try.prog 24 #[.agg #[.int .u16 b, .int .i64 n], .bool x] w fun e w' => e = .returned (.agg #[.int .u16 (2 * nb 16 b n % 65536 + bit01 x), .int .i64 (min (nn 16 b n + 1) 16 : Nat)]) ∧ Below w.heap.size w w' := by
  have hB := (nb_bd 16 b n hb0).1
  have hB1 := nb_le 16 b n hb0
  have hN : nn 16 b n ≤ 16 := nn_le 16 b n
  go_enter Try.func24, Try.ntmps24
  go_wp2_with fail
  refine (of16_any b n _ hb0 hb1).mono ?_
  rintro e w1 ⟨rfl, g1⟩
  have b1 : Below w.heap.size w w1 := (((Below.refl _ _).alloc (Nat.le_refl _) _).alloc (by simp) _).trans (g1.mono (by simp; omega))
  have s1 : Sk .u16 w1 (w.heap.size + 1) 0 0 := by
    have h := (Sk.fresh .u16 (w.alloc (.cells #[.int .u16 b, .int .i64 n] 25)) 0 0 25).later g1 (by simp)
    simpa using h
  have z1 : w.heap.size + 2 ≤ w1.heap.size := by have := g1.size; simp at this; omega
  clear g1
  obtain ⟨B, HB⟩ : ∃ B, Hid (B = nb 16 b n) := ⟨_, rfl⟩
  obtain ⟨M, HM⟩ : ∃ M, Hid (M = nn 16 b n) := ⟨_, rfl⟩
  rw [← HB.out, ← HM.out]
  rw [← HB.out] at hB hB1
  rw [← HM.out] at hN
  go_wp2_with fail
  refine (push16 w1.heap.size 0 B M x _ hB (by omega) hN (Pk.fresh _ _ _ _ _ _)).mono ?_
  rintro e w2 ⟨rfl, hp, hg⟩
  have s2 : Sk .u16 w2 (w.heap.size + 1) 0 0 := (s1.alloc _).grown hg (by simp; omega) (fun e => by simp at e; omega)
  have b2 : Below w.heap.size w w2 := (b1.alloc (by omega) _).grown hg (by simp; omega) (fun j hj => by simp at hj; omega)
  clear hg s1 b1
  go_wp2_with fail
  refine (out16 w1.heap.size 0 _ _ _ _ hp).mono ?_
  rintro e w3 ⟨rfl, g3⟩
  have s3 : Sk .u16 w3 (w.heap.size + 1) 0 0 := s2.later g3 s2.lt
  have b3 : Below w.heap.size w w3 := b2.trans (g3.mono b2.size)
  clear g3 b2 s2 hp
  obtain ⟨q0, q1, _, _⟩ := s3.set (2 * B % 65536 + bit01 x) (min (M + 1) 16 : Nat)
  obtain ⟨c0, c1, f0, f1⟩ := s3
  go_wp2
  exact bodyPost_ret (v := .agg #[.int .u16 (2 * B % 65536 + bit01 x), .int .i64 (min (M + 1) 16 : Nat)]) (by simp [results, Try.results24, go_sem, q0, q1]) rfl ⟨by rw [HB.out, HM.out], by go_grown⟩

set_option maxHeartbeats 1000000 in
theorem impl_pop16 (b n : Int) (w : World) (hb0 : 0 ≤ b) (hb1 : b < 65536) :
    Calls Try.prog 25 #[.agg #[.int .u16 b, .int .i64 n]] w fun e w' => e = .returned (.tuple #[.agg #[.int .u16 (nb 16 b n / 2), .int .i64 (nn 16 b n - 1 : Nat)], .bool (nb 16 b n % 2 == 1)]) ∧ Below w.heap.size w w' := by
  have hB := (nb_bd 16 b n hb0).1
  have hB1 := nb_le 16 b n hb0
  have hN : nn 16 b n ≤ 16 := nn_le 16 b n
  go_enter Try.func25, Try.ntmps25
  go_wp2_with fail
  refine (of16_any b n _ hb0 hb1).mono ?_
  rintro e w1 ⟨rfl, g1⟩
  have b1 : Below w.heap.size w w1 := (((Below.refl _ _).alloc (Nat.le_refl _) _).alloc (by simp) _).trans (g1.mono (by simp; omega))
  have s1 : Sk .u16 w1 (w.heap.size + 1) 0 0 := by
    have h := (Sk.fresh .u16 (w.alloc (.cells #[.int .u16 b, .int .i64 n] 25)) 0 0 25).later g1 (by simp)
    simpa using h
  have z1 : w.heap.size + 2 ≤ w1.heap.size := by have := g1.size; simp at this; omega
  clear g1
  obtain ⟨B, HB⟩ : ∃ B, Hid (B = nb 16 b n) := ⟨_, rfl⟩
  obtain ⟨M, HM⟩ : ∃ M, Hid (M = nn 16 b n) := ⟨_, rfl⟩
  rw [← HB.out, ← HM.out]
  rw [← HB.out] at hB hB1
  rw [← HM.out] at hN
  go_wp2_with fail
  refine (pop16 w1.heap.size 0 B M _ hB (by omega) hN (Pk.fresh _ _ _ _ _ _)).mono ?_
  rintro e w2 ⟨rfl, hp, hg⟩
  have s2 : Sk .u16 w2 (w.heap.size + 1) 0 0 := (s1.alloc _).grown hg (by simp; omega) (fun e => by simp at e; omega)
  have b2 : Below w.heap.size w w2 := (b1.alloc (by omega) _).grown hg (by simp; omega) (fun j hj => by simp at hj; omega)
  clear hg s1 b1
  go_wp2_with fail
  refine (out16 w1.heap.size 0 _ _ _ _ hp).mono ?_
  rintro e w3 ⟨rfl, g3⟩
  have s3 : Sk .u16 w3 (w.heap.size + 1) 0 0 := s2.later g3 s2.lt
  have b3 : Below w.heap.size w w3 := b2.trans (g3.mono b2.size)
  clear g3 b2 s2 hp
  obtain ⟨q0, q1, _, _⟩ := s3.set (B / 2) (M - 1 : Nat)
  obtain ⟨c0, c1, f0, f1⟩ := s3
  go_wp2
  exact bodyPost_ret (v := .tuple #[.agg #[.int .u16 (B / 2), .int .i64 (M - 1 : Nat)], .bool (B % 2 == 1)]) (by simp [results, Try.results25, go_sem, q0, q1]) rfl ⟨by rw [HB.out, HM.out], by go_grown⟩

set_option maxHeartbeats 1000000 in
theorem impl_top16 (b n : Int) (w : World) (hb0 : 0 ≤ b) (hb1 : b < 65536) :
    Calls Try.prog 29 #[.agg #[.int .u16 b, .int .i64 n]] w fun e w' => e = .returned (.bool (nb 16 b n % 2 == 1)) ∧ Below w.heap.size w w' := by
  have hB := (nb_bd 16 b n hb0).1
  have hB1 := nb_le 16 b n hb0
  go_enter Try.func29, Try.ntmps29
  go_wp2_with fail
  refine (of16_any b n _ hb0 hb1).mono ?_
  rintro e w1 ⟨rfl, g1⟩
  have b1 : Below w.heap.size w w1 := ((Below.refl _ _).alloc (Nat.le_refl _) _).trans (g1.mono (by simp))
  clear g1
  obtain ⟨B, HB⟩ : ∃ B, Hid (B = nb 16 b n) := ⟨_, rfl⟩
  rw [← HB.out]
  rw [← HB.out] at hB hB1
  go_wp2_with fail
  refine (at16_zero w1.heap.size 0 B _ hB (by omega) (by simp)).mono ?_
  rintro e w2 ⟨rfl, rfl⟩
  go_wp2
  go_ret
  have hz := b1.size
  exact ⟨ret_bool (by rw [HB.out]), b1.alloc hz _⟩

theorem of8_any (b n : Int) (w : World) (hb0 : 0 ≤ b) (hb1 : b < 256) :
    Calls Try.prog 68 #[.agg #[.int .u8 b, .int .i64 n]] w fun e w' => e = .returned (.agg #[.int .u8 (nb 8 b n), .int .i64 (nn 8 b n), .int .i64 8]) ∧ Below w.heap.size w w' := by
  cases hok : okS 8 b n with
  | true =>
    obtain ⟨K, rfl, h1, h2⟩ := okS_nat hok
    have e0 : nb 8 b K = b := by simp [nb, hok]
    have e1 : nn 8 b K = K := by simp [nn, hok]
    rw [e0, e1]
    exact of8_ok b K w hb0 hb1 hok
  | false =>
    have e0 : nb 8 b n = 0 := by simp [nb, hok]
    have e1 : nn 8 b n = 0 := by simp [nn, hok]
    rw [e0, e1]
    exact of8_no b n w hb0 hb1 hok

set_option maxHeartbeats 1000000 in
theorem impl_push8 (b n : Int) (x : Bool) (w : World) (hb0 : 0 ≤ b) (hb1 : b < 256) :
    Calls Try.prog 28 #[.agg #[.int .u8 b, .int .i64 n], .bool x] w fun e w' => e = .returned (.agg #[.int .u8 (2 * nb 8 b n % 256 + bit01 x), .int .i64 (min (nn 8 b n + 1) 8 : Nat)]) ∧ Below w.heap.size w w' := by
  have hB := (nb_bd 8 b n hb0).1
  have hB1 := nb_le 8 b n hb0
  have hN : nn 8 b n ≤ 8 := nn_le 8 b n
  go_enter Try.func28, Try.ntmps28
  go_wp2_with fail
  refine (of8_any b n _ hb0 hb1).mono ?_
  rintro e w1 ⟨rfl, g1⟩
  have b1 : Below w.heap.size w w1 := (((Below.refl _ _).alloc (Nat.le_refl _) _).alloc (by simp) _).trans (g1.mono (by simp; omega))
  have s1 : Sk .u8 w1 (w.heap.size + 1) 0 0 := by
    have h := (Sk.fresh .u8 (w.alloc (.cells #[.int .u8 b, .int .i64 n] 36)) 0 0 36).later g1 (by simp)
    simpa using h
  have z1 : w.heap.size + 2 ≤ w1.heap.size := by have := g1.size; simp at this; omega
  clear g1
  obtain ⟨B, HB⟩ : ∃ B, Hid (B = nb 8 b n) := ⟨_, rfl⟩
  obtain ⟨M, HM⟩ : ∃ M, Hid (M = nn 8 b n) := ⟨_, rfl⟩
  rw [← HB.out, ← HM.out]
  rw [← HB.out] at hB hB1
  rw [← HM.out] at hN
  go_wp2_with fail
  refine (push8 w1.heap.size 0 B M x _ hB (by omega) hN (Pk.fresh _ _ _ _ _ _)).mono ?_
  rintro e w2 ⟨rfl, hp, hg⟩
  have s2 : Sk .u8 w2 (w.heap.size + 1) 0 0 := (s1.alloc _).grown hg (by simp; omega) (fun e => by simp at e; omega)
  have b2 : Below w.heap.size w w2 := (b1.alloc (by omega) _).grown hg (by simp; omega) (fun j hj => by simp at hj; omega)
  clear hg s1 b1
  go_wp2_with fail
  refine (out8 w1.heap.size 0 _ _ _ _ hp).mono ?_
  rintro e w3 ⟨rfl, g3⟩
  have s3 : Sk .u8 w3 (w.heap.size + 1) 0 0 := s2.later g3 s2.lt
  have b3 : Below w.heap.size w w3 := b2.trans (g3.mono b2.size)
  clear g3 b2 s2 hp
  obtain ⟨q0, q1, _, _⟩ := s3.set (2 * B % 256 + bit01 x) (min (M + 1) 8 : Nat)
  obtain ⟨c0, c1, f0, f1⟩ := s3
  go_wp2
  exact bodyPost_ret (v := .agg #[.int .u8 (2 * B % 256 + bit01 x), .int .i64 (min (M + 1) 8 : Nat)]) (by simp [results, Try.results28, go_sem, q0, q1]) rfl ⟨by rw [HB.out, HM.out], by go_grown⟩

set_option maxHeartbeats 1000000 in
theorem impl_pop8 (b n : Int) (w : World) (hb0 : 0 ≤ b) (hb1 : b < 256) :
    Calls Try.prog 31 #[.agg #[.int .u8 b, .int .i64 n]] w fun e w' => e = .returned (.tuple #[.agg #[.int .u8 (nb 8 b n / 2), .int .i64 (nn 8 b n - 1 : Nat)], .bool (nb 8 b n % 2 == 1)]) ∧ Below w.heap.size w w' := by
  have hB := (nb_bd 8 b n hb0).1
  have hB1 := nb_le 8 b n hb0
  have hN : nn 8 b n ≤ 8 := nn_le 8 b n
  go_enter Try.func31, Try.ntmps31
  go_wp2_with fail
  refine (of8_any b n _ hb0 hb1).mono ?_
  rintro e w1 ⟨rfl, g1⟩
  have b1 : Below w.heap.size w w1 := (((Below.refl _ _).alloc (Nat.le_refl _) _).alloc (by simp) _).trans (g1.mono (by simp; omega))
  have s1 : Sk .u8 w1 (w.heap.size + 1) 0 0 := by
    have h := (Sk.fresh .u8 (w.alloc (.cells #[.int .u8 b, .int .i64 n] 36)) 0 0 36).later g1 (by simp)
    simpa using h
  have z1 : w.heap.size + 2 ≤ w1.heap.size := by have := g1.size; simp at this; omega
  clear g1
  obtain ⟨B, HB⟩ : ∃ B, Hid (B = nb 8 b n) := ⟨_, rfl⟩
  obtain ⟨M, HM⟩ : ∃ M, Hid (M = nn 8 b n) := ⟨_, rfl⟩
  rw [← HB.out, ← HM.out]
  rw [← HB.out] at hB hB1
  rw [← HM.out] at hN
  go_wp2_with fail
  refine (pop8 w1.heap.size 0 B M _ hB (by omega) hN (Pk.fresh _ _ _ _ _ _)).mono ?_
  rintro e w2 ⟨rfl, hp, hg⟩
  have s2 : Sk .u8 w2 (w.heap.size + 1) 0 0 := (s1.alloc _).grown hg (by simp; omega) (fun e => by simp at e; omega)
  have b2 : Below w.heap.size w w2 := (b1.alloc (by omega) _).grown hg (by simp; omega) (fun j hj => by simp at hj; omega)
  clear hg s1 b1
  go_wp2_with fail
  refine (out8 w1.heap.size 0 _ _ _ _ hp).mono ?_
  rintro e w3 ⟨rfl, g3⟩
  have s3 : Sk .u8 w3 (w.heap.size + 1) 0 0 := s2.later g3 s2.lt
  have b3 : Below w.heap.size w w3 := b2.trans (g3.mono b2.size)
  clear g3 b2 s2 hp
  obtain ⟨q0, q1, _, _⟩ := s3.set (B / 2) (M - 1 : Nat)
  obtain ⟨c0, c1, f0, f1⟩ := s3
  go_wp2
  exact bodyPost_ret (v := .tuple #[.agg #[.int .u8 (B / 2), .int .i64 (M - 1 : Nat)], .bool (B % 2 == 1)]) (by simp [results, Try.results31, go_sem, q0, q1]) rfl ⟨by rw [HB.out, HM.out], by go_grown⟩

set_option maxHeartbeats 1000000 in
theorem impl_top8 (b n : Int) (w : World) (hb0 : 0 ≤ b) (hb1 : b < 256) :
    Calls Try.prog 30 #[.agg #[.int .u8 b, .int .i64 n]] w fun e w' => e = .returned (.bool (nb 8 b n % 2 == 1)) ∧ Below w.heap.size w w' := by
  have hB := (nb_bd 8 b n hb0).1
  have hB1 := nb_le 8 b n hb0
  go_enter Try.func30, Try.ntmps30
  go_wp2_with fail
  refine (of8_any b n _ hb0 hb1).mono ?_
  rintro e w1 ⟨rfl, g1⟩
  have b1 : Below w.heap.size w w1 := ((Below.refl _ _).alloc (Nat.le_refl _) _).trans (g1.mono (by simp))
  clear g1
  obtain ⟨B, HB⟩ : ∃ B, Hid (B = nb 8 b n) := ⟨_, rfl⟩
  rw [← HB.out]
  rw [← HB.out] at hB hB1
  go_wp2_with fail
  refine (at8_zero w1.heap.size 0 B _ hB (by omega) (by simp)).mono ?_
  rintro e w2 ⟨rfl, rfl⟩
  go_wp2
  go_ret
  have hz := b1.size
  exact ⟨ret_bool (by rw [HB.out]), b1.alloc hz _⟩

set_option maxHeartbeats 1000000 in
theorem impl_turn_empty (b n : Int) (x : Bool) (w : World) (hb0 : 0 ≤ b) (hb1 : b < 65536) (h0 : nn 16 b n = 0) :
    Calls Try.prog 40 #[.agg #[.int .u16 b, .int .i64 n], .bool x] w fun e w' => e = .returned (.agg #[.int .u16 0, .int .i64 0]) ∧ Below w.heap.size w w' := by
  go_enter Try.func40, Try.ntmps40
  go_wp2_with fail
  refine (of16_any b n _ hb0 hb1).mono ?_
  rintro e w1 ⟨rfl, g1⟩
  have b1 : Below w.heap.size w w1 := (((Below.refl _ _).alloc (Nat.le_refl _) _).alloc (by simp) _).trans (g1.mono (by simp; omega))
  have s1 : Sk .u16 w1 (w.heap.size + 1) 0 0 := by
    have h := (Sk.fresh .u16 (w.alloc (.cells #[.int .u16 b, .int .i64 n] 25)) 0 0 25).later g1 (by simp)
    simpa using h
  have z1 : w.heap.size + 2 ≤ w1.heap.size := by have := g1.size; simp at this; omega
  clear g1
  obtain ⟨B, HB⟩ : ∃ B, Hid (B = nb 16 b n) := ⟨_, rfl⟩
  rw [← HB.out, h0]
  clear h0
  have sa := s1.alloc (.cells #[.int .u16 B, .int .i64 0, .int .i64 16] 66)
  obtain ⟨q0, q1, _, _⟩ := sa.set 0 0
  obtain ⟨c0, c1, f0, f1⟩ := sa
  go_wp2
  exact bodyPost_ret (v := .agg #[.int .u16 0, .int .i64 0]) (by simp [results, Try.results40, go_sem, q0, q1]) rfl ⟨rfl, by go_grown⟩

set_option maxHeartbeats 1000000 in
theorem impl_turn_some (b n : Int) (x : Bool) (w : World) (hb0 : 0 ≤ b) (hb1 : b < 65536) (h0 : 0 < nn 16 b n) :
    Calls Try.prog 40 #[.agg #[.int .u16 b, .int .i64 n], .bool x] w fun e w' => e = .returned (.agg #[.int .u16 (2 * (nb 16 b n / 2) % 65536 + bit01 x), .int .i64 (nn 16 b n)]) ∧ Below w.heap.size w w' := by
  have hB := (nb_bd 16 b n hb0).1
  have hB1 := nb_le 16 b n hb0
  have hN : nn 16 b n ≤ 16 := nn_le 16 b n
  go_enter Try.func40, Try.ntmps40
  go_wp2_with fail
  refine (of16_any b n _ hb0 hb1).mono ?_
  rintro e w1 ⟨rfl, g1⟩
  have b1 : Below w.heap.size w w1 := (((Below.refl _ _).alloc (Nat.le_refl _) _).alloc (by simp) _).trans (g1.mono (by simp; omega))
  have s1 : Sk .u16 w1 (w.heap.size + 1) 0 0 := by
    have h := (Sk.fresh .u16 (w.alloc (.cells #[.int .u16 b, .int .i64 n] 25)) 0 0 25).later g1 (by simp)
    simpa using h
  have z1 : w.heap.size + 2 ≤ w1.heap.size := by have := g1.size; simp at this; omega
  clear g1
  obtain ⟨B, HB⟩ : ∃ B, Hid (B = nb 16 b n) := ⟨_, rfl⟩
  obtain ⟨M, HM⟩ : ∃ M, Hid (M = nn 16 b n) := ⟨_, rfl⟩
  rw [← HB.out, ← HM.out]
  rw [← HB.out] at hB hB1
  rw [← HM.out] at hN h0
  have hne : ((M : Int) == 0) = false := by simp; omega
  go_wp2_with fail
  refine (pop16 w1.heap.size 0 B M _ hB (by omega) hN (Pk.fresh _ _ _ _ _ _)).mono ?_
  rintro e w2 ⟨rfl, hp, hg⟩
  have s2 : Sk .u16 w2 (w.heap.size + 1) 0 0 := (s1.alloc _).grown hg (by simp; omega) (fun e => by simp at e; omega)
  have b2 : Below w.heap.size w w2 := (b1.alloc (by omega) _).grown hg (by simp; omega) (fun j hj => by simp at hj; omega)
  have z2 : w.heap.size + 2 ≤ w2.heap.size := by have := hg.size; simp at this; omega
  clear hg s1 b1
  go_wp2_with fail
  refine (push16 w1.heap.size 0 (B / 2) (M - 1) x _ (by omega) (by omega) (by omega) hp).mono ?_
  rintro e w3 ⟨rfl, hp3, hg3⟩
  have s3 : Sk .u16 w3 (w.heap.size + 1) 0 0 := s2.grown hg3 (by omega) (fun e => by simp at e; omega)
  have b3 : Below w.heap.size w w3 := b2.grown hg3 (by omega) (fun j hj => by simp at hj; omega)
  clear hg3 s2 b2 hp
  go_wp2_with fail
  refine (out16 w1.heap.size 0 _ _ _ _ hp3).mono ?_
  rintro e w4 ⟨rfl, g4⟩
  have s4 : Sk .u16 w4 (w.heap.size + 1) 0 0 := s3.later g4 s3.lt
  have b4 : Below w.heap.size w w4 := b3.trans (g4.mono b3.size)
  clear g4 b3 s3 hp3
  have eM : min (M - 1 + 1) 16 = M := by omega
  rw [eM]
  clear eM
  obtain ⟨q0, q1, _, _⟩ := s4.set (2 * (B / 2) % 65536 + bit01 x) M
  obtain ⟨c0, c1, f0, f1⟩ := s4
  go_wp2
  exact bodyPost_ret (v := .agg #[.int .u16 (2 * (B / 2) % 65536 + bit01 x), .int .i64 M]) (by simp [results, Try.results40, go_sem, q0, q1]) rfl ⟨by rw [HB.out, HM.out], by go_grown⟩
end Go.Proofs.Ytlpeianinlnbeaa
