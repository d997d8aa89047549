/- The specification's draws of forks and of stacks with a bit. -/
import Derived.Test.YtlpeianinlnbeaaE
import Derived.Test.YtlpeianinlnbeaaG
namespace Go.Proofs.Ytlpeianinlnbeaa
open Go.RowKit
set_option linter.unusedVariables false

set_option maxHeartbeats 400000 in
theorem small_any (b n : Int) (w : World) (hb0 : 0 ≤ b) (hb1 : b ≤ 65535) :
    Calls Try.prog 81 #[.agg #[.int .u16 b, .int .i64 n]] w fun e w' => (∃ m : Int, e = .returned (.agg #[.int .u8 (b % 256), .int .i64 m])) ∧ Below w.heap.size w w' := by
  have hm : b.tmod 256 = b % 256 := Int.tmod_eq_emod_of_nonneg hb0
  by_cases h : n ≤ 8
  · go_enter Try.func81, Try.ntmps81
    go_wp2
    go_returns
    exact ⟨⟨_, rfl⟩, by go_grown⟩
  · go_enter Try.func81, Try.ntmps81
    go_wp2
    go_returns
    exact ⟨⟨_, rfl⟩, by go_grown⟩

def IsFork (e : Ending) : Prop := ∃ b n : Int, 0 ≤ b ∧ b ≤ 255 ∧ e = .returned (.agg #[.int .u8 b, .int .i64 n])

theorem fork_end {B R q s : Nat} {w W : World} (V n : Int) (hT : Sk .u8 W s V n) (hS : Sk .u8 W w.heap.size 0 0) (hR : Reader B W R q) (hG : w.grownBy W (some R)) (hBw : B ≤ w.heap.size) :
    ((W.setCell ⟨w.heap.size, 0, none⟩ (.int .u8 V)).setCell ⟨w.heap.size, 1, none⟩ (.int .i64 n)).cell? ⟨w.heap.size, 0, none⟩ = some (.int .u8 V) ∧
    ((W.setCell ⟨w.heap.size, 0, none⟩ (.int .u8 V)).setCell ⟨w.heap.size, 1, none⟩ (.int .i64 n)).cell? ⟨w.heap.size, 1, none⟩ = some (.int .i64 n) ∧
    Reader B ((W.setCell ⟨w.heap.size, 0, none⟩ (.int .u8 V)).setCell ⟨w.heap.size, 1, none⟩ (.int .i64 n)) R q ∧ w.grownBy ((W.setCell ⟨w.heap.size, 0, none⟩ (.int .u8 V)).setCell ⟨w.heap.size, 1, none⟩ (.int .i64 n)) (some R) := by
  have h := hS.set V n
  exact ⟨h.c0, h.c1, (hR.set _ _ _ hBw).set _ _ _ hBw, gb_put (gb_put hG (Nat.le_refl _)) (Nat.le_refl _)⟩

set_option maxHeartbeats 2000000 in
theorem draw_fork_r (B R p : Nat) (w : World) (h : Reader B w R p) (hp : p < 800000) :
    Calls Try.prog 80 #[.pointer (some ⟨R, 0, none⟩)] w fun e w' => IsFork e ∧ (∃ q, q ≤ p + 40 ∧ Reader B w' R q) ∧ w.grownBy w' (some R) := by
  have hRB := h.1
  have hBw := h.2.1
  go_enter Try.func80, Try.ntmps80
  go_wp2_with fail
  refine (draw_r B R p _ (h.alloc _) (by omega)).mono ?_
  rintro e w1 ⟨⟨b, n, hb0, hb1, rfl⟩, ⟨q, hq, h1⟩, g1⟩
  have s1 : Sk .u8 w1 w.heap.size 0 0 := (Sk.fresh .u8 w 0 0 36).grown g1 (by simp) (by simp; omega)
  have G1 : w.grownBy w1 (some R) := gb_pick (gb_alloc (gb_refl _ _) _) g1
  have z1 : w.heap.size + 1 ≤ w1.heap.size := by have := g1.size; simpa using this
  clear g1
  go_wp2_with fail
  refine (small_any b n _ hb0 hb1).mono ?_
  rintro e w2 ⟨⟨m, rfl⟩, g2⟩
  have s2 : Sk .u8 w2 w.heap.size 0 0 := s1.later g2 s1.lt
  have h2 := h1.later g2
  have G2 := gb_below' G1 g2
  have z2 : w.heap.size + 1 ≤ w2.heap.size := by have := g2.size; omega
  clear g2 s1 G1 h1 z1
  obtain ⟨V, HV, hV0, hV1⟩ : ∃ V, Hid (V = b % 256) ∧ 0 ≤ V ∧ V ≤ 255 := ⟨_, rfl, by omega, by omega⟩
  rw [← HV.out]
  go_wp2_with fail
  refine (pick_r B R q 20 _ (h2.alloc _) (by omega) (by omega) (by omega)).mono ?_
  rintro e w7 ⟨t, t1, rfl, R7, g7⟩
  have T7 : Sk .u8 w7 w2.heap.size V m := (Sk.fresh .u8 w2 V m 36).grown g7 (by simp) (by simp; omega)
  have S7 : Sk .u8 w7 w.heap.size 0 0 := (s2.alloc _).grown g7 (by simp; omega) (by simp; omega)
  have G7 := gb_pick (gb_alloc G2 _) g7
  have n7 : w2.heap.size < w7.heap.size := T7.lt
  clear g7 s2 h2 G2
  by_cases t0 : t = 0
  · subst t0
    go_wp2_with fail
    refine (num_r B R (q + 1) w7.heap.size [-1, 0, 9, 8, 1, -9223372036854775807, 9223372036854775807] 7 _ (R7.alloc _) (by decide) (by decide) (by omega) (by omega) (by exact cells_row w7 [-1, 0, 9, 8, 1, -9223372036854775807, 9223372036854775807] 3)).mono ?_
    rintro e w8 ⟨k, hk, rfl, R8, g8⟩
    have T8 : Sk .u8 w8 w2.heap.size V m := (T7.alloc _).grown g8 (by simp; omega) (by simp; omega)
    have S8 : Sk .u8 w8 w.heap.size 0 0 := (S7.alloc _).grown g8 (by simp; omega) (by simp; omega)
    have G8 := gb_pick (gb_alloc G7 _) g8
    clear g8 T7 S7 G7 R7 hk
    have F := fork_end V k (T8.put1 k) (S8.other w2.heap.size 1 (by omega) (.int .i64 k)) (R8.set w2.heap.size 1 (.int .i64 k) (by omega)) (gb_put G8 (by omega)) hBw
    obtain ⟨q0, q1, RF, GF⟩ := F
    have T9 := T8.put1 k
    obtain ⟨c0, c1, f0, f1⟩ := T8
    obtain ⟨d0, d1, e0, e1⟩ := S8
    obtain ⟨x0, x1, y0, y1⟩ := T9
    go_wp2
    exact bodyPost_ret (v := .agg #[.int .u8 V, .int .i64 k]) (by simp [results, Try.results80, go_sem, q0, q1]) rfl ⟨⟨V, k, hV0, hV1, rfl⟩, ⟨_, by omega, RF⟩, GF⟩
  · by_cases t2 : t = 1
    · subst t2
      go_wp2_with fail
      refine (pick_r B R (q + 1) 256 _ R7 (by omega) (by omega) (by omega)).mono ?_
      rintro e w9 ⟨y, y1, rfl, R9, g9⟩
      have T9 : Sk .u8 w9 w2.heap.size V m := T7.grown g9 (by omega) (by simp; omega)
      have S9 : Sk .u8 w9 w.heap.size 0 0 := S7.grown g9 (by omega) (by simp; omega)
      have G9 := gb_pick G7 g9
      clear g9 T7 S7 G7 R7
      have F := fork_end (y : Int) m (T9.put0 (y : Int)) (S9.other w2.heap.size 0 (by omega) (.int .u8 (y : Int))) (R9.set w2.heap.size 0 (.int .u8 (y : Int)) (by omega)) (gb_put G9 (by omega)) hBw
      obtain ⟨q0, q1, RF, GF⟩ := F
      have T9' := T9.put0 (y : Int)
      obtain ⟨c0, c1, f0, f1⟩ := T9
      obtain ⟨d0, d1, e0, e1⟩ := S9
      obtain ⟨x0, x2, y0, y2⟩ := T9'
      go_wp2
      exact bodyPost_ret (v := .agg #[.int .u8 (y : Int), .int .i64 m]) (by simp [results, Try.results80, go_sem, q0, q1]) rfl ⟨⟨(y : Int), m, by omega, by omega, rfl⟩, ⟨_, by omega, RF⟩, GF⟩
    · have u0 : ((t : Int) == 0) = false := by simp; omega
      have u1 : ((t : Int) == 1) = false := by simp; omega
      have F := fork_end V m T7 S7 R7 G7 hBw
      obtain ⟨q0, q1, RF, GF⟩ := F
      obtain ⟨c0, c1, f0, f1⟩ := T7
      obtain ⟨d0, d1, e0, e1⟩ := S7
      go_wp2
      exact bodyPost_ret (v := .agg #[.int .u8 V, .int .i64 m]) (by simp [results, Try.results80, go_sem, q0, q1]) rfl ⟨⟨V, m, hV0, hV1, rfl⟩, ⟨_, by omega, RF⟩, GF⟩

/-- A code of bytes that came in. -/
structure Code0 (w : World) (a : Option Addr) (len cap blk off : Nat) (z : Nat → Int) : Prop where
  short : len ≤ 1048576
  cap : len ≤ cap
  at_ : 0 < len → a = some ⟨blk, off, none⟩ ∧ blk < w.heap.size
  byte : ∀ j, j < len → w.cell? ⟨blk, off + j, none⟩ = some (.int .u8 (z j))
  fits : ∀ j, 0 ≤ z j ∧ z j ≤ 255
theorem Code0.later {w w' : World} {a : Option Addr} {len cap blk off : Nat} {z : Nat → Int} (h : Code0 w a len cap blk off z) (g : Below w.heap.size w w') : Code0 w' a len cap blk off z :=
  ⟨h.short, h.cap, fun h0 => ⟨(h.at_ h0).1, Nat.lt_of_lt_of_le (h.at_ h0).2 g.size⟩, fun j hj => cell_later g (h.byte j hj), h.fits⟩
theorem Code0.open {w : World} {a : Option Addr} {len cap blk off : Nat} {z : Nat → Int} (h : Code0 w a len cap blk off z) :
    Calls Try.prog 57 #[.slice a len cap] w fun e w' => e = .returned (.pointer (some ⟨w.heap.size, 0, none⟩)) ∧ Reader (w.heap.size + 1) w' w.heap.size 0 ∧ Below w.heap.size w w' :=
  open_r a len cap blk off z w h.short h.cap h.at_ h.byte h.fits

set_option maxHeartbeats 1000000 in
theorem draw_fork_push {a : Option Addr} {len cap blk off : Nat} {z : Nat → Int} (w : World) (h : Code0 w a len cap blk off z) :
    Calls Try.prog 41 #[.slice a len cap] w fun e w' => (∃ (b n : Int) (x : Bool), 0 ≤ b ∧ b ≤ 255 ∧ e = .returned (.tuple #[.agg #[.int .u8 b, .int .i64 n], .bool x])) ∧ Below w.heap.size w w' := by
  go_enter Try.func41, Try.ntmps41
  go_wp2_with fail
  refine ((h.later ((Below.refl _ _).alloc (Nat.le_refl _) _)).open).mono ?_
  rintro e w1 ⟨rfl, h1, g1⟩
  simp only [World.size_alloc] at h1 g1 ⊢
  have s1 : Sk .u8 w1 w.heap.size 0 0 := (Sk.fresh .u8 w 0 0 36).later g1 (by omega)
  have b1 : Below w.heap.size w w1 := ((Below.refl _ _).alloc (Nat.le_refl _) _).trans (g1.mono (by omega))
  clear g1
  go_wp2_with fail
  refine (pick_r _ _ 0 2 _ h1 (by omega) (by omega) (by omega)).mono ?_
  rintro e w2 ⟨x, x1, rfl, h2, g2⟩
  have s2 : Sk .u8 w2 w.heap.size 0 0 := s1.grown g2 s1.lt (by simp)
  have b2 : Below w.heap.size w w2 := b1.grown g2 b1.size (fun j hj => by simp at hj; omega)
  clear g2 s1 b1 h1
  go_wp2_with fail
  refine (draw_fork_r _ _ (0 + 1) _ h2 (by omega)).mono ?_
  rintro e w3 ⟨⟨b, n, hb0, hb1, rfl⟩, _, g3⟩
  have s3 : Sk .u8 w3 w.heap.size 0 0 := s2.grown g3 s2.lt (by simp)
  have b3 : Below w.heap.size w w3 := b2.grown g3 b2.size (fun j hj => by simp at hj; omega)
  clear g3 s2 b2 h2
  obtain ⟨q0, q1, _, _⟩ := s3.set b n
  obtain ⟨c0, c1, f0, f1⟩ := s3
  go_wp2
  exact bodyPost_ret (v := .tuple #[.agg #[.int .u8 b, .int .i64 n], .bool ((x : Int) == 1)]) (by simp [results, Try.results41, go_sem, q0, q1]) rfl ⟨⟨b, n, _, hb0, hb1, rfl⟩, by go_grown⟩
end Go.Proofs.Ytlpeianinlnbeaa
