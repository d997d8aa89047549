/- MemWhole, the program's and the specification's. -/
import Derived.Test.YtjnddfpieogpiaaDoorMh
namespace Go.Proofs.YtjnddfpieogpiaaDoor
open Go.RowKit Go.Shelf
set_option linter.unusedVariables false

/-- A count as a whole number. -/
def least (n : Int) : Int := if n > 32767 then 32767 else n

/-- The whole number that an operand asks for. -/
def mwhole (c : Array Value) (k n : Int) : Int :=
  if k = 7 then least (word c (5 + 2 * (pl k n).toNat + 1)) else if k = 8 then least (word c (37 + 3 * (pl k n).toNat + 2)) else if k = 9 then word c (85 + (pl k n).toNat) else if k = 11 then IntKind.i16.wrap n else 0

theorem wrap_small (n : Int) (h0 : 0 ≤ n) (h1 : n ≤ 32767) : IntKind.i16.wrap n = n := by
  simp [IntKind.wrap, IntKind.bits, IntKind.signed]
  omega

set_option maxHeartbeats 1000000 in
theorem least_i (n : Int) (h0 : 0 ≤ n) (h1 : n < 65536) (w : World) : Calls Tryd.prog 20 #[.int .u16 n] w fun e w' => e = .returned (.int .i16 (least n)) ∧ w' = w := by
  unfold least
  by_cases h : n > 32767
  · rw [if_pos h]
    have hm : min n 32767 = 32767 := by omega
    go_enter Tryd.func20, Tryd.ntmps20
    go_wp2
    go_ret
    exact ⟨rfl, rfl⟩
  · rw [if_neg h]
    have hm : min n 32767 = n := by omega
    have hh : n ≤ 32767 := by omega
    go_enter Tryd.func20, Tryd.ntmps20
    go_wp2
    go_ret
    exact ⟨rfl, rfl⟩

theorem wrap16 (n : Int) : IntKind.i16.wrap n = (n + 32768) % 65536 - 32768 := by
  simp only [IntKind.wrap, IntKind.bits, IntKind.signed]
  simp
  split <;> omega

set_option maxHeartbeats 1000000 in
theorem whole7_i (c : Array Value) (hc : MemOk c) (n p : Int) (w : World) (hT : KT w) : Calls Tryd.prog 6 #[.agg c, .agg #[.int .i64 7, .int .i64 n, .int .i64 p]] w fun e w' => e = .returned (.int .i16 (least (word c (5 + 2 * (pl 7 n).toNat + 1)))) ∧ Below w.heap.size w w' := by
  have HT : Hid (KT w) := hT
  clear hT
  obtain ⟨q0, q1⟩ := pl_lt 7 n (by decide)
  rw [show kZ 7 = 16 from rfl] at q1
  obtain ⟨q, hq⟩ : ∃ q : Nat, pl 7 n = q := ⟨(pl 7 n).toNat, by omega⟩
  rw [hq] at q0 q1
  rw [hq, Int.toNat_natCast]
  have hq16 : q < 16 := by omega
  obtain ⟨x, hx, x0, x1⟩ := hc.u16 (i := 5 + 2 * q + 1) (by omega) (kd_t hq16).2
  rw [word_of hx]
  have HC : Hid (MemOk c) := hc
  clear hc
  go_enter Tryd.func6, Tryd.ntmps6
  go_wp2_with fail
  refine (place_r _ _ _ _ ((HT.out.alloc _).alloc _)).mono ?_
  rintro e w1 ⟨rfl, g1⟩
  have b1 : Below w.heap.size w w1 := (((Below.refl _ _).alloc (Nat.le_refl _) _).alloc (by simp) _).trans (g1.mono (by simp <;> omega))
  have h1 : w1.heap[w.heap.size]? = some (.cells c 37 (0, 0)) := (g1.block _ (by simp <;> omega)).trans (rows2 w _ _).1
  have r0 : w1.cell? ⟨w.heap.size + 1, 0, none⟩ = some (.int .i64 7) := by rw [g1.cell (by simp)]; exact (cell_of_row _ _ _ _ _ _ (rows2 w _ _).2).trans rfl
  have rn : w1.cell? ⟨w.heap.size + 1, 1, none⟩ = some (.int .i64 n) := by rw [g1.cell (by simp)]; exact (cell_of_row _ _ _ _ _ _ (rows2 w _ _).2).trans rfl
  clear g1
  have r1 : w1.cell? ⟨w.heap.size, 5 + q * 2 + 1, none⟩ = some (.int .u16 x) := by rw [cell_of_row _ _ _ _ _ _ h1, Nat.mul_comm]; exact hx
  rw [hq]
  clear hq
  go_wp2_with fail
  refine (least_i x x0 x1 _).mono ?_
  rintro e w2 ⟨rfl, rfl⟩
  go_wp2
  go_ret
  exact ⟨rfl, b1⟩

set_option maxHeartbeats 1000000 in
theorem whole8_i (c : Array Value) (hc : MemOk c) (n p : Int) (w : World) (hT : KT w) : Calls Tryd.prog 6 #[.agg c, .agg #[.int .i64 8, .int .i64 n, .int .i64 p]] w fun e w' => e = .returned (.int .i16 (least (word c (37 + 3 * (pl 8 n).toNat + 2)))) ∧ Below w.heap.size w w' := by
  have HT : Hid (KT w) := hT
  clear hT
  obtain ⟨q0, q1⟩ := pl_lt 8 n (by decide)
  rw [show kZ 8 = 16 from rfl] at q1
  obtain ⟨q, hq⟩ : ∃ q : Nat, pl 8 n = q := ⟨(pl 8 n).toNat, by omega⟩
  rw [hq] at q0 q1
  rw [hq, Int.toNat_natCast]
  have hq16 : q < 16 := by omega
  obtain ⟨x, hx, x0, x1⟩ := hc.u16 (i := 37 + 3 * q + 2) (by omega) (kd_c hq16).2.2
  rw [word_of hx]
  have HC : Hid (MemOk c) := hc
  clear hc
  go_enter Tryd.func6, Tryd.ntmps6
  go_wp2_with fail
  refine (place_r _ _ _ _ ((HT.out.alloc _).alloc _)).mono ?_
  rintro e w1 ⟨rfl, g1⟩
  have b1 : Below w.heap.size w w1 := (((Below.refl _ _).alloc (Nat.le_refl _) _).alloc (by simp) _).trans (g1.mono (by simp <;> omega))
  have h1 : w1.heap[w.heap.size]? = some (.cells c 37 (0, 0)) := (g1.block _ (by simp <;> omega)).trans (rows2 w _ _).1
  have r0 : w1.cell? ⟨w.heap.size + 1, 0, none⟩ = some (.int .i64 8) := by rw [g1.cell (by simp)]; exact (cell_of_row _ _ _ _ _ _ (rows2 w _ _).2).trans rfl
  have rn : w1.cell? ⟨w.heap.size + 1, 1, none⟩ = some (.int .i64 n) := by rw [g1.cell (by simp)]; exact (cell_of_row _ _ _ _ _ _ (rows2 w _ _).2).trans rfl
  clear g1
  have r1 : w1.cell? ⟨w.heap.size, 37 + q * 3 + 2, none⟩ = some (.int .u16 x) := by rw [cell_of_row _ _ _ _ _ _ h1, Nat.mul_comm]; exact hx
  rw [hq]
  clear hq
  go_wp2_with fail
  refine (least_i x x0 x1 _).mono ?_
  rintro e w2 ⟨rfl, rfl⟩
  go_wp2
  go_ret
  exact ⟨rfl, b1⟩

set_option maxHeartbeats 1000000 in
theorem whole9_i (c : Array Value) (hc : MemOk c) (n p : Int) (w : World) (hT : KT w) : Calls Tryd.prog 6 #[.agg c, .agg #[.int .i64 9, .int .i64 n, .int .i64 p]] w fun e w' => e = .returned (.int .i16 (word c (85 + (pl 9 n).toNat))) ∧ Below w.heap.size w w' := by
  have HT : Hid (KT w) := hT
  clear hT
  obtain ⟨q0, q1⟩ := pl_lt 9 n (by decide)
  rw [show kZ 9 = 32 from rfl] at q1
  obtain ⟨q, hq⟩ : ∃ q : Nat, pl 9 n = q := ⟨(pl 9 n).toNat, by omega⟩
  rw [hq] at q0 q1
  rw [hq, Int.toNat_natCast]
  have hq16 : q < 32 := by omega
  obtain ⟨x, hx, x0, x1⟩ := hc.i16 (i := 85 + q) (by omega) (kd_d hq16)
  rw [word_of hx]
  have HC : Hid (MemOk c) := hc
  clear hc
  go_enter Tryd.func6, Tryd.ntmps6
  go_wp2_with fail
  refine (place_r _ _ _ _ ((HT.out.alloc _).alloc _)).mono ?_
  rintro e w1 ⟨rfl, g1⟩
  have b1 : Below w.heap.size w w1 := (((Below.refl _ _).alloc (Nat.le_refl _) _).alloc (by simp) _).trans (g1.mono (by simp <;> omega))
  have h1 : w1.heap[w.heap.size]? = some (.cells c 37 (0, 0)) := (g1.block _ (by simp <;> omega)).trans (rows2 w _ _).1
  have r0 : w1.cell? ⟨w.heap.size + 1, 0, none⟩ = some (.int .i64 9) := by rw [g1.cell (by simp)]; exact (cell_of_row _ _ _ _ _ _ (rows2 w _ _).2).trans rfl
  have rn : w1.cell? ⟨w.heap.size + 1, 1, none⟩ = some (.int .i64 n) := by rw [g1.cell (by simp)]; exact (cell_of_row _ _ _ _ _ _ (rows2 w _ _).2).trans rfl
  clear g1
  have r1 : w1.cell? ⟨w.heap.size, 85 + q, none⟩ = some (.int .i16 x) := by rw [cell_of_row _ _ _ _ _ _ h1]; exact hx
  rw [hq]
  clear hq
  go_wp2
  go_ret
  exact ⟨rfl, b1⟩

set_option maxHeartbeats 1000000 in
theorem whole11_i (c : Array Value) (n p : Int) (w : World) (hT : KT w) : Calls Tryd.prog 6 #[.agg c, .agg #[.int .i64 11, .int .i64 n, .int .i64 p]] w fun e w' => e = .returned (.int .i16 (IntKind.i16.wrap n)) ∧ Below w.heap.size w w' := by
  have HT : Hid (KT w) := hT
  clear hT
  go_enter Tryd.func6, Tryd.ntmps6
  go_wp2_with fail
  refine (place_r _ _ _ _ ((HT.out.alloc _).alloc _)).mono ?_
  rintro e w1 ⟨rfl, g1⟩
  have b1 : Below w.heap.size w w1 := (((Below.refl _ _).alloc (Nat.le_refl _) _).alloc (by simp) _).trans (g1.mono (by simp <;> omega))
  have h1 : w1.heap[w.heap.size]? = some (.cells c 37 (0, 0)) := (g1.block _ (by simp <;> omega)).trans (rows2 w _ _).1
  have r0 : w1.cell? ⟨w.heap.size + 1, 0, none⟩ = some (.int .i64 11) := by rw [g1.cell (by simp)]; exact (cell_of_row _ _ _ _ _ _ (rows2 w _ _).2).trans rfl
  have rn : w1.cell? ⟨w.heap.size + 1, 1, none⟩ = some (.int .i64 n) := by rw [g1.cell (by simp)]; exact (cell_of_row _ _ _ _ _ _ (rows2 w _ _).2).trans rfl
  clear g1
  go_wp2
  go_ret
  exact ⟨rfl, b1⟩

set_option maxHeartbeats 1000000 in
theorem whole0_i (c : Array Value) (k n p : Int) (h7 : k ≠ 7) (h8 : k ≠ 8) (h9 : k ≠ 9) (h11 : k ≠ 11) (w : World) (hT : KT w) : Calls Tryd.prog 6 #[.agg c, .agg #[.int .i64 k, .int .i64 n, .int .i64 p]] w fun e w' => e = .returned (.int .i16 0) ∧ Below w.heap.size w w' := by
  have HT : Hid (KT w) := hT
  clear hT
  have n7 : (k == 7) = false := by simp [h7]
  have n8 : (k == 8) = false := by simp [h8]
  have n9 : (k == 9) = false := by simp [h9]
  have n11 : (k == 11) = false := by simp [h11]
  clear h7 h8 h9 h11
  go_enter Tryd.func6, Tryd.ntmps6
  go_wp2_with fail
  refine (place_r _ _ _ _ ((HT.out.alloc _).alloc _)).mono ?_
  rintro e w1 ⟨rfl, g1⟩
  have b1 : Below w.heap.size w w1 := (((Below.refl _ _).alloc (Nat.le_refl _) _).alloc (by simp) _).trans (g1.mono (by simp <;> omega))
  have h1 : w1.heap[w.heap.size]? = some (.cells c 37 (0, 0)) := (g1.block _ (by simp <;> omega)).trans (rows2 w _ _).1
  have r0 : w1.cell? ⟨w.heap.size + 1, 0, none⟩ = some (.int .i64 k) := by rw [g1.cell (by simp)]; exact (cell_of_row _ _ _ _ _ _ (rows2 w _ _).2).trans rfl
  have rn : w1.cell? ⟨w.heap.size + 1, 1, none⟩ = some (.int .i64 n) := by rw [g1.cell (by simp)]; exact (cell_of_row _ _ _ _ _ _ (rows2 w _ _).2).trans rfl
  clear g1
  go_wp2
  go_ret
  exact ⟨rfl, b1⟩

theorem mwhole_i (c : Array Value) (hc : MemOk c) (k n p : Int) (w : World) (hT : KT w) : Calls Tryd.prog 6 #[.agg c, .agg #[.int .i64 k, .int .i64 n, .int .i64 p]] w fun e w' => e = .returned (.int .i16 (mwhole c k n)) ∧ Below w.heap.size w w' := by
  by_cases h7 : k = 7
  · subst h7; exact whole7_i c hc n p w hT
  by_cases h8 : k = 8
  · subst h8; exact whole8_i c hc n p w hT
  by_cases h9 : k = 9
  · subst h9; exact whole9_i c hc n p w hT
  by_cases h11 : k = 11
  · subst h11; exact whole11_i c n p w hT
  have : mwhole c k n = 0 := by
    unfold mwhole
    rw [if_neg h7, if_neg h8, if_neg h9, if_neg h11]
  rw [this]
  exact whole0_i c k n p h7 h8 h9 h11 w hT

end Go.Proofs.YtjnddfpieogpiaaDoor
