/- MemBit, the program's and the specification's. -/
import Derived.Test.YtlgacbjopobeoaaGreatDoorMfM
import Derived.Test.YtlgacbjopobeoaaGreatDoorMbM
namespace Go.Proofs.YtlgacbjopobeoaaGreatDoor
open Go.RowKit Go.Shelf
set_option linter.unusedVariables false

/-- A number of a memory's cell. -/
def word (c : Array Value) (i : Nat) : Int := match c[i]? with | some (.int _ n) => n | _ => 0
/-- A truth of a memory's cell. -/
def flag (c : Array Value) (i : Nat) : Bool := match c[i]? with | some (.bool b) => b | _ => false
theorem word_of {c : Array Value} {i : Nat} {k : IntKind} {n : Int} (h : c[i]? = some (.int k n)) : word c i = n := by simp [word, h]
theorem flag_of {c : Array Value} {i : Nat} {b : Bool} (h : c[i]? = some (.bool b)) : flag c i = b := by simp [flag, h]

/-- The given bits. -/
def given (c : Array Value) (p : Int) : Bool := if p = 0 then true else if p = 2 then !flag c 134 else if p = 3 then flag c 135 else if p = 4 then decide (500 ≤ word c 133 % 1000) else false

/-- The bit that an operand asks for. -/
def mbit (c : Array Value) (k n : Int) : Bool :=
  if k = 1 then btest (word c 0) (pl k n) else if k = 2 then btest (word c 1) (pl k n) else if k = 3 then btest (word c 2) (pl k n) else if k = 4 then btest (word c 3) (pl k n) else if k = 5 then btest (word c 4) (pl k n)
  else if k = 6 then given c (pl k n) else if k = 7 then flag c (5 + 2 * (pl k n).toNat) else if k = 8 then flag c (37 + 3 * (pl k n).toNat) else false


set_option maxHeartbeats 1000000 in
theorem given_i (c : Array Value) (hc : MemOk c) (p : Int) (w : World) : Calls Tryz.prog 323 #[.agg c, .int .i64 p] w fun e w' => e = .returned (.bool (given c p)) ∧ Below w.heap.size w w' := by
  obtain ⟨t, x5, t0, t1⟩ := hc.u32 (i := 133) (by omega) rfl
  obtain ⟨r, x6⟩ := hc.bool (i := 134) (by omega) rfl
  obtain ⟨f, x7⟩ := hc.bool (i := 135) (by omega) rfl
  have hg : given c p = if p = 0 then true else if p = 2 then !r else if p = 3 then f else if p = 4 then decide (500 ≤ t % 1000) else false := by
    unfold given; rw [word_of x5, flag_of x6, flag_of x7]
  have ht : t.tmod 1000 = t % 1000 := Int.tmod_eq_emod_of_nonneg t0
  rw [hg]
  clear hg hc
  by_cases h0 : p = 0
  · subst h0
    go_enter Tryz.func323, Tryz.ntmps323
    go_wp2
    go_ret
    exact ⟨rfl, by go_grown⟩
  by_cases h2 : p = 2
  · subst h2
    go_enter Tryz.func323, Tryz.ntmps323
    go_wp2
    go_ret
    exact ⟨rfl, by go_grown⟩
  by_cases h3 : p = 3
  · subst h3
    go_enter Tryz.func323, Tryz.ntmps323
    go_wp2
    go_ret
    exact ⟨rfl, by go_grown⟩
  by_cases h4 : p = 4
  · subst h4
    go_enter Tryz.func323, Tryz.ntmps323
    go_wp2
    go_ret
    exact ⟨rfl, by go_grown⟩
  · rw [if_neg h0, if_neg h2, if_neg h3, if_neg h4]
    have e0 : (p == 0) = false := by simp [h0]
    have e2 : (p == 2) = false := by simp [h2]
    have e3 : (p == 3) = false := by simp [h3]
    have e4 : (p == 4) = false := by simp [h4]
    clear h0 h2 h3 h4
    go_enter Tryz.func323, Tryz.ntmps323
    go_wp2
    go_ret
    exact ⟨rfl, by go_grown⟩

set_option maxHeartbeats 1000000 in
theorem given_s (c : Array Value) (hc : MemOk c) (p : Int) (w : World) : Calls Tryz.prog 258 #[.agg c, .int .i64 p] w fun e w' => e = .returned (.bool (given c p)) ∧ Below w.heap.size w w' := by
  obtain ⟨t, x5, t0, t1⟩ := hc.u32 (i := 133) (by omega) rfl
  obtain ⟨r, x6⟩ := hc.bool (i := 134) (by omega) rfl
  obtain ⟨f, x7⟩ := hc.bool (i := 135) (by omega) rfl
  have hg : given c p = if p = 0 then true else if p = 2 then !r else if p = 3 then f else if p = 4 then decide (500 ≤ t % 1000) else false := by
    unfold given; rw [word_of x5, flag_of x6, flag_of x7]
  have ht : t.tmod 1000 = t % 1000 := Int.tmod_eq_emod_of_nonneg t0
  rw [hg]
  clear hg hc
  by_cases h0 : p = 0
  · subst h0
    go_enter Tryz.func258, Tryz.ntmps258
    go_wp2
    go_ret
    exact ⟨rfl, by go_grown⟩
  by_cases h2 : p = 2
  · subst h2
    go_enter Tryz.func258, Tryz.ntmps258
    go_wp2
    go_ret
    exact ⟨rfl, by go_grown⟩
  by_cases h3 : p = 3
  · subst h3
    go_enter Tryz.func258, Tryz.ntmps258
    go_wp2
    go_ret
    exact ⟨rfl, by go_grown⟩
  by_cases h4 : p = 4
  · subst h4
    go_enter Tryz.func258, Tryz.ntmps258
    go_wp2
    go_ret
    exact ⟨rfl, by go_grown⟩
  · rw [if_neg h0, if_neg h2, if_neg h3, if_neg h4]
    have e0 : (p == 0) = false := by simp [h0]
    have e2 : (p == 2) = false := by simp [h2]
    have e3 : (p == 3) = false := by simp [h3]
    have e4 : (p == 4) = false := by simp [h4]
    clear h0 h2 h3 h4
    go_enter Tryz.func258, Tryz.ntmps258
    go_wp2
    go_ret
    exact ⟨rfl, by go_grown⟩

set_option maxHeartbeats 1000000 in
theorem bit1_i (c : Array Value) (hc : MemOk c) (n p : Int) (w : World) (hT : KT w) : Calls Tryz.prog 318 #[.agg c, .agg #[.int .i64 1, .int .i64 n, .int .i64 p]] w fun e w' => e = .returned (.bool (btest (word c 0) (pl 1 n))) ∧ Below w.heap.size w w' := by
  have HT : Hid (KT w) := hT
  clear hT
  obtain ⟨x, hx, h0, h1x⟩ := hc.u32 (i := 0) (by omega) rfl
  rw [word_of hx]
  obtain ⟨q0, q1⟩ := pl_lt 1 n (by decide)
  rw [show kZ 1 = 32 from rfl] at q1
  have HC : Hid (MemOk c) := hc
  clear hc
  go_enter Tryz.func318, Tryz.ntmps318
  go_wp2_with fail
  refine (place_r _ _ _ _ ((HT.out.alloc _).alloc _)).mono ?_
  rintro e w1 ⟨rfl, g1⟩
  have b1 : Below w.heap.size w w1 := (((Below.refl _ _).alloc (Nat.le_refl _) _).alloc (by simp) _).trans (g1.mono (by simp <;> omega))
  have h1 : w1.heap[w.heap.size]? = some (.cells c 39 (0, 0)) := (g1.block _ (by simp <;> omega)).trans (rows2 w _ _).1
  have r0 : w1.cell? ⟨w.heap.size + 1, 0, none⟩ = some (.int .i64 1) := by rw [g1.cell (by simp)]; exact (cell_of_row _ _ _ _ _ _ (rows2 w _ _).2).trans rfl
  clear g1
  have r1 : w1.cell? ⟨w.heap.size, 0, none⟩ = some (.int .u32 x) := by rw [cell_of_row _ _ _ _ _ _ h1]; exact hx
  go_wp2_with fail
  refine (on32 x _ _ h0 h1x q0 q1).mono ?_
  rintro e w2 ⟨rfl, rfl⟩
  go_wp2
  go_ret
  exact ⟨rfl, b1⟩

set_option maxHeartbeats 1000000 in
theorem bit2_i (c : Array Value) (hc : MemOk c) (n p : Int) (w : World) (hT : KT w) : Calls Tryz.prog 318 #[.agg c, .agg #[.int .i64 2, .int .i64 n, .int .i64 p]] w fun e w' => e = .returned (.bool (btest (word c 1) (pl 2 n))) ∧ Below w.heap.size w w' := by
  have HT : Hid (KT w) := hT
  clear hT
  obtain ⟨x, hx, h0, h1x⟩ := hc.u32 (i := 1) (by omega) rfl
  rw [word_of hx]
  obtain ⟨q0, q1⟩ := pl_lt 2 n (by decide)
  rw [show kZ 2 = 32 from rfl] at q1
  have HC : Hid (MemOk c) := hc
  clear hc
  go_enter Tryz.func318, Tryz.ntmps318
  go_wp2_with fail
  refine (place_r _ _ _ _ ((HT.out.alloc _).alloc _)).mono ?_
  rintro e w1 ⟨rfl, g1⟩
  have b1 : Below w.heap.size w w1 := (((Below.refl _ _).alloc (Nat.le_refl _) _).alloc (by simp) _).trans (g1.mono (by simp <;> omega))
  have h1 : w1.heap[w.heap.size]? = some (.cells c 39 (0, 0)) := (g1.block _ (by simp <;> omega)).trans (rows2 w _ _).1
  have r0 : w1.cell? ⟨w.heap.size + 1, 0, none⟩ = some (.int .i64 2) := by rw [g1.cell (by simp)]; exact (cell_of_row _ _ _ _ _ _ (rows2 w _ _).2).trans rfl
  clear g1
  have r1 : w1.cell? ⟨w.heap.size, 1, none⟩ = some (.int .u32 x) := by rw [cell_of_row _ _ _ _ _ _ h1]; exact hx
  go_wp2_with fail
  refine (on32 x _ _ h0 h1x q0 q1).mono ?_
  rintro e w2 ⟨rfl, rfl⟩
  go_wp2
  go_ret
  exact ⟨rfl, b1⟩

set_option maxHeartbeats 1000000 in
theorem bit3_i (c : Array Value) (hc : MemOk c) (n p : Int) (w : World) (hT : KT w) : Calls Tryz.prog 318 #[.agg c, .agg #[.int .i64 3, .int .i64 n, .int .i64 p]] w fun e w' => e = .returned (.bool (btest (word c 2) (pl 3 n))) ∧ Below w.heap.size w w' := by
  have HT : Hid (KT w) := hT
  clear hT
  obtain ⟨x, hx, h0, h1x⟩ := hc.u64 (i := 2) (by omega) rfl
  rw [word_of hx]
  obtain ⟨q0, q1⟩ := pl_lt 3 n (by decide)
  rw [show kZ 3 = 64 from rfl] at q1
  have HC : Hid (MemOk c) := hc
  clear hc
  go_enter Tryz.func318, Tryz.ntmps318
  go_wp2_with fail
  refine (place_r _ _ _ _ ((HT.out.alloc _).alloc _)).mono ?_
  rintro e w1 ⟨rfl, g1⟩
  have b1 : Below w.heap.size w w1 := (((Below.refl _ _).alloc (Nat.le_refl _) _).alloc (by simp) _).trans (g1.mono (by simp <;> omega))
  have h1 : w1.heap[w.heap.size]? = some (.cells c 39 (0, 0)) := (g1.block _ (by simp <;> omega)).trans (rows2 w _ _).1
  have r0 : w1.cell? ⟨w.heap.size + 1, 0, none⟩ = some (.int .i64 3) := by rw [g1.cell (by simp)]; exact (cell_of_row _ _ _ _ _ _ (rows2 w _ _).2).trans rfl
  clear g1
  have r1 : w1.cell? ⟨w.heap.size, 2, none⟩ = some (.int .u64 x) := by rw [cell_of_row _ _ _ _ _ _ h1]; exact hx
  go_wp2_with fail
  refine (on64 x _ _ h0 h1x q0 q1).mono ?_
  rintro e w2 ⟨rfl, rfl⟩
  go_wp2
  go_ret
  exact ⟨rfl, b1⟩

set_option maxHeartbeats 1000000 in
theorem bit4_i (c : Array Value) (hc : MemOk c) (n p : Int) (w : World) (hT : KT w) : Calls Tryz.prog 318 #[.agg c, .agg #[.int .i64 4, .int .i64 n, .int .i64 p]] w fun e w' => e = .returned (.bool (btest (word c 3) (pl 4 n))) ∧ Below w.heap.size w w' := by
  have HT : Hid (KT w) := hT
  clear hT
  obtain ⟨x, hx, h0, h1x⟩ := hc.u16 (i := 3) (by omega) rfl
  rw [word_of hx]
  obtain ⟨q0, q1⟩ := pl_lt 4 n (by decide)
  rw [show kZ 4 = 16 from rfl] at q1
  have HC : Hid (MemOk c) := hc
  clear hc
  go_enter Tryz.func318, Tryz.ntmps318
  go_wp2_with fail
  refine (place_r _ _ _ _ ((HT.out.alloc _).alloc _)).mono ?_
  rintro e w1 ⟨rfl, g1⟩
  have b1 : Below w.heap.size w w1 := (((Below.refl _ _).alloc (Nat.le_refl _) _).alloc (by simp) _).trans (g1.mono (by simp <;> omega))
  have h1 : w1.heap[w.heap.size]? = some (.cells c 39 (0, 0)) := (g1.block _ (by simp <;> omega)).trans (rows2 w _ _).1
  have r0 : w1.cell? ⟨w.heap.size + 1, 0, none⟩ = some (.int .i64 4) := by rw [g1.cell (by simp)]; exact (cell_of_row _ _ _ _ _ _ (rows2 w _ _).2).trans rfl
  clear g1
  have r1 : w1.cell? ⟨w.heap.size, 3, none⟩ = some (.int .u16 x) := by rw [cell_of_row _ _ _ _ _ _ h1]; exact hx
  go_wp2_with fail
  refine (on16 x _ _ h0 h1x q0 q1).mono ?_
  rintro e w2 ⟨rfl, rfl⟩
  go_wp2
  go_ret
  exact ⟨rfl, b1⟩

set_option maxHeartbeats 1000000 in
theorem bit5_i (c : Array Value) (hc : MemOk c) (n p : Int) (w : World) (hT : KT w) : Calls Tryz.prog 318 #[.agg c, .agg #[.int .i64 5, .int .i64 n, .int .i64 p]] w fun e w' => e = .returned (.bool (btest (word c 4) (pl 5 n))) ∧ Below w.heap.size w w' := by
  have HT : Hid (KT w) := hT
  clear hT
  obtain ⟨x, hx, h0, h1x⟩ := hc.u32 (i := 4) (by omega) rfl
  rw [word_of hx]
  obtain ⟨q0, q1⟩ := pl_lt 5 n (by decide)
  rw [show kZ 5 = 32 from rfl] at q1
  have HC : Hid (MemOk c) := hc
  clear hc
  go_enter Tryz.func318, Tryz.ntmps318
  go_wp2_with fail
  refine (place_r _ _ _ _ ((HT.out.alloc _).alloc _)).mono ?_
  rintro e w1 ⟨rfl, g1⟩
  have b1 : Below w.heap.size w w1 := (((Below.refl _ _).alloc (Nat.le_refl _) _).alloc (by simp) _).trans (g1.mono (by simp <;> omega))
  have h1 : w1.heap[w.heap.size]? = some (.cells c 39 (0, 0)) := (g1.block _ (by simp <;> omega)).trans (rows2 w _ _).1
  have r0 : w1.cell? ⟨w.heap.size + 1, 0, none⟩ = some (.int .i64 5) := by rw [g1.cell (by simp)]; exact (cell_of_row _ _ _ _ _ _ (rows2 w _ _).2).trans rfl
  clear g1
  have r1 : w1.cell? ⟨w.heap.size, 4, none⟩ = some (.int .u32 x) := by rw [cell_of_row _ _ _ _ _ _ h1]; exact hx
  go_wp2_with fail
  refine (on32 x _ _ h0 h1x q0 q1).mono ?_
  rintro e w2 ⟨rfl, rfl⟩
  go_wp2
  go_ret
  exact ⟨rfl, b1⟩

set_option maxHeartbeats 1000000 in
theorem bit6_i (c : Array Value) (hc : MemOk c) (n p : Int) (w : World) (hT : KT w) : Calls Tryz.prog 318 #[.agg c, .agg #[.int .i64 6, .int .i64 n, .int .i64 p]] w fun e w' => e = .returned (.bool (given c (pl 6 n))) ∧ Below w.heap.size w w' := by
  have HT : Hid (KT w) := hT
  clear hT
  have HC : Hid (MemOk c) := hc
  clear hc
  have HI : Hid ((Tryz.prog.info? 39).map (·.size) = some c.size) := by rw [HC.out.size]; exact zero_mem.2
  go_enter Tryz.func318, Tryz.ntmps318
  go_wp2_with fail
  refine (place_r _ _ _ _ ((HT.out.alloc _).alloc _)).mono ?_
  rintro e w1 ⟨rfl, g1⟩
  have b1 : Below w.heap.size w w1 := (((Below.refl _ _).alloc (Nat.le_refl _) _).alloc (by simp) _).trans (g1.mono (by simp <;> omega))
  have h1 : w1.heap[w.heap.size]? = some (.cells c 39 (0, 0)) := (g1.block _ (by simp <;> omega)).trans (rows2 w _ _).1
  have r0 : w1.cell? ⟨w.heap.size + 1, 0, none⟩ = some (.int .i64 6) := by rw [g1.cell (by simp)]; exact (cell_of_row _ _ _ _ _ _ (rows2 w _ _).2).trans rfl
  clear g1
  go_wp2_with (first | (refine wpL_load rfl 39 _ rfl _ _ rfl _ (load_all h1 _ _ Tryz.underlying39 rfl HI.out) ?_) | fail)
  refine (given_i c HC.out _ _).mono ?_
  rintro e w2 ⟨rfl, g2⟩
  have b2 := b1.trans (g2.mono b1.size)
  go_wp2
  go_ret
  exact ⟨rfl, b2⟩

set_option maxHeartbeats 1000000 in
theorem bit7_i (c : Array Value) (hc : MemOk c) (n p : Int) (w : World) (hT : KT w) : Calls Tryz.prog 318 #[.agg c, .agg #[.int .i64 7, .int .i64 n, .int .i64 p]] w fun e w' => e = .returned (.bool (flag c (5 + 2 * (pl 7 n).toNat))) ∧ Below w.heap.size w w' := by
  have HT : Hid (KT w) := hT
  clear hT
  obtain ⟨q0, q1⟩ := pl_lt 7 n (by decide)
  rw [show kZ 7 = 16 from rfl] at q1
  obtain ⟨q, hq⟩ : ∃ q : Nat, pl 7 n = q := ⟨(pl 7 n).toNat, by omega⟩
  rw [hq] at q0 q1
  rw [hq, Int.toNat_natCast]
  have hq16 : q < 16 := by omega
  obtain ⟨x, hx⟩ := hc.bool (i := 5 + 2 * q) (by omega) (kd_t hq16).1
  rw [flag_of hx]
  have HC : Hid (MemOk c) := hc
  clear hc
  go_enter Tryz.func318, Tryz.ntmps318
  go_wp2_with fail
  refine (place_r _ _ _ _ ((HT.out.alloc _).alloc _)).mono ?_
  rintro e w1 ⟨rfl, g1⟩
  have b1 : Below w.heap.size w w1 := (((Below.refl _ _).alloc (Nat.le_refl _) _).alloc (by simp) _).trans (g1.mono (by simp <;> omega))
  have h1 : w1.heap[w.heap.size]? = some (.cells c 39 (0, 0)) := (g1.block _ (by simp <;> omega)).trans (rows2 w _ _).1
  have r0 : w1.cell? ⟨w.heap.size + 1, 0, none⟩ = some (.int .i64 7) := by rw [g1.cell (by simp)]; exact (cell_of_row _ _ _ _ _ _ (rows2 w _ _).2).trans rfl
  clear g1
  have r1 : w1.cell? ⟨w.heap.size, 5 + q * 2, none⟩ = some (.bool x) := by rw [cell_of_row _ _ _ _ _ _ h1, Nat.mul_comm]; exact hx
  rw [hq]
  clear hq
  go_wp2
  go_ret
  exact ⟨rfl, b1⟩

set_option maxHeartbeats 1000000 in
theorem bit8_i (c : Array Value) (hc : MemOk c) (n p : Int) (w : World) (hT : KT w) : Calls Tryz.prog 318 #[.agg c, .agg #[.int .i64 8, .int .i64 n, .int .i64 p]] w fun e w' => e = .returned (.bool (flag c (37 + 3 * (pl 8 n).toNat))) ∧ Below w.heap.size w w' := by
  have HT : Hid (KT w) := hT
  clear hT
  obtain ⟨q0, q1⟩ := pl_lt 8 n (by decide)
  rw [show kZ 8 = 16 from rfl] at q1
  obtain ⟨q, hq⟩ : ∃ q : Nat, pl 8 n = q := ⟨(pl 8 n).toNat, by omega⟩
  rw [hq] at q0 q1
  rw [hq, Int.toNat_natCast]
  have hq16 : q < 16 := by omega
  obtain ⟨x, hx⟩ := hc.bool (i := 37 + 3 * q) (by omega) (kd_c hq16).1
  rw [flag_of hx]
  have HC : Hid (MemOk c) := hc
  clear hc
  go_enter Tryz.func318, Tryz.ntmps318
  go_wp2_with fail
  refine (place_r _ _ _ _ ((HT.out.alloc _).alloc _)).mono ?_
  rintro e w1 ⟨rfl, g1⟩
  have b1 : Below w.heap.size w w1 := (((Below.refl _ _).alloc (Nat.le_refl _) _).alloc (by simp) _).trans (g1.mono (by simp <;> omega))
  have h1 : w1.heap[w.heap.size]? = some (.cells c 39 (0, 0)) := (g1.block _ (by simp <;> omega)).trans (rows2 w _ _).1
  have r0 : w1.cell? ⟨w.heap.size + 1, 0, none⟩ = some (.int .i64 8) := by rw [g1.cell (by simp)]; exact (cell_of_row _ _ _ _ _ _ (rows2 w _ _).2).trans rfl
  clear g1
  have r1 : w1.cell? ⟨w.heap.size, 37 + q * 3, none⟩ = some (.bool x) := by rw [cell_of_row _ _ _ _ _ _ h1, Nat.mul_comm]; exact hx
  rw [hq]
  clear hq
  go_wp2
  go_ret
  exact ⟨rfl, b1⟩

set_option maxHeartbeats 1000000 in
theorem bit0_i (c : Array Value) (k n p : Int) (hk : k ≤ 0 ∨ 9 ≤ k) (w : World) (hT : KT w) : Calls Tryz.prog 318 #[.agg c, .agg #[.int .i64 k, .int .i64 n, .int .i64 p]] w fun e w' => e = .returned (.bool false) ∧ Below w.heap.size w w' := by
  have HT : Hid (KT w) := hT
  clear hT
  have n1 : (k == 1) = false := by simp; omega
  have n2 : (k == 2) = false := by simp; omega
  have n3 : (k == 3) = false := by simp; omega
  have n4 : (k == 4) = false := by simp; omega
  have n5 : (k == 5) = false := by simp; omega
  have n6 : (k == 6) = false := by simp; omega
  have n7 : (k == 7) = false := by simp; omega
  have n8 : (k == 8) = false := by simp; omega
  clear hk
  go_enter Tryz.func318, Tryz.ntmps318
  go_wp2_with fail
  refine (place_r _ _ _ _ ((HT.out.alloc _).alloc _)).mono ?_
  rintro e w1 ⟨rfl, g1⟩
  have b1 : Below w.heap.size w w1 := (((Below.refl _ _).alloc (Nat.le_refl _) _).alloc (by simp) _).trans (g1.mono (by simp <;> omega))
  have h1 : w1.heap[w.heap.size]? = some (.cells c 39 (0, 0)) := (g1.block _ (by simp <;> omega)).trans (rows2 w _ _).1
  have r0 : w1.cell? ⟨w.heap.size + 1, 0, none⟩ = some (.int .i64 k) := by rw [g1.cell (by simp)]; exact (cell_of_row _ _ _ _ _ _ (rows2 w _ _).2).trans rfl
  clear g1
  go_wp2
  go_ret
  exact ⟨rfl, b1⟩

theorem mbit_i (c : Array Value) (hc : MemOk c) (k n p : Int) (w : World) (hT : KT w) : Calls Tryz.prog 318 #[.agg c, .agg #[.int .i64 k, .int .i64 n, .int .i64 p]] w fun e w' => e = .returned (.bool (mbit c k n)) ∧ Below w.heap.size w w' := by
  rcases (by omega : (k ≤ 0 ∨ 9 ≤ k) ∨ k = 1 ∨ k = 2 ∨ k = 3 ∨ k = 4 ∨ k = 5 ∨ k = 6 ∨ k = 7 ∨ k = 8) with h | rfl | rfl | rfl | rfl | rfl | rfl | rfl | rfl
  · have : mbit c k n = false := by
      unfold mbit
      rw [if_neg (by omega), if_neg (by omega), if_neg (by omega), if_neg (by omega), if_neg (by omega), if_neg (by omega), if_neg (by omega), if_neg (by omega)]
    rw [this]
    exact bit0_i c k n p h w hT
  · exact bit1_i c hc n p w hT
  · exact bit2_i c hc n p w hT
  · exact bit3_i c hc n p w hT
  · exact bit4_i c hc n p w hT
  · exact bit5_i c hc n p w hT
  · exact bit6_i c hc n p w hT
  · exact bit7_i c hc n p w hT
  · exact bit8_i c hc n p w hT

set_option maxHeartbeats 1000000 in
theorem bit1_s (c : Array Value) (hc : MemOk c) (n p : Int) (w : World) : Calls Tryz.prog 224 #[.agg c, .agg #[.int .i64 1, .int .i64 n, .int .i64 p]] w fun e w' => e = .returned (.bool (btest (word c 0) (pl 1 n))) ∧ Below w.heap.size w w' := by
  obtain ⟨x, hx, h0, h1x⟩ := hc.u32 (i := 0) (by omega) rfl
  rw [word_of hx]
  obtain ⟨q0, q1⟩ := pl_lt 1 n (by decide)
  rw [show kZ 1 = 32 from rfl] at q1
  have HC : Hid (MemOk c) := hc
  clear hc
  go_enter Tryz.func224, Tryz.ntmps224
  go_wp2_with fail
  refine (at_r _ _ _ _).mono ?_
  rintro e w1 ⟨rfl, g1⟩
  have b1 : Below w.heap.size w w1 := (((Below.refl _ _).alloc (Nat.le_refl _) _).alloc (by simp) _).trans (g1.mono (by simp <;> omega))
  have h1 : w1.heap[w.heap.size]? = some (.cells c 39 (0, 0)) := (g1.block _ (by simp <;> omega)).trans (rows2 w _ _).1
  have r0 : w1.cell? ⟨w.heap.size + 1, 0, none⟩ = some (.int .i64 1) := by rw [g1.cell (by simp)]; exact (cell_of_row _ _ _ _ _ _ (rows2 w _ _).2).trans rfl
  clear g1
  have r1 : w1.cell? ⟨w.heap.size, 0, none⟩ = some (.int .u32 x) := by rw [cell_of_row _ _ _ _ _ _ h1]; exact hx
  go_wp2_with fail
  refine (lbit x _ _ h0 (by omega) q0 (by omega)).mono ?_
  rintro e w2 ⟨rfl, rfl⟩
  go_wp2
  go_ret
  exact ⟨rfl, b1⟩

set_option maxHeartbeats 1000000 in
theorem bit2_s (c : Array Value) (hc : MemOk c) (n p : Int) (w : World) : Calls Tryz.prog 224 #[.agg c, .agg #[.int .i64 2, .int .i64 n, .int .i64 p]] w fun e w' => e = .returned (.bool (btest (word c 1) (pl 2 n))) ∧ Below w.heap.size w w' := by
  obtain ⟨x, hx, h0, h1x⟩ := hc.u32 (i := 1) (by omega) rfl
  rw [word_of hx]
  obtain ⟨q0, q1⟩ := pl_lt 2 n (by decide)
  rw [show kZ 2 = 32 from rfl] at q1
  have HC : Hid (MemOk c) := hc
  clear hc
  go_enter Tryz.func224, Tryz.ntmps224
  go_wp2_with fail
  refine (at_r _ _ _ _).mono ?_
  rintro e w1 ⟨rfl, g1⟩
  have b1 : Below w.heap.size w w1 := (((Below.refl _ _).alloc (Nat.le_refl _) _).alloc (by simp) _).trans (g1.mono (by simp <;> omega))
  have h1 : w1.heap[w.heap.size]? = some (.cells c 39 (0, 0)) := (g1.block _ (by simp <;> omega)).trans (rows2 w _ _).1
  have r0 : w1.cell? ⟨w.heap.size + 1, 0, none⟩ = some (.int .i64 2) := by rw [g1.cell (by simp)]; exact (cell_of_row _ _ _ _ _ _ (rows2 w _ _).2).trans rfl
  clear g1
  have r1 : w1.cell? ⟨w.heap.size, 1, none⟩ = some (.int .u32 x) := by rw [cell_of_row _ _ _ _ _ _ h1]; exact hx
  go_wp2_with fail
  refine (lbit x _ _ h0 (by omega) q0 (by omega)).mono ?_
  rintro e w2 ⟨rfl, rfl⟩
  go_wp2
  go_ret
  exact ⟨rfl, b1⟩

set_option maxHeartbeats 1000000 in
theorem bit3_s (c : Array Value) (hc : MemOk c) (n p : Int) (w : World) : Calls Tryz.prog 224 #[.agg c, .agg #[.int .i64 3, .int .i64 n, .int .i64 p]] w fun e w' => e = .returned (.bool (btest (word c 2) (pl 3 n))) ∧ Below w.heap.size w w' := by
  obtain ⟨x, hx, h0, h1x⟩ := hc.u64 (i := 2) (by omega) rfl
  rw [word_of hx]
  obtain ⟨q0, q1⟩ := pl_lt 3 n (by decide)
  rw [show kZ 3 = 64 from rfl] at q1
  have HC : Hid (MemOk c) := hc
  clear hc
  go_enter Tryz.func224, Tryz.ntmps224
  go_wp2_with fail
  refine (at_r _ _ _ _).mono ?_
  rintro e w1 ⟨rfl, g1⟩
  have b1 : Below w.heap.size w w1 := (((Below.refl _ _).alloc (Nat.le_refl _) _).alloc (by simp) _).trans (g1.mono (by simp <;> omega))
  have h1 : w1.heap[w.heap.size]? = some (.cells c 39 (0, 0)) := (g1.block _ (by simp <;> omega)).trans (rows2 w _ _).1
  have r0 : w1.cell? ⟨w.heap.size + 1, 0, none⟩ = some (.int .i64 3) := by rw [g1.cell (by simp)]; exact (cell_of_row _ _ _ _ _ _ (rows2 w _ _).2).trans rfl
  clear g1
  have r1 : w1.cell? ⟨w.heap.size, 2, none⟩ = some (.int .u64 x) := by rw [cell_of_row _ _ _ _ _ _ h1]; exact hx
  go_wp2_with fail
  refine (lbit x _ _ h0 (by omega) q0 (by omega)).mono ?_
  rintro e w2 ⟨rfl, rfl⟩
  go_wp2
  go_ret
  exact ⟨rfl, b1⟩

set_option maxHeartbeats 1000000 in
theorem bit4_s (c : Array Value) (hc : MemOk c) (n p : Int) (w : World) : Calls Tryz.prog 224 #[.agg c, .agg #[.int .i64 4, .int .i64 n, .int .i64 p]] w fun e w' => e = .returned (.bool (btest (word c 3) (pl 4 n))) ∧ Below w.heap.size w w' := by
  obtain ⟨x, hx, h0, h1x⟩ := hc.u16 (i := 3) (by omega) rfl
  rw [word_of hx]
  obtain ⟨q0, q1⟩ := pl_lt 4 n (by decide)
  rw [show kZ 4 = 16 from rfl] at q1
  have HC : Hid (MemOk c) := hc
  clear hc
  go_enter Tryz.func224, Tryz.ntmps224
  go_wp2_with fail
  refine (at_r _ _ _ _).mono ?_
  rintro e w1 ⟨rfl, g1⟩
  have b1 : Below w.heap.size w w1 := (((Below.refl _ _).alloc (Nat.le_refl _) _).alloc (by simp) _).trans (g1.mono (by simp <;> omega))
  have h1 : w1.heap[w.heap.size]? = some (.cells c 39 (0, 0)) := (g1.block _ (by simp <;> omega)).trans (rows2 w _ _).1
  have r0 : w1.cell? ⟨w.heap.size + 1, 0, none⟩ = some (.int .i64 4) := by rw [g1.cell (by simp)]; exact (cell_of_row _ _ _ _ _ _ (rows2 w _ _).2).trans rfl
  clear g1
  have r1 : w1.cell? ⟨w.heap.size, 3, none⟩ = some (.int .u16 x) := by rw [cell_of_row _ _ _ _ _ _ h1]; exact hx
  go_wp2_with fail
  refine (lbit x _ _ h0 (by omega) q0 (by omega)).mono ?_
  rintro e w2 ⟨rfl, rfl⟩
  go_wp2
  go_ret
  exact ⟨rfl, b1⟩

set_option maxHeartbeats 1000000 in
theorem bit5_s (c : Array Value) (hc : MemOk c) (n p : Int) (w : World) : Calls Tryz.prog 224 #[.agg c, .agg #[.int .i64 5, .int .i64 n, .int .i64 p]] w fun e w' => e = .returned (.bool (btest (word c 4) (pl 5 n))) ∧ Below w.heap.size w w' := by
  obtain ⟨x, hx, h0, h1x⟩ := hc.u32 (i := 4) (by omega) rfl
  rw [word_of hx]
  obtain ⟨q0, q1⟩ := pl_lt 5 n (by decide)
  rw [show kZ 5 = 32 from rfl] at q1
  have HC : Hid (MemOk c) := hc
  clear hc
  go_enter Tryz.func224, Tryz.ntmps224
  go_wp2_with fail
  refine (at_r _ _ _ _).mono ?_
  rintro e w1 ⟨rfl, g1⟩
  have b1 : Below w.heap.size w w1 := (((Below.refl _ _).alloc (Nat.le_refl _) _).alloc (by simp) _).trans (g1.mono (by simp <;> omega))
  have h1 : w1.heap[w.heap.size]? = some (.cells c 39 (0, 0)) := (g1.block _ (by simp <;> omega)).trans (rows2 w _ _).1
  have r0 : w1.cell? ⟨w.heap.size + 1, 0, none⟩ = some (.int .i64 5) := by rw [g1.cell (by simp)]; exact (cell_of_row _ _ _ _ _ _ (rows2 w _ _).2).trans rfl
  clear g1
  have r1 : w1.cell? ⟨w.heap.size, 4, none⟩ = some (.int .u32 x) := by rw [cell_of_row _ _ _ _ _ _ h1]; exact hx
  go_wp2_with fail
  refine (lbit x _ _ h0 (by omega) q0 (by omega)).mono ?_
  rintro e w2 ⟨rfl, rfl⟩
  go_wp2
  go_ret
  exact ⟨rfl, b1⟩

set_option maxHeartbeats 1000000 in
theorem bit6_s (c : Array Value) (hc : MemOk c) (n p : Int) (w : World) : Calls Tryz.prog 224 #[.agg c, .agg #[.int .i64 6, .int .i64 n, .int .i64 p]] w fun e w' => e = .returned (.bool (given c (pl 6 n))) ∧ Below w.heap.size w w' := by
  have HC : Hid (MemOk c) := hc
  clear hc
  have HI : Hid ((Tryz.prog.info? 39).map (·.size) = some c.size) := by rw [HC.out.size]; exact zero_mem.2
  go_enter Tryz.func224, Tryz.ntmps224
  go_wp2_with fail
  refine (at_r _ _ _ _).mono ?_
  rintro e w1 ⟨rfl, g1⟩
  have b1 : Below w.heap.size w w1 := (((Below.refl _ _).alloc (Nat.le_refl _) _).alloc (by simp) _).trans (g1.mono (by simp <;> omega))
  have h1 : w1.heap[w.heap.size]? = some (.cells c 39 (0, 0)) := (g1.block _ (by simp <;> omega)).trans (rows2 w _ _).1
  have r0 : w1.cell? ⟨w.heap.size + 1, 0, none⟩ = some (.int .i64 6) := by rw [g1.cell (by simp)]; exact (cell_of_row _ _ _ _ _ _ (rows2 w _ _).2).trans rfl
  clear g1
  go_wp2_with (first | (refine wpL_load rfl 39 _ rfl _ _ rfl _ (load_all h1 _ _ Tryz.underlying39 rfl HI.out) ?_) | fail)
  refine (given_s c HC.out _ _).mono ?_
  rintro e w2 ⟨rfl, g2⟩
  have b2 := b1.trans (g2.mono b1.size)
  go_wp2
  go_ret
  exact ⟨rfl, b2⟩

set_option maxHeartbeats 1000000 in
theorem bit7_s (c : Array Value) (hc : MemOk c) (n p : Int) (w : World) : Calls Tryz.prog 224 #[.agg c, .agg #[.int .i64 7, .int .i64 n, .int .i64 p]] w fun e w' => e = .returned (.bool (flag c (5 + 2 * (pl 7 n).toNat))) ∧ Below w.heap.size w w' := by
  obtain ⟨q0, q1⟩ := pl_lt 7 n (by decide)
  rw [show kZ 7 = 16 from rfl] at q1
  obtain ⟨q, hq⟩ : ∃ q : Nat, pl 7 n = q := ⟨(pl 7 n).toNat, by omega⟩
  rw [hq] at q0 q1
  rw [hq, Int.toNat_natCast]
  have hq16 : q < 16 := by omega
  obtain ⟨x, hx⟩ := hc.bool (i := 5 + 2 * q) (by omega) (kd_t hq16).1
  rw [flag_of hx]
  have HC : Hid (MemOk c) := hc
  clear hc
  go_enter Tryz.func224, Tryz.ntmps224
  go_wp2_with fail
  refine (at_r _ _ _ _).mono ?_
  rintro e w1 ⟨rfl, g1⟩
  have b1 : Below w.heap.size w w1 := (((Below.refl _ _).alloc (Nat.le_refl _) _).alloc (by simp) _).trans (g1.mono (by simp <;> omega))
  have h1 : w1.heap[w.heap.size]? = some (.cells c 39 (0, 0)) := (g1.block _ (by simp <;> omega)).trans (rows2 w _ _).1
  have r0 : w1.cell? ⟨w.heap.size + 1, 0, none⟩ = some (.int .i64 7) := by rw [g1.cell (by simp)]; exact (cell_of_row _ _ _ _ _ _ (rows2 w _ _).2).trans rfl
  clear g1
  have r1 : w1.cell? ⟨w.heap.size, 5 + q * 2, none⟩ = some (.bool x) := by rw [cell_of_row _ _ _ _ _ _ h1, Nat.mul_comm]; exact hx
  rw [hq]
  clear hq
  go_wp2
  go_ret
  exact ⟨rfl, b1⟩

set_option maxHeartbeats 1000000 in
theorem bit8_s (c : Array Value) (hc : MemOk c) (n p : Int) (w : World) : Calls Tryz.prog 224 #[.agg c, .agg #[.int .i64 8, .int .i64 n, .int .i64 p]] w fun e w' => e = .returned (.bool (flag c (37 + 3 * (pl 8 n).toNat))) ∧ Below w.heap.size w w' := by
  obtain ⟨q0, q1⟩ := pl_lt 8 n (by decide)
  rw [show kZ 8 = 16 from rfl] at q1
  obtain ⟨q, hq⟩ : ∃ q : Nat, pl 8 n = q := ⟨(pl 8 n).toNat, by omega⟩
  rw [hq] at q0 q1
  rw [hq, Int.toNat_natCast]
  have hq16 : q < 16 := by omega
  obtain ⟨x, hx⟩ := hc.bool (i := 37 + 3 * q) (by omega) (kd_c hq16).1
  rw [flag_of hx]
  have HC : Hid (MemOk c) := hc
  clear hc
  go_enter Tryz.func224, Tryz.ntmps224
  go_wp2_with fail
  refine (at_r _ _ _ _).mono ?_
  rintro e w1 ⟨rfl, g1⟩
  have b1 : Below w.heap.size w w1 := (((Below.refl _ _).alloc (Nat.le_refl _) _).alloc (by simp) _).trans (g1.mono (by simp <;> omega))
  have h1 : w1.heap[w.heap.size]? = some (.cells c 39 (0, 0)) := (g1.block _ (by simp <;> omega)).trans (rows2 w _ _).1
  have r0 : w1.cell? ⟨w.heap.size + 1, 0, none⟩ = some (.int .i64 8) := by rw [g1.cell (by simp)]; exact (cell_of_row _ _ _ _ _ _ (rows2 w _ _).2).trans rfl
  clear g1
  have r1 : w1.cell? ⟨w.heap.size, 37 + q * 3, none⟩ = some (.bool x) := by rw [cell_of_row _ _ _ _ _ _ h1, Nat.mul_comm]; exact hx
  rw [hq]
  clear hq
  go_wp2
  go_ret
  exact ⟨rfl, b1⟩

set_option maxHeartbeats 1000000 in
theorem bit0_s (c : Array Value) (k n p : Int) (hk : k ≤ 0 ∨ 9 ≤ k) (w : World) : Calls Tryz.prog 224 #[.agg c, .agg #[.int .i64 k, .int .i64 n, .int .i64 p]] w fun e w' => e = .returned (.bool false) ∧ Below w.heap.size w w' := by
  have n1 : (k == 1) = false := by simp; omega
  have n2 : (k == 2) = false := by simp; omega
  have n3 : (k == 3) = false := by simp; omega
  have n4 : (k == 4) = false := by simp; omega
  have n5 : (k == 5) = false := by simp; omega
  have n6 : (k == 6) = false := by simp; omega
  have n7 : (k == 7) = false := by simp; omega
  have n8 : (k == 8) = false := by simp; omega
  clear hk
  go_enter Tryz.func224, Tryz.ntmps224
  go_wp2_with fail
  refine (at_r _ _ _ _).mono ?_
  rintro e w1 ⟨rfl, g1⟩
  have b1 : Below w.heap.size w w1 := (((Below.refl _ _).alloc (Nat.le_refl _) _).alloc (by simp) _).trans (g1.mono (by simp <;> omega))
  have h1 : w1.heap[w.heap.size]? = some (.cells c 39 (0, 0)) := (g1.block _ (by simp <;> omega)).trans (rows2 w _ _).1
  have r0 : w1.cell? ⟨w.heap.size + 1, 0, none⟩ = some (.int .i64 k) := by rw [g1.cell (by simp)]; exact (cell_of_row _ _ _ _ _ _ (rows2 w _ _).2).trans rfl
  clear g1
  go_wp2
  go_ret
  exact ⟨rfl, b1⟩

theorem mbit_s (c : Array Value) (hc : MemOk c) (k n p : Int) (w : World) : Calls Tryz.prog 224 #[.agg c, .agg #[.int .i64 k, .int .i64 n, .int .i64 p]] w fun e w' => e = .returned (.bool (mbit c k n)) ∧ Below w.heap.size w w' := by
  rcases (by omega : (k ≤ 0 ∨ 9 ≤ k) ∨ k = 1 ∨ k = 2 ∨ k = 3 ∨ k = 4 ∨ k = 5 ∨ k = 6 ∨ k = 7 ∨ k = 8) with h | rfl | rfl | rfl | rfl | rfl | rfl | rfl | rfl
  · have : mbit c k n = false := by
      unfold mbit
      rw [if_neg (by omega), if_neg (by omega), if_neg (by omega), if_neg (by omega), if_neg (by omega), if_neg (by omega), if_neg (by omega), if_neg (by omega)]
    rw [this]
    exact bit0_s c k n p h w
  · exact bit1_s c hc n p w
  · exact bit2_s c hc n p w
  · exact bit3_s c hc n p w
  · exact bit4_s c hc n p w
  · exact bit5_s c hc n p w
  · exact bit6_s c hc n p w
  · exact bit7_s c hc n p w
  · exact bit8_s c hc n p w
end Go.Proofs.YtlgacbjopobeoaaGreatDoor
/- MemWhole, the program's and the specification's. -/
namespace Go.Proofs.YtlgacbjopobeoaaGreatDoor
open Go.RowKit Go.Shelf
set_option linter.unusedVariables false

/-- A count as a whole number. -/
def least (n : Int) : Int := if n > 32767 then 32767 else n

/-- The whole number that an operand asks for. -/
def mwhole (c : Array Value) (k n : Int) : Int :=
  if k = 7 then least (word c (5 + 2 * (pl k n).toNat + 1)) else if k = 8 then least (word c (37 + 3 * (pl k n).toNat + 2)) else if k = 9 then word c (85 + (pl k n).toNat) else if k = 11 then IntKind.i16.wrap n else 0

theorem wrap_small (n : Int) (h0 : 0 ≤ n) (h1 : n ≤ 32767) : IntKind.i16.wrap n = n := by
  simp [IntKind.wrap, IntKind.bits, IntKind.signed]
  omega

set_option maxHeartbeats 1000000 in
theorem least_i (n : Int) (h0 : 0 ≤ n) (h1 : n < 65536) (w : World) : Calls Tryz.prog 341 #[.int .u16 n] w fun e w' => e = .returned (.int .i16 (least n)) ∧ w' = w := by
  unfold least
  by_cases h : n > 32767
  · rw [if_pos h]
    have hm : min n 32767 = 32767 := by omega
    go_enter Tryz.func341, Tryz.ntmps341
    go_wp2
    go_ret
    exact ⟨rfl, rfl⟩
  · rw [if_neg h]
    have hm : min n 32767 = n := by omega
    have hh : n ≤ 32767 := by omega
    go_enter Tryz.func341, Tryz.ntmps341
    go_wp2
    go_ret
    exact ⟨rfl, rfl⟩

set_option maxHeartbeats 1000000 in
theorem least_s (n : Int) (h0 : 0 ≤ n) (h1 : n < 65536) (w : World) : Calls Tryz.prog 261 #[.int .u16 n] w fun e w' => e = .returned (.int .i16 (least n)) ∧ w' = w := by
  unfold least
  by_cases h : n > 32767
  · rw [if_pos h]
    have hh3 : 32767 < n := by omega
    go_enter Tryz.func261, Tryz.ntmps261
    go_wp2
    go_ret
    exact ⟨rfl, rfl⟩
  · rw [if_neg h]
    have hh : n ≤ 32767 := by omega
    have hh3 : ¬ (32767 < n) := by omega
    have hw := wrap_small n h0 hh
    go_enter Tryz.func261, Tryz.ntmps261
    go_wp2
    go_ret
    exact ⟨rfl, rfl⟩

theorem wrap16 (n : Int) : IntKind.i16.wrap n = (n + 32768) % 65536 - 32768 := by
  simp only [IntKind.wrap, IntKind.bits, IntKind.signed]
  simp
  split <;> omega

set_option maxHeartbeats 1000000 in
theorem wrap_r (n : Int) (w : World) :
    Calls Tryz.prog 81 #[.int .i64 n] w fun e w' => e = .returned (.int .i16 (IntKind.i16.wrap n)) ∧ w' = w := by
  have e0 := Int.tmod_add_mul_tdiv n 65536
  have e1 : (n.tmod 65536).natAbs < 65536 := by rw [Int.natAbs_tmod]; exact Nat.mod_lt _ (by decide)
  obtain ⟨t, Ht⟩ : ∃ t, Hid (t = n.tmod 65536) := ⟨_, rfl⟩
  have e2 : n.tmod 65536 = t := Ht.out.symm
  rw [e2] at e0 e1
  have f1 : -65536 < t := by omega
  have f2 : t < 65536 := by omega
  obtain ⟨X, HX⟩ : ∃ X, Hid (X = IntKind.i16.wrap n) := ⟨_, rfl⟩
  rw [← HX.out]
  by_cases c1 : t < -32768
  · have HK : Hid (t + 65536 = X) := by
      have := HX.out
      rw [wrap16] at this
      show t + 65536 = X
      omega
    clear HX e0 e1 Ht
    go_enter Tryz.func81, Tryz.ntmps81
    go_wp2
    go_ret
    exact ⟨by rw [← HK.out]; rfl, rfl⟩
  · by_cases c2 : 32767 < t
    · have HK : Hid (t - 65536 = X) := by
        have := HX.out
        rw [wrap16] at this
        show t - 65536 = X
        omega
      clear HX e0 e1 Ht
      go_enter Tryz.func81, Tryz.ntmps81
      go_wp2
      go_ret
      exact ⟨by rw [← HK.out]; rfl, rfl⟩
    · have HK : Hid (t = X) := by
        have := HX.out
        rw [wrap16] at this
        show t = X
        omega
      clear HX e0 e1 Ht
      go_enter Tryz.func81, Tryz.ntmps81
      go_wp2
      go_ret
      exact ⟨by rw [← HK.out]; rfl, rfl⟩



set_option maxHeartbeats 1000000 in
theorem whole7_i (c : Array Value) (hc : MemOk c) (n p : Int) (w : World) (hT : KT w) : Calls Tryz.prog 337 #[.agg c, .agg #[.int .i64 7, .int .i64 n, .int .i64 p]] w fun e w' => e = .returned (.int .i16 (least (word c (5 + 2 * (pl 7 n).toNat + 1)))) ∧ Below w.heap.size w w' := by
  have HT : Hid (KT w) := hT
  clear hT
  obtain ⟨q0, q1⟩ := pl_lt 7 n (by decide)
  rw [show kZ 7 = 16 from rfl] at q1
  obtain ⟨q, hq⟩ : ∃ q : Nat, pl 7 n = q := ⟨(pl 7 n).toNat, by omega⟩
  rw [hq] at q0 q1
  rw [hq, Int.toNat_natCast]
  have hq16 : q < 16 := by omega
  obtain ⟨x, hx, x0, x1⟩ := hc.u16 (i := 5 + 2 * q + 1) (by omega) (kd_t hq16).2
  rw [word_of hx]
  have HC : Hid (MemOk c) := hc
  clear hc
  go_enter Tryz.func337, Tryz.ntmps337
  go_wp2_with fail
  refine (place_r _ _ _ _ ((HT.out.alloc _).alloc _)).mono ?_
  rintro e w1 ⟨rfl, g1⟩
  have b1 : Below w.heap.size w w1 := (((Below.refl _ _).alloc (Nat.le_refl _) _).alloc (by simp) _).trans (g1.mono (by simp <;> omega))
  have h1 : w1.heap[w.heap.size]? = some (.cells c 39 (0, 0)) := (g1.block _ (by simp <;> omega)).trans (rows2 w _ _).1
  have r0 : w1.cell? ⟨w.heap.size + 1, 0, none⟩ = some (.int .i64 7) := by rw [g1.cell (by simp)]; exact (cell_of_row _ _ _ _ _ _ (rows2 w _ _).2).trans rfl
  have rn : w1.cell? ⟨w.heap.size + 1, 1, none⟩ = some (.int .i64 n) := by rw [g1.cell (by simp)]; exact (cell_of_row _ _ _ _ _ _ (rows2 w _ _).2).trans rfl
  clear g1
  have r1 : w1.cell? ⟨w.heap.size, 5 + q * 2 + 1, none⟩ = some (.int .u16 x) := by rw [cell_of_row _ _ _ _ _ _ h1, Nat.mul_comm]; exact hx
  rw [hq]
  clear hq
  go_wp2_with fail
  refine (least_i x x0 x1 _).mono ?_
  rintro e w2 ⟨rfl, rfl⟩
  go_wp2
  go_ret
  exact ⟨rfl, b1⟩

set_option maxHeartbeats 1000000 in
theorem whole8_i (c : Array Value) (hc : MemOk c) (n p : Int) (w : World) (hT : KT w) : Calls Tryz.prog 337 #[.agg c, .agg #[.int .i64 8, .int .i64 n, .int .i64 p]] w fun e w' => e = .returned (.int .i16 (least (word c (37 + 3 * (pl 8 n).toNat + 2)))) ∧ Below w.heap.size w w' := by
  have HT : Hid (KT w) := hT
  clear hT
  obtain ⟨q0, q1⟩ := pl_lt 8 n (by decide)
  rw [show kZ 8 = 16 from rfl] at q1
  obtain ⟨q, hq⟩ : ∃ q : Nat, pl 8 n = q := ⟨(pl 8 n).toNat, by omega⟩
  rw [hq] at q0 q1
  rw [hq, Int.toNat_natCast]
  have hq16 : q < 16 := by omega
  obtain ⟨x, hx, x0, x1⟩ := hc.u16 (i := 37 + 3 * q + 2) (by omega) (kd_c hq16).2.2
  rw [word_of hx]
  have HC : Hid (MemOk c) := hc
  clear hc
  go_enter Tryz.func337, Tryz.ntmps337
  go_wp2_with fail
  refine (place_r _ _ _ _ ((HT.out.alloc _).alloc _)).mono ?_
  rintro e w1 ⟨rfl, g1⟩
  have b1 : Below w.heap.size w w1 := (((Below.refl _ _).alloc (Nat.le_refl _) _).alloc (by simp) _).trans (g1.mono (by simp <;> omega))
  have h1 : w1.heap[w.heap.size]? = some (.cells c 39 (0, 0)) := (g1.block _ (by simp <;> omega)).trans (rows2 w _ _).1
  have r0 : w1.cell? ⟨w.heap.size + 1, 0, none⟩ = some (.int .i64 8) := by rw [g1.cell (by simp)]; exact (cell_of_row _ _ _ _ _ _ (rows2 w _ _).2).trans rfl
  have rn : w1.cell? ⟨w.heap.size + 1, 1, none⟩ = some (.int .i64 n) := by rw [g1.cell (by simp)]; exact (cell_of_row _ _ _ _ _ _ (rows2 w _ _).2).trans rfl
  clear g1
  have r1 : w1.cell? ⟨w.heap.size, 37 + q * 3 + 2, none⟩ = some (.int .u16 x) := by rw [cell_of_row _ _ _ _ _ _ h1, Nat.mul_comm]; exact hx
  rw [hq]
  clear hq
  go_wp2_with fail
  refine (least_i x x0 x1 _).mono ?_
  rintro e w2 ⟨rfl, rfl⟩
  go_wp2
  go_ret
  exact ⟨rfl, b1⟩

set_option maxHeartbeats 1000000 in
theorem whole9_i (c : Array Value) (hc : MemOk c) (n p : Int) (w : World) (hT : KT w) : Calls Tryz.prog 337 #[.agg c, .agg #[.int .i64 9, .int .i64 n, .int .i64 p]] w fun e w' => e = .returned (.int .i16 (word c (85 + (pl 9 n).toNat))) ∧ Below w.heap.size w w' := by
  have HT : Hid (KT w) := hT
  clear hT
  obtain ⟨q0, q1⟩ := pl_lt 9 n (by decide)
  rw [show kZ 9 = 32 from rfl] at q1
  obtain ⟨q, hq⟩ : ∃ q : Nat, pl 9 n = q := ⟨(pl 9 n).toNat, by omega⟩
  rw [hq] at q0 q1
  rw [hq, Int.toNat_natCast]
  have hq16 : q < 32 := by omega
  obtain ⟨x, hx, x0, x1⟩ := hc.i16 (i := 85 + q) (by omega) (kd_d hq16)
  rw [word_of hx]
  have HC : Hid (MemOk c) := hc
  clear hc
  go_enter Tryz.func337, Tryz.ntmps337
  go_wp2_with fail
  refine (place_r _ _ _ _ ((HT.out.alloc _).alloc _)).mono ?_
  rintro e w1 ⟨rfl, g1⟩
  have b1 : Below w.heap.size w w1 := (((Below.refl _ _).alloc (Nat.le_refl _) _).alloc (by simp) _).trans (g1.mono (by simp <;> omega))
  have h1 : w1.heap[w.heap.size]? = some (.cells c 39 (0, 0)) := (g1.block _ (by simp <;> omega)).trans (rows2 w _ _).1
  have r0 : w1.cell? ⟨w.heap.size + 1, 0, none⟩ = some (.int .i64 9) := by rw [g1.cell (by simp)]; exact (cell_of_row _ _ _ _ _ _ (rows2 w _ _).2).trans rfl
  have rn : w1.cell? ⟨w.heap.size + 1, 1, none⟩ = some (.int .i64 n) := by rw [g1.cell (by simp)]; exact (cell_of_row _ _ _ _ _ _ (rows2 w _ _).2).trans rfl
  clear g1
  have r1 : w1.cell? ⟨w.heap.size, 85 + q, none⟩ = some (.int .i16 x) := by rw [cell_of_row _ _ _ _ _ _ h1]; exact hx
  rw [hq]
  clear hq
  go_wp2
  go_ret
  exact ⟨rfl, b1⟩

set_option maxHeartbeats 1000000 in
theorem whole11_i (c : Array Value) (n p : Int) (w : World) (hT : KT w) : Calls Tryz.prog 337 #[.agg c, .agg #[.int .i64 11, .int .i64 n, .int .i64 p]] w fun e w' => e = .returned (.int .i16 (IntKind.i16.wrap n)) ∧ Below w.heap.size w w' := by
  have HT : Hid (KT w) := hT
  clear hT
  go_enter Tryz.func337, Tryz.ntmps337
  go_wp2_with fail
  refine (place_r _ _ _ _ ((HT.out.alloc _).alloc _)).mono ?_
  rintro e w1 ⟨rfl, g1⟩
  have b1 : Below w.heap.size w w1 := (((Below.refl _ _).alloc (Nat.le_refl _) _).alloc (by simp) _).trans (g1.mono (by simp <;> omega))
  have h1 : w1.heap[w.heap.size]? = some (.cells c 39 (0, 0)) := (g1.block _ (by simp <;> omega)).trans (rows2 w _ _).1
  have r0 : w1.cell? ⟨w.heap.size + 1, 0, none⟩ = some (.int .i64 11) := by rw [g1.cell (by simp)]; exact (cell_of_row _ _ _ _ _ _ (rows2 w _ _).2).trans rfl
  have rn : w1.cell? ⟨w.heap.size + 1, 1, none⟩ = some (.int .i64 n) := by rw [g1.cell (by simp)]; exact (cell_of_row _ _ _ _ _ _ (rows2 w _ _).2).trans rfl
  clear g1
  go_wp2
  go_ret
  exact ⟨rfl, b1⟩

set_option maxHeartbeats 1000000 in
theorem whole0_i (c : Array Value) (k n p : Int) (h7 : k ≠ 7) (h8 : k ≠ 8) (h9 : k ≠ 9) (h11 : k ≠ 11) (w : World) (hT : KT w) : Calls Tryz.prog 337 #[.agg c, .agg #[.int .i64 k, .int .i64 n, .int .i64 p]] w fun e w' => e = .returned (.int .i16 0) ∧ Below w.heap.size w w' := by
  have HT : Hid (KT w) := hT
  clear hT
  have n7 : (k == 7) = false := by simp [h7]
  have n8 : (k == 8) = false := by simp [h8]
  have n9 : (k == 9) = false := by simp [h9]
  have n11 : (k == 11) = false := by simp [h11]
  clear h7 h8 h9 h11
  go_enter Tryz.func337, Tryz.ntmps337
  go_wp2_with fail
  refine (place_r _ _ _ _ ((HT.out.alloc _).alloc _)).mono ?_
  rintro e w1 ⟨rfl, g1⟩
  have b1 : Below w.heap.size w w1 := (((Below.refl _ _).alloc (Nat.le_refl _) _).alloc (by simp) _).trans (g1.mono (by simp <;> omega))
  have h1 : w1.heap[w.heap.size]? = some (.cells c 39 (0, 0)) := (g1.block _ (by simp <;> omega)).trans (rows2 w _ _).1
  have r0 : w1.cell? ⟨w.heap.size + 1, 0, none⟩ = some (.int .i64 k) := by rw [g1.cell (by simp)]; exact (cell_of_row _ _ _ _ _ _ (rows2 w _ _).2).trans rfl
  have rn : w1.cell? ⟨w.heap.size + 1, 1, none⟩ = some (.int .i64 n) := by rw [g1.cell (by simp)]; exact (cell_of_row _ _ _ _ _ _ (rows2 w _ _).2).trans rfl
  clear g1
  go_wp2
  go_ret
  exact ⟨rfl, b1⟩

theorem mwhole_i (c : Array Value) (hc : MemOk c) (k n p : Int) (w : World) (hT : KT w) : Calls Tryz.prog 337 #[.agg c, .agg #[.int .i64 k, .int .i64 n, .int .i64 p]] w fun e w' => e = .returned (.int .i16 (mwhole c k n)) ∧ Below w.heap.size w w' := by
  by_cases h7 : k = 7
  · subst h7; exact whole7_i c hc n p w hT
  by_cases h8 : k = 8
  · subst h8; exact whole8_i c hc n p w hT
  by_cases h9 : k = 9
  · subst h9; exact whole9_i c hc n p w hT
  by_cases h11 : k = 11
  · subst h11; exact whole11_i c n p w hT
  have : mwhole c k n = 0 := by
    unfold mwhole
    rw [if_neg h7, if_neg h8, if_neg h9, if_neg h11]
  rw [this]
  exact whole0_i c k n p h7 h8 h9 h11 w hT

set_option maxHeartbeats 1000000 in
theorem whole7_s (c : Array Value) (hc : MemOk c) (n p : Int) (w : World) : Calls Tryz.prog 229 #[.agg c, .agg #[.int .i64 7, .int .i64 n, .int .i64 p]] w fun e w' => e = .returned (.int .i16 (least (word c (5 + 2 * (pl 7 n).toNat + 1)))) ∧ Below w.heap.size w w' := by
  obtain ⟨q0, q1⟩ := pl_lt 7 n (by decide)
  rw [show kZ 7 = 16 from rfl] at q1
  obtain ⟨q, hq⟩ : ∃ q : Nat, pl 7 n = q := ⟨(pl 7 n).toNat, by omega⟩
  rw [hq] at q0 q1
  rw [hq, Int.toNat_natCast]
  have hq16 : q < 16 := by omega
  obtain ⟨x, hx, x0, x1⟩ := hc.u16 (i := 5 + 2 * q + 1) (by omega) (kd_t hq16).2
  rw [word_of hx]
  have HC : Hid (MemOk c) := hc
  clear hc
  go_enter Tryz.func229, Tryz.ntmps229
  go_wp2_with fail
  refine (at_r _ _ _ _).mono ?_
  rintro e w1 ⟨rfl, g1⟩
  have b1 : Below w.heap.size w w1 := (((Below.refl _ _).alloc (Nat.le_refl _) _).alloc (by simp) _).trans (g1.mono (by simp <;> omega))
  have h1 : w1.heap[w.heap.size]? = some (.cells c 39 (0, 0)) := (g1.block _ (by simp <;> omega)).trans (rows2 w _ _).1
  have r0 : w1.cell? ⟨w.heap.size + 1, 0, none⟩ = some (.int .i64 7) := by rw [g1.cell (by simp)]; exact (cell_of_row _ _ _ _ _ _ (rows2 w _ _).2).trans rfl
  have rn : w1.cell? ⟨w.heap.size + 1, 1, none⟩ = some (.int .i64 n) := by rw [g1.cell (by simp)]; exact (cell_of_row _ _ _ _ _ _ (rows2 w _ _).2).trans rfl
  clear g1
  have r1 : w1.cell? ⟨w.heap.size, 5 + q * 2 + 1, none⟩ = some (.int .u16 x) := by rw [cell_of_row _ _ _ _ _ _ h1, Nat.mul_comm]; exact hx
  rw [hq]
  clear hq
  go_wp2_with fail
  refine (least_s x x0 x1 _).mono ?_
  rintro e w2 ⟨rfl, rfl⟩
  go_wp2
  go_ret
  exact ⟨rfl, b1⟩

set_option maxHeartbeats 1000000 in
theorem whole8_s (c : Array Value) (hc : MemOk c) (n p : Int) (w : World) : Calls Tryz.prog 229 #[.agg c, .agg #[.int .i64 8, .int .i64 n, .int .i64 p]] w fun e w' => e = .returned (.int .i16 (least (word c (37 + 3 * (pl 8 n).toNat + 2)))) ∧ Below w.heap.size w w' := by
  obtain ⟨q0, q1⟩ := pl_lt 8 n (by decide)
  rw [show kZ 8 = 16 from rfl] at q1
  obtain ⟨q, hq⟩ : ∃ q : Nat, pl 8 n = q := ⟨(pl 8 n).toNat, by omega⟩
  rw [hq] at q0 q1
  rw [hq, Int.toNat_natCast]
  have hq16 : q < 16 := by omega
  obtain ⟨x, hx, x0, x1⟩ := hc.u16 (i := 37 + 3 * q + 2) (by omega) (kd_c hq16).2.2
  rw [word_of hx]
  have HC : Hid (MemOk c) := hc
  clear hc
  go_enter Tryz.func229, Tryz.ntmps229
  go_wp2_with fail
  refine (at_r _ _ _ _).mono ?_
  rintro e w1 ⟨rfl, g1⟩
  have b1 : Below w.heap.size w w1 := (((Below.refl _ _).alloc (Nat.le_refl _) _).alloc (by simp) _).trans (g1.mono (by simp <;> omega))
  have h1 : w1.heap[w.heap.size]? = some (.cells c 39 (0, 0)) := (g1.block _ (by simp <;> omega)).trans (rows2 w _ _).1
  have r0 : w1.cell? ⟨w.heap.size + 1, 0, none⟩ = some (.int .i64 8) := by rw [g1.cell (by simp)]; exact (cell_of_row _ _ _ _ _ _ (rows2 w _ _).2).trans rfl
  have rn : w1.cell? ⟨w.heap.size + 1, 1, none⟩ = some (.int .i64 n) := by rw [g1.cell (by simp)]; exact (cell_of_row _ _ _ _ _ _ (rows2 w _ _).2).trans rfl
  clear g1
  have r1 : w1.cell? ⟨w.heap.size, 37 + q * 3 + 2, none⟩ = some (.int .u16 x) := by rw [cell_of_row _ _ _ _ _ _ h1, Nat.mul_comm]; exact hx
  rw [hq]
  clear hq
  go_wp2_with fail
  refine (least_s x x0 x1 _).mono ?_
  rintro e w2 ⟨rfl, rfl⟩
  go_wp2
  go_ret
  exact ⟨rfl, b1⟩

set_option maxHeartbeats 1000000 in
theorem whole9_s (c : Array Value) (hc : MemOk c) (n p : Int) (w : World) : Calls Tryz.prog 229 #[.agg c, .agg #[.int .i64 9, .int .i64 n, .int .i64 p]] w fun e w' => e = .returned (.int .i16 (word c (85 + (pl 9 n).toNat))) ∧ Below w.heap.size w w' := by
  obtain ⟨q0, q1⟩ := pl_lt 9 n (by decide)
  rw [show kZ 9 = 32 from rfl] at q1
  obtain ⟨q, hq⟩ : ∃ q : Nat, pl 9 n = q := ⟨(pl 9 n).toNat, by omega⟩
  rw [hq] at q0 q1
  rw [hq, Int.toNat_natCast]
  have hq16 : q < 32 := by omega
  obtain ⟨x, hx, x0, x1⟩ := hc.i16 (i := 85 + q) (by omega) (kd_d hq16)
  rw [word_of hx]
  have HC : Hid (MemOk c) := hc
  clear hc
  go_enter Tryz.func229, Tryz.ntmps229
  go_wp2_with fail
  refine (at_r _ _ _ _).mono ?_
  rintro e w1 ⟨rfl, g1⟩
  have b1 : Below w.heap.size w w1 := (((Below.refl _ _).alloc (Nat.le_refl _) _).alloc (by simp) _).trans (g1.mono (by simp <;> omega))
  have h1 : w1.heap[w.heap.size]? = some (.cells c 39 (0, 0)) := (g1.block _ (by simp <;> omega)).trans (rows2 w _ _).1
  have r0 : w1.cell? ⟨w.heap.size + 1, 0, none⟩ = some (.int .i64 9) := by rw [g1.cell (by simp)]; exact (cell_of_row _ _ _ _ _ _ (rows2 w _ _).2).trans rfl
  have rn : w1.cell? ⟨w.heap.size + 1, 1, none⟩ = some (.int .i64 n) := by rw [g1.cell (by simp)]; exact (cell_of_row _ _ _ _ _ _ (rows2 w _ _).2).trans rfl
  clear g1
  have r1 : w1.cell? ⟨w.heap.size, 85 + q, none⟩ = some (.int .i16 x) := by rw [cell_of_row _ _ _ _ _ _ h1]; exact hx
  rw [hq]
  clear hq
  go_wp2
  go_ret
  exact ⟨rfl, b1⟩

set_option maxHeartbeats 1000000 in
theorem whole11_s (c : Array Value) (n p : Int) (w : World) : Calls Tryz.prog 229 #[.agg c, .agg #[.int .i64 11, .int .i64 n, .int .i64 p]] w fun e w' => e = .returned (.int .i16 (IntKind.i16.wrap n)) ∧ Below w.heap.size w w' := by
  go_enter Tryz.func229, Tryz.ntmps229
  go_wp2_with fail
  refine (at_r _ _ _ _).mono ?_
  rintro e w1 ⟨rfl, g1⟩
  have b1 : Below w.heap.size w w1 := (((Below.refl _ _).alloc (Nat.le_refl _) _).alloc (by simp) _).trans (g1.mono (by simp <;> omega))
  have h1 : w1.heap[w.heap.size]? = some (.cells c 39 (0, 0)) := (g1.block _ (by simp <;> omega)).trans (rows2 w _ _).1
  have r0 : w1.cell? ⟨w.heap.size + 1, 0, none⟩ = some (.int .i64 11) := by rw [g1.cell (by simp)]; exact (cell_of_row _ _ _ _ _ _ (rows2 w _ _).2).trans rfl
  have rn : w1.cell? ⟨w.heap.size + 1, 1, none⟩ = some (.int .i64 n) := by rw [g1.cell (by simp)]; exact (cell_of_row _ _ _ _ _ _ (rows2 w _ _).2).trans rfl
  clear g1
  go_wp2_with fail
  refine (wrap_r n _).mono ?_
  rintro e w2 ⟨rfl, rfl⟩
  go_wp2
  go_ret
  exact ⟨rfl, b1⟩

set_option maxHeartbeats 1000000 in
theorem whole0_s (c : Array Value) (k n p : Int) (h7 : k ≠ 7) (h8 : k ≠ 8) (h9 : k ≠ 9) (h11 : k ≠ 11) (w : World) : Calls Tryz.prog 229 #[.agg c, .agg #[.int .i64 k, .int .i64 n, .int .i64 p]] w fun e w' => e = .returned (.int .i16 0) ∧ Below w.heap.size w w' := by
  have n7 : (k == 7) = false := by simp [h7]
  have n8 : (k == 8) = false := by simp [h8]
  have n9 : (k == 9) = false := by simp [h9]
  have n11 : (k == 11) = false := by simp [h11]
  clear h7 h8 h9 h11
  go_enter Tryz.func229, Tryz.ntmps229
  go_wp2_with fail
  refine (at_r _ _ _ _).mono ?_
  rintro e w1 ⟨rfl, g1⟩
  have b1 : Below w.heap.size w w1 := (((Below.refl _ _).alloc (Nat.le_refl _) _).alloc (by simp) _).trans (g1.mono (by simp <;> omega))
  have h1 : w1.heap[w.heap.size]? = some (.cells c 39 (0, 0)) := (g1.block _ (by simp <;> omega)).trans (rows2 w _ _).1
  have r0 : w1.cell? ⟨w.heap.size + 1, 0, none⟩ = some (.int .i64 k) := by rw [g1.cell (by simp)]; exact (cell_of_row _ _ _ _ _ _ (rows2 w _ _).2).trans rfl
  have rn : w1.cell? ⟨w.heap.size + 1, 1, none⟩ = some (.int .i64 n) := by rw [g1.cell (by simp)]; exact (cell_of_row _ _ _ _ _ _ (rows2 w _ _).2).trans rfl
  clear g1
  go_wp2
  go_ret
  exact ⟨rfl, b1⟩

theorem mwhole_s (c : Array Value) (hc : MemOk c) (k n p : Int) (w : World) : Calls Tryz.prog 229 #[.agg c, .agg #[.int .i64 k, .int .i64 n, .int .i64 p]] w fun e w' => e = .returned (.int .i16 (mwhole c k n)) ∧ Below w.heap.size w w' := by
  by_cases h7 : k = 7
  · subst h7; exact whole7_s c hc n p w
  by_cases h8 : k = 8
  · subst h8; exact whole8_s c hc n p w
  by_cases h9 : k = 9
  · subst h9; exact whole9_s c hc n p w
  by_cases h11 : k = 11
  · subst h11; exact whole11_s c n p w
  have : mwhole c k n = 0 := by
    unfold mwhole
    rw [if_neg h7, if_neg h8, if_neg h9, if_neg h11]
  rw [this]
  exact whole0_s c k n p h7 h8 h9 h11 w
end Go.Proofs.YtlgacbjopobeoaaGreatDoor
