/- The law FnActStep: its walk. -/
import Derived.Test.YtlpoplnghfohmaaDoorPd
import Derived.Test.YtlpoplnghfohmaaDoorOc
import Derived.Test.YtlpoplnghfohmaaDoorMh
namespace Go.Proofs.YtlpoplnghfohmaaDoor
open Go.RowKit
set_option linter.unusedVariables false

theorem btest_bit (x p : Nat) : btest x p = x.testBit p := by
  rw [btest_nat, Nat.testBit_eq_decide_div_mod_eq]
theorem pl4 (i : Nat) (h : i < 16) : pl 4 (i : Int) = (i : Int) := by
  unfold pl
  rw [show kZ 4 = 16 from rfl, if_neg (by decide)]
  omega
theorem mbit4 (c : Array Value) (i : Nat) (h : i < 16) : mbit c 4 (i : Int) = btest (word c 3) (i : Int) := by
  unfold mbit
  rw [if_neg (by omega), if_neg (by omega), if_neg (by omega), if_pos rfl, pl4 i h]
theorem hi_bits : ∀ i : Nat, i < 16 → Nat.testBit 65280 i = decide (8 ≤ i) := by decide
theorem lo_bits : ∀ i : Nat, i < 16 → Nat.testBit 255 i = decide (i < 8) := by decide

theorem step_bits {c : Array Value} (hc : MemOk c) (k i : Nat) (hk : k < 16) (hi : i < 16) : mbit (stepped c (k : Int)) 4 (i : Int) = if i / 8 = k / 8 then decide (i = k) else mbit c 4 (i : Int) := by
  obtain ⟨s, hs, s0, s1⟩ := hc.u16 (i := 3) (by omega) rfl
  obtain ⟨x, rfl⟩ : ∃ x : Nat, s = x := ⟨s.toNat, by omega⟩
  have hx : x < 65536 := by omega
  rw [mbit4 _ i hi, mbit4 _ i hi, word_of hs]
  have hw : word (stepped c (k : Int)) 3 = ((((x &&& (if (k : Int) < 8 then 65280 else 255)) ||| 2 ^ k : Nat)) : Int) := by
    unfold stepped putb
    rw [if_neg (by omega), if_neg (by omega), if_pos rfl, pl4 k hk, word_of hs, stepOff_nat x k hx]
    have hsz : 3 < c.size := by rw [hc.size]; omega
    have h1 : word (c.setIfInBounds 3 (.int .u16 ((x &&& (if (k : Int) < 8 then 65280 else 255) : Nat) : Int))) 3 = ((x &&& (if (k : Int) < 8 then 65280 else 255) : Nat) : Int) :=
      word_of (Array.getElem?_setIfInBounds_self_of_lt hsz)
    rw [h1, word_of (Array.getElem?_setIfInBounds_self_of_lt (by simpa using hsz))]
    have hb : (x &&& (if (k : Int) < 8 then 65280 else 255) : Nat) ≤ x := Nat.and_le_left
    rw [bput_nat _ k true (by omega) (by omega), if_pos rfl]
  rw [hw, btest_bit, btest_bit, Nat.testBit_or, Nat.testBit_and, Nat.testBit_two_pow]
  by_cases h8 : (k : Int) < 8
  · rw [if_pos h8, hi_bits i hi]
    by_cases hi8 : 8 ≤ i
    · rw [if_neg (by omega)]
      simp [hi8]
      omega
    · rw [if_pos (by omega)]
      simp [hi8]
      exact eq_comm
  · rw [if_neg h8, lo_bits i hi]
    by_cases hi8 : i < 8
    · rw [if_neg (by omega)]
      simp [hi8]
      omega
    · rw [if_pos (by omega)]
      simp [hi8]
      exact eq_comm

set_option maxRecDepth 10000 in
set_option maxHeartbeats 4000000 in
theorem law_step {a : Option Addr} {len cap blk off : Nat} {z : Nat → Int} (w : World) (hT : KT w) (h : Code0 w a len cap blk off z) (h0 : 0 < len) :
    Calls Tryd.prog 6 #[.slice a len cap] w fun e w' => e = .returned (.bool true) ∧ Below w.heap.size w w' := by
  have HT : Hid (KT w) := hT
  have hl := h.short
  obtain ⟨rfl, hbl⟩ := h.at_ h0
  have i0 : ¬ ((len : Int) < 1) := by omega
  have i1 : ¬ ((1048576 : Int) < (len : Int)) := by omega
  have hz := zero_mem.1
  obtain ⟨Z, HZ⟩ : ∃ Z, Hid (Z = memZero) := ⟨_, rfl⟩
  rw [← HZ.out] at hz
  have HZs : Hid (Z.size = 136) := (by rw [HZ.out, memZero_size] : Z.size = 136)
  have HY : Hid (w.cell? ⟨blk, off, none⟩ = some (.int .u8 (z 0))) := (by have := h.byte 0 h0; simpa using this : w.cell? ⟨blk, off, none⟩ = some (.int .u8 (z 0)))
  obtain ⟨y, HYY⟩ : ∃ y, Hid (y = z 0) := ⟨_, rfl⟩
  have HYB : Hid (0 ≤ y ∧ y ≤ 255) := (by rw [HYY.out]; exact h.fits 0 : 0 ≤ y ∧ y ≤ 255)
  rw [← HYY.out] at HY
  clear hT
  go_enter Tryd.func6, Tryd.ntmps6
  go_wp2_with fail
  refine (drawend_r w h).mono ?_
  rintro e w1 ⟨⟨c, hc, rfl⟩, b1⟩
  have HC : Hid (MemOk c) := hc
  have HI : Hid ((Tryd.prog.info? 37).map (·.size) = some c.size) := by rw [HC.out.size]; exact zero_mem.2
  obtain ⟨u1, HU1⟩ : ∃ u, Hid (u = (w1.alloc (.cells Z 37)).setRow w1.heap.size c) := ⟨_, rfl⟩
  have HS1 : Hid ((storeVar 37 ⟨w1.heap.size, 0, none⟩ (.agg c)).run Tryd.prog (w1.alloc (.cells Z 37)) = .ok () u1) := by
    rw [HU1.out]; exact store_all (heap_alloc_last w1 _) _ _ (HZs.out.trans hc.size.symm) HI.out hc.one
  have h1 : u1.heap[w1.heap.size]? = some (.cells c 37 (0, 0)) := by rw [HU1.out]; exact row_set (heap_alloc_last w1 _) _
  have bb : Below w.heap.size w u1 := by rw [HU1.out]; exact below_setRow (b1.alloc b1.size _) b1.size _
  have yy : u1.cell? ⟨blk, off, none⟩ = some (.int .u8 y) := by rw [bb.cell hbl]; exact HY.out
  obtain ⟨y0, y1⟩ := HYB.out
  obtain ⟨k, HK⟩ : ∃ k : Nat, Hid ((k : Int) = y % 16 ∧ k < 16) := ⟨(y % 16).toNat, show (((y % 16).toNat : Nat) : Int) = y % 16 ∧ (y % 16).toNat < 16 by omega⟩
  have hk1 : y % 16 = (k : Int) := HK.out.1.symm
  have hk2 : y.tmod 16 = (k : Int) := by rw [Int.tmod_eq_emod_of_nonneg y0]; exact hk1
  have hk3 : k < 16 := HK.out.2
  have g1 : w.heap.size ≤ w1.heap.size := b1.size
  have H1 : Hid (u1.heap[w1.heap.size]? = some (.cells c 37 (0, 0))) := h1
  have B1 : Hid (Below w.heap.size w u1) := bb
  have HL1 : Hid ((loadVar 37 ⟨w1.heap.size, 0, none⟩).run Tryd.prog u1 = .ok (.agg c) u1) := load_all h1 _ _ Tryd.underlying37 rfl HI.out
  clear hc b1 HU1 h1 bb h
  go_wp2_with (first | (refine wpL_store rfl 37 _ _ rfl _ _ rfl _ rfl _ HS1.out ?_) | (refine wpL_load rfl 37 _ rfl _ _ rfl _ HL1.out ?_) | fail)
  obtain ⟨C, HCC⟩ : ∃ C, Hid (C = stepped c (k : Int)) := ⟨_, rfl⟩
  have HCM : Hid (MemOk C) := (by rw [HCC.out]; exact memOk_stepped HC.out _ : MemOk C)
  have HIC : Hid ((Tryd.prog.info? 37).map (·.size) = some C.size) := by rw [HCM.out.size]; exact zero_mem.2
  have HSB : Hid (∀ i : Nat, i < 16 → mbit C 4 (i : Int) = if i / 8 = k / 8 then decide (i = k) else mbit c 4 (i : Int)) := fun i hi => by rw [HCC.out]; exact step_bits HC.out k i hk3 hi
  refine (do_step (k : Int) 0 u1.heap.size _ c HC.out _ ((HT.out.later B1.out).alloc _) (heap_alloc_last u1 _)).mono ?_
  rintro e w2 ⟨rfl, g2⟩
  rw [← HCC.out]
  have s1 : w1.heap.size < u1.heap.size := (Array.getElem?_eq_some_iff.1 H1.out).1
  have k2 : w2.heap[w1.heap.size]? = some (.cells c 37 (0, 0)) := (g2.block _ (by simp; omega)).trans ((heap_alloc_old u1 _ s1).trans H1.out)
  have b2 : Below w.heap.size w w2 := (B1.out.alloc B1.out.size _).trans (g2.mono (by have := B1.out.size; simp; omega))
  have s2 : w1.heap.size < w2.heap.size := (Array.getElem?_eq_some_iff.1 k2).1
  obtain ⟨u2, HU2⟩ : ∃ u, Hid (u = (w2.alloc (.cells Z 37)).setRow w2.heap.size C) := ⟨_, rfl⟩
  have HS2 : Hid ((storeVar 37 ⟨w2.heap.size, 0, none⟩ (.agg C)).run Tryd.prog (w2.alloc (.cells Z 37)) = .ok () u2) := by
    rw [HU2.out]; exact store_all (heap_alloc_last w2 _) _ _ (HZs.out.trans HCM.out.size.symm) HIC.out HCM.out.one
  have j1 : u2.heap[w1.heap.size]? = some (.cells c 37 (0, 0)) := by rw [HU2.out]; exact row_beside ((heap_alloc_old w2 _ s2).trans k2) _ (by omega) _
  have j2 : u2.heap[w2.heap.size]? = some (.cells C 37 (0, 0)) := by rw [HU2.out]; exact row_set (heap_alloc_last w2 _) _
  have b3 : Below w.heap.size w u2 := by rw [HU2.out]; exact below_setRow (b2.alloc b2.size _) b2.size _
  have J1 : Hid (u2.heap[w1.heap.size]? = some (.cells c 37 (0, 0))) := j1
  have J2 : Hid (u2.heap[w2.heap.size]? = some (.cells C 37 (0, 0))) := j2
  have B3 : Hid (Below w.heap.size w u2) := b3
  have l2 : w.heap.size ≤ w2.heap.size := b2.size
  clear g2 k2 b2 HU2 j1 j2 b3 HL1 HS1 H1 B1 yy hk1 hk2 y0 y1 HYY HYB HY
  go_wp2_with (first | (refine wpL_store rfl 37 _ _ rfl _ _ rfl _ rfl _ HS2.out ?_) | fail)
  go_loopg [6, 7, 8] 16 (fun g i _ _ wr => ∃ n : Nat, n + g = 16 ∧ i = .int .i64 n ∧ Below w.heap.size w wr ∧ wr.heap[w1.heap.size]? = some (.cells c 37 (0, 0)) ∧ wr.heap[w2.heap.size]? = some (.cells C 37 (0, 0)))
  case atStart => exact ⟨0, by omega, rfl, B3.out, J1.out, J2.out⟩
  case round =>
    clear HS2 J1 J2 B3
    obtain ⟨n, hn, rfl, hb, j1, j2⟩ := hrel
    by_cases hlt : n < 16
    · have i1 : (n : Int) < 16 := by omega
      have hsb := HSB.out n hlt
      obtain ⟨v, Hv⟩ : ∃ v, Hid (v = mbit C 4 (n : Int)) := ⟨_, rfl⟩
      have HI1 : Hid (∀ W, KT W → Calls Tryd.prog 8 #[.agg C, .agg #[.int .i64 4, .int .i64 (n : Int), .int .i64 0]] W fun e w' => e = .returned (.bool v) ∧ Below W.heap.size W w') := fun W hW => by rw [Hv.out]; exact mbit_i C HCM.out 4 n 0 W hW
      have HI2 : Hid (∀ W, Calls Tryd.prog 15 #[.agg c, .agg #[.int .i64 4, .int .i64 (n : Int), .int .i64 0]] W fun e w' => e = .returned (.bool (mbit c 4 (n : Int))) ∧ Below W.heap.size W w') := fun W => mbit_s c HC.out 4 n 0 W
      have sr : w1.heap.size < wr.heap.size := (Array.getElem?_eq_some_iff.1 j1).1
      have sr2 : w2.heap.size < wr.heap.size := (Array.getElem?_eq_some_iff.1 j2).1
      obtain ⟨ur, HUR⟩ : ∃ u, Hid (u = wr.alloc (.cells #[.int .i64 4, .int .i64 (n : Int), .int .i64 0] 39)) := ⟨_, rfl⟩
      have q1 : ur.heap[w1.heap.size]? = some (.cells c 37 (0, 0)) := by rw [HUR.out]; exact (heap_alloc_old wr _ sr).trans j1
      have q2 : ur.heap[w2.heap.size]? = some (.cells C 37 (0, 0)) := by rw [HUR.out]; exact (heap_alloc_old wr _ sr2).trans j2
      have q3 : ur.heap[wr.heap.size]? = some (.cells #[.int .i64 4, .int .i64 (n : Int), .int .i64 0] 39 (0, 0)) := by rw [HUR.out]; exact heap_alloc_last wr _
      have bq : Below w.heap.size w ur := by rw [HUR.out]; exact hb.alloc hb.size _
      have Q1 : Hid (ur.heap[w1.heap.size]? = some (.cells c 37 (0, 0))) := q1
      have Q2 : Hid (ur.heap[w2.heap.size]? = some (.cells C 37 (0, 0))) := q2
      have Q3 : Hid (ur.heap[wr.heap.size]? = some (.cells #[.int .i64 4, .int .i64 (n : Int), .int .i64 0] 39 (0, 0))) := q3
      have BQ : Hid (Below w.heap.size w ur) := bq
      have HLc : Hid ((loadVar 37 ⟨w1.heap.size, 0, none⟩).run Tryd.prog ur = .ok (.agg c) ur) := load_all q1 _ _ Tryd.underlying37 rfl HI.out
      have HLC : Hid ((loadVar 37 ⟨w2.heap.size, 0, none⟩).run Tryd.prog ur = .ok (.agg C) ur) := load_all q2 _ _ Tryd.underlying37 rfl HIC.out
      have HLA : Hid ((loadVar 39 ⟨wr.heap.size, 0, none⟩).run Tryd.prog ur = .ok (.agg #[.int .i64 4, .int .i64 (n : Int), .int .i64 0]) ur) := load_all q3 _ _ Tryd.underlying39 rfl arg_size
      have HUE : Hid (wr.alloc (.cells #[.int .i64 4, .int .i64 (n : Int), .int .i64 0] 39) = ur) := HUR.out.symm
      clear j1 j2 hb q1 q2 q3 bq HUR
      have d1 : (n : Int).tdiv 8 = ((n / 8 : Nat) : Int) := by rw [Int.tdiv_eq_ediv_of_nonneg (by omega)]; omega
      have d2 : (k : Int).tdiv 8 = ((k / 8 : Nat) : Int) := by rw [Int.tdiv_eq_ediv_of_nonneg (by omega)]; omega
      by_cases h8 : n / 8 = k / 8
      · rw [if_pos h8, ← Hv.out] at hsb
        have hvv : v = ((n : Int) == (k : Int)) := by
          rw [hsb]
          by_cases e : n = k
          · simp [e]
          · have : ¬ ((n : Int) = (k : Int)) := by omega
            simp [e, this]
        have e8 : (((n / 8 : Nat) : Int) != ((k / 8 : Nat) : Int)) = false := by simp [h8]
        have e9 := e8
        rw [← d1, ← d2] at e9
        have ea : ((n : Int) / 8 != (k : Int) / 8) = false := by
          have : (n : Int) / 8 = (k : Int) / 8 := by omega
          simp [this]
        have eb : (n / 8 != k / 8) = false := by simp [h8]
        clear hsb h8 Hv d1 d2
        subst hvv
        go_upto_region 10 with fail
        rw [HUE.out]
        go_wp2_with (first | (refine wpL_load rfl 37 _ rfl _ _ rfl _ HLC.out ?_) | (refine wpL_load rfl 39 _ rfl _ _ rfl _ HLA.out ?_) | fail)
        refine (HI1.out _ (HT.out.later BQ.out)).mono ?_
        rintro e w5 ⟨rfl, g5⟩
        have b5 : Below w.heap.size w w5 := BQ.out.trans (g5.mono BQ.out.size)
        have t1 : w5.heap[w1.heap.size]? = some (.cells c 37 (0, 0)) := (g5.block _ (Array.getElem?_eq_some_iff.1 Q1.out).1).trans Q1.out
        have t2 : w5.heap[w2.heap.size]? = some (.cells C 37 (0, 0)) := (g5.block _ (Array.getElem?_eq_some_iff.1 Q2.out).1).trans Q2.out
        clear g5
        go_wp2
        go_roundg (gk - 1)
        case measure => omega
        case rel => exact ⟨n + 1, by omega, by simp, b5, t1, t2⟩
      · rw [if_neg h8, ← Hv.out] at hsb
        have HI3 : Hid (∀ W, Calls Tryd.prog 15 #[.agg c, .agg #[.int .i64 4, .int .i64 (n : Int), .int .i64 0]] W fun e w' => e = .returned (.bool v) ∧ Below W.heap.size W w') := fun W => by rw [hsb]; exact HI2.out W
        have e8 : (((n / 8 : Nat) : Int) != ((k / 8 : Nat) : Int)) = true := by
          have : ¬ (((n / 8 : Nat) : Int) = ((k / 8 : Nat) : Int)) := by omega
          simpa using this
        have e9 := e8
        rw [← d1, ← d2] at e9
        have ea : ((n : Int) / 8 != (k : Int) / 8) = true := by
          have : ¬ ((n : Int) / 8 = (k : Int) / 8) := by omega
          simpa using this
        have eb : (n / 8 != k / 8) = true := by simpa using h8
        have hvv : (v != v) = false := by simp
        clear hsb h8 Hv d1 d2 HI2
        go_upto_region 10 with fail
        rw [HUE.out]
        go_wp2_with (first | (refine wpL_load rfl 37 _ rfl _ _ rfl _ HLc.out ?_) | (refine wpL_load rfl 39 _ rfl _ _ rfl _ HLA.out ?_) | fail)
        refine (HI3.out _).mono ?_
        rintro e w4 ⟨rfl, g4⟩
        have B4 : Hid (Below w.heap.size w w4) := BQ.out.trans (g4.mono BQ.out.size)
        have t1 : w4.heap[w1.heap.size]? = some (.cells c 37 (0, 0)) := (g4.block _ (Array.getElem?_eq_some_iff.1 Q1.out).1).trans Q1.out
        have t2 : w4.heap[w2.heap.size]? = some (.cells C 37 (0, 0)) := (g4.block _ (Array.getElem?_eq_some_iff.1 Q2.out).1).trans Q2.out
        have t3 : w4.heap[wr.heap.size]? = some (.cells #[.int .i64 4, .int .i64 (n : Int), .int .i64 0] 39 (0, 0)) := (g4.block _ (Array.getElem?_eq_some_iff.1 Q3.out).1).trans Q3.out
        have HLC : Hid ((loadVar 37 ⟨w2.heap.size, 0, none⟩).run Tryd.prog w4 = .ok (.agg C) w4) := load_all t2 _ _ Tryd.underlying37 rfl HIC.out
        have HLA : Hid ((loadVar 39 ⟨wr.heap.size, 0, none⟩).run Tryd.prog w4 = .ok (.agg #[.int .i64 4, .int .i64 (n : Int), .int .i64 0]) w4) := load_all t3 _ _ Tryd.underlying39 rfl arg_size
        have Q1 : Hid (w4.heap[w1.heap.size]? = some (.cells c 37 (0, 0))) := t1
        have Q2 : Hid (w4.heap[w2.heap.size]? = some (.cells C 37 (0, 0))) := t2
        have BQ := B4
        clear g4 t1 t2 t3
        go_wp2_with (first | (refine wpL_load rfl 37 _ rfl _ _ rfl _ HLC.out ?_) | (refine wpL_load rfl 39 _ rfl _ _ rfl _ HLA.out ?_) | fail)
        refine (HI1.out _ (HT.out.later BQ.out)).mono ?_
        rintro e w5 ⟨rfl, g5⟩
        have b5 : Below w.heap.size w w5 := BQ.out.trans (g5.mono BQ.out.size)
        have t1 : w5.heap[w1.heap.size]? = some (.cells c 37 (0, 0)) := (g5.block _ (Array.getElem?_eq_some_iff.1 Q1.out).1).trans Q1.out
        have t2 : w5.heap[w2.heap.size]? = some (.cells C 37 (0, 0)) := (g5.block _ (Array.getElem?_eq_some_iff.1 Q2.out).1).trans Q2.out
        clear g5
        go_wp2
        go_roundg (gk - 1)
        case measure => omega
        case rel => exact ⟨n + 1, by omega, by simp, b5, t1, t2⟩
    · have i1 : ¬ ((n : Int) < 16) := by omega
      go_wp2
      go_ret
      exact ⟨rfl, hb⟩

set_option maxHeartbeats 400000 in
theorem walk_step (a : Option Addr) (len cap : Nat) (zs : List Int) (w : World) (h : IsRow .u8 w a len cap zs) (hk : KT w) :
    Calls Tryd.prog 6 #[.slice a len cap] w fun e w' => e = .returned (.bool true) ∧ Below w.heap.size w w' := by
  by_cases hl : len ≤ 1048576
  · obtain ⟨blk, off, z, hc⟩ := h.code hl
    by_cases h0 : 0 < len
    · exact law_step w hk hc h0
    · obtain rfl : len = 0 := by omega
      go_enter Tryd.func6, Tryd.ntmps6
      go_wp2
      go_ret
      exact ⟨rfl, Below.refl _ _⟩
  · have hcap : len ≤ maxLen := by
      rcases h with ⟨_, rfl, _⟩ | ⟨_, _, h1, h2, _⟩
      · omega
      · omega
    unfold maxLen at hcap
    have i1 : (1048576 : Int) < (len : Int) := by omega
    go_enter Tryd.func6, Tryd.ntmps6
    go_wp2
    go_ret
    exact ⟨rfl, Below.refl _ _⟩
end Go.Proofs.YtlpoplnghfohmaaDoor
