/- The law FnMemPut: its walk. -/
import Derived.Test.YtlpoplnghfohmaaDoorQa
import Derived.Test.YtlpoplnghfohmaaDoorQe
import Derived.Test.YtlpoplnghfohmaaDoorQf
import Derived.Test.YtlpoplnghfohmaaDoorMi
import Derived.Lib.QuietBelow
namespace Go.Proofs.YtlpoplnghfohmaaDoor
open Go.RowKit Go.Shelf
set_option linter.unusedVariables false

theorem bput_back (x p : Nat) (b : Bool) (hx : x < 18446744073709551616) (hp : p < 64) : bput (bput x p b) p (btest x p) = x := by
  obtain ⟨y0, y1⟩ := bput_bd x p 64 b (by omega) (by simpa using hx) hp
  obtain ⟨y, hy⟩ : ∃ y : Nat, bput x p b = y := ⟨(bput x p b).toNat, by omega⟩
  rw [hy] at y0 y1 ⊢
  have hy64 : y < 18446744073709551616 := by
    have : (y : Int) < 18446744073709551616 := by simpa using y1
    omega
  have hr64 : ∀ r : Nat, (r : Int) < ((2 ^ 64 : Nat) : Int) → r < 18446744073709551616 := fun r h => by
    have : (r : Int) < 18446744073709551616 := by simpa using h
    omega
  obtain ⟨r0, r1⟩ := bput_bd y p 64 (btest x p) (by omega) (by simpa using hy64) hp
  obtain ⟨r, hr⟩ : ∃ r : Nat, bput y p (btest x p) = r := ⟨(bput y p (btest x p)).toNat, by omega⟩
  rw [hr] at r0 r1 ⊢
  congr 1
  apply Nat.eq_of_testBit_eq
  intro j
  by_cases hj : j < 64
  · rw [← bt_bit, ← bt_bit, ← hr, bput_bit y p j _ hy64 hp hj]
    by_cases h : p = j
    · rw [if_pos h, h]
    · rw [if_neg h, ← hy, bput_bit x p j _ hx hp hj, if_neg h]
  · have e : (2 : Nat) ^ 64 ≤ 2 ^ j := Nat.pow_le_pow_right (by decide) (by omega)
    have e2 : (2 : Nat) ^ 64 = 18446744073709551616 := by decide
    have h1 := hr64 r r1
    rw [Nat.testBit_lt_two_pow (by omega), Nat.testBit_lt_two_pow (by omega)]
theorem bput_backI {x p : Int} (b : Bool) (h0 : 0 ≤ x) (hx : x < 18446744073709551616) (p0 : 0 ≤ p) (hp : p < 64) : bput (bput x p b) p (btest x p) = x := by
  obtain ⟨x, rfl⟩ := Int.eq_ofNat_of_zero_le h0
  obtain ⟨p, rfl⟩ := Int.eq_ofNat_of_zero_le p0
  exact bput_back x p b (by omega) (by omega)
theorem set_back {c : Array Value} {i : Nat} {v : Value} (h : c[i]? = some v) (u : Value) : (c.setIfInBounds i u).setIfInBounds i v = c := by
  apply Array.ext_getElem?
  intro j
  by_cases hj : i = j
  · subst hj
    have hl : i < c.size := (Array.getElem?_eq_some_iff.1 h).1
    rw [Array.getElem?_setIfInBounds_self_of_lt (by simpa using hl)]
    exact h.symm
  · rw [Array.getElem?_setIfInBounds_ne hj, Array.getElem?_setIfInBounds_ne hj]
theorem putb_back {c : Array Value} (hc : MemOk c) (k n : Int) (b : Bool) (h2 : 2 ≤ k) (h5 : k ≤ 5) : putb (putb c k n b) k n (mbit c k n) = c := by
  have hsz := hc.size
  obtain ⟨p0, p1⟩ := pl_all k n
  rcases (by omega : k = 2 ∨ k = 3 ∨ k = 4 ∨ k = 5) with rfl | rfl | rfl | rfl
  · obtain ⟨x, hx, x0, x1⟩ := hc.u32 (i := 1) (by omega) rfl
    rw [putb_two, putb_two, mbit_two, word_set_self (by omega), word_of hx, bput_backI b x0 (by omega) p0 p1]
    exact set_back hx _
  · obtain ⟨x, hx, x0, x1⟩ := hc.u64 (i := 2) (by omega) rfl
    rw [putb_three, putb_three, mbit_three, word_set_self (by omega), word_of hx, bput_backI b x0 (by omega) p0 p1]
    exact set_back hx _
  · obtain ⟨x, hx, x0, x1⟩ := hc.u16 (i := 3) (by omega) rfl
    rw [putb_four, putb_four, mbit_four, word_set_self (by omega), word_of hx, bput_backI b x0 (by omega) p0 p1]
    exact set_back hx _
  · obtain ⟨x, hx, x0, x1⟩ := hc.u32 (i := 4) (by omega) rfl
    rw [putb_five, putb_five, mbit_five, word_set_self (by omega), word_of hx, bput_backI b x0 (by omega) p0 p1]
    exact set_back hx _
theorem putb_out {c : Array Value} {k : Int} (n : Int) (b : Bool) (h : k < 2 ∨ 5 < k) : putb c k n b = c := by
  unfold putb
  rw [if_neg (by omega), if_neg (by omega), if_neg (by omega), if_neg (by omega)]
theorem ok_dev {k n m : Int} (h : okA k n m = true) (h2 : 2 ≤ k) (h5 : k ≤ 5) : 0 ≤ n ∧ n < kZ k ∧ m = 0 := by
  unfold okA at h
  rw [if_neg (by omega), if_neg (by omega), if_neg (by omega)] at h
  rw [kZ_ne (by omega)]
  simpa using h
theorem pl_ok {k n : Int} (h0 : 0 ≤ n) (h1 : n < kZ k) : pl k n = n := by
  unfold pl
  rw [if_neg (by omega)]
  exact Int.emod_eq_of_lt h0 h1
theorem mbit_other {c : Array Value} (hc : MemOk c) {k n m k2 n2 m2 : Int} (b : Bool) (h2 : 2 ≤ k) (h5 : k ≤ 5) (ha : okA k n m = true) (ho : okA k2 n2 m2 = true) (hne : k2 ≠ k ∨ n2 ≠ n) : mbit (putb c k n b) k2 n2 = mbit c k2 n2 := by
  by_cases hk : k2 = k
  · subst hk
    obtain ⟨a0, a1, _⟩ := ok_dev ha h2 h5
    obtain ⟨o0, o1, _⟩ := ok_dev ho h2 h5
    rw [mbit_putb_same hc _ _ _ _ h2 h5, if_neg (by rw [pl_ok a0 a1, pl_ok o0 o1]; omega)]
  · exact mbit_putb_ne k n k2 n2 b hk

set_option maxRecDepth 10000 in
set_option maxHeartbeats 8000000 in
theorem law_mput {a1 a2 : Option Addr} {len1 cap1 blk1 off1 len2 cap2 blk2 off2 : Nat} {z1 z2 : Nat → Int} (w : World) (hT : KT w) (h : Code0 w a1 len1 cap1 blk1 off1 z1) (hh2 : Code0 w a2 len2 cap2 blk2 off2 z2) :
    Calls Tryd.prog 3 #[.slice a1 len1 cap1, .slice a2 len2 cap2] w fun e w' => e = .returned (.bool true) ∧ Below w.heap.size w w' := by
  have HT : Hid (KT w) := hT
  have hl := h.short
  have hl2 := hh2.short
  have HH2 : Hid (Code0 w a2 len2 cap2 blk2 off2 z2) := hh2
  have i1 : ¬ ((1048576 : Int) < (len1 : Int)) := by omega
  have i2 : ¬ ((1048576 : Int) < (len2 : Int)) := by omega
  have hz := zero_mem.1
  obtain ⟨Z, HZ⟩ : ∃ Z, Hid (Z = memZero) := ⟨_, rfl⟩
  rw [← HZ.out] at hz
  have HZs : Hid (Z.size = 136) := (by rw [HZ.out, memZero_size] : Z.size = 136)
  clear hT hh2
  go_enter Tryd.func3, Tryd.ntmps3
  go_wp2_with fail
  refine (drawput_r w h).mono ?_
  rintro e w1 ⟨⟨c, k, n, m, b, hc, n0, n1, rfl⟩, b1⟩
  have HC : Hid (MemOk c) := hc
  have HI : Hid ((Tryd.prog.info? 37).map (·.size) = some c.size) := by rw [HC.out.size]; exact zero_mem.2
  obtain ⟨u1, HU1⟩ : ∃ u, Hid (u = ((w1.alloc (.cells Z 37)).alloc (.cells #[.int .i64 0, .int .i64 0, .int .i64 0] 39)).setRow w1.heap.size c) := ⟨_, rfl⟩
  have HS1 : Hid ((storeVar 37 ⟨w1.heap.size, 0, none⟩ (.agg c)).run Tryd.prog ((w1.alloc (.cells Z 37)).alloc (.cells #[.int .i64 0, .int .i64 0, .int .i64 0] 39)) = .ok () u1) := by
    rw [HU1.out]; exact store_all (rows2 w1 _ _).1 _ _ (HZs.out.trans hc.size.symm) HI.out hc.one
  obtain ⟨u2, HU2⟩ : ∃ u, Hid (u = u1.setRow (w1.heap.size + 1) #[.int .i64 k, .int .i64 n, .int .i64 m]) := ⟨_, rfl⟩
  have HS2 : Hid ((storeVar 39 ⟨w1.heap.size + 1, 0, none⟩ (.agg #[.int .i64 k, .int .i64 n, .int .i64 m])).run Tryd.prog u1 = .ok () u2) := by
    have hh : u1.heap[w1.heap.size + 1]? = some (.cells #[.int .i64 0, .int .i64 0, .int .i64 0] 39 (0, 0)) := by rw [HU1.out]; exact row_beside (rows2 w1 (.cells Z 37) (.cells #[.int .i64 0, .int .i64 0, .int .i64 0] 39)).2 w1.heap.size (by omega) c
    rw [HU2.out]; exact store_all hh _ _ rfl arg_size (int3_one k n m)
  have h1 : u2.heap[w1.heap.size]? = some (.cells c 37 (0, 0)) := by rw [HU2.out, HU1.out]; exact row_beside (row_set (rows2 w1 (.cells Z 37) (.cells #[.int .i64 0, .int .i64 0, .int .i64 0] 39)).1 c) (w1.heap.size + 1) (by omega) _
  have h2 : u2.heap[w1.heap.size + 1]? = some (.cells #[.int .i64 k, .int .i64 n, .int .i64 m] 39 (0, 0)) := by rw [HU2.out, HU1.out]; exact row_set (row_beside (rows2 w1 (.cells Z 37) (.cells #[.int .i64 0, .int .i64 0, .int .i64 0] 39)).2 w1.heap.size (by omega) c) _
  have hb : Below w.heap.size w u2 := by rw [HU2.out, HU1.out]; exact below_setRow (below_setRow ((b1.alloc b1.size _).alloc (by have := b1.size; simp; omega) _) b1.size _) (by have := b1.size; omega) _
  have HLm : Hid ((loadVar 37 ⟨w1.heap.size, 0, none⟩).run Tryd.prog u2 = .ok (.agg c) u2) := load_all h1 _ _ Tryd.underlying37 rfl HI.out
  have HLa : Hid ((loadVar 39 ⟨w1.heap.size + 1, 0, none⟩).run Tryd.prog u2 = .ok (.agg #[.int .i64 k, .int .i64 n, .int .i64 m]) u2) := load_all h2 _ _ Tryd.underlying39 rfl arg_size
  have HB : Hid (Below w.heap.size w u2) := hb
  have H1 : Hid (u2.heap[w1.heap.size]? = some (.cells c 37 (0, 0))) := h1
  have H2 : Hid (u2.heap[w1.heap.size + 1]? = some (.cells #[.int .i64 k, .int .i64 n, .int .i64 m] 39 (0, 0))) := h2
  have gl : w.heap.size ≤ w1.heap.size := b1.size
  obtain ⟨v0, HV0⟩ : ∃ v, Hid (v = mbit c k n) := ⟨_, rfl⟩
  have HBt : Hid (∀ W, KT W → Calls Tryd.prog 8 #[.agg c, .agg #[.int .i64 k, .int .i64 n, .int .i64 m]] W fun e w' => e = .returned (.bool v0) ∧ Below W.heap.size W w') := fun W hW => by rw [HV0.out]; exact mbit_i c HC.out k n m W hW
  obtain ⟨C, HCC⟩ : ∃ C, Hid (C = putb c k n b) := ⟨_, rfl⟩
  have HCM : Hid (MemOk C) := (by rw [HCC.out]; exact memOk_putb hc k n b : MemOk C)
  have IC : Hid ((Tryd.prog.info? 37).map (·.size) = some C.size) := by rw [HCM.out.size]; exact zero_mem.2
  have HPt : Hid (∀ W, KT W → Calls Tryd.prog 9 #[.agg c, .agg #[.int .i64 k, .int .i64 n, .int .i64 m], .bool b] W fun e w' => e = .returned (.agg C) ∧ Below W.heap.size W w') := fun W hW => by rw [HCC.out]; exact put_i c HC.out k n m b W hW
  clear hc b1 HU1 HU2 h1 h2 hb h
  go_wp2_with (first | (refine wpL_store rfl 37 _ _ rfl _ _ rfl _ rfl _ HS1.out ?_) | (refine wpL_store rfl 39 _ _ rfl _ _ rfl _ rfl _ HS2.out ?_) | (refine wpL_load rfl 37 _ rfl _ _ rfl _ HLm.out ?_) | (refine wpL_load rfl 39 _ rfl _ _ rfl _ HLa.out ?_) | fail)
  refine (HBt.out _ (HT.out.later HB.out)).mono ?_
  rintro e w2 ⟨rfl, g2⟩
  have H1' : Hid (w2.heap[w1.heap.size]? = some (.cells c 37 (0, 0))) := (g2.block _ (Array.getElem?_eq_some_iff.1 H1.out).1).trans H1.out
  have H2' : Hid (w2.heap[w1.heap.size + 1]? = some (.cells #[.int .i64 k, .int .i64 n, .int .i64 m] 39 (0, 0))) := (g2.block _ (Array.getElem?_eq_some_iff.1 H2.out).1).trans H2.out
  have HB' : Hid (Below w.heap.size w w2) := HB.out.trans (g2.mono HB.out.size)
  have HLm : Hid ((loadVar 37 ⟨w1.heap.size, 0, none⟩).run Tryd.prog w2 = .ok (.agg c) w2) := load_all H1'.out _ _ Tryd.underlying37 rfl HI.out
  have HLa : Hid ((loadVar 39 ⟨w1.heap.size + 1, 0, none⟩).run Tryd.prog w2 = .ok (.agg #[.int .i64 k, .int .i64 n, .int .i64 m]) w2) := load_all H2'.out _ _ Tryd.underlying39 rfl arg_size
  clear g2 H1 H2 HB HS1 HS2
  go_wp2_with (first | (refine wpL_load rfl 37 _ rfl _ _ rfl _ HLm.out ?_) | (refine wpL_load rfl 39 _ rfl _ _ rfl _ HLa.out ?_) | fail)
  refine (HPt.out _ (HT.out.later HB'.out)).mono ?_
  rintro e w3 ⟨rfl, g3⟩
  have k1 := (g3.block _ (Array.getElem?_eq_some_iff.1 H1'.out).1).trans H1'.out
  have k2 := (g3.block _ (Array.getElem?_eq_some_iff.1 H2'.out).1).trans H2'.out
  have b3 : Below w.heap.size w w3 := HB'.out.trans (g3.mono HB'.out.size)
  have l3 : w1.heap.size + 1 < w3.heap.size := (Array.getElem?_eq_some_iff.1 k2).1
  obtain ⟨u3, HU3⟩ : ∃ u, Hid (u = (w3.alloc (.cells Z 37)).setRow w3.heap.size C) := ⟨_, rfl⟩
  have HS3 : Hid ((storeVar 37 ⟨w3.heap.size, 0, none⟩ (.agg C)).run Tryd.prog (w3.alloc (.cells Z 37)) = .ok () u3) := by rw [HU3.out]; exact store_all (heap_alloc_last w3 _) _ _ (HZs.out.trans HCM.out.size.symm) IC.out HCM.out.one
  have Kc : Hid (u3.heap[w1.heap.size]? = some (.cells c 37 (0, 0))) := (by rw [HU3.out]; exact row_beside ((heap_alloc_old w3 _ (by omega)).trans k1) _ (by omega) _ : u3.heap[w1.heap.size]? = some (.cells c 37 (0, 0)))
  have Ka : Hid (u3.heap[w1.heap.size + 1]? = some (.cells #[.int .i64 k, .int .i64 n, .int .i64 m] 39 (0, 0))) := (by rw [HU3.out]; exact row_beside ((heap_alloc_old w3 _ l3).trans k2) _ (by omega) _ : u3.heap[w1.heap.size + 1]? = some (.cells #[.int .i64 k, .int .i64 n, .int .i64 m] 39 (0, 0)))
  have KC : Hid (u3.heap[w3.heap.size]? = some (.cells C 37 (0, 0))) := (by rw [HU3.out]; exact row_set (heap_alloc_last w3 _) _ : u3.heap[w3.heap.size]? = some (.cells C 37 (0, 0)))
  have B3 : Hid (Below w.heap.size w u3) := (by rw [HU3.out]; exact below_setRow (b3.alloc b3.size _) b3.size _ : Below w.heap.size w u3)
  have y0 : u3.cell? ⟨w1.heap.size + 1, 0, none⟩ = some (.int .i64 k) := (cell_of_row _ _ _ _ _ _ Ka.out).trans rfl
  obtain ⟨g1, HG1⟩ : ∃ g, Hid (g = w1.heap.size) := ⟨_, rfl⟩
  rw [← HG1.out] at Kc Ka y0 gl l3 ⊢
  clear g3 k1 k2 b3 HU3 H1' H2' HB' HLm HLa HG1
  by_cases hk : k < 2 ∨ 5 < k
  · have HCe : Hid (C = c) := (by rw [HCC.out]; exact putb_out n b hk : C = c)
    have HLp : Hid ((loadVar 37 ⟨w3.heap.size, 0, none⟩).run Tryd.prog u3 = .ok (.agg c) u3) := by have := load_all KC.out _ _ Tryd.underlying37 rfl IC.out; rwa [HCe.out] at this
    have HLm : Hid ((loadVar 37 ⟨g1, 0, none⟩).run Tryd.prog u3 = .ok (.agg c) u3) := load_all Kc.out _ _ Tryd.underlying37 rfl HI.out
    by_cases hk2 : k < 2
    · clear hk
      go_wp2_with (first | (refine wpL_store rfl 37 _ _ rfl _ _ rfl _ rfl _ HS3.out ?_) | (refine wpL_load rfl 37 _ rfl _ _ rfl _ HLp.out ?_) | (refine wpL_load rfl 37 _ rfl _ _ rfl _ HLm.out ?_) | fail)
      refine (same_i c HC.out _).mono ?_
      rintro e w4 ⟨rfl, g4⟩
      have b4 := B3.out.trans (g4.mono B3.out.size)
      clear g4
      go_wp2
      go_ret
      exact ⟨rfl, b4⟩
    · have hk5 : 5 < k := by omega
      clear hk
      go_wp2_with (first | (refine wpL_store rfl 37 _ _ rfl _ _ rfl _ rfl _ HS3.out ?_) | (refine wpL_load rfl 37 _ rfl _ _ rfl _ HLp.out ?_) | (refine wpL_load rfl 37 _ rfl _ _ rfl _ HLm.out ?_) | fail)
      refine (same_i c HC.out _).mono ?_
      rintro e w4 ⟨rfl, g4⟩
      have b4 := B3.out.trans (g4.mono B3.out.size)
      clear g4
      go_wp2
      go_ret
      exact ⟨rfl, b4⟩
  · have hk2 : ¬ (k < 2) := by omega
    have hk5 : ¬ (5 < k) := by omega
    have K2 : Hid (2 ≤ k ∧ k ≤ 5) := ⟨by omega, by omega⟩
    have HBa : Hid (∀ W, KT W → Calls Tryd.prog 8 #[.agg C, .agg #[.int .i64 k, .int .i64 n, .int .i64 m]] W fun e w' => e = .returned (.bool b) ∧ Below W.heap.size W w') := fun W hW => by
      have := mbit_i C HCM.out k n m W hW
      rw [HCC.out, mbit_putb_same HC.out k n n b K2.out.1 K2.out.2, if_pos rfl, ← HCC.out] at this
      exact this
    have HPb : Hid (∀ W, KT W → Calls Tryd.prog 9 #[.agg C, .agg #[.int .i64 k, .int .i64 n, .int .i64 m], .bool v0] W fun e w' => e = .returned (.agg c) ∧ Below W.heap.size W w') := fun W hW => by
      have := put_i C HCM.out k n m v0 W hW
      rw [HCC.out, HV0.out, putb_back HC.out k n b K2.out.1 K2.out.2, ← HCC.out, ← HV0.out] at this
      exact this
    clear hk
    go_wp2_with (first | (refine wpL_store rfl 37 _ _ rfl _ _ rfl _ rfl _ HS3.out ?_) | fail)
    refine (drawbit_r _ (HH2.out.later B3.out)).mono ?_
    rintro e w4 ⟨⟨c2, k2, n2, m2, hc2, o0, o1, rfl⟩, g4⟩
    have s3 : w3.heap.size < u3.heap.size := (Array.getElem?_eq_some_iff.1 KC.out).1
    have M2 : Hid (MemOk c2) := hc2
    have I2 : Hid ((Tryd.prog.info? 37).map (·.size) = some c2.size) := by rw [M2.out.size]; exact zero_mem.2
    have kc4 := (g4.block _ (Array.getElem?_eq_some_iff.1 Kc.out).1).trans Kc.out
    have ka4 := (g4.block _ (Array.getElem?_eq_some_iff.1 Ka.out).1).trans Ka.out
    have kC4 := (g4.block _ s3).trans KC.out
    have b4 : Below w.heap.size w w4 := B3.out.trans (g4.mono B3.out.size)
    have s4 : w3.heap.size < w4.heap.size := (Array.getElem?_eq_some_iff.1 kC4).1
    obtain ⟨u5, HU5⟩ : ∃ u, Hid (u = ((w4.alloc (.cells Z 37)).alloc (.cells #[.int .i64 0, .int .i64 0, .int .i64 0] 39)).setRow w4.heap.size c2) := ⟨_, rfl⟩
    have HS5 : Hid ((storeVar 37 ⟨w4.heap.size, 0, none⟩ (.agg c2)).run Tryd.prog ((w4.alloc (.cells Z 37)).alloc (.cells #[.int .i64 0, .int .i64 0, .int .i64 0] 39)) = .ok () u5) := by
      rw [HU5.out]; exact store_all (rows2 w4 _ _).1 _ _ (HZs.out.trans hc2.size.symm) I2.out hc2.one
    obtain ⟨u6, HU6⟩ : ∃ u, Hid (u = u5.setRow (w4.heap.size + 1) #[.int .i64 k2, .int .i64 n2, .int .i64 m2]) := ⟨_, rfl⟩
    have HS6 : Hid ((storeVar 39 ⟨w4.heap.size + 1, 0, none⟩ (.agg #[.int .i64 k2, .int .i64 n2, .int .i64 m2])).run Tryd.prog u5 = .ok () u6) := by
      have hh : u5.heap[w4.heap.size + 1]? = some (.cells #[.int .i64 0, .int .i64 0, .int .i64 0] 39 (0, 0)) := by rw [HU5.out]; exact row_beside (rows2 w4 (.cells Z 37) (.cells #[.int .i64 0, .int .i64 0, .int .i64 0] 39)).2 w4.heap.size (by omega) c2
      rw [HU6.out]; exact store_all hh _ _ rfl arg_size (int3_one k2 n2 m2)
    have old : ∀ g o, g < w4.heap.size → w4.heap[g]? = some o → u6.heap[g]? = some o := fun g o hg ho => by
      rw [HU6.out, HU5.out]
      refine row_beside (row_beside ?_ _ (by omega) _) _ (by omega) _
      rw [heap_alloc_old _ _ (by simp; omega), heap_alloc_old _ _ hg]; exact ho
    have Kc5 : Hid (u6.heap[g1]? = some (.cells c 37 (0, 0))) := old _ _ (Array.getElem?_eq_some_iff.1 kc4).1 kc4
    have Ka5 : Hid (u6.heap[g1 + 1]? = some (.cells #[.int .i64 k, .int .i64 n, .int .i64 m] 39 (0, 0))) := old _ _ (Array.getElem?_eq_some_iff.1 ka4).1 ka4
    have KC5 : Hid (u6.heap[w3.heap.size]? = some (.cells C 37 (0, 0))) := old _ _ s4 kC4
    have Ko5 : Hid (u6.heap[w4.heap.size + 1]? = some (.cells #[.int .i64 k2, .int .i64 n2, .int .i64 m2] 39 (0, 0))) := (by
      rw [HU6.out]; exact row_set (by rw [HU5.out]; exact row_beside (rows2 w4 (.cells Z 37) (.cells #[.int .i64 0, .int .i64 0, .int .i64 0] 39)).2 w4.heap.size (by omega) c2) _ : u6.heap[w4.heap.size + 1]? = some (.cells #[.int .i64 k2, .int .i64 n2, .int .i64 m2] 39 (0, 0)))
    have B5 : Hid (Below w.heap.size w u6) := (by rw [HU6.out, HU5.out]; exact below_setRow (below_setRow ((b4.alloc b4.size _).alloc (by have := b4.size; simp; omega) _) b4.size _) (by have := b4.size; omega) _ : Below w.heap.size w u6)
    have HLm : Hid ((loadVar 37 ⟨g1, 0, none⟩).run Tryd.prog u6 = .ok (.agg c) u6) := load_all Kc5.out _ _ Tryd.underlying37 rfl HI.out
    have HLo : Hid ((loadVar 39 ⟨w4.heap.size + 1, 0, none⟩).run Tryd.prog u6 = .ok (.agg #[.int .i64 k2, .int .i64 n2, .int .i64 m2]) u6) := load_all Ko5.out _ _ Tryd.underlying39 rfl arg_size
    obtain ⟨v1, HV1⟩ : ∃ v, Hid (v = mbit c k2 n2) := ⟨_, rfl⟩
    have HBn : Hid (∀ W, KT W → Calls Tryd.prog 8 #[.agg c, .agg #[.int .i64 k2, .int .i64 n2, .int .i64 m2]] W fun e w' => e = .returned (.bool v1) ∧ Below W.heap.size W w') := fun W hW => by rw [HV1.out]; exact mbit_i c HC.out k2 n2 m2 W hW
    clear hc2 g4 kc4 ka4 kC4 b4 HU5 HU6 old HS3 y0
    go_wp2_with (first | (refine wpL_store rfl 37 _ _ rfl _ _ rfl _ rfl _ HS5.out ?_) | (refine wpL_store rfl 39 _ _ rfl _ _ rfl _ rfl _ HS6.out ?_) | (refine wpL_load rfl 37 _ rfl _ _ rfl _ HLm.out ?_) | (refine wpL_load rfl 39 _ rfl _ _ rfl _ HLo.out ?_) | fail)
    refine (HBn.out _ (HT.out.later B5.out)).mono ?_
    rintro e w6 ⟨rfl, g6⟩
    have KcN : Hid (w6.heap[g1]? = some (.cells c 37 (0, 0))) := (g6.block _ (Array.getElem?_eq_some_iff.1 Kc5.out).1).trans Kc5.out
    have KaN : Hid (w6.heap[g1 + 1]? = some (.cells #[.int .i64 k, .int .i64 n, .int .i64 m] 39 (0, 0))) := (g6.block _ (Array.getElem?_eq_some_iff.1 Ka5.out).1).trans Ka5.out
    have KCN : Hid (w6.heap[w3.heap.size]? = some (.cells C 37 (0, 0))) := (g6.block _ (Array.getElem?_eq_some_iff.1 KC5.out).1).trans KC5.out
    have KoN : Hid (w6.heap[w4.heap.size + 1]? = some (.cells #[.int .i64 k2, .int .i64 n2, .int .i64 m2] 39 (0, 0))) := (g6.block _ (Array.getElem?_eq_some_iff.1 Ko5.out).1).trans Ko5.out
    have B6 : Hid (Below w.heap.size w w6) := B5.out.trans (g6.mono B5.out.size)
    clear g6 Kc Ka KC Kc5 Ka5 KC5 Ko5 B5 HLm HLo HS5 HS6 hz B3
    have Kc := KcN
    have Ka := KaN
    have KC := KCN
    have Ko := KoN
    clear KcN KaN KCN KoN
    have z0 : w6.cell? ⟨g1 + 1, 0, none⟩ = some (.int .i64 k) := (cell_of_row _ _ _ _ _ _ Ka.out).trans rfl
    have z1 : w6.cell? ⟨g1 + 1, 1, none⟩ = some (.int .i64 n) := (cell_of_row _ _ _ _ _ _ Ka.out).trans rfl
    have z2 : w6.cell? ⟨g1 + 1, 2, none⟩ = some (.int .i64 m) := (cell_of_row _ _ _ _ _ _ Ka.out).trans rfl
    have z3 : w6.cell? ⟨w4.heap.size + 1, 0, none⟩ = some (.int .i64 k2) := (cell_of_row _ _ _ _ _ _ Ko.out).trans rfl
    have z4 : w6.cell? ⟨w4.heap.size + 1, 1, none⟩ = some (.int .i64 n2) := (cell_of_row _ _ _ _ _ _ Ko.out).trans rfl
    have z5 : w6.cell? ⟨w4.heap.size + 1, 2, none⟩ = some (.int .i64 m2) := (cell_of_row _ _ _ _ _ _ Ko.out).trans rfl
    have q0 := cell_regrown z0
    have q1 := cell_regrown z1
    have q2 := cell_regrown z2
    have q3 := cell_regrown z3
    have q4 := cell_regrown z4
    have q5 := cell_regrown z5
    obtain ⟨x, HX⟩ : ∃ x, Hid (x = mwhole c k2 n2) := ⟨_, rfl⟩
    have HWm : Hid (∀ W, KT W → Calls Tryd.prog 13 #[.agg c, .agg #[.int .i64 k2, .int .i64 n2, .int .i64 m2]] W fun e w' => e = .returned (.int .i16 x) ∧ Below W.heap.size W w') := fun W hW => by rw [HX.out]; exact mwhole_i c HC.out k2 n2 m2 W hW
    have HWp : Hid (∀ W, KT W → Calls Tryd.prog 13 #[.agg C, .agg #[.int .i64 k2, .int .i64 n2, .int .i64 m2]] W fun e w' => e = .returned (.int .i16 x) ∧ Below W.heap.size W w') := fun W hW => by
      have := mwhole_i C HCM.out k2 n2 m2 W hW
      rw [HCC.out, mwhole_putb k n k2 n2 b, ← HCC.out, ← HX.out] at this
      exact this
    have kt : ∀ d os, KT (Sort.grow (redrawn w6 d) os) := fun d os => (HT.out.later B6.out).later (below_regrown w6 d os)
    clear z0 z1 z2 z3 z4 z5
    cases ha : okA k n m with
    | false =>
      have HOA : Hid (∀ W, Calls Tryd.prog 12 #[.agg #[.int .i64 k, .int .i64 n, .int .i64 m]] W fun e w' => e = .returned (.bool false) ∧ Below W.heap.size W w') := fun W => by have := spec_ok k n m W; rwa [ha] at this
      go_upto_region 10 with fail
      have cA : ∀ d os, Calls Tryd.prog 12 #[.agg #[.int .i64 k, .int .i64 n, .int .i64 m]] (Sort.grow (redrawn w6 d) os) fun e w'' => e = .returned (.bool false) ∧ ∃ p : Regrown, w'' = Sort.grow (redrawn w6 p.d) p.os := fun d os => Calls.regrown_of (HOA.out _)
      have cW : ∀ d os, Calls Tryd.prog 13 #[.agg C, .agg #[.int .i64 k2, .int .i64 n2, .int .i64 m2]] (Sort.grow (redrawn w6 d) os) fun e w'' => e = .returned (.int .i16 x) ∧ ∃ p : Regrown, w'' = Sort.grow (redrawn w6 p.d) p.os := fun d os => Calls.regrown_of (HWp.out _ (kt d os))
      have cX : ∀ d os, Calls Tryd.prog 13 #[.agg c, .agg #[.int .i64 k2, .int .i64 n2, .int .i64 m2]] (Sort.grow (redrawn w6 d) os) fun e w'' => e = .returned (.int .i16 x) ∧ ∃ p : Regrown, w'' = Sort.grow (redrawn w6 p.d) p.os := fun d os => Calls.regrown_of (HWm.out _ (kt d os))
      refine wp_region_quiet_below (by kernel_rfl) (by kernel_rfl) ?_
      repeat (first | (refine wpQ_load rfl 37 (.tmp 9) rfl _ _ rfl (.agg C) (fun W hW => load_all (row_regrown KC.out hW) _ _ Tryd.underlying37 rfl IC.out) ?_; simp only [Act.put, List.setIfInBounds_toArray, List.set_cons_succ, List.set_cons_zero]) | (refine wpQ_load rfl 37 (.tmp 5) rfl _ _ rfl (.agg c) (fun W hW => load_all (row_regrown Kc.out hW) _ _ Tryd.underlying37 rfl HI.out) ?_; simp only [Act.put, List.setIfInBounds_toArray, List.set_cons_succ, List.set_cons_zero]) | go_big_quiet_step (first | with_reducible exact cA _ _ | with_reducible exact cW _ _ | with_reducible exact cX _ _))
      refine wpQuiet_nil ?_
      intro w7 hw'
      have Kc7 := row_regrown Kc.out hw'
      have KC7 := row_regrown KC.out hw'
      have Ka7 := row_regrown Ka.out hw'
      have b7 : Below w.heap.size w w7 := by
        obtain ⟨⟨dq, osq⟩, rfl⟩ := hw'
        exact B6.out.trans ((below_regrown w6 dq osq).mono B6.out.size)
      clear hw' kt cA cW cX q0 q1 q2 q3 q4 q5
      have z0 : w7.cell? ⟨g1 + 1, 0, none⟩ = some (.int .i64 k) := (cell_of_row _ _ _ _ _ _ Ka7).trans rfl
      have z1 : w7.cell? ⟨g1 + 1, 1, none⟩ = some (.int .i64 n) := (cell_of_row _ _ _ _ _ _ Ka7).trans rfl
      have z2 : w7.cell? ⟨g1 + 1, 2, none⟩ = some (.int .i64 m) := (cell_of_row _ _ _ _ _ _ Ka7).trans rfl
      have q0 := cell_regrown z0
      have q1 := cell_regrown z1
      have q2 := cell_regrown z2
      go_upto_region 12 with fail
      have kt : ∀ d os, KT (Sort.grow (redrawn w7 d) os) := fun d os => (HT.out.later b7).later (below_regrown w7 d os)
      have c1 : ∀ d os, Calls Tryd.prog 8 #[.agg C, .agg #[.int .i64 k, .int .i64 n, .int .i64 m]] (Sort.grow (redrawn w7 d) os) fun e w'' => e = .returned (.bool b) ∧ ∃ p : Regrown, w'' = Sort.grow (redrawn w7 p.d) p.os := fun d os => Calls.regrown_of (HBa.out _ (kt d os))
      have c2 : ∀ d os, Calls Tryd.prog 9 #[.agg C, .agg #[.int .i64 k, .int .i64 n, .int .i64 m], .bool v0] (Sort.grow (redrawn w7 d) os) fun e w'' => e = .returned (.agg c) ∧ ∃ p : Regrown, w'' = Sort.grow (redrawn w7 p.d) p.os := fun d os => Calls.regrown_of (HPb.out _ (kt d os))
      have c3 : ∀ d os, Calls Tryd.prog 10 #[.agg c, .agg c] (Sort.grow (redrawn w7 d) os) fun e w'' => e = .returned (.bool true) ∧ ∃ p : Regrown, w'' = Sort.grow (redrawn w7 p.d) p.os := fun d os => Calls.regrown_of (same_i c HC.out _)
      have hbb : (b == b) = true := by simp
      refine wp_region_quiet_below (by kernel_rfl) (by kernel_rfl) ?_
      repeat (first | (refine wpQ_load rfl 37 (.tmp 9) rfl _ _ rfl (.agg C) (fun W hW => load_all (row_regrown KC7 hW) _ _ Tryd.underlying37 rfl IC.out) ?_; simp only [Act.put, List.setIfInBounds_toArray, List.set_cons_succ, List.set_cons_zero]) | (refine wpQ_load rfl 37 (.tmp 5) rfl _ _ rfl (.agg c) (fun W hW => load_all (row_regrown Kc7 hW) _ _ Tryd.underlying37 rfl HI.out) ?_; simp only [Act.put, List.setIfInBounds_toArray, List.set_cons_succ, List.set_cons_zero]) | go_big_quiet_step (first | with_reducible exact c1 _ _ | with_reducible exact c2 _ _ | with_reducible exact c3 _ _))
      refine wpQuiet_nil ?_
      intro _ hw'
      obtain ⟨⟨dq, osq⟩, hw''⟩ := hw'
      subst hw''
      go_wp2
      go_ret
      exact ⟨by simp, b7.trans ((below_regrown w7 dq osq).mono b7.size)⟩
    | true =>
      cases ho : okA k2 n2 m2 with
      | false =>
        have HOA : Hid (∀ W, Calls Tryd.prog 12 #[.agg #[.int .i64 k, .int .i64 n, .int .i64 m]] W fun e w' => e = .returned (.bool true) ∧ Below W.heap.size W w') := fun W => by have := spec_ok k n m W; rwa [ha] at this
        have HOO : Hid (∀ W, Calls Tryd.prog 12 #[.agg #[.int .i64 k2, .int .i64 n2, .int .i64 m2]] W fun e w' => e = .returned (.bool false) ∧ Below W.heap.size W w') := fun W => by have := spec_ok k2 n2 m2 W; rwa [ho] at this
        go_upto_region 10 with fail
        have cA : ∀ d os, Calls Tryd.prog 12 #[.agg #[.int .i64 k, .int .i64 n, .int .i64 m]] (Sort.grow (redrawn w6 d) os) fun e w'' => e = .returned (.bool true) ∧ ∃ p : Regrown, w'' = Sort.grow (redrawn w6 p.d) p.os := fun d os => Calls.regrown_of (HOA.out _)
        have cO : ∀ d os, Calls Tryd.prog 12 #[.agg #[.int .i64 k2, .int .i64 n2, .int .i64 m2]] (Sort.grow (redrawn w6 d) os) fun e w'' => e = .returned (.bool false) ∧ ∃ p : Regrown, w'' = Sort.grow (redrawn w6 p.d) p.os := fun d os => Calls.regrown_of (HOO.out _)
        have cW : ∀ d os, Calls Tryd.prog 13 #[.agg C, .agg #[.int .i64 k2, .int .i64 n2, .int .i64 m2]] (Sort.grow (redrawn w6 d) os) fun e w'' => e = .returned (.int .i16 x) ∧ ∃ p : Regrown, w'' = Sort.grow (redrawn w6 p.d) p.os := fun d os => Calls.regrown_of (HWp.out _ (kt d os))
        have cX : ∀ d os, Calls Tryd.prog 13 #[.agg c, .agg #[.int .i64 k2, .int .i64 n2, .int .i64 m2]] (Sort.grow (redrawn w6 d) os) fun e w'' => e = .returned (.int .i16 x) ∧ ∃ p : Regrown, w'' = Sort.grow (redrawn w6 p.d) p.os := fun d os => Calls.regrown_of (HWm.out _ (kt d os))
        refine wp_region_quiet_below (by kernel_rfl) (by kernel_rfl) ?_
        repeat (first | (refine wpQ_load rfl 37 (.tmp 9) rfl _ _ rfl (.agg C) (fun W hW => load_all (row_regrown KC.out hW) _ _ Tryd.underlying37 rfl IC.out) ?_; simp only [Act.put, List.setIfInBounds_toArray, List.set_cons_succ, List.set_cons_zero]) | (refine wpQ_load rfl 37 (.tmp 5) rfl _ _ rfl (.agg c) (fun W hW => load_all (row_regrown Kc.out hW) _ _ Tryd.underlying37 rfl HI.out) ?_; simp only [Act.put, List.setIfInBounds_toArray, List.set_cons_succ, List.set_cons_zero]) | go_big_quiet_step (first | with_reducible exact cA _ _ | with_reducible exact cO _ _ | with_reducible exact cW _ _ | with_reducible exact cX _ _))
        refine wpQuiet_nil ?_
        intro w7 hw'
        have Kc7 := row_regrown Kc.out hw'
        have KC7 := row_regrown KC.out hw'
        have Ka7 := row_regrown Ka.out hw'
        have b7 : Below w.heap.size w w7 := by
          obtain ⟨⟨dq, osq⟩, rfl⟩ := hw'
          exact B6.out.trans ((below_regrown w6 dq osq).mono B6.out.size)
        clear hw' kt cA cO cW cX q0 q1 q2 q3 q4 q5
        have z0 : w7.cell? ⟨g1 + 1, 0, none⟩ = some (.int .i64 k) := (cell_of_row _ _ _ _ _ _ Ka7).trans rfl
        have z1 : w7.cell? ⟨g1 + 1, 1, none⟩ = some (.int .i64 n) := (cell_of_row _ _ _ _ _ _ Ka7).trans rfl
        have z2 : w7.cell? ⟨g1 + 1, 2, none⟩ = some (.int .i64 m) := (cell_of_row _ _ _ _ _ _ Ka7).trans rfl
        have q0 := cell_regrown z0
        have q1 := cell_regrown z1
        have q2 := cell_regrown z2
        go_upto_region 12 with fail
        have kt : ∀ d os, KT (Sort.grow (redrawn w7 d) os) := fun d os => (HT.out.later b7).later (below_regrown w7 d os)
        have c1 : ∀ d os, Calls Tryd.prog 8 #[.agg C, .agg #[.int .i64 k, .int .i64 n, .int .i64 m]] (Sort.grow (redrawn w7 d) os) fun e w'' => e = .returned (.bool b) ∧ ∃ p : Regrown, w'' = Sort.grow (redrawn w7 p.d) p.os := fun d os => Calls.regrown_of (HBa.out _ (kt d os))
        have c2 : ∀ d os, Calls Tryd.prog 9 #[.agg C, .agg #[.int .i64 k, .int .i64 n, .int .i64 m], .bool v0] (Sort.grow (redrawn w7 d) os) fun e w'' => e = .returned (.agg c) ∧ ∃ p : Regrown, w'' = Sort.grow (redrawn w7 p.d) p.os := fun d os => Calls.regrown_of (HPb.out _ (kt d os))
        have c3 : ∀ d os, Calls Tryd.prog 10 #[.agg c, .agg c] (Sort.grow (redrawn w7 d) os) fun e w'' => e = .returned (.bool true) ∧ ∃ p : Regrown, w'' = Sort.grow (redrawn w7 p.d) p.os := fun d os => Calls.regrown_of (same_i c HC.out _)
        have hbb : (b == b) = true := by simp
        refine wp_region_quiet_below (by kernel_rfl) (by kernel_rfl) ?_
        repeat (first | (refine wpQ_load rfl 37 (.tmp 9) rfl _ _ rfl (.agg C) (fun W hW => load_all (row_regrown KC7 hW) _ _ Tryd.underlying37 rfl IC.out) ?_; simp only [Act.put, List.setIfInBounds_toArray, List.set_cons_succ, List.set_cons_zero]) | (refine wpQ_load rfl 37 (.tmp 5) rfl _ _ rfl (.agg c) (fun W hW => load_all (row_regrown Kc7 hW) _ _ Tryd.underlying37 rfl HI.out) ?_; simp only [Act.put, List.setIfInBounds_toArray, List.set_cons_succ, List.set_cons_zero]) | go_big_quiet_step (first | with_reducible exact c1 _ _ | with_reducible exact c2 _ _ | with_reducible exact c3 _ _))
        refine wpQuiet_nil ?_
        intro _ hw'
        obtain ⟨⟨dq, osq⟩, hw''⟩ := hw'
        subst hw''
        go_wp2
        go_ret
        exact ⟨by simp, b7.trans ((below_regrown w7 dq osq).mono b7.size)⟩
      | true =>
        by_cases e1 : k2 = k
        · by_cases e2 : n2 = n
          · have e3 : m2 = m := by
              have h1 := (ok_dev ha K2.out.1 K2.out.2).2.2
              have h2 := (ok_dev (k := k2) ho (by rw [e1]; exact K2.out.1) (by rw [e1]; exact K2.out.2)).2.2
              omega
            subst k2
            subst n2
            subst m2
            have HOA : Hid (∀ W, Calls Tryd.prog 12 #[.agg #[.int .i64 k, .int .i64 n, .int .i64 m]] W fun e w' => e = .returned (.bool true) ∧ Below W.heap.size W w') := fun W => by have := spec_ok k n m W; rwa [ha] at this
            have HOO := HOA
            go_upto_region 10 with fail
            have cA : ∀ d os, Calls Tryd.prog 12 #[.agg #[.int .i64 k, .int .i64 n, .int .i64 m]] (Sort.grow (redrawn w6 d) os) fun e w'' => e = .returned (.bool true) ∧ ∃ p : Regrown, w'' = Sort.grow (redrawn w6 p.d) p.os := fun d os => Calls.regrown_of (HOA.out _)
            have cO : ∀ d os, Calls Tryd.prog 12 #[.agg #[.int .i64 k, .int .i64 n, .int .i64 m]] (Sort.grow (redrawn w6 d) os) fun e w'' => e = .returned (.bool true) ∧ ∃ p : Regrown, w'' = Sort.grow (redrawn w6 p.d) p.os := fun d os => Calls.regrown_of (HOO.out _)
            have cW : ∀ d os, Calls Tryd.prog 13 #[.agg C, .agg #[.int .i64 k, .int .i64 n, .int .i64 m]] (Sort.grow (redrawn w6 d) os) fun e w'' => e = .returned (.int .i16 x) ∧ ∃ p : Regrown, w'' = Sort.grow (redrawn w6 p.d) p.os := fun d os => Calls.regrown_of (HWp.out _ (kt d os))
            have cX : ∀ d os, Calls Tryd.prog 13 #[.agg c, .agg #[.int .i64 k, .int .i64 n, .int .i64 m]] (Sort.grow (redrawn w6 d) os) fun e w'' => e = .returned (.int .i16 x) ∧ ∃ p : Regrown, w'' = Sort.grow (redrawn w6 p.d) p.os := fun d os => Calls.regrown_of (HWm.out _ (kt d os))
            refine wp_region_quiet_below (by kernel_rfl) (by kernel_rfl) ?_
            repeat (first | (refine wpQ_load rfl 37 (.tmp 9) rfl _ _ rfl (.agg C) (fun W hW => load_all (row_regrown KC.out hW) _ _ Tryd.underlying37 rfl IC.out) ?_; simp only [Act.put, List.setIfInBounds_toArray, List.set_cons_succ, List.set_cons_zero]) | (refine wpQ_load rfl 37 (.tmp 5) rfl _ _ rfl (.agg c) (fun W hW => load_all (row_regrown Kc.out hW) _ _ Tryd.underlying37 rfl HI.out) ?_; simp only [Act.put, List.setIfInBounds_toArray, List.set_cons_succ, List.set_cons_zero]) | go_big_quiet_step (first | with_reducible exact cA _ _ | with_reducible exact cO _ _ | with_reducible exact cW _ _ | with_reducible exact cX _ _))
            refine wpQuiet_nil ?_
            intro w7 hw'
            have Kc7 := row_regrown Kc.out hw'
            have KC7 := row_regrown KC.out hw'
            have Ka7 := row_regrown Ka.out hw'
            have b7 : Below w.heap.size w w7 := by
              obtain ⟨⟨dq, osq⟩, rfl⟩ := hw'
              exact B6.out.trans ((below_regrown w6 dq osq).mono B6.out.size)
            clear hw' kt cA cO cW cX q0 q1 q2 q3 q4 q5
            have z0 : w7.cell? ⟨g1 + 1, 0, none⟩ = some (.int .i64 k) := (cell_of_row _ _ _ _ _ _ Ka7).trans rfl
            have z1 : w7.cell? ⟨g1 + 1, 1, none⟩ = some (.int .i64 n) := (cell_of_row _ _ _ _ _ _ Ka7).trans rfl
            have z2 : w7.cell? ⟨g1 + 1, 2, none⟩ = some (.int .i64 m) := (cell_of_row _ _ _ _ _ _ Ka7).trans rfl
            have q0 := cell_regrown z0
            have q1 := cell_regrown z1
            have q2 := cell_regrown z2
            go_upto_region 12 with fail
            have kt : ∀ d os, KT (Sort.grow (redrawn w7 d) os) := fun d os => (HT.out.later b7).later (below_regrown w7 d os)
            have c1 : ∀ d os, Calls Tryd.prog 8 #[.agg C, .agg #[.int .i64 k, .int .i64 n, .int .i64 m]] (Sort.grow (redrawn w7 d) os) fun e w'' => e = .returned (.bool b) ∧ ∃ p : Regrown, w'' = Sort.grow (redrawn w7 p.d) p.os := fun d os => Calls.regrown_of (HBa.out _ (kt d os))
            have c2 : ∀ d os, Calls Tryd.prog 9 #[.agg C, .agg #[.int .i64 k, .int .i64 n, .int .i64 m], .bool v0] (Sort.grow (redrawn w7 d) os) fun e w'' => e = .returned (.agg c) ∧ ∃ p : Regrown, w'' = Sort.grow (redrawn w7 p.d) p.os := fun d os => Calls.regrown_of (HPb.out _ (kt d os))
            have c3 : ∀ d os, Calls Tryd.prog 10 #[.agg c, .agg c] (Sort.grow (redrawn w7 d) os) fun e w'' => e = .returned (.bool true) ∧ ∃ p : Regrown, w'' = Sort.grow (redrawn w7 p.d) p.os := fun d os => Calls.regrown_of (same_i c HC.out _)
            have hbb : (b == b) = true := by simp
            refine wp_region_quiet_below (by kernel_rfl) (by kernel_rfl) ?_
            repeat (first | (refine wpQ_load rfl 37 (.tmp 9) rfl _ _ rfl (.agg C) (fun W hW => load_all (row_regrown KC7 hW) _ _ Tryd.underlying37 rfl IC.out) ?_; simp only [Act.put, List.setIfInBounds_toArray, List.set_cons_succ, List.set_cons_zero]) | (refine wpQ_load rfl 37 (.tmp 5) rfl _ _ rfl (.agg c) (fun W hW => load_all (row_regrown Kc7 hW) _ _ Tryd.underlying37 rfl HI.out) ?_; simp only [Act.put, List.setIfInBounds_toArray, List.set_cons_succ, List.set_cons_zero]) | go_big_quiet_step (first | with_reducible exact c1 _ _ | with_reducible exact c2 _ _ | with_reducible exact c3 _ _))
            refine wpQuiet_nil ?_
            intro _ hw'
            obtain ⟨⟨dq, osq⟩, hw''⟩ := hw'
            subst hw''
            go_wp2
            go_ret
            exact ⟨by simp, b7.trans ((below_regrown w7 dq osq).mono b7.size)⟩
          · have HEQ : Hid (mbit C k2 n2 = v1) := (by rw [HCC.out, HV1.out]; exact mbit_other HC.out b K2.out.1 K2.out.2 ha ho (.inr e2) : mbit C k2 n2 = v1)
            have f2 : (n2 == n) = false := by simp [e2]
            clear e2
            subst k2
            have HOA : Hid (∀ W, Calls Tryd.prog 12 #[.agg #[.int .i64 k, .int .i64 n, .int .i64 m]] W fun e w' => e = .returned (.bool true) ∧ Below W.heap.size W w') := fun W => by have := spec_ok k n m W; rwa [ha] at this
            have HOO : Hid (∀ W, Calls Tryd.prog 12 #[.agg #[.int .i64 k, .int .i64 n2, .int .i64 m2]] W fun e w' => e = .returned (.bool true) ∧ Below W.heap.size W w') := fun W => by have := spec_ok k n2 m2 W; rwa [ho] at this
            have HBo : Hid (∀ W, KT W → Calls Tryd.prog 8 #[.agg C, .agg #[.int .i64 k, .int .i64 n2, .int .i64 m2]] W fun e w' => e = .returned (.bool v1) ∧ Below W.heap.size W w') := fun W hW => by
              have := mbit_i C HCM.out k n2 m2 W hW
              rw [HEQ.out] at this
              exact this
            go_upto_region 10 with fail
            have cA : ∀ d os, Calls Tryd.prog 12 #[.agg #[.int .i64 k, .int .i64 n, .int .i64 m]] (Sort.grow (redrawn w6 d) os) fun e w'' => e = .returned (.bool true) ∧ ∃ p : Regrown, w'' = Sort.grow (redrawn w6 p.d) p.os := fun d os => Calls.regrown_of (HOA.out _)
            have cO : ∀ d os, Calls Tryd.prog 12 #[.agg #[.int .i64 k, .int .i64 n2, .int .i64 m2]] (Sort.grow (redrawn w6 d) os) fun e w'' => e = .returned (.bool true) ∧ ∃ p : Regrown, w'' = Sort.grow (redrawn w6 p.d) p.os := fun d os => Calls.regrown_of (HOO.out _)
            have cB : ∀ d os, Calls Tryd.prog 8 #[.agg C, .agg #[.int .i64 k, .int .i64 n2, .int .i64 m2]] (Sort.grow (redrawn w6 d) os) fun e w'' => e = .returned (.bool v1) ∧ ∃ p : Regrown, w'' = Sort.grow (redrawn w6 p.d) p.os := fun d os => Calls.regrown_of (HBo.out _ (kt d os))
            have cW : ∀ d os, Calls Tryd.prog 13 #[.agg C, .agg #[.int .i64 k, .int .i64 n2, .int .i64 m2]] (Sort.grow (redrawn w6 d) os) fun e w'' => e = .returned (.int .i16 x) ∧ ∃ p : Regrown, w'' = Sort.grow (redrawn w6 p.d) p.os := fun d os => Calls.regrown_of (HWp.out _ (kt d os))
            have cX : ∀ d os, Calls Tryd.prog 13 #[.agg c, .agg #[.int .i64 k, .int .i64 n2, .int .i64 m2]] (Sort.grow (redrawn w6 d) os) fun e w'' => e = .returned (.int .i16 x) ∧ ∃ p : Regrown, w'' = Sort.grow (redrawn w6 p.d) p.os := fun d os => Calls.regrown_of (HWm.out _ (kt d os))
            refine wp_region_quiet_below (by kernel_rfl) (by kernel_rfl) ?_
            repeat (first | (refine wpQ_load rfl 37 (.tmp 9) rfl _ _ rfl (.agg C) (fun W hW => load_all (row_regrown KC.out hW) _ _ Tryd.underlying37 rfl IC.out) ?_; simp only [Act.put, List.setIfInBounds_toArray, List.set_cons_succ, List.set_cons_zero]) | (refine wpQ_load rfl 37 (.tmp 5) rfl _ _ rfl (.agg c) (fun W hW => load_all (row_regrown Kc.out hW) _ _ Tryd.underlying37 rfl HI.out) ?_; simp only [Act.put, List.setIfInBounds_toArray, List.set_cons_succ, List.set_cons_zero]) | go_big_quiet_step (first | with_reducible exact cA _ _ | with_reducible exact cO _ _ | with_reducible exact cB _ _ | with_reducible exact cW _ _ | with_reducible exact cX _ _))
            refine wpQuiet_nil ?_
            intro w7 hw'
            have Kc7 := row_regrown Kc.out hw'
            have KC7 := row_regrown KC.out hw'
            have Ka7 := row_regrown Ka.out hw'
            have b7 : Below w.heap.size w w7 := by
              obtain ⟨⟨dq, osq⟩, rfl⟩ := hw'
              exact B6.out.trans ((below_regrown w6 dq osq).mono B6.out.size)
            clear hw' kt cA cO cB cW cX q0 q1 q2 q3 q4 q5
            have z0 : w7.cell? ⟨g1 + 1, 0, none⟩ = some (.int .i64 k) := (cell_of_row _ _ _ _ _ _ Ka7).trans rfl
            have z1 : w7.cell? ⟨g1 + 1, 1, none⟩ = some (.int .i64 n) := (cell_of_row _ _ _ _ _ _ Ka7).trans rfl
            have z2 : w7.cell? ⟨g1 + 1, 2, none⟩ = some (.int .i64 m) := (cell_of_row _ _ _ _ _ _ Ka7).trans rfl
            have q0 := cell_regrown z0
            have q1 := cell_regrown z1
            have q2 := cell_regrown z2
            go_upto_region 12 with fail
            have kt : ∀ d os, KT (Sort.grow (redrawn w7 d) os) := fun d os => (HT.out.later b7).later (below_regrown w7 d os)
            have c1 : ∀ d os, Calls Tryd.prog 8 #[.agg C, .agg #[.int .i64 k, .int .i64 n, .int .i64 m]] (Sort.grow (redrawn w7 d) os) fun e w'' => e = .returned (.bool b) ∧ ∃ p : Regrown, w'' = Sort.grow (redrawn w7 p.d) p.os := fun d os => Calls.regrown_of (HBa.out _ (kt d os))
            have c2 : ∀ d os, Calls Tryd.prog 9 #[.agg C, .agg #[.int .i64 k, .int .i64 n, .int .i64 m], .bool v0] (Sort.grow (redrawn w7 d) os) fun e w'' => e = .returned (.agg c) ∧ ∃ p : Regrown, w'' = Sort.grow (redrawn w7 p.d) p.os := fun d os => Calls.regrown_of (HPb.out _ (kt d os))
            have c3 : ∀ d os, Calls Tryd.prog 10 #[.agg c, .agg c] (Sort.grow (redrawn w7 d) os) fun e w'' => e = .returned (.bool true) ∧ ∃ p : Regrown, w'' = Sort.grow (redrawn w7 p.d) p.os := fun d os => Calls.regrown_of (same_i c HC.out _)
            have hbb : (b == b) = true := by simp
            refine wp_region_quiet_below (by kernel_rfl) (by kernel_rfl) ?_
            repeat (first | (refine wpQ_load rfl 37 (.tmp 9) rfl _ _ rfl (.agg C) (fun W hW => load_all (row_regrown KC7 hW) _ _ Tryd.underlying37 rfl IC.out) ?_; simp only [Act.put, List.setIfInBounds_toArray, List.set_cons_succ, List.set_cons_zero]) | (refine wpQ_load rfl 37 (.tmp 5) rfl _ _ rfl (.agg c) (fun W hW => load_all (row_regrown Kc7 hW) _ _ Tryd.underlying37 rfl HI.out) ?_; simp only [Act.put, List.setIfInBounds_toArray, List.set_cons_succ, List.set_cons_zero]) | go_big_quiet_step (first | with_reducible exact c1 _ _ | with_reducible exact c2 _ _ | with_reducible exact c3 _ _))
            refine wpQuiet_nil ?_
            intro _ hw'
            obtain ⟨⟨dq, osq⟩, hw''⟩ := hw'
            subst hw''
            go_wp2
            go_ret
            exact ⟨by simp, b7.trans ((below_regrown w7 dq osq).mono b7.size)⟩
        · have HEQ : Hid (mbit C k2 n2 = v1) := (by rw [HCC.out, HV1.out]; exact mbit_other HC.out b K2.out.1 K2.out.2 ha ho (.inl e1) : mbit C k2 n2 = v1)
          have f1 : (k2 == k) = false := by simp [e1]
          clear e1
          have HOA : Hid (∀ W, Calls Tryd.prog 12 #[.agg #[.int .i64 k, .int .i64 n, .int .i64 m]] W fun e w' => e = .returned (.bool true) ∧ Below W.heap.size W w') := fun W => by have := spec_ok k n m W; rwa [ha] at this
          have HOO : Hid (∀ W, Calls Tryd.prog 12 #[.agg #[.int .i64 k2, .int .i64 n2, .int .i64 m2]] W fun e w' => e = .returned (.bool true) ∧ Below W.heap.size W w') := fun W => by have := spec_ok k2 n2 m2 W; rwa [ho] at this
          have HBo : Hid (∀ W, KT W → Calls Tryd.prog 8 #[.agg C, .agg #[.int .i64 k2, .int .i64 n2, .int .i64 m2]] W fun e w' => e = .returned (.bool v1) ∧ Below W.heap.size W w') := fun W hW => by
            have := mbit_i C HCM.out k2 n2 m2 W hW
            rw [HEQ.out] at this
            exact this
          go_upto_region 10 with fail
          have cA : ∀ d os, Calls Tryd.prog 12 #[.agg #[.int .i64 k, .int .i64 n, .int .i64 m]] (Sort.grow (redrawn w6 d) os) fun e w'' => e = .returned (.bool true) ∧ ∃ p : Regrown, w'' = Sort.grow (redrawn w6 p.d) p.os := fun d os => Calls.regrown_of (HOA.out _)
          have cO : ∀ d os, Calls Tryd.prog 12 #[.agg #[.int .i64 k2, .int .i64 n2, .int .i64 m2]] (Sort.grow (redrawn w6 d) os) fun e w'' => e = .returned (.bool true) ∧ ∃ p : Regrown, w'' = Sort.grow (redrawn w6 p.d) p.os := fun d os => Calls.regrown_of (HOO.out _)
          have cB : ∀ d os, Calls Tryd.prog 8 #[.agg C, .agg #[.int .i64 k2, .int .i64 n2, .int .i64 m2]] (Sort.grow (redrawn w6 d) os) fun e w'' => e = .returned (.bool v1) ∧ ∃ p : Regrown, w'' = Sort.grow (redrawn w6 p.d) p.os := fun d os => Calls.regrown_of (HBo.out _ (kt d os))
          have cW : ∀ d os, Calls Tryd.prog 13 #[.agg C, .agg #[.int .i64 k2, .int .i64 n2, .int .i64 m2]] (Sort.grow (redrawn w6 d) os) fun e w'' => e = .returned (.int .i16 x) ∧ ∃ p : Regrown, w'' = Sort.grow (redrawn w6 p.d) p.os := fun d os => Calls.regrown_of (HWp.out _ (kt d os))
          have cX : ∀ d os, Calls Tryd.prog 13 #[.agg c, .agg #[.int .i64 k2, .int .i64 n2, .int .i64 m2]] (Sort.grow (redrawn w6 d) os) fun e w'' => e = .returned (.int .i16 x) ∧ ∃ p : Regrown, w'' = Sort.grow (redrawn w6 p.d) p.os := fun d os => Calls.regrown_of (HWm.out _ (kt d os))
          refine wp_region_quiet_below (by kernel_rfl) (by kernel_rfl) ?_
          repeat (first | (refine wpQ_load rfl 37 (.tmp 9) rfl _ _ rfl (.agg C) (fun W hW => load_all (row_regrown KC.out hW) _ _ Tryd.underlying37 rfl IC.out) ?_; simp only [Act.put, List.setIfInBounds_toArray, List.set_cons_succ, List.set_cons_zero]) | (refine wpQ_load rfl 37 (.tmp 5) rfl _ _ rfl (.agg c) (fun W hW => load_all (row_regrown Kc.out hW) _ _ Tryd.underlying37 rfl HI.out) ?_; simp only [Act.put, List.setIfInBounds_toArray, List.set_cons_succ, List.set_cons_zero]) | go_big_quiet_step (first | with_reducible exact cA _ _ | with_reducible exact cO _ _ | with_reducible exact cB _ _ | with_reducible exact cW _ _ | with_reducible exact cX _ _))
          refine wpQuiet_nil ?_
          intro w7 hw'
          have Kc7 := row_regrown Kc.out hw'
          have KC7 := row_regrown KC.out hw'
          have Ka7 := row_regrown Ka.out hw'
          have b7 : Below w.heap.size w w7 := by
            obtain ⟨⟨dq, osq⟩, rfl⟩ := hw'
            exact B6.out.trans ((below_regrown w6 dq osq).mono B6.out.size)
          clear hw' kt cA cO cB cW cX q0 q1 q2 q3 q4 q5
          have z0 : w7.cell? ⟨g1 + 1, 0, none⟩ = some (.int .i64 k) := (cell_of_row _ _ _ _ _ _ Ka7).trans rfl
          have z1 : w7.cell? ⟨g1 + 1, 1, none⟩ = some (.int .i64 n) := (cell_of_row _ _ _ _ _ _ Ka7).trans rfl
          have z2 : w7.cell? ⟨g1 + 1, 2, none⟩ = some (.int .i64 m) := (cell_of_row _ _ _ _ _ _ Ka7).trans rfl
          have q0 := cell_regrown z0
          have q1 := cell_regrown z1
          have q2 := cell_regrown z2
          go_upto_region 12 with fail
          have kt : ∀ d os, KT (Sort.grow (redrawn w7 d) os) := fun d os => (HT.out.later b7).later (below_regrown w7 d os)
          have c1 : ∀ d os, Calls Tryd.prog 8 #[.agg C, .agg #[.int .i64 k, .int .i64 n, .int .i64 m]] (Sort.grow (redrawn w7 d) os) fun e w'' => e = .returned (.bool b) ∧ ∃ p : Regrown, w'' = Sort.grow (redrawn w7 p.d) p.os := fun d os => Calls.regrown_of (HBa.out _ (kt d os))
          have c2 : ∀ d os, Calls Tryd.prog 9 #[.agg C, .agg #[.int .i64 k, .int .i64 n, .int .i64 m], .bool v0] (Sort.grow (redrawn w7 d) os) fun e w'' => e = .returned (.agg c) ∧ ∃ p : Regrown, w'' = Sort.grow (redrawn w7 p.d) p.os := fun d os => Calls.regrown_of (HPb.out _ (kt d os))
          have c3 : ∀ d os, Calls Tryd.prog 10 #[.agg c, .agg c] (Sort.grow (redrawn w7 d) os) fun e w'' => e = .returned (.bool true) ∧ ∃ p : Regrown, w'' = Sort.grow (redrawn w7 p.d) p.os := fun d os => Calls.regrown_of (same_i c HC.out _)
          have hbb : (b == b) = true := by simp
          refine wp_region_quiet_below (by kernel_rfl) (by kernel_rfl) ?_
          repeat (first | (refine wpQ_load rfl 37 (.tmp 9) rfl _ _ rfl (.agg C) (fun W hW => load_all (row_regrown KC7 hW) _ _ Tryd.underlying37 rfl IC.out) ?_; simp only [Act.put, List.setIfInBounds_toArray, List.set_cons_succ, List.set_cons_zero]) | (refine wpQ_load rfl 37 (.tmp 5) rfl _ _ rfl (.agg c) (fun W hW => load_all (row_regrown Kc7 hW) _ _ Tryd.underlying37 rfl HI.out) ?_; simp only [Act.put, List.setIfInBounds_toArray, List.set_cons_succ, List.set_cons_zero]) | go_big_quiet_step (first | with_reducible exact c1 _ _ | with_reducible exact c2 _ _ | with_reducible exact c3 _ _))
          refine wpQuiet_nil ?_
          intro _ hw'
          obtain ⟨⟨dq, osq⟩, hw''⟩ := hw'
          subst hw''
          go_wp2
          go_ret
          exact ⟨by simp, b7.trans ((below_regrown w7 dq osq).mono b7.size)⟩

set_option maxHeartbeats 400000 in
theorem walk_mput (a1 : Option Addr) (len1 cap1 : Nat) (zs1 : List Int) (a2 : Option Addr) (len2 cap2 : Nat) (zs2 : List Int) (w : World) (h1 : IsRow .u8 w a1 len1 cap1 zs1) (h2 : IsRow .u8 w a2 len2 cap2 zs2) (hk : KT w) :
    Calls Tryd.prog 3 #[.slice a1 len1 cap1, .slice a2 len2 cap2] w fun e w' => e = .returned (.bool true) ∧ Below w.heap.size w w' := by
  have lim : ∀ (a : Option Addr) (len cap : Nat) (zs : List Int), IsRow .u8 w a len cap zs → len ≤ maxLen := fun a len cap zs h => by
    rcases h with ⟨_, rfl, _⟩ | ⟨_, _, h1, h2, _⟩
    · omega
    · omega
  by_cases hl : len1 ≤ 1048576
  · by_cases hl2 : len2 ≤ 1048576
    · obtain ⟨blk1, off1, z1, hc1⟩ := h1.code hl
      obtain ⟨blk2, off2, z2, hc2⟩ := h2.code hl2
      exact law_mput w hk hc1 hc2
    · have hcap := lim _ _ _ _ h2
      unfold maxLen at hcap
      have i0 : ¬ ((1048576 : Int) < (len1 : Int)) := by omega
      have i1 : (1048576 : Int) < (len2 : Int) := by omega
      clear lim
      go_enter Tryd.func3, Tryd.ntmps3
      go_wp2
      go_ret
      exact ⟨rfl, Below.refl _ _⟩
  · have hcap := lim _ _ _ _ h1
    unfold maxLen at hcap
    have i1 : (1048576 : Int) < (len1 : Int) := by omega
    clear lim
    go_enter Tryd.func3, Tryd.ntmps3
    go_wp2
    go_ret
    exact ⟨rfl, Below.refl _ _⟩
end Go.Proofs.YtlpoplnghfohmaaDoor
