/- The law FnMemPutNumber: its walk. -/
import Derived.Test.YtjnddfpieogpiaaDoorLa
import Derived.Test.YtjnddfpieogpiaaDoorSe6
import Derived.Test.YtjnddfpieogpiaaDoorMi
import Derived.Test.YtjnddfpieogpiaaDoorMj
import Derived.Test.YtjnddfpieogpiaaDoorMk
import Derived.Test.YtjnddfpieogpiaaDoorWs
import Derived.Lib.QuietBelow
namespace Go.Proofs.YtjnddfpieogpiaaDoor
open Go.RowKit Go.Shelf
set_option linter.unusedVariables false

theorem ms_self (c : Array Value) : MS c c := ⟨fun j hj => rfl, fun i h1 h2 => rfl⟩
theorem put_back {c : Array Value} {i : Nat} {u v : Value} (h : c[i]? = some u) : (c.setIfInBounds i v).setIfInBounds i u = c := by
  apply Array.ext_getElem?
  intro j
  by_cases hj : i = j
  · subst hj
    have := (Array.getElem?_eq_some_iff.1 h).1
    rw [Array.getElem?_setIfInBounds_self_of_lt (by simpa using this), h]
  · rw [Array.getElem?_setIfInBounds_ne hj, Array.getElem?_setIfInBounds_ne hj]
theorem okset {c : Array Value} (hc : MemOk c) (i : Nat) {v : Value} (hv : CellIs (kd i) v) : MemOk (c.setIfInBounds i v) :=
  ⟨by simpa using hc.size, fun j u hu => by
    by_cases e : i = j
    · subst e
      by_cases hl : i < c.size
      · rw [Array.getElem?_setIfInBounds_self_of_lt hl] at hu
        obtain rfl := Option.some.inj hu
        exact hv
      · rw [Array.getElem?_eq_none (by simpa using hl)] at hu
        cases hu
    · rw [Array.getElem?_setIfInBounds_ne e] at hu
      exact hc.cell j u hu⟩

set_option maxRecDepth 10000 in
set_option maxHeartbeats 8000000 in
theorem law_mpn {a a2 : Option Addr} {len cap blk off len2 cap2 blk2 off2 : Nat} {z z2 : Nat → Int} (w : World) (hT : KT w) (h : Code0 w a len cap blk off z) (h2 : Code0 w a2 len2 cap2 blk2 off2 z2) :
    Calls Tryd.prog 3 #[.slice a len cap, .slice a2 len2 cap2] w fun e w' => e = .returned (.bool true) ∧ Below w.heap.size w w' := by
  have HT : Hid (KT w) := hT
  have hl := h.short
  have hl2 := h2.short
  have i1 : ¬ ((1048576 : Int) < (len : Int)) := by omega
  have i2 : ¬ ((1048576 : Int) < (len2 : Int)) := by omega
  have hz := zero_mem.1
  obtain ⟨Z, HZ⟩ : ∃ Z, Hid (Z = memZero) := ⟨_, rfl⟩
  rw [← HZ.out] at hz
  have HZs : Hid (Z.size = 136) := (by rw [HZ.out, memZero_size] : Z.size = 136)
  have H2 : Hid (Code0 w a2 len2 cap2 blk2 off2 z2) := h2
  clear hT h2 hl hl2
  go_enter Tryd.func3, Tryd.ntmps3
  go_wp2_with fail
  refine (drawputw_r w h).mono ?_
  rintro e w1 ⟨⟨c, k, n, m, v, hc, n0, n1, hv, rfl⟩, b1⟩
  have HC : Hid (MemOk c) := hc
  have HV : Hid (-32768 ≤ v ∧ v ≤ 32767) := hv
  have Ic : Hid ((Tryd.prog.info? 37).map (·.size) = some c.size) := (by rw [HC.out.size]; exact zero_mem.2 : (Tryd.prog.info? 37).map (·.size) = some c.size)
  have r0 := rows2 w1 (.cells Z 37) (.cells #[.int .i64 0, .int .i64 0, .int .i64 0] 39)
  obtain ⟨u1, HU1⟩ : ∃ u, Hid (u = ((w1.alloc (.cells Z 37)).alloc (.cells #[.int .i64 0, .int .i64 0, .int .i64 0] 39)).setRow w1.heap.size c) := ⟨_, rfl⟩
  have HS1 : Hid ((storeVar 37 ⟨w1.heap.size, 0, none⟩ (.agg c)).run Tryd.prog ((w1.alloc (.cells Z 37)).alloc (.cells #[.int .i64 0, .int .i64 0, .int .i64 0] 39)) = .ok () u1) := by
    rw [HU1.out]; exact store_all r0.1 _ _ (HZs.out.trans hc.size.symm) Ic.out hc.one
  have k1 : u1.heap[w1.heap.size + 1]? = some (.cells #[.int .i64 0, .int .i64 0, .int .i64 0] 39 (0, 0)) := by rw [HU1.out]; exact row_beside r0.2 w1.heap.size (by omega) c
  obtain ⟨u2, HU2⟩ : ∃ u, Hid (u = u1.setRow (w1.heap.size + 1) #[.int .i64 k, .int .i64 n, .int .i64 m]) := ⟨_, rfl⟩
  have HS2 : Hid ((storeVar 39 ⟨w1.heap.size + 1, 0, none⟩ (.agg #[.int .i64 k, .int .i64 n, .int .i64 m])).run Tryd.prog u1 = .ok () u2) := by
    rw [HU2.out]; exact store_all k1 _ _ rfl arg_size (int3_one k n m)
  have h1 : u2.heap[w1.heap.size]? = some (.cells c 37 (0, 0)) := by rw [HU2.out]; exact row_beside (by rw [HU1.out]; exact row_set r0.1 c) (w1.heap.size + 1) (by omega) _
  have h2 : u2.heap[w1.heap.size + 1]? = some (.cells #[.int .i64 k, .int .i64 n, .int .i64 m] 39 (0, 0)) := by rw [HU2.out]; exact row_set k1 _
  have hb : Below w.heap.size w u2 := by rw [HU2.out, HU1.out]; exact below_setRow (below_setRow ((b1.alloc b1.size _).alloc (by have := b1.size; simp; omega) _) b1.size _) (by have := b1.size; omega) _
  obtain ⟨g1, HG1⟩ : ∃ g, Hid (g = w1.heap.size) := ⟨_, rfl⟩
  have hg1 : w.heap.size ≤ g1 := by rw [HG1.out]; exact b1.size
  rw [← HG1.out] at h1 h2
  have HA : Hid (u2.heap[g1]? = some (.cells c 37 (0, 0))) := h1
  have HB : Hid (u2.heap[g1 + 1]? = some (.cells #[.int .i64 k, .int .i64 n, .int .i64 m] 39 (0, 0))) := h2
  have HBu : Hid (Below w.heap.size w u2) := hb
  clear hc hv b1 HU1 HU2 h1 h2 hb h r0 k1
  go_wp2_with (first | (refine wpL_store rfl 37 _ _ rfl _ _ rfl _ rfl _ HS1.out ?_) | (refine wpL_store rfl 39 _ _ rfl _ _ rfl _ rfl _ HS2.out ?_) | fail)
  rw [← HG1.out]
  clear HS1 HS2 HG1 w1
  refine (drawputr_r u2 (H2.out.later HBu.out)).mono ?_
  rintro e w1 ⟨⟨d, k2, n2, m2, x, hd, p0, p1, hx, rfl⟩, b1⟩
  have HD : Hid (MemOk d) := hd
  have HX : Hid (x < 18446744073709551616) := hx
  have Id : Hid ((Tryd.prog.info? 37).map (·.size) = some d.size) := (by rw [HD.out.size]; exact zero_mem.2 : (Tryd.prog.info? 37).map (·.size) = some d.size)
  have lA := (Array.getElem?_eq_some_iff.1 HA.out).1
  have lB := (Array.getElem?_eq_some_iff.1 HB.out).1
  have hA1 := (b1.block _ lA).trans HA.out
  have hB1 := (b1.block _ lB).trans HB.out
  have lA1 := (Array.getElem?_eq_some_iff.1 hA1).1
  have lB1 := (Array.getElem?_eq_some_iff.1 hB1).1
  have b2 := HBu.out.trans (b1.mono HBu.out.size)
  have r0 := rows2 w1 (.cells Z 37) (.cells #[.int .i64 0, .int .i64 0, .int .i64 0] 39)
  have hA2 : ((w1.alloc (.cells Z 37)).alloc (.cells #[.int .i64 0, .int .i64 0, .int .i64 0] 39)).heap[g1]? = some (.cells c 37 (0, 0)) := (((Below.refl w1.heap.size w1).alloc (Nat.le_refl _) _).alloc (by simp) _ |>.block _ lA1).trans hA1
  have hB2 : ((w1.alloc (.cells Z 37)).alloc (.cells #[.int .i64 0, .int .i64 0, .int .i64 0] 39)).heap[g1 + 1]? = some (.cells #[.int .i64 k, .int .i64 n, .int .i64 m] 39 (0, 0)) := (((Below.refl w1.heap.size w1).alloc (Nat.le_refl _) _).alloc (by simp) _ |>.block _ lB1).trans hB1
  obtain ⟨u1, HU1⟩ : ∃ u, Hid (u = ((w1.alloc (.cells Z 37)).alloc (.cells #[.int .i64 0, .int .i64 0, .int .i64 0] 39)).setRow w1.heap.size d) := ⟨_, rfl⟩
  have HS1 : Hid ((storeVar 37 ⟨w1.heap.size, 0, none⟩ (.agg d)).run Tryd.prog ((w1.alloc (.cells Z 37)).alloc (.cells #[.int .i64 0, .int .i64 0, .int .i64 0] 39)) = .ok () u1) := by
    rw [HU1.out]; exact store_all r0.1 _ _ (HZs.out.trans hd.size.symm) Id.out hd.one
  have k1 : u1.heap[w1.heap.size + 1]? = some (.cells #[.int .i64 0, .int .i64 0, .int .i64 0] 39 (0, 0)) := by rw [HU1.out]; exact row_beside r0.2 w1.heap.size (by omega) d
  obtain ⟨u3, HU3⟩ : ∃ u, Hid (u = u1.setRow (w1.heap.size + 1) #[.int .i64 k2, .int .i64 n2, .int .i64 m2]) := ⟨_, rfl⟩
  have HS2 : Hid ((storeVar 39 ⟨w1.heap.size + 1, 0, none⟩ (.agg #[.int .i64 k2, .int .i64 n2, .int .i64 m2])).run Tryd.prog u1 = .ok () u3) := by
    rw [HU3.out]; exact store_all k1 _ _ rfl arg_size (int3_one k2 n2 m2)
  have h1 : u3.heap[w1.heap.size]? = some (.cells d 37 (0, 0)) := by rw [HU3.out]; exact row_beside (by rw [HU1.out]; exact row_set r0.1 d) (w1.heap.size + 1) (by omega) _
  have h2 : u3.heap[w1.heap.size + 1]? = some (.cells #[.int .i64 k2, .int .i64 n2, .int .i64 m2] 39 (0, 0)) := by rw [HU3.out]; exact row_set k1 _
  have hA3 : u3.heap[g1]? = some (.cells c 37 (0, 0)) := by rw [HU3.out, HU1.out]; exact row_beside (row_beside hA2 _ (by omega) _) _ (by omega) _
  have hB3 : u3.heap[g1 + 1]? = some (.cells #[.int .i64 k, .int .i64 n, .int .i64 m] 39 (0, 0)) := by rw [HU3.out, HU1.out]; exact row_beside (row_beside hB2 _ (by omega) _) _ (by omega) _
  have hb : Below w.heap.size w u3 := by rw [HU3.out, HU1.out]; exact below_setRow (below_setRow ((b2.alloc b2.size _).alloc (by have := b2.size; simp; omega) _) b2.size _) (by have := b2.size; omega) _
  obtain ⟨g2, HG2⟩ : ∃ g, Hid (g = w1.heap.size) := ⟨_, rfl⟩
  rw [← HG2.out] at h1 h2
  have hg2 : g1 + 2 ≤ g2 := by rw [HG2.out]; omega
  have JA : Hid (u3.heap[g1]? = some (.cells c 37 (0, 0))) := hA3
  have JB : Hid (u3.heap[g1 + 1]? = some (.cells #[.int .i64 k, .int .i64 n, .int .i64 m] 39 (0, 0))) := hB3
  have JC : Hid (u3.heap[g2]? = some (.cells d 37 (0, 0))) := h1
  have JD : Hid (u3.heap[g2 + 1]? = some (.cells #[.int .i64 k2, .int .i64 n2, .int .i64 m2] 39 (0, 0))) := h2
  have HBv : Hid (Below w.heap.size w u3) := hb
  have HLc : Hid ((loadVar 37 ⟨g1, 0, none⟩).run Tryd.prog u3 = .ok (.agg c) u3) := load_all hA3 _ _ Tryd.underlying37 rfl Ic.out
  have HLa : Hid ((loadVar 39 ⟨g1 + 1, 0, none⟩).run Tryd.prog u3 = .ok (.agg #[.int .i64 k, .int .i64 n, .int .i64 m]) u3) := load_all hB3 _ _ Tryd.underlying39 rfl arg_size
  clear hd hx b1 lA lB hA1 hB1 lA1 lB1 b2 r0 hA2 hB2 HU1 HU3 k1 h1 h2 hA3 hB3 hb HA HB HBu H2
  go_wp2_with (first | (refine wpL_store rfl 37 _ _ rfl _ _ rfl _ rfl _ HS1.out ?_) | (refine wpL_store rfl 39 _ _ rfl _ _ rfl _ rfl _ HS2.out ?_) | (refine wpL_load rfl 37 _ rfl _ _ rfl _ HLc.out ?_) | (refine wpL_load rfl 39 _ rfl _ _ rfl _ HLa.out ?_) | fail)
  rw [← HG2.out]
  clear HS1 HS2 HG2 w1
  by_cases hk : k = 9
  · subst hk
    obtain ⟨C, HCE⟩ : ∃ C, Hid (C = c.setIfInBounds (85 + (pl 9 n).toNat) (.int .i16 v)) := ⟨_, rfl⟩
    obtain ⟨pq0, pq1⟩ := pl_lt 9 n (by decide)
    rw [show kZ 9 = 32 from rfl] at pq1
    have HCC : Hid (MemOk C) := (by
      rw [HCE.out]
      refine okset HC.out _ ?_
      rw [kd_d (by omega)]
      have := HV.out
      simp [CellIs, Value.oneCell']
      omega : MemOk C)
    have ICC : Hid ((Tryd.prog.info? 37).map (·.size) = some C.size) := (by rw [HCC.out.size]; exact zero_mem.2 : (Tryd.prog.info? 37).map (·.size) = some C.size)
    have hCv : C[85 + (pl 9 n).toNat]? = some (.int .i16 v) := by rw [HCE.out]; exact Array.getElem?_setIfInBounds_self_of_lt (by rw [HC.out.size]; omega)
    obtain ⟨wo, hwo, _, _⟩ := HC.out.i16 (i := 85 + (pl 9 n).toNat) (by omega) (kd_d (by omega))
    have hwas : mwhole c 9 n = wo := by
      show word c (85 + (pl 9 n).toNat) = wo
      exact word_of hwo
    have HPW : Hid (∀ W, KT W → Calls Tryd.prog 7 #[.agg c, .agg #[.int .i64 9, .int .i64 n, .int .i64 m], .int .i16 v] W fun e w' => e = .returned (.agg C) ∧ Below W.heap.size W w') := fun W hW => by
      have hh := putw_i c HC.out 9 n m v W hW
      have e2 : putk c 9 85 9 n (.int .i16 v) = C := by unfold putk; rw [if_pos rfl, HCE.out]
      rwa [e2] at hh
    have HPB : Hid (∀ W, KT W → Calls Tryd.prog 7 #[.agg C, .agg #[.int .i64 9, .int .i64 n, .int .i64 m], .int .i16 wo] W fun e w' => e = .returned (.agg c) ∧ Below W.heap.size W w') := fun W hW => by
      have hh := putw_i C HCC.out 9 n m wo W hW
      have e2 : putk C 9 85 9 n (.int .i16 wo) = c := by unfold putk; rw [if_pos rfl, HCE.out]; exact put_back hwo
      rwa [e2] at hh
    have HWC : Hid (∀ W, KT W → Calls Tryd.prog 6 #[.agg C, .agg #[.int .i64 9, .int .i64 n, .int .i64 m]] W fun e w' => e = .returned (.int .i16 v) ∧ Below W.heap.size W w') := fun W hW => by
      have hh := mwhole_i C HCC.out 9 n m W hW
      have e2 : mwhole C 9 n = v := by
        show word C (85 + (pl 9 n).toNat) = v
        exact word_of hCv
      rwa [e2] at hh
    clear hCv hwo pq0 pq1
    refine (mwhole_i c HC.out 9 n m u3 (HT.out.later HBv.out)).mono ?_
    rintro e w4 ⟨rfl, b4⟩
    rw [hwas]
    clear hwas
    have lA := (Array.getElem?_eq_some_iff.1 JA.out).1
    have lB := (Array.getElem?_eq_some_iff.1 JB.out).1
    have lC := (Array.getElem?_eq_some_iff.1 JC.out).1
    have lD := (Array.getElem?_eq_some_iff.1 JD.out).1
    have KA : Hid (w4.heap[g1]? = some (.cells c 37 (0, 0))) := (b4.block _ lA).trans JA.out
    have KB : Hid (w4.heap[g1 + 1]? = some (.cells #[.int .i64 9, .int .i64 n, .int .i64 m] 39 (0, 0))) := (b4.block _ lB).trans JB.out
    have KC : Hid (w4.heap[g2]? = some (.cells d 37 (0, 0))) := (b4.block _ lC).trans JC.out
    have KD : Hid (w4.heap[g2 + 1]? = some (.cells #[.int .i64 k2, .int .i64 n2, .int .i64 m2] 39 (0, 0))) := (b4.block _ lD).trans JD.out
    have HB4 : Hid (Below w.heap.size w w4) := HBv.out.trans (b4.mono HBv.out.size)
    have HLc4 : Hid ((loadVar 37 ⟨g1, 0, none⟩).run Tryd.prog w4 = .ok (.agg c) w4) := load_all KA.out _ _ Tryd.underlying37 rfl Ic.out
    have HLa4 : Hid ((loadVar 39 ⟨g1 + 1, 0, none⟩).run Tryd.prog w4 = .ok (.agg #[.int .i64 9, .int .i64 n, .int .i64 m]) w4) := load_all KB.out _ _ Tryd.underlying39 rfl arg_size
    clear lA lB lC lD b4 HLc HLa JA JB JC JD HBv
    go_wp2_with (first | (refine wpL_load rfl 37 _ rfl _ _ rfl _ HLc4.out ?_) | (refine wpL_load rfl 39 _ rfl _ _ rfl _ HLa4.out ?_) | fail)
    refine (HPW.out _ (HT.out.later HB4.out)).mono ?_
    rintro e w5 ⟨rfl, b5⟩
    have a1 := (b5.block _ (Array.getElem?_eq_some_iff.1 KA.out).1).trans KA.out
    have a2 := (b5.block _ (Array.getElem?_eq_some_iff.1 KB.out).1).trans KB.out
    have a3 := (b5.block _ (Array.getElem?_eq_some_iff.1 KC.out).1).trans KC.out
    have a4 := (b5.block _ (Array.getElem?_eq_some_iff.1 KD.out).1).trans KD.out
    have l1 := (Array.getElem?_eq_some_iff.1 a1).1
    have l2 := (Array.getElem?_eq_some_iff.1 a2).1
    have l3 := (Array.getElem?_eq_some_iff.1 a3).1
    have l4 := (Array.getElem?_eq_some_iff.1 a4).1
    have hb5 := HB4.out.trans (b5.mono HB4.out.size)
    obtain ⟨u5, HU5⟩ : ∃ u, Hid (u = (w5.alloc (.cells Z 37)).setRow w5.heap.size C) := ⟨_, rfl⟩
    have HS5 : Hid ((storeVar 37 ⟨w5.heap.size, 0, none⟩ (.agg C)).run Tryd.prog (w5.alloc (.cells Z 37)) = .ok () u5) := by
      rw [HU5.out]; exact store_all (heap_alloc_last _ _) _ _ (HZs.out.trans HCC.out.size.symm) ICC.out HCC.out.one
    have al := ((Below.refl w5.heap.size w5).alloc (Nat.le_refl _) (.cells Z 37))
    have RA : Hid (u5.heap[g1]? = some (.cells c 37 (0, 0))) := (by rw [HU5.out]; exact row_beside ((al.block _ l1).trans a1) _ (by omega) _ : u5.heap[g1]? = some (.cells c 37 (0, 0)))
    have RB : Hid (u5.heap[g1 + 1]? = some (.cells #[.int .i64 9, .int .i64 n, .int .i64 m] 39 (0, 0))) := (by rw [HU5.out]; exact row_beside ((al.block _ l2).trans a2) _ (by omega) _ : u5.heap[g1 + 1]? = some (.cells #[.int .i64 9, .int .i64 n, .int .i64 m] 39 (0, 0)))
    have RC : Hid (u5.heap[g2]? = some (.cells d 37 (0, 0))) := (by rw [HU5.out]; exact row_beside ((al.block _ l3).trans a3) _ (by omega) _ : u5.heap[g2]? = some (.cells d 37 (0, 0)))
    have RD : Hid (u5.heap[g2 + 1]? = some (.cells #[.int .i64 k2, .int .i64 n2, .int .i64 m2] 39 (0, 0))) := (by rw [HU5.out]; exact row_beside ((al.block _ l4).trans a4) _ (by omega) _ : u5.heap[g2 + 1]? = some (.cells #[.int .i64 k2, .int .i64 n2, .int .i64 m2] 39 (0, 0)))
    have RE : Hid (u5.heap[w5.heap.size]? = some (.cells C 37 (0, 0))) := (by rw [HU5.out]; exact row_set (heap_alloc_last _ _) _ : u5.heap[w5.heap.size]? = some (.cells C 37 (0, 0)))
    have HB5 : Hid (Below w.heap.size w u5) := (by rw [HU5.out]; exact below_setRow (hb5.alloc hb5.size _) hb5.size _ : Below w.heap.size w u5)
    have z0 : u5.cell? ⟨g1 + 1, 0, none⟩ = some (.int .i64 9) := (cell_of_row _ _ _ _ _ _ RB.out).trans rfl
    have q0 := cell_regrown z0
    clear a1 a2 a3 a4 l1 l2 l3 l4 al hb5 b5 HU5 HLc4 HLa4 KA KB KC KD HB4
    go_upto_region 7 with (first | (refine wpL_store rfl 37 _ _ rfl _ _ rfl _ rfl _ HS5.out ?_) | fail)
    simp only [Act.put]
    have kt : ∀ d os, KT (Sort.grow (redrawn u5 d) os) := fun d os => (HT.out.later HB5.out).later (below_regrown u5 d os)
    have cS : ∀ d os, Calls Tryd.prog 8 #[.agg c, .agg c] (Sort.grow (redrawn u5 d) os) fun e w'' => e = .returned (.bool true) ∧ ∃ p : Regrown, w'' = Sort.grow (redrawn u5 p.d) p.os := fun d os => Calls.regrown_of (same_i c c HC.out HC.out true ⟨fun _ => ms_self c, fun _ => rfl⟩ _)
    have cM : ∀ d os, Calls Tryd.prog 6 #[.agg C, .agg #[.int .i64 9, .int .i64 n, .int .i64 m]] (Sort.grow (redrawn u5 d) os) fun e w'' => e = .returned (.int .i16 v) ∧ ∃ p : Regrown, w'' = Sort.grow (redrawn u5 p.d) p.os := fun d os => Calls.regrown_of (HWC.out _ (kt d os))
    have cP : ∀ d os, Calls Tryd.prog 7 #[.agg C, .agg #[.int .i64 9, .int .i64 n, .int .i64 m], .int .i16 wo] (Sort.grow (redrawn u5 d) os) fun e w'' => e = .returned (.agg c) ∧ ∃ p : Regrown, w'' = Sort.grow (redrawn u5 p.d) p.os := fun d os => Calls.regrown_of (HPB.out _ (kt d os))
    refine wp_region_quiet_below (by kernel_rfl) (by kernel_rfl) ?_
    go_big_quiet_step (first | with_reducible exact cS _ _ | with_reducible exact cM _ _ | with_reducible exact cP _ _)
    go_big_quiet_step (first | with_reducible exact cS _ _ | with_reducible exact cM _ _ | with_reducible exact cP _ _)
    go_big_quiet_step (first | with_reducible exact cS _ _ | with_reducible exact cM _ _ | with_reducible exact cP _ _)
    go_big_quiet_step (first | with_reducible exact cS _ _ | with_reducible exact cM _ _ | with_reducible exact cP _ _)
    go_big_quiet_step (first | with_reducible exact cS _ _ | with_reducible exact cM _ _ | with_reducible exact cP _ _)
    go_big_quiet_step (first | with_reducible exact cS _ _ | with_reducible exact cM _ _ | with_reducible exact cP _ _)
    go_big_quiet_step (first | with_reducible exact cS _ _ | with_reducible exact cM _ _ | with_reducible exact cP _ _)
    go_big_quiet_step (first | with_reducible exact cS _ _ | with_reducible exact cM _ _ | with_reducible exact cP _ _)
    go_big_quiet_step (first | with_reducible exact cS _ _ | with_reducible exact cM _ _ | with_reducible exact cP _ _)
    go_big_quiet_step (first | with_reducible exact cS _ _ | with_reducible exact cM _ _ | with_reducible exact cP _ _)
    go_big_quiet_step (first | with_reducible exact cS _ _ | with_reducible exact cM _ _ | with_reducible exact cP _ _)
    go_big_quiet_step (first | with_reducible exact cS _ _ | with_reducible exact cM _ _ | with_reducible exact cP _ _)
    go_big_quiet_step (first | with_reducible exact cS _ _ | with_reducible exact cM _ _ | with_reducible exact cP _ _)
    go_big_quiet_step (first | with_reducible exact cS _ _ | with_reducible exact cM _ _ | with_reducible exact cP _ _)
    refine wpQ_load rfl 37 (.tmp 12) rfl _ _ rfl (.agg C) (fun W hW => load_all (row_regrown RE.out hW) _ _ Tryd.underlying37 rfl ICC.out) ?_; simp only [Act.put, List.setIfInBounds_toArray, List.set_cons_succ, List.set_cons_zero]
    refine wpQ_load rfl 39 (.tmp 6) rfl _ _ rfl (.agg #[.int .i64 9, .int .i64 n, .int .i64 m]) (fun W hW => load_all (row_regrown RB.out hW) _ _ Tryd.underlying39 rfl arg_size) ?_; simp only [Act.put, List.setIfInBounds_toArray, List.set_cons_succ, List.set_cons_zero]
    go_big_quiet_step (first | with_reducible exact cS _ _ | with_reducible exact cM _ _ | with_reducible exact cP _ _)
    go_big_quiet_step (first | with_reducible exact cS _ _ | with_reducible exact cM _ _ | with_reducible exact cP _ _)
    go_big_quiet_step (first | with_reducible exact cS _ _ | with_reducible exact cM _ _ | with_reducible exact cP _ _)
    go_big_quiet_step (first | with_reducible exact cS _ _ | with_reducible exact cM _ _ | with_reducible exact cP _ _)
    refine wpQ_load rfl 37 (.tmp 12) rfl _ _ rfl (.agg C) (fun W hW => load_all (row_regrown RE.out hW) _ _ Tryd.underlying37 rfl ICC.out) ?_; simp only [Act.put, List.setIfInBounds_toArray, List.set_cons_succ, List.set_cons_zero]
    refine wpQ_load rfl 39 (.tmp 6) rfl _ _ rfl (.agg #[.int .i64 9, .int .i64 n, .int .i64 m]) (fun W hW => load_all (row_regrown RB.out hW) _ _ Tryd.underlying39 rfl arg_size) ?_; simp only [Act.put, List.setIfInBounds_toArray, List.set_cons_succ, List.set_cons_zero]
    go_big_quiet_step (first | with_reducible exact cS _ _ | with_reducible exact cM _ _ | with_reducible exact cP _ _)
    go_big_quiet_step (first | with_reducible exact cS _ _ | with_reducible exact cM _ _ | with_reducible exact cP _ _)
    refine wpQ_load rfl 37 (.tmp 5) rfl _ _ rfl (.agg c) (fun W hW => load_all (row_regrown RA.out hW) _ _ Tryd.underlying37 rfl Ic.out) ?_; simp only [Act.put, List.setIfInBounds_toArray, List.set_cons_succ, List.set_cons_zero]
    go_big_quiet_step (first | with_reducible exact cS _ _ | with_reducible exact cM _ _ | with_reducible exact cP _ _)
    go_big_quiet_step (first | with_reducible exact cS _ _ | with_reducible exact cM _ _ | with_reducible exact cP _ _)
    go_big_quiet_step (first | with_reducible exact cS _ _ | with_reducible exact cM _ _ | with_reducible exact cP _ _)
    go_big_quiet_step (first | with_reducible exact cS _ _ | with_reducible exact cM _ _ | with_reducible exact cP _ _)
    go_big_quiet_step (first | with_reducible exact cS _ _ | with_reducible exact cM _ _ | with_reducible exact cP _ _)
    refine wpQuiet_nil ?_
    intro w7 hw'
    have KC : Hid (w7.heap[g2]? = some (.cells d 37 (0, 0))) := row_regrown RC.out hw'
    have KD : Hid (w7.heap[g2 + 1]? = some (.cells #[.int .i64 k2, .int .i64 n2, .int .i64 m2] 39 (0, 0))) := row_regrown RD.out hw'
    have HB0 : Hid (Below w.heap.size w w7) := (by
      obtain ⟨⟨dq, osq⟩, rfl⟩ := hw'
      exact HB5.out.trans ((below_regrown u5 dq osq).mono HB5.out.size) : Below w.heap.size w w7)
    clear hw' kt cS cM cP q0 z0 RA RB RC RD RE HB5 HS5 HPW HPB HWC
    by_cases hk2 : k2 = 10
    · subst hk2
      obtain ⟨E, HEE⟩ : ∃ E, Hid (E = d.setIfInBounds (117 + (pl 10 n2).toNat) (.float .f64 x)) := ⟨_, rfl⟩
      obtain ⟨pq0, pq1⟩ := pl_lt 10 n2 (by decide)
      rw [show kZ 10 = 16 from rfl] at pq1
      have HE : Hid (MemOk E) := (by
        rw [HEE.out]
        refine okset HD.out _ ?_
        rw [kd_r (by omega)]
        simp [CellIs, Value.oneCell', FloatKind.has]
        exact HX.out : MemOk E)
      have IE : Hid ((Tryd.prog.info? 37).map (·.size) = some E.size) := (by rw [HE.out.size]; exact zero_mem.2 : (Tryd.prog.info? 37).map (·.size) = some E.size)
      have hEx : E[117 + (pl 10 n2).toNat]? = some (.float .f64 x) := by rw [HEE.out]; exact Array.getElem?_setIfInBounds_self_of_lt (by rw [HD.out.size]; omega)
      have HPR : Hid (∀ W, KT W → Calls Tryd.prog 10 #[.agg d, .agg #[.int .i64 10, .int .i64 n2, .int .i64 m2], .float .f64 x] W fun e w' => e = .returned (.agg E) ∧ Below W.heap.size W w') := fun W hW => by
        have hh := putr_i d HD.out 10 n2 m2 x W hW
        have e2 : putk d 10 117 10 n2 (.float .f64 x) = E := by unfold putk; rw [if_pos rfl, HEE.out]
        rwa [e2] at hh
      have HMR : Hid (∀ W, KT W → Calls Tryd.prog 9 #[.agg E, .agg #[.int .i64 10, .int .i64 n2, .int .i64 m2]] W fun e w' => e = .returned (.float .f64 x) ∧ Below W.heap.size W w') := fun W hW => (real_i E HE.out 10 n2 m2 W hW).mono fun e w' hh => by
        obtain ⟨u, he, hu, _, hb⟩ := hh
        rcases hu with ⟨_, hu⟩ | ⟨hu, _⟩
        · rw [hEx] at hu
          obtain rfl : x = u := by simpa using hu
          exact ⟨he, hb⟩
        · exact absurd rfl hu
      have HWS : Hid (∀ W, Calls Tryd.prog 11 #[.float .f64 x, .float .f64 x] W fun e w' => e = .returned (.bool true) ∧ Below W.heap.size W w') := fun W => (ws_r x x W).mono fun e w' hh => ⟨by rw [hh.1, decide_eq_true (ws_of_same (.inl rfl))], hh.2 ▸ Below.refl _ _⟩
      clear hEx pq0 pq1
      have HLd : Hid ((loadVar 37 ⟨g2, 0, none⟩).run Tryd.prog w7 = .ok (.agg d) w7) := load_all KC.out _ _ Tryd.underlying37 rfl Id.out
      have HLb : Hid ((loadVar 39 ⟨g2 + 1, 0, none⟩).run Tryd.prog w7 = .ok (.agg #[.int .i64 10, .int .i64 n2, .int .i64 m2]) w7) := load_all KD.out _ _ Tryd.underlying39 rfl arg_size
      go_wp2_with (first | (refine wpL_load rfl 37 _ rfl _ _ rfl _ HLd.out ?_) | (refine wpL_load rfl 39 _ rfl _ _ rfl _ HLb.out ?_) | fail)
      refine (real_i d HD.out 10 n2 m2 _ (HT.out.later HB0.out)).mono ?_
      rintro e v1 ⟨y, rfl, hy, -, b1⟩
      have HY : Hid (MRv d 10 n2 m2 y) := hy
      have lc := (Array.getElem?_eq_some_iff.1 KC.out).1
      have ld := (Array.getElem?_eq_some_iff.1 KD.out).1
      have c1 := (b1.block _ lc).trans KC.out
      have d1 := (b1.block _ ld).trans KD.out
      have hb1 := HB0.out.trans (b1.mono HB0.out.size)
      have HLd1 : Hid ((loadVar 37 ⟨g2, 0, none⟩).run Tryd.prog v1 = .ok (.agg d) v1) := load_all c1 _ _ Tryd.underlying37 rfl Id.out
      have HLb1 : Hid ((loadVar 39 ⟨g2 + 1, 0, none⟩).run Tryd.prog v1 = .ok (.agg #[.int .i64 10, .int .i64 n2, .int .i64 m2]) v1) := load_all d1 _ _ Tryd.underlying39 rfl arg_size
      have KC1 : Hid (v1.heap[g2]? = some (.cells d 37 (0, 0))) := c1
      have KD1 : Hid (v1.heap[g2 + 1]? = some (.cells #[.int .i64 10, .int .i64 n2, .int .i64 m2] 39 (0, 0))) := d1
      have HB1 : Hid (Below w.heap.size w v1) := hb1
      clear hy lc ld c1 d1 b1 hb1 HLd HLb KC KD HB0
      go_wp2_with (first | (refine wpL_load rfl 37 _ rfl _ _ rfl _ HLd1.out ?_) | (refine wpL_load rfl 39 _ rfl _ _ rfl _ HLb1.out ?_) | fail)
      refine (HPR.out _ (HT.out.later HB1.out)).mono ?_
      rintro e v2 ⟨rfl, b2⟩
      have lc := (Array.getElem?_eq_some_iff.1 KC1.out).1
      have ld := (Array.getElem?_eq_some_iff.1 KD1.out).1
      have c2 := (b2.block _ lc).trans KC1.out
      have d2 := (b2.block _ ld).trans KD1.out
      have l2 := (Array.getElem?_eq_some_iff.1 c2).1
      have l3 := (Array.getElem?_eq_some_iff.1 d2).1
      have hb2 := HB1.out.trans (b2.mono HB1.out.size)
      obtain ⟨v3, HV3⟩ : ∃ u, Hid (u = (v2.alloc (.cells Z 37)).setRow v2.heap.size E) := ⟨_, rfl⟩
      have HS3 : Hid ((storeVar 37 ⟨v2.heap.size, 0, none⟩ (.agg E)).run Tryd.prog (v2.alloc (.cells Z 37)) = .ok () v3) := by
        rw [HV3.out]; exact store_all (heap_alloc_last _ _) _ _ (HZs.out.trans HE.out.size.symm) IE.out HE.out.one
      have a2 := ((Below.refl v2.heap.size v2).alloc (Nat.le_refl _) (.cells Z 37))
      have KC3 : Hid (v3.heap[g2]? = some (.cells d 37 (0, 0))) := (by rw [HV3.out]; exact row_beside ((a2.block _ l2).trans c2) _ (by omega) _ : v3.heap[g2]? = some (.cells d 37 (0, 0)))
      have KD3 : Hid (v3.heap[g2 + 1]? = some (.cells #[.int .i64 10, .int .i64 n2, .int .i64 m2] 39 (0, 0))) := (by rw [HV3.out]; exact row_beside ((a2.block _ l3).trans d2) _ (by omega) _ : v3.heap[g2 + 1]? = some (.cells #[.int .i64 10, .int .i64 n2, .int .i64 m2] 39 (0, 0)))
      have KE3 : Hid (v3.heap[v2.heap.size]? = some (.cells E 37 (0, 0))) := (by rw [HV3.out]; exact row_set (heap_alloc_last _ _) _ : v3.heap[v2.heap.size]? = some (.cells E 37 (0, 0)))
      have HB3 : Hid (Below w.heap.size w v3) := (by rw [HV3.out]; exact below_setRow (hb2.alloc hb2.size _) hb2.size _ : Below w.heap.size w v3)
      have z0 : v3.cell? ⟨g2 + 1, 0, none⟩ = some (.int .i64 10) := (cell_of_row _ _ _ _ _ _ KD3.out).trans rfl
      clear lc ld c2 d2 l2 l3 b2 hb2 a2 HV3 HLd1 HLb1 KC1 KD1 HB1
      have hyd : d[117 + (pl 10 n2).toNat]? = some (.float .f64 y) := by
        rcases HY.out with ⟨_, h⟩ | ⟨h, _⟩
        · exact h
        · exact absurd rfl h
      have HQ : Hid (∀ W, KT W → Calls Tryd.prog 10 #[.agg E, .agg #[.int .i64 10, .int .i64 n2, .int .i64 m2], .float .f64 y] W fun e w' => e = .returned (.agg d) ∧ Below W.heap.size W w') := fun W hW => by
        have hh := putr_i E HE.out 10 n2 m2 y W hW
        have e2 : putk E 10 117 10 n2 (.float .f64 y) = d := by unfold putk; rw [if_pos rfl, HEE.out]; exact put_back hyd
        rwa [e2] at hh
      clear hyd
      go_upto_region 13 with (first | (refine wpL_store rfl 37 _ _ rfl _ _ rfl _ rfl _ HS3.out ?_) | fail)
      try simp only [Act.put]
      have kt : ∀ d os, KT (Sort.grow (redrawn v3 d) os) := fun d os => (HT.out.later HB3.out).later (below_regrown v3 d os)
      have cR : ∀ d os, Calls Tryd.prog 9 #[.agg E, .agg #[.int .i64 10, .int .i64 n2, .int .i64 m2]] (Sort.grow (redrawn v3 d) os) fun e w'' => e = .returned (.float .f64 x) ∧ ∃ p : Regrown, w'' = Sort.grow (redrawn v3 p.d) p.os := fun d os => Calls.regrown_of (HMR.out _ (kt d os))
      have cW : ∀ d os, Calls Tryd.prog 11 #[.float .f64 x, .float .f64 x] (Sort.grow (redrawn v3 d) os) fun e w'' => e = .returned (.bool true) ∧ ∃ p : Regrown, w'' = Sort.grow (redrawn v3 p.d) p.os := fun d os => Calls.regrown_of (HWS.out _)
      have cP : ∀ dd os, Calls Tryd.prog 10 #[.agg E, .agg #[.int .i64 10, .int .i64 n2, .int .i64 m2], .float .f64 y] (Sort.grow (redrawn v3 dd) os) fun e w'' => e = .returned (.agg d) ∧ ∃ p : Regrown, w'' = Sort.grow (redrawn v3 p.d) p.os := fun dd os => Calls.regrown_of (HQ.out _ (kt dd os))
      have cS : ∀ dd os, Calls Tryd.prog 8 #[.agg d, .agg d] (Sort.grow (redrawn v3 dd) os) fun e w'' => e = .returned (.bool true) ∧ ∃ p : Regrown, w'' = Sort.grow (redrawn v3 p.d) p.os := fun dd os => Calls.regrown_of (same_i d d HD.out HD.out true ⟨fun _ => ms_self d, fun _ => rfl⟩ _)
      refine wp_region_quiet_below (by kernel_rfl) (by kernel_rfl) ?_
      refine wpQ_load rfl 37 (.tmp 14) rfl _ _ rfl (.agg E) (fun W hW => load_all (row_regrown KE3.out hW) _ _ Tryd.underlying37 rfl IE.out) ?_; simp only [Act.put, List.setIfInBounds_toArray, List.set_cons_succ, List.set_cons_zero]
      refine wpQ_load rfl 39 (.tmp 9) rfl _ _ rfl (.agg #[.int .i64 10, .int .i64 n2, .int .i64 m2]) (fun W hW => load_all (row_regrown KD3.out hW) _ _ Tryd.underlying39 rfl arg_size) ?_; simp only [Act.put, List.setIfInBounds_toArray, List.set_cons_succ, List.set_cons_zero]
      go_big_quiet_step (first | with_reducible exact cR _ _ | with_reducible exact cW _ _ | with_reducible exact cP _ _ | with_reducible exact cS _ _)
      go_big_quiet_step (first | with_reducible exact cR _ _ | with_reducible exact cW _ _ | with_reducible exact cP _ _ | with_reducible exact cS _ _)
      go_big_quiet_step (first | with_reducible exact cR _ _ | with_reducible exact cW _ _ | with_reducible exact cP _ _ | with_reducible exact cS _ _)
      go_big_quiet_step (first | with_reducible exact cR _ _ | with_reducible exact cW _ _ | with_reducible exact cP _ _ | with_reducible exact cS _ _)
      refine wpQ_load rfl 37 (.tmp 14) rfl _ _ rfl (.agg E) (fun W hW => load_all (row_regrown KE3.out hW) _ _ Tryd.underlying37 rfl IE.out) ?_; simp only [Act.put, List.setIfInBounds_toArray, List.set_cons_succ, List.set_cons_zero]
      refine wpQ_load rfl 39 (.tmp 9) rfl _ _ rfl (.agg #[.int .i64 10, .int .i64 n2, .int .i64 m2]) (fun W hW => load_all (row_regrown KD3.out hW) _ _ Tryd.underlying39 rfl arg_size) ?_; simp only [Act.put, List.setIfInBounds_toArray, List.set_cons_succ, List.set_cons_zero]
      go_big_quiet_step (first | with_reducible exact cR _ _ | with_reducible exact cW _ _ | with_reducible exact cP _ _ | with_reducible exact cS _ _)
      go_big_quiet_step (first | with_reducible exact cR _ _ | with_reducible exact cW _ _ | with_reducible exact cP _ _ | with_reducible exact cS _ _)
      refine wpQ_load rfl 37 (.tmp 8) rfl _ _ rfl (.agg d) (fun W hW => load_all (row_regrown KC3.out hW) _ _ Tryd.underlying37 rfl Id.out) ?_; simp only [Act.put, List.setIfInBounds_toArray, List.set_cons_succ, List.set_cons_zero]
      go_big_quiet_step (first | with_reducible exact cR _ _ | with_reducible exact cW _ _ | with_reducible exact cP _ _ | with_reducible exact cS _ _)
      go_big_quiet_step (first | with_reducible exact cR _ _ | with_reducible exact cW _ _ | with_reducible exact cP _ _ | with_reducible exact cS _ _)
      go_big_quiet_step (first | with_reducible exact cR _ _ | with_reducible exact cW _ _ | with_reducible exact cP _ _ | with_reducible exact cS _ _)
      refine wpQuiet_nil ?_
      intro _ hw'
      obtain ⟨⟨dq, osq⟩, hw''⟩ := hw'
      subst hw''
      go_wp2
      go_ret
      exact ⟨rfl, HB3.out.trans ((below_regrown v3 dq osq).mono HB3.out.size)⟩
    · have HPR : Hid (∀ W, KT W → Calls Tryd.prog 10 #[.agg d, .agg #[.int .i64 k2, .int .i64 n2, .int .i64 m2], .float .f64 x] W fun e w' => e = .returned (.agg d) ∧ Below W.heap.size W w') := fun W hW => by
        have hh := putr_i d HD.out k2 n2 m2 x W hW
        have e2 : putk d 10 117 k2 n2 (.float .f64 x) = d := by unfold putk; rw [if_neg hk2]
        rwa [e2] at hh
      have HE := HD
      have IE := Id
      have hk2' : (k2 == 10) = false := by simpa using hk2
      have HLd : Hid ((loadVar 37 ⟨g2, 0, none⟩).run Tryd.prog w7 = .ok (.agg d) w7) := load_all KC.out _ _ Tryd.underlying37 rfl Id.out
      have HLb : Hid ((loadVar 39 ⟨g2 + 1, 0, none⟩).run Tryd.prog w7 = .ok (.agg #[.int .i64 k2, .int .i64 n2, .int .i64 m2]) w7) := load_all KD.out _ _ Tryd.underlying39 rfl arg_size
      go_wp2_with (first | (refine wpL_load rfl 37 _ rfl _ _ rfl _ HLd.out ?_) | (refine wpL_load rfl 39 _ rfl _ _ rfl _ HLb.out ?_) | fail)
      refine (real_i d HD.out k2 n2 m2 _ (HT.out.later HB0.out)).mono ?_
      rintro e v1 ⟨y, rfl, hy, -, b1⟩
      have HY : Hid (MRv d k2 n2 m2 y) := hy
      have lc := (Array.getElem?_eq_some_iff.1 KC.out).1
      have ld := (Array.getElem?_eq_some_iff.1 KD.out).1
      have c1 := (b1.block _ lc).trans KC.out
      have d1 := (b1.block _ ld).trans KD.out
      have hb1 := HB0.out.trans (b1.mono HB0.out.size)
      have HLd1 : Hid ((loadVar 37 ⟨g2, 0, none⟩).run Tryd.prog v1 = .ok (.agg d) v1) := load_all c1 _ _ Tryd.underlying37 rfl Id.out
      have HLb1 : Hid ((loadVar 39 ⟨g2 + 1, 0, none⟩).run Tryd.prog v1 = .ok (.agg #[.int .i64 k2, .int .i64 n2, .int .i64 m2]) v1) := load_all d1 _ _ Tryd.underlying39 rfl arg_size
      have KC1 : Hid (v1.heap[g2]? = some (.cells d 37 (0, 0))) := c1
      have KD1 : Hid (v1.heap[g2 + 1]? = some (.cells #[.int .i64 k2, .int .i64 n2, .int .i64 m2] 39 (0, 0))) := d1
      have HB1 : Hid (Below w.heap.size w v1) := hb1
      clear hy lc ld c1 d1 b1 hb1 HLd HLb KC KD HB0
      go_wp2_with (first | (refine wpL_load rfl 37 _ rfl _ _ rfl _ HLd1.out ?_) | (refine wpL_load rfl 39 _ rfl _ _ rfl _ HLb1.out ?_) | fail)
      refine (HPR.out _ (HT.out.later HB1.out)).mono ?_
      rintro e v2 ⟨rfl, b2⟩
      have lc := (Array.getElem?_eq_some_iff.1 KC1.out).1
      have ld := (Array.getElem?_eq_some_iff.1 KD1.out).1
      have c2 := (b2.block _ lc).trans KC1.out
      have d2 := (b2.block _ ld).trans KD1.out
      have l2 := (Array.getElem?_eq_some_iff.1 c2).1
      have l3 := (Array.getElem?_eq_some_iff.1 d2).1
      have hb2 := HB1.out.trans (b2.mono HB1.out.size)
      obtain ⟨v3, HV3⟩ : ∃ u, Hid (u = (v2.alloc (.cells Z 37)).setRow v2.heap.size d) := ⟨_, rfl⟩
      have HS3 : Hid ((storeVar 37 ⟨v2.heap.size, 0, none⟩ (.agg d)).run Tryd.prog (v2.alloc (.cells Z 37)) = .ok () v3) := by
        rw [HV3.out]; exact store_all (heap_alloc_last _ _) _ _ (HZs.out.trans HE.out.size.symm) IE.out HE.out.one
      have a2 := ((Below.refl v2.heap.size v2).alloc (Nat.le_refl _) (.cells Z 37))
      have KC3 : Hid (v3.heap[g2]? = some (.cells d 37 (0, 0))) := (by rw [HV3.out]; exact row_beside ((a2.block _ l2).trans c2) _ (by omega) _ : v3.heap[g2]? = some (.cells d 37 (0, 0)))
      have KD3 : Hid (v3.heap[g2 + 1]? = some (.cells #[.int .i64 k2, .int .i64 n2, .int .i64 m2] 39 (0, 0))) := (by rw [HV3.out]; exact row_beside ((a2.block _ l3).trans d2) _ (by omega) _ : v3.heap[g2 + 1]? = some (.cells #[.int .i64 k2, .int .i64 n2, .int .i64 m2] 39 (0, 0)))
      have KE3 : Hid (v3.heap[v2.heap.size]? = some (.cells d 37 (0, 0))) := (by rw [HV3.out]; exact row_set (heap_alloc_last _ _) _ : v3.heap[v2.heap.size]? = some (.cells d 37 (0, 0)))
      have HB3 : Hid (Below w.heap.size w v3) := (by rw [HV3.out]; exact below_setRow (hb2.alloc hb2.size _) hb2.size _ : Below w.heap.size w v3)
      have z0 : v3.cell? ⟨g2 + 1, 0, none⟩ = some (.int .i64 k2) := (cell_of_row _ _ _ _ _ _ KD3.out).trans rfl
      clear lc ld c2 d2 l2 l3 b2 hb2 a2 HV3 HLd1 HLb1 KC1 KD1 HB1
      have HLe : Hid ((loadVar 37 ⟨v2.heap.size, 0, none⟩).run Tryd.prog v3 = .ok (.agg d) v3) := load_all KE3.out _ _ Tryd.underlying37 rfl Id.out
      have HLf : Hid ((loadVar 37 ⟨g2, 0, none⟩).run Tryd.prog v3 = .ok (.agg d) v3) := load_all KC3.out _ _ Tryd.underlying37 rfl Id.out
      go_wp2_with (first | (refine wpL_store rfl 37 _ _ rfl _ _ rfl _ rfl _ HS3.out ?_) | (refine wpL_load rfl 37 _ rfl _ _ rfl _ HLe.out ?_) | (refine wpL_load rfl 37 _ rfl _ _ rfl _ HLf.out ?_) | fail)
      refine (same_i d d HD.out HD.out true ⟨fun _ => ms_self d, fun _ => rfl⟩ _).mono ?_
      rintro e v4 ⟨rfl, b4⟩
      have HB4 : Hid (Below w.heap.size w v4) := HB3.out.trans (b4.mono HB3.out.size)
      clear b4 HB3 HS3 HLe HLf
      go_wp2
      go_ret
      exact ⟨rfl, HB4.out⟩
  · have HPW : Hid (∀ W, KT W → Calls Tryd.prog 7 #[.agg c, .agg #[.int .i64 k, .int .i64 n, .int .i64 m], .int .i16 v] W fun e w' => e = .returned (.agg c) ∧ Below W.heap.size W w') := fun W hW => by
      have hh := putw_i c HC.out k n m v W hW
      have e2 : putk c 9 85 k n (.int .i16 v) = c := by unfold putk; rw [if_neg hk]
      rwa [e2] at hh
    have HCC := HC
    have ICC := Ic
    have hk' : (k == 9) = false := by simpa using hk
    have hk3 : (k != 9) = true := by simpa using hk
    refine (mwhole_i c HC.out k n m u3 (HT.out.later HBv.out)).mono ?_
    rintro e w4 ⟨rfl, b4⟩
    obtain ⟨wo, Hwo⟩ : ∃ x, Hid (mwhole c k n = x) := ⟨_, rfl⟩
    rw [Hwo.out]
    have lA := (Array.getElem?_eq_some_iff.1 JA.out).1
    have lB := (Array.getElem?_eq_some_iff.1 JB.out).1
    have lC := (Array.getElem?_eq_some_iff.1 JC.out).1
    have lD := (Array.getElem?_eq_some_iff.1 JD.out).1
    have KA : Hid (w4.heap[g1]? = some (.cells c 37 (0, 0))) := (b4.block _ lA).trans JA.out
    have KB : Hid (w4.heap[g1 + 1]? = some (.cells #[.int .i64 k, .int .i64 n, .int .i64 m] 39 (0, 0))) := (b4.block _ lB).trans JB.out
    have KC : Hid (w4.heap[g2]? = some (.cells d 37 (0, 0))) := (b4.block _ lC).trans JC.out
    have KD : Hid (w4.heap[g2 + 1]? = some (.cells #[.int .i64 k2, .int .i64 n2, .int .i64 m2] 39 (0, 0))) := (b4.block _ lD).trans JD.out
    have HB4 : Hid (Below w.heap.size w w4) := HBv.out.trans (b4.mono HBv.out.size)
    have HLc4 : Hid ((loadVar 37 ⟨g1, 0, none⟩).run Tryd.prog w4 = .ok (.agg c) w4) := load_all KA.out _ _ Tryd.underlying37 rfl Ic.out
    have HLa4 : Hid ((loadVar 39 ⟨g1 + 1, 0, none⟩).run Tryd.prog w4 = .ok (.agg #[.int .i64 k, .int .i64 n, .int .i64 m]) w4) := load_all KB.out _ _ Tryd.underlying39 rfl arg_size
    clear lA lB lC lD b4 HLc HLa JA JB JC JD HBv
    go_wp2_with (first | (refine wpL_load rfl 37 _ rfl _ _ rfl _ HLc4.out ?_) | (refine wpL_load rfl 39 _ rfl _ _ rfl _ HLa4.out ?_) | fail)
    refine (HPW.out _ (HT.out.later HB4.out)).mono ?_
    rintro e w5 ⟨rfl, b5⟩
    have a1 := (b5.block _ (Array.getElem?_eq_some_iff.1 KA.out).1).trans KA.out
    have a2 := (b5.block _ (Array.getElem?_eq_some_iff.1 KB.out).1).trans KB.out
    have a3 := (b5.block _ (Array.getElem?_eq_some_iff.1 KC.out).1).trans KC.out
    have a4 := (b5.block _ (Array.getElem?_eq_some_iff.1 KD.out).1).trans KD.out
    have l1 := (Array.getElem?_eq_some_iff.1 a1).1
    have l2 := (Array.getElem?_eq_some_iff.1 a2).1
    have l3 := (Array.getElem?_eq_some_iff.1 a3).1
    have l4 := (Array.getElem?_eq_some_iff.1 a4).1
    have hb5 := HB4.out.trans (b5.mono HB4.out.size)
    obtain ⟨u5, HU5⟩ : ∃ u, Hid (u = (w5.alloc (.cells Z 37)).setRow w5.heap.size c) := ⟨_, rfl⟩
    have HS5 : Hid ((storeVar 37 ⟨w5.heap.size, 0, none⟩ (.agg c)).run Tryd.prog (w5.alloc (.cells Z 37)) = .ok () u5) := by
      rw [HU5.out]; exact store_all (heap_alloc_last _ _) _ _ (HZs.out.trans HCC.out.size.symm) ICC.out HCC.out.one
    have al := ((Below.refl w5.heap.size w5).alloc (Nat.le_refl _) (.cells Z 37))
    have RA : Hid (u5.heap[g1]? = some (.cells c 37 (0, 0))) := (by rw [HU5.out]; exact row_beside ((al.block _ l1).trans a1) _ (by omega) _ : u5.heap[g1]? = some (.cells c 37 (0, 0)))
    have RB : Hid (u5.heap[g1 + 1]? = some (.cells #[.int .i64 k, .int .i64 n, .int .i64 m] 39 (0, 0))) := (by rw [HU5.out]; exact row_beside ((al.block _ l2).trans a2) _ (by omega) _ : u5.heap[g1 + 1]? = some (.cells #[.int .i64 k, .int .i64 n, .int .i64 m] 39 (0, 0)))
    have RC : Hid (u5.heap[g2]? = some (.cells d 37 (0, 0))) := (by rw [HU5.out]; exact row_beside ((al.block _ l3).trans a3) _ (by omega) _ : u5.heap[g2]? = some (.cells d 37 (0, 0)))
    have RD : Hid (u5.heap[g2 + 1]? = some (.cells #[.int .i64 k2, .int .i64 n2, .int .i64 m2] 39 (0, 0))) := (by rw [HU5.out]; exact row_beside ((al.block _ l4).trans a4) _ (by omega) _ : u5.heap[g2 + 1]? = some (.cells #[.int .i64 k2, .int .i64 n2, .int .i64 m2] 39 (0, 0)))
    have RE : Hid (u5.heap[w5.heap.size]? = some (.cells c 37 (0, 0))) := (by rw [HU5.out]; exact row_set (heap_alloc_last _ _) _ : u5.heap[w5.heap.size]? = some (.cells c 37 (0, 0)))
    have HB5 : Hid (Below w.heap.size w u5) := (by rw [HU5.out]; exact below_setRow (hb5.alloc hb5.size _) hb5.size _ : Below w.heap.size w u5)
    have z0 : u5.cell? ⟨g1 + 1, 0, none⟩ = some (.int .i64 k) := (cell_of_row _ _ _ _ _ _ RB.out).trans rfl
    have q0 := cell_regrown z0
    clear a1 a2 a3 a4 l1 l2 l3 l4 al hb5 b5 HU5 HLc4 HLa4 KA KB KC KD HB4
    go_upto_region 7 with (first | (refine wpL_store rfl 37 _ _ rfl _ _ rfl _ rfl _ HS5.out ?_) | fail)
    simp only [Act.put]
    have kt : ∀ d os, KT (Sort.grow (redrawn u5 d) os) := fun d os => (HT.out.later HB5.out).later (below_regrown u5 d os)
    have cS : ∀ d os, Calls Tryd.prog 8 #[.agg c, .agg c] (Sort.grow (redrawn u5 d) os) fun e w'' => e = .returned (.bool true) ∧ ∃ p : Regrown, w'' = Sort.grow (redrawn u5 p.d) p.os := fun d os => Calls.regrown_of (same_i c c HC.out HC.out true ⟨fun _ => ms_self c, fun _ => rfl⟩ _)
    refine wp_region_quiet_below (by kernel_rfl) (by kernel_rfl) ?_
    go_big_quiet_step (first | with_reducible exact cS _ _)
    go_big_quiet_step (first | with_reducible exact cS _ _)
    go_big_quiet_step (first | with_reducible exact cS _ _)
    go_big_quiet_step (first | with_reducible exact cS _ _)
    refine wpQ_load rfl 37 (.tmp 12) rfl _ _ rfl (.agg c) (fun W hW => load_all (row_regrown RE.out hW) _ _ Tryd.underlying37 rfl Ic.out) ?_; simp only [Act.put, List.setIfInBounds_toArray, List.set_cons_succ, List.set_cons_zero]
    refine wpQ_load rfl 37 (.tmp 5) rfl _ _ rfl (.agg c) (fun W hW => load_all (row_regrown RA.out hW) _ _ Tryd.underlying37 rfl Ic.out) ?_; simp only [Act.put, List.setIfInBounds_toArray, List.set_cons_succ, List.set_cons_zero]
    go_big_quiet_step (first | with_reducible exact cS _ _)
    go_big_quiet_step (first | with_reducible exact cS _ _)
    go_big_quiet_step (first | with_reducible exact cS _ _)
    go_big_quiet_step (first | with_reducible exact cS _ _)
    go_big_quiet_step (first | with_reducible exact cS _ _)
    go_big_quiet_step (first | with_reducible exact cS _ _)
    go_big_quiet_step (first | with_reducible exact cS _ _)
    go_big_quiet_step (first | with_reducible exact cS _ _)
    go_big_quiet_step (first | with_reducible exact cS _ _)
    go_big_quiet_step (first | with_reducible exact cS _ _)
    go_big_quiet_step (first | with_reducible exact cS _ _)
    go_big_quiet_step (first | with_reducible exact cS _ _)
    go_big_quiet_step (first | with_reducible exact cS _ _)
    go_big_quiet_step (first | with_reducible exact cS _ _)
    go_big_quiet_step (first | with_reducible exact cS _ _)
    go_big_quiet_step (first | with_reducible exact cS _ _)
    go_big_quiet_step (first | with_reducible exact cS _ _)
    go_big_quiet_step (first | with_reducible exact cS _ _)
    go_big_quiet_step (first | with_reducible exact cS _ _)
    go_big_quiet_step (first | with_reducible exact cS _ _)
    go_big_quiet_step (first | with_reducible exact cS _ _)
    go_big_quiet_step (first | with_reducible exact cS _ _)
    go_big_quiet_step (first | with_reducible exact cS _ _)
    go_big_quiet_step (first | with_reducible exact cS _ _)
    refine wpQuiet_nil ?_
    intro w7 hw'
    have KC : Hid (w7.heap[g2]? = some (.cells d 37 (0, 0))) := row_regrown RC.out hw'
    have KD : Hid (w7.heap[g2 + 1]? = some (.cells #[.int .i64 k2, .int .i64 n2, .int .i64 m2] 39 (0, 0))) := row_regrown RD.out hw'
    have HB0 : Hid (Below w.heap.size w w7) := (by
      obtain ⟨⟨dq, osq⟩, rfl⟩ := hw'
      exact HB5.out.trans ((below_regrown u5 dq osq).mono HB5.out.size) : Below w.heap.size w w7)
    clear hw' kt cS q0 z0 RA RB RC RD RE HB5 HS5 HPW
    by_cases hk2 : k2 = 10
    · subst hk2
      obtain ⟨E, HEE⟩ : ∃ E, Hid (E = d.setIfInBounds (117 + (pl 10 n2).toNat) (.float .f64 x)) := ⟨_, rfl⟩
      obtain ⟨pq0, pq1⟩ := pl_lt 10 n2 (by decide)
      rw [show kZ 10 = 16 from rfl] at pq1
      have HE : Hid (MemOk E) := (by
        rw [HEE.out]
        refine okset HD.out _ ?_
        rw [kd_r (by omega)]
        simp [CellIs, Value.oneCell', FloatKind.has]
        exact HX.out : MemOk E)
      have IE : Hid ((Tryd.prog.info? 37).map (·.size) = some E.size) := (by rw [HE.out.size]; exact zero_mem.2 : (Tryd.prog.info? 37).map (·.size) = some E.size)
      have hEx : E[117 + (pl 10 n2).toNat]? = some (.float .f64 x) := by rw [HEE.out]; exact Array.getElem?_setIfInBounds_self_of_lt (by rw [HD.out.size]; omega)
      have HPR : Hid (∀ W, KT W → Calls Tryd.prog 10 #[.agg d, .agg #[.int .i64 10, .int .i64 n2, .int .i64 m2], .float .f64 x] W fun e w' => e = .returned (.agg E) ∧ Below W.heap.size W w') := fun W hW => by
        have hh := putr_i d HD.out 10 n2 m2 x W hW
        have e2 : putk d 10 117 10 n2 (.float .f64 x) = E := by unfold putk; rw [if_pos rfl, HEE.out]
        rwa [e2] at hh
      have HMR : Hid (∀ W, KT W → Calls Tryd.prog 9 #[.agg E, .agg #[.int .i64 10, .int .i64 n2, .int .i64 m2]] W fun e w' => e = .returned (.float .f64 x) ∧ Below W.heap.size W w') := fun W hW => (real_i E HE.out 10 n2 m2 W hW).mono fun e w' hh => by
        obtain ⟨u, he, hu, _, hb⟩ := hh
        rcases hu with ⟨_, hu⟩ | ⟨hu, _⟩
        · rw [hEx] at hu
          obtain rfl : x = u := by simpa using hu
          exact ⟨he, hb⟩
        · exact absurd rfl hu
      have HWS : Hid (∀ W, Calls Tryd.prog 11 #[.float .f64 x, .float .f64 x] W fun e w' => e = .returned (.bool true) ∧ Below W.heap.size W w') := fun W => (ws_r x x W).mono fun e w' hh => ⟨by rw [hh.1, decide_eq_true (ws_of_same (.inl rfl))], hh.2 ▸ Below.refl _ _⟩
      clear hEx pq0 pq1
      have HLd : Hid ((loadVar 37 ⟨g2, 0, none⟩).run Tryd.prog w7 = .ok (.agg d) w7) := load_all KC.out _ _ Tryd.underlying37 rfl Id.out
      have HLb : Hid ((loadVar 39 ⟨g2 + 1, 0, none⟩).run Tryd.prog w7 = .ok (.agg #[.int .i64 10, .int .i64 n2, .int .i64 m2]) w7) := load_all KD.out _ _ Tryd.underlying39 rfl arg_size
      go_wp2_with (first | (refine wpL_load rfl 37 _ rfl _ _ rfl _ HLd.out ?_) | (refine wpL_load rfl 39 _ rfl _ _ rfl _ HLb.out ?_) | fail)
      refine (real_i d HD.out 10 n2 m2 _ (HT.out.later HB0.out)).mono ?_
      rintro e v1 ⟨y, rfl, hy, -, b1⟩
      have HY : Hid (MRv d 10 n2 m2 y) := hy
      have lc := (Array.getElem?_eq_some_iff.1 KC.out).1
      have ld := (Array.getElem?_eq_some_iff.1 KD.out).1
      have c1 := (b1.block _ lc).trans KC.out
      have d1 := (b1.block _ ld).trans KD.out
      have hb1 := HB0.out.trans (b1.mono HB0.out.size)
      have HLd1 : Hid ((loadVar 37 ⟨g2, 0, none⟩).run Tryd.prog v1 = .ok (.agg d) v1) := load_all c1 _ _ Tryd.underlying37 rfl Id.out
      have HLb1 : Hid ((loadVar 39 ⟨g2 + 1, 0, none⟩).run Tryd.prog v1 = .ok (.agg #[.int .i64 10, .int .i64 n2, .int .i64 m2]) v1) := load_all d1 _ _ Tryd.underlying39 rfl arg_size
      have KC1 : Hid (v1.heap[g2]? = some (.cells d 37 (0, 0))) := c1
      have KD1 : Hid (v1.heap[g2 + 1]? = some (.cells #[.int .i64 10, .int .i64 n2, .int .i64 m2] 39 (0, 0))) := d1
      have HB1 : Hid (Below w.heap.size w v1) := hb1
      clear hy lc ld c1 d1 b1 hb1 HLd HLb KC KD HB0
      go_wp2_with (first | (refine wpL_load rfl 37 _ rfl _ _ rfl _ HLd1.out ?_) | (refine wpL_load rfl 39 _ rfl _ _ rfl _ HLb1.out ?_) | fail)
      refine (HPR.out _ (HT.out.later HB1.out)).mono ?_
      rintro e v2 ⟨rfl, b2⟩
      have lc := (Array.getElem?_eq_some_iff.1 KC1.out).1
      have ld := (Array.getElem?_eq_some_iff.1 KD1.out).1
      have c2 := (b2.block _ lc).trans KC1.out
      have d2 := (b2.block _ ld).trans KD1.out
      have l2 := (Array.getElem?_eq_some_iff.1 c2).1
      have l3 := (Array.getElem?_eq_some_iff.1 d2).1
      have hb2 := HB1.out.trans (b2.mono HB1.out.size)
      obtain ⟨v3, HV3⟩ : ∃ u, Hid (u = (v2.alloc (.cells Z 37)).setRow v2.heap.size E) := ⟨_, rfl⟩
      have HS3 : Hid ((storeVar 37 ⟨v2.heap.size, 0, none⟩ (.agg E)).run Tryd.prog (v2.alloc (.cells Z 37)) = .ok () v3) := by
        rw [HV3.out]; exact store_all (heap_alloc_last _ _) _ _ (HZs.out.trans HE.out.size.symm) IE.out HE.out.one
      have a2 := ((Below.refl v2.heap.size v2).alloc (Nat.le_refl _) (.cells Z 37))
      have KC3 : Hid (v3.heap[g2]? = some (.cells d 37 (0, 0))) := (by rw [HV3.out]; exact row_beside ((a2.block _ l2).trans c2) _ (by omega) _ : v3.heap[g2]? = some (.cells d 37 (0, 0)))
      have KD3 : Hid (v3.heap[g2 + 1]? = some (.cells #[.int .i64 10, .int .i64 n2, .int .i64 m2] 39 (0, 0))) := (by rw [HV3.out]; exact row_beside ((a2.block _ l3).trans d2) _ (by omega) _ : v3.heap[g2 + 1]? = some (.cells #[.int .i64 10, .int .i64 n2, .int .i64 m2] 39 (0, 0)))
      have KE3 : Hid (v3.heap[v2.heap.size]? = some (.cells E 37 (0, 0))) := (by rw [HV3.out]; exact row_set (heap_alloc_last _ _) _ : v3.heap[v2.heap.size]? = some (.cells E 37 (0, 0)))
      have HB3 : Hid (Below w.heap.size w v3) := (by rw [HV3.out]; exact below_setRow (hb2.alloc hb2.size _) hb2.size _ : Below w.heap.size w v3)
      have z0 : v3.cell? ⟨g2 + 1, 0, none⟩ = some (.int .i64 10) := (cell_of_row _ _ _ _ _ _ KD3.out).trans rfl
      clear lc ld c2 d2 l2 l3 b2 hb2 a2 HV3 HLd1 HLb1 KC1 KD1 HB1
      have hyd : d[117 + (pl 10 n2).toNat]? = some (.float .f64 y) := by
        rcases HY.out with ⟨_, h⟩ | ⟨h, _⟩
        · exact h
        · exact absurd rfl h
      have HQ : Hid (∀ W, KT W → Calls Tryd.prog 10 #[.agg E, .agg #[.int .i64 10, .int .i64 n2, .int .i64 m2], .float .f64 y] W fun e w' => e = .returned (.agg d) ∧ Below W.heap.size W w') := fun W hW => by
        have hh := putr_i E HE.out 10 n2 m2 y W hW
        have e2 : putk E 10 117 10 n2 (.float .f64 y) = d := by unfold putk; rw [if_pos rfl, HEE.out]; exact put_back hyd
        rwa [e2] at hh
      clear hyd
      go_upto_region 13 with (first | (refine wpL_store rfl 37 _ _ rfl _ _ rfl _ rfl _ HS3.out ?_) | fail)
      try simp only [Act.put]
      have kt : ∀ d os, KT (Sort.grow (redrawn v3 d) os) := fun d os => (HT.out.later HB3.out).later (below_regrown v3 d os)
      have cR : ∀ d os, Calls Tryd.prog 9 #[.agg E, .agg #[.int .i64 10, .int .i64 n2, .int .i64 m2]] (Sort.grow (redrawn v3 d) os) fun e w'' => e = .returned (.float .f64 x) ∧ ∃ p : Regrown, w'' = Sort.grow (redrawn v3 p.d) p.os := fun d os => Calls.regrown_of (HMR.out _ (kt d os))
      have cW : ∀ d os, Calls Tryd.prog 11 #[.float .f64 x, .float .f64 x] (Sort.grow (redrawn v3 d) os) fun e w'' => e = .returned (.bool true) ∧ ∃ p : Regrown, w'' = Sort.grow (redrawn v3 p.d) p.os := fun d os => Calls.regrown_of (HWS.out _)
      have cP : ∀ dd os, Calls Tryd.prog 10 #[.agg E, .agg #[.int .i64 10, .int .i64 n2, .int .i64 m2], .float .f64 y] (Sort.grow (redrawn v3 dd) os) fun e w'' => e = .returned (.agg d) ∧ ∃ p : Regrown, w'' = Sort.grow (redrawn v3 p.d) p.os := fun dd os => Calls.regrown_of (HQ.out _ (kt dd os))
      have cS : ∀ dd os, Calls Tryd.prog 8 #[.agg d, .agg d] (Sort.grow (redrawn v3 dd) os) fun e w'' => e = .returned (.bool true) ∧ ∃ p : Regrown, w'' = Sort.grow (redrawn v3 p.d) p.os := fun dd os => Calls.regrown_of (same_i d d HD.out HD.out true ⟨fun _ => ms_self d, fun _ => rfl⟩ _)
      refine wp_region_quiet_below (by kernel_rfl) (by kernel_rfl) ?_
      refine wpQ_load rfl 37 (.tmp 14) rfl _ _ rfl (.agg E) (fun W hW => load_all (row_regrown KE3.out hW) _ _ Tryd.underlying37 rfl IE.out) ?_; simp only [Act.put, List.setIfInBounds_toArray, List.set_cons_succ, List.set_cons_zero]
      refine wpQ_load rfl 39 (.tmp 9) rfl _ _ rfl (.agg #[.int .i64 10, .int .i64 n2, .int .i64 m2]) (fun W hW => load_all (row_regrown KD3.out hW) _ _ Tryd.underlying39 rfl arg_size) ?_; simp only [Act.put, List.setIfInBounds_toArray, List.set_cons_succ, List.set_cons_zero]
      go_big_quiet_step (first | with_reducible exact cR _ _ | with_reducible exact cW _ _ | with_reducible exact cP _ _ | with_reducible exact cS _ _)
      go_big_quiet_step (first | with_reducible exact cR _ _ | with_reducible exact cW _ _ | with_reducible exact cP _ _ | with_reducible exact cS _ _)
      go_big_quiet_step (first | with_reducible exact cR _ _ | with_reducible exact cW _ _ | with_reducible exact cP _ _ | with_reducible exact cS _ _)
      go_big_quiet_step (first | with_reducible exact cR _ _ | with_reducible exact cW _ _ | with_reducible exact cP _ _ | with_reducible exact cS _ _)
      refine wpQ_load rfl 37 (.tmp 14) rfl _ _ rfl (.agg E) (fun W hW => load_all (row_regrown KE3.out hW) _ _ Tryd.underlying37 rfl IE.out) ?_; simp only [Act.put, List.setIfInBounds_toArray, List.set_cons_succ, List.set_cons_zero]
      refine wpQ_load rfl 39 (.tmp 9) rfl _ _ rfl (.agg #[.int .i64 10, .int .i64 n2, .int .i64 m2]) (fun W hW => load_all (row_regrown KD3.out hW) _ _ Tryd.underlying39 rfl arg_size) ?_; simp only [Act.put, List.setIfInBounds_toArray, List.set_cons_succ, List.set_cons_zero]
      go_big_quiet_step (first | with_reducible exact cR _ _ | with_reducible exact cW _ _ | with_reducible exact cP _ _ | with_reducible exact cS _ _)
      go_big_quiet_step (first | with_reducible exact cR _ _ | with_reducible exact cW _ _ | with_reducible exact cP _ _ | with_reducible exact cS _ _)
      refine wpQ_load rfl 37 (.tmp 8) rfl _ _ rfl (.agg d) (fun W hW => load_all (row_regrown KC3.out hW) _ _ Tryd.underlying37 rfl Id.out) ?_; simp only [Act.put, List.setIfInBounds_toArray, List.set_cons_succ, List.set_cons_zero]
      go_big_quiet_step (first | with_reducible exact cR _ _ | with_reducible exact cW _ _ | with_reducible exact cP _ _ | with_reducible exact cS _ _)
      go_big_quiet_step (first | with_reducible exact cR _ _ | with_reducible exact cW _ _ | with_reducible exact cP _ _ | with_reducible exact cS _ _)
      go_big_quiet_step (first | with_reducible exact cR _ _ | with_reducible exact cW _ _ | with_reducible exact cP _ _ | with_reducible exact cS _ _)
      refine wpQuiet_nil ?_
      intro _ hw'
      obtain ⟨⟨dq, osq⟩, hw''⟩ := hw'
      subst hw''
      go_wp2
      go_ret
      exact ⟨rfl, HB3.out.trans ((below_regrown v3 dq osq).mono HB3.out.size)⟩
    · have HPR : Hid (∀ W, KT W → Calls Tryd.prog 10 #[.agg d, .agg #[.int .i64 k2, .int .i64 n2, .int .i64 m2], .float .f64 x] W fun e w' => e = .returned (.agg d) ∧ Below W.heap.size W w') := fun W hW => by
        have hh := putr_i d HD.out k2 n2 m2 x W hW
        have e2 : putk d 10 117 k2 n2 (.float .f64 x) = d := by unfold putk; rw [if_neg hk2]
        rwa [e2] at hh
      have HE := HD
      have IE := Id
      have hk2' : (k2 == 10) = false := by simpa using hk2
      have HLd : Hid ((loadVar 37 ⟨g2, 0, none⟩).run Tryd.prog w7 = .ok (.agg d) w7) := load_all KC.out _ _ Tryd.underlying37 rfl Id.out
      have HLb : Hid ((loadVar 39 ⟨g2 + 1, 0, none⟩).run Tryd.prog w7 = .ok (.agg #[.int .i64 k2, .int .i64 n2, .int .i64 m2]) w7) := load_all KD.out _ _ Tryd.underlying39 rfl arg_size
      go_wp2_with (first | (refine wpL_load rfl 37 _ rfl _ _ rfl _ HLd.out ?_) | (refine wpL_load rfl 39 _ rfl _ _ rfl _ HLb.out ?_) | fail)
      refine (real_i d HD.out k2 n2 m2 _ (HT.out.later HB0.out)).mono ?_
      rintro e v1 ⟨y, rfl, hy, -, b1⟩
      have HY : Hid (MRv d k2 n2 m2 y) := hy
      have lc := (Array.getElem?_eq_some_iff.1 KC.out).1
      have ld := (Array.getElem?_eq_some_iff.1 KD.out).1
      have c1 := (b1.block _ lc).trans KC.out
      have d1 := (b1.block _ ld).trans KD.out
      have hb1 := HB0.out.trans (b1.mono HB0.out.size)
      have HLd1 : Hid ((loadVar 37 ⟨g2, 0, none⟩).run Tryd.prog v1 = .ok (.agg d) v1) := load_all c1 _ _ Tryd.underlying37 rfl Id.out
      have HLb1 : Hid ((loadVar 39 ⟨g2 + 1, 0, none⟩).run Tryd.prog v1 = .ok (.agg #[.int .i64 k2, .int .i64 n2, .int .i64 m2]) v1) := load_all d1 _ _ Tryd.underlying39 rfl arg_size
      have KC1 : Hid (v1.heap[g2]? = some (.cells d 37 (0, 0))) := c1
      have KD1 : Hid (v1.heap[g2 + 1]? = some (.cells #[.int .i64 k2, .int .i64 n2, .int .i64 m2] 39 (0, 0))) := d1
      have HB1 : Hid (Below w.heap.size w v1) := hb1
      clear hy lc ld c1 d1 b1 hb1 HLd HLb KC KD HB0
      go_wp2_with (first | (refine wpL_load rfl 37 _ rfl _ _ rfl _ HLd1.out ?_) | (refine wpL_load rfl 39 _ rfl _ _ rfl _ HLb1.out ?_) | fail)
      refine (HPR.out _ (HT.out.later HB1.out)).mono ?_
      rintro e v2 ⟨rfl, b2⟩
      have lc := (Array.getElem?_eq_some_iff.1 KC1.out).1
      have ld := (Array.getElem?_eq_some_iff.1 KD1.out).1
      have c2 := (b2.block _ lc).trans KC1.out
      have d2 := (b2.block _ ld).trans KD1.out
      have l2 := (Array.getElem?_eq_some_iff.1 c2).1
      have l3 := (Array.getElem?_eq_some_iff.1 d2).1
      have hb2 := HB1.out.trans (b2.mono HB1.out.size)
      obtain ⟨v3, HV3⟩ : ∃ u, Hid (u = (v2.alloc (.cells Z 37)).setRow v2.heap.size d) := ⟨_, rfl⟩
      have HS3 : Hid ((storeVar 37 ⟨v2.heap.size, 0, none⟩ (.agg d)).run Tryd.prog (v2.alloc (.cells Z 37)) = .ok () v3) := by
        rw [HV3.out]; exact store_all (heap_alloc_last _ _) _ _ (HZs.out.trans HE.out.size.symm) IE.out HE.out.one
      have a2 := ((Below.refl v2.heap.size v2).alloc (Nat.le_refl _) (.cells Z 37))
      have KC3 : Hid (v3.heap[g2]? = some (.cells d 37 (0, 0))) := (by rw [HV3.out]; exact row_beside ((a2.block _ l2).trans c2) _ (by omega) _ : v3.heap[g2]? = some (.cells d 37 (0, 0)))
      have KD3 : Hid (v3.heap[g2 + 1]? = some (.cells #[.int .i64 k2, .int .i64 n2, .int .i64 m2] 39 (0, 0))) := (by rw [HV3.out]; exact row_beside ((a2.block _ l3).trans d2) _ (by omega) _ : v3.heap[g2 + 1]? = some (.cells #[.int .i64 k2, .int .i64 n2, .int .i64 m2] 39 (0, 0)))
      have KE3 : Hid (v3.heap[v2.heap.size]? = some (.cells d 37 (0, 0))) := (by rw [HV3.out]; exact row_set (heap_alloc_last _ _) _ : v3.heap[v2.heap.size]? = some (.cells d 37 (0, 0)))
      have HB3 : Hid (Below w.heap.size w v3) := (by rw [HV3.out]; exact below_setRow (hb2.alloc hb2.size _) hb2.size _ : Below w.heap.size w v3)
      have z0 : v3.cell? ⟨g2 + 1, 0, none⟩ = some (.int .i64 k2) := (cell_of_row _ _ _ _ _ _ KD3.out).trans rfl
      clear lc ld c2 d2 l2 l3 b2 hb2 a2 HV3 HLd1 HLb1 KC1 KD1 HB1
      have HLe : Hid ((loadVar 37 ⟨v2.heap.size, 0, none⟩).run Tryd.prog v3 = .ok (.agg d) v3) := load_all KE3.out _ _ Tryd.underlying37 rfl Id.out
      have HLf : Hid ((loadVar 37 ⟨g2, 0, none⟩).run Tryd.prog v3 = .ok (.agg d) v3) := load_all KC3.out _ _ Tryd.underlying37 rfl Id.out
      go_wp2_with (first | (refine wpL_store rfl 37 _ _ rfl _ _ rfl _ rfl _ HS3.out ?_) | (refine wpL_load rfl 37 _ rfl _ _ rfl _ HLe.out ?_) | (refine wpL_load rfl 37 _ rfl _ _ rfl _ HLf.out ?_) | fail)
      refine (same_i d d HD.out HD.out true ⟨fun _ => ms_self d, fun _ => rfl⟩ _).mono ?_
      rintro e v4 ⟨rfl, b4⟩
      have HB4 : Hid (Below w.heap.size w v4) := HB3.out.trans (b4.mono HB3.out.size)
      clear b4 HB3 HS3 HLe HLf
      go_wp2
      go_ret
      exact ⟨rfl, HB4.out⟩

theorem walk_mpn (a1 : Option Addr) (len1 cap1 : Nat) (zs1 : List Int) (a2 : Option Addr) (len2 cap2 : Nat) (zs2 : List Int) (w : World) (h1 : IsRow .u8 w a1 len1 cap1 zs1) (h2 : IsRow .u8 w a2 len2 cap2 zs2) (hk : KT w) :
    Calls Tryd.prog 3 #[.slice a1 len1 cap1, .slice a2 len2 cap2] w fun e w' => e = .returned (.bool true) ∧ Below w.heap.size w w' := by
  have lim : ∀ (a : Option Addr) (len cap : Nat) (zs : List Int), IsRow .u8 w a len cap zs → len ≤ maxLen := fun a len cap zs h => by
    rcases h with ⟨_, rfl, _⟩ | ⟨_, _, h1, h2, _⟩
    · omega
    · omega
  by_cases hl : len1 ≤ 1048576
  · by_cases hl2 : len2 ≤ 1048576
    · obtain ⟨blk1, off1, z1, hc1⟩ := h1.code hl
      obtain ⟨blk2, off2, z2, hc2⟩ := h2.code hl2
      exact law_mpn w hk hc1 hc2
    · have hcap := lim _ _ _ _ h2
      unfold maxLen at hcap
      have i0 : ¬ ((1048576 : Int) < (len1 : Int)) := by omega
      have i1 : (1048576 : Int) < (len2 : Int) := by omega
      clear lim
      go_enter Tryd.func3, Tryd.ntmps3
      go_wp2
      go_ret
      exact ⟨rfl, Below.refl _ _⟩
  · have hcap := lim _ _ _ _ h1
    unfold maxLen at hcap
    have i1 : (1048576 : Int) < (len1 : Int) := by omega
    clear lim
    go_enter Tryd.func3, Tryd.ntmps3
    go_wp2
    go_ret
    exact ⟨rfl, Below.refl _ _⟩
end Go.Proofs.YtjnddfpieogpiaaDoor
