/- The law FnActEdge: its walk. -/
import Derived.Test.YtlpoplnghfohmaaDoorPg
import Derived.Test.YtlpoplnghfohmaaDoorQa
import Derived.Test.YtlpoplnghfohmaaDoorOc
namespace Go.Proofs.YtlpoplnghfohmaaDoor
open Go.RowKit
set_option linter.unusedVariables false

/-- The rows that the law makes ahead of its loop. -/
structure EdgeRows (w W : World) : Prop where
  x : W.heap[w.heap.size]? = some (.cells #[.int .i64 3, .int .i64 7, .int .i64 0] 39 (0, 0))
  u1 : W.heap[w.heap.size + 1]? = some (.cells #[.int .i64 3, .int .i64 7, .int .i64 0, .int .i64 5, .int .i64 1, .int .i64 0] 39 (0, 0))
  u2 : W.heap[w.heap.size + 1 + 1]? = some (.cells #[.int .i64 3, .slice (some ⟨w.heap.size + 1, 0, none⟩) 2 2] 56 (0, 0))
  d1 : W.heap[w.heap.size + 1 + 1 + 1]? = some (.cells #[.int .i64 3, .int .i64 7, .int .i64 0, .int .i64 5, .int .i64 31, .int .i64 0] 39 (0, 0))
  d2 : W.heap[w.heap.size + 1 + 1 + 1 + 1]? = some (.cells #[.int .i64 4, .slice (some ⟨w.heap.size + 1 + 1 + 1, 0, none⟩) 2 2] 56 (0, 0))
  bel : Below w.heap.size w W
theorem EdgeRows.later {w W W' : World} (h : EdgeRows w W) (g : Below W.heap.size W W') : EdgeRows w W' :=
  have l := (Array.getElem?_eq_some_iff.1 h.d2).1
  ⟨(g.block _ (by omega)).trans h.x, (g.block _ (by omega)).trans h.u1, (g.block _ (by omega)).trans h.u2, (g.block _ (by omega)).trans h.d1, (g.block _ (by omega)).trans h.d2, h.bel.trans (g.mono h.bel.size)⟩
theorem EdgeRows.row {w W : World} (h : EdgeRows w W) (g : Nat) (C : Array Value) (hg : w.heap.size + 1 + 1 + 1 + 1 + 1 ≤ g) : EdgeRows w (W.setRow g C) :=
  ⟨row_beside h.x _ (by omega) _, row_beside h.u1 _ (by omega) _, row_beside h.u2 _ (by omega) _, row_beside h.d1 _ (by omega) _, row_beside h.d2 _ (by omega) _, below_setRow h.bel (by omega) _⟩

set_option maxRecDepth 10000 in
set_option maxHeartbeats 4000000 in
theorem law_edge {a : Option Addr} {len cap blk off : Nat} {z : Nat → Int} (w : World) (hT : KT w) (h : Code0 w a len cap blk off z) :
    Calls Tryd.prog 5 #[.slice a len cap] w fun e w' => e = .returned (.bool true) ∧ Below w.heap.size w w' := by
  have HT : Hid (KT w) := hT
  have hl := h.short
  have HH : Hid (Code0 w a len cap blk off z) := h
  have i1 : ¬ ((1048576 : Int) < (len : Int)) := by omega
  have hz := zero_mem.1
  obtain ⟨Z, HZ⟩ : ∃ Z, Hid (Z = memZero) := ⟨_, rfl⟩
  rw [← HZ.out] at hz
  have HZM : Hid (MemOk Z) := (by rw [HZ.out]; exact memOk_zero : MemOk Z)
  have HZ1 : Hid (mbit Z 5 1 = false) := (by rw [HZ.out]; decide +kernel : mbit Z 5 1 = false)
  have HZ2 : Hid (mbit Z 5 31 = false) := (by rw [HZ.out]; decide +kernel : mbit Z 5 31 = false)
  have HZI : Hid ((Tryd.prog.info? 37).map (·.size) = some Z.size) := (by rw [HZM.out.size]; exact zero_mem.2 : (Tryd.prog.info? 37).map (·.size) = some Z.size)
  clear hT h
  go_enter Tryd.func5, Tryd.ntmps5
  go_upto_region 6 with fail
  have R0 : EdgeRows w (((((w.alloc (.cells #[.int .i64 3, .int .i64 7, .int .i64 0] 39)).alloc (.cells #[.int .i64 3, .int .i64 7, .int .i64 0, .int .i64 5, .int .i64 1, .int .i64 0] 39)).alloc (.cells #[.int .i64 3, .slice (some ⟨w.heap.size + 1, 0, none⟩) 2 2] 56)).alloc (.cells #[.int .i64 3, .int .i64 7, .int .i64 0, .int .i64 5, .int .i64 31, .int .i64 0] 39)).alloc (.cells #[.int .i64 4, .slice (some ⟨w.heap.size + 1 + 1 + 1, 0, none⟩) 2 2] 56)) := by
    have b1 := rows2 w (.cells #[.int .i64 3, .int .i64 7, .int .i64 0] 39) (.cells #[.int .i64 3, .int .i64 7, .int .i64 0, .int .i64 5, .int .i64 1, .int .i64 0] 39)
    refine ⟨?_, ?_, ?_, ?_, ?_, ?_⟩
    · rw [heap_alloc_old _ _ (by simp <;> omega), heap_alloc_old _ _ (by simp <;> omega), heap_alloc_old _ _ (by simp <;> omega)]; exact b1.1
    · rw [heap_alloc_old _ _ (by simp <;> omega), heap_alloc_old _ _ (by simp <;> omega), heap_alloc_old _ _ (by simp <;> omega)]; exact b1.2
    · rw [heap_alloc_old _ _ (by simp <;> omega), heap_alloc_old _ _ (by simp <;> omega)]
      have := heap_alloc_last ((w.alloc (.cells #[.int .i64 3, .int .i64 7, .int .i64 0] 39)).alloc (.cells #[.int .i64 3, .int .i64 7, .int .i64 0, .int .i64 5, .int .i64 1, .int .i64 0] 39)) (.cells #[.int .i64 3, .slice (some ⟨w.heap.size + 1, 0, none⟩) 2 2] 56)
      simpa using this
    · rw [heap_alloc_old _ _ (by simp <;> omega)]
      have := heap_alloc_last (((w.alloc (.cells #[.int .i64 3, .int .i64 7, .int .i64 0] 39)).alloc (.cells #[.int .i64 3, .int .i64 7, .int .i64 0, .int .i64 5, .int .i64 1, .int .i64 0] 39)).alloc (.cells #[.int .i64 3, .slice (some ⟨w.heap.size + 1, 0, none⟩) 2 2] 56)) (.cells #[.int .i64 3, .int .i64 7, .int .i64 0, .int .i64 5, .int .i64 31, .int .i64 0] 39)
      simpa using this
    · have := heap_alloc_last ((((w.alloc (.cells #[.int .i64 3, .int .i64 7, .int .i64 0] 39)).alloc (.cells #[.int .i64 3, .int .i64 7, .int .i64 0, .int .i64 5, .int .i64 1, .int .i64 0] 39)).alloc (.cells #[.int .i64 3, .slice (some ⟨w.heap.size + 1, 0, none⟩) 2 2] 56)).alloc (.cells #[.int .i64 3, .int .i64 7, .int .i64 0, .int .i64 5, .int .i64 31, .int .i64 0] 39)) (.cells #[.int .i64 4, .slice (some ⟨w.heap.size + 1 + 1 + 1, 0, none⟩) 2 2] 56)
      simpa using this
    · exact (((((Below.refl _ _).alloc (Nat.le_refl _) _).alloc (by simp) _).alloc (by simp <;> omega) _).alloc (by simp <;> omega) _).alloc (by simp <;> omega) _
  have hs : (((((w.alloc (.cells #[.int .i64 3, .int .i64 7, .int .i64 0] 39)).alloc (.cells #[.int .i64 3, .int .i64 7, .int .i64 0, .int .i64 5, .int .i64 1, .int .i64 0] 39)).alloc (.cells #[.int .i64 3, .slice (some ⟨w.heap.size + 1, 0, none⟩) 2 2] 56)).alloc (.cells #[.int .i64 3, .int .i64 7, .int .i64 0, .int .i64 5, .int .i64 31, .int .i64 0] 39)).alloc (.cells #[.int .i64 4, .slice (some ⟨w.heap.size + 1 + 1 + 1, 0, none⟩) 2 2] 56)).heap.size = w.heap.size + 1 + 1 + 1 + 1 + 1 := by simp
  generalize (((((w.alloc (.cells #[.int .i64 3, .int .i64 7, .int .i64 0] 39)).alloc (.cells #[.int .i64 3, .int .i64 7, .int .i64 0, .int .i64 5, .int .i64 1, .int .i64 0] 39)).alloc (.cells #[.int .i64 3, .slice (some ⟨w.heap.size + 1, 0, none⟩) 2 2] 56)).alloc (.cells #[.int .i64 3, .int .i64 7, .int .i64 0, .int .i64 5, .int .i64 31, .int .i64 0] 39)).alloc (.cells #[.int .i64 4, .slice (some ⟨w.heap.size + 1 + 1 + 1, 0, none⟩) 2 2] 56)) = w0 at R0 hs ⊢
  obtain ⟨u0, HU0⟩ : ∃ u, Hid (u = (w0.alloc (.cells Z 37)).setRow (w.heap.size + 1 + 1 + 1 + 1 + 1) Z) := ⟨_, rfl⟩
  have ha : (w0.alloc (.cells Z 37)).heap[w.heap.size + 1 + 1 + 1 + 1 + 1]? = some (.cells Z 37 (0, 0)) := by rw [← hs]; exact heap_alloc_last w0 _
  have HS0 : Hid ((storeVar 37 ⟨w.heap.size + 1 + 1 + 1 + 1 + 1, 0, none⟩ (.agg Z)).run Tryd.prog (w0.alloc (.cells Z 37)) = .ok () u0) := by rw [HU0.out]; exact store_all ha _ _ rfl HZI.out HZM.out.one
  have Q0 : Hid (EdgeRows w u0) := (by rw [HU0.out]; exact (R0.later ((Below.refl _ _).alloc (Nat.le_refl _) _)).row _ _ (Nat.le_refl _) : EdgeRows w u0)
  have J0 : Hid (u0.heap[w.heap.size + 1 + 1 + 1 + 1 + 1]? = some (.cells Z 37 (0, 0))) := (by rw [HU0.out]; exact row_set ha _ : u0.heap[w.heap.size + 1 + 1 + 1 + 1 + 1]? = some (.cells Z 37 (0, 0)))
  clear R0 HU0 ha
  go_wp2_with (first | (refine wpL_store rfl 37 _ _ rfl _ _ rfl _ rfl _ HS0.out ?_) | fail)
  clear HS0 hs
  go_loopg [7, 8, 9, 10, 11, 12, 13] 2000 (fun g was i _ _ _ _ _ wr => ∃ (n : Nat) (C : Array Value) (b : Bool), n + g = 2000 ∧ i = .int .i64 n ∧ was = .bool b ∧ EdgeRows w wr ∧ wr.heap[w.heap.size + 1 + 1 + 1 + 1 + 1]? = some (.cells C 37 (0, 0)) ∧ MemOk C ∧ mbit C 5 1 = b ∧ mbit C 5 31 = b)
  case atStart => exact ⟨0, Z, false, by omega, rfl, rfl, Q0.out, J0.out, HZM.out, HZ1.out, HZ2.out⟩
  case round =>
    clear Q0 J0
    obtain ⟨n, C, b, hn, rfl, rfl, hE, hR, hC, hb1, hb2⟩ := hrel
    have HER : Hid (EdgeRows w wr) := hE
    have HRM : Hid (wr.heap[w.heap.size + 1 + 1 + 1 + 1 + 1]? = some (.cells C 37 (0, 0))) := hR
    have HCM : Hid (MemOk C) := hC
    have HB1 : Hid (mbit C 5 1 = b) := hb1
    have HB2 : Hid (mbit C 5 31 = b) := hb2
    clear hE hR hC hb1 hb2
    by_cases hlt : n < len
    · by_cases h2k : n < 2000
      · have j1 : (n : Int) < (len : Int) := by omega
        have j2 : (n : Int) < 2000 := by omega
        have j3 : (0 : Int) ≤ (n : Int) := by omega
        obtain ⟨rfl, hbl⟩ := HH.out.at_ (by omega)
        obtain ⟨y, HY⟩ : ∃ y, Hid (y = z n) := ⟨_, rfl⟩
        have yy : wr.cell? ⟨blk, off + n, none⟩ = some (.int .u8 y) := by rw [HER.out.bel.cell hbl, HY.out]; exact HH.out.byte n hlt
        obtain ⟨y0, y1⟩ : 0 ≤ y ∧ y ≤ 255 := by rw [HY.out]; exact HH.out.fits n
        clear HY
        by_cases hnow : y % 2 = 1
        · have t1 : (y % 2 == 1) = true := by simp [hnow]
          have t2 : (y.tmod 2 == 1) = true := by rw [Int.tmod_eq_emod_of_nonneg y0]; exact t1
          cases b
          · skip
            obtain ⟨C1, HC1⟩ : ∃ X, Hid (X = putb C 3 7 true) := ⟨_, rfl⟩
            have M1 : Hid (MemOk C1) := (by rw [HC1.out]; exact memOk_putb HCM.out 3 7 _ : MemOk C1)
            have e11 : mbit C1 3 7 = true := by rw [HC1.out, mbit_putb_same HCM.out 3 7 7 _ (by decide) (by decide), if_pos rfl]
            have e12 : mbit C1 5 1 = false := by rw [HC1.out, mbit_putb_ne 3 7 5 1 _ (by decide)]; exact HB1.out
            have e13 : mbit C1 5 31 = false := by rw [HC1.out, mbit_putb_ne 3 7 5 31 _ (by decide)]; exact HB2.out
            obtain ⟨C2, HC2⟩ : ∃ X, Hid (X = putb C1 5 1 true) := ⟨_, rfl⟩
            have M2 : Hid (MemOk C2) := (by rw [HC2.out]; exact memOk_putb M1.out 5 1 _ : MemOk C2)
            have e21 : mbit C2 3 7 = true := by rw [HC2.out, mbit_putb_ne 5 1 3 7 _ (by decide)]; exact e11
            have e22 : mbit C2 5 1 = true := by rw [HC2.out, mbit_putb_same M1.out 5 1 1 _ (by decide) (by decide), if_pos rfl]
            have e23 : mbit C2 5 31 = false := by rw [HC2.out, mbit_putb_same M1.out 5 1 31 _ (by decide) (by decide), if_neg (by decide)]; exact e13
            obtain ⟨C3, HC3⟩ : ∃ X, Hid (X = putb C2 5 31 true) := ⟨_, rfl⟩
            have M3 : Hid (MemOk C3) := (by rw [HC3.out]; exact memOk_putb M2.out 5 31 _ : MemOk C3)
            have E31 : Hid (mbit C3 5 1 = true) := (by rw [HC3.out, mbit_putb_same M2.out 5 31 1 _ (by decide) (by decide), if_neg (by decide)]; exact e22 : mbit C3 5 1 = true)
            have E32 : Hid (mbit C3 5 31 = true) := (by rw [HC3.out, mbit_putb_same M2.out 5 31 31 _ (by decide) (by decide), if_pos rfl] : mbit C3 5 31 = true)
            have HPut : Hid (∀ W, KT W → Calls Tryd.prog 9 #[.agg C, .agg #[.int .i64 3, .int .i64 7, .int .i64 0], .bool true] W fun e w' => e = .returned (.agg C1) ∧ Below W.heap.size W w') := fun W hW => by rw [HC1.out]; exact put_i C HCM.out 3 7 0 _ W hW
            have HUp : Hid (∀ W, KT W → W.heap[w.heap.size + 1]? = some (.cells #[.int .i64 3, .int .i64 7, .int .i64 0, .int .i64 5, .int .i64 1, .int .i64 0] 39 (0, 0)) → Calls Tryd.prog 19 #[.agg C1, .agg #[.int .i64 3, .slice (some ⟨w.heap.size + 1, 0, none⟩) 2 2]] W fun e w' => e = .returned (.tuple #[.agg C2, .bool true]) ∧ Below W.heap.size W w') := fun W hW hr => by
              have := test_up 3 7 0 1 0 (w.heap.size + 1) _ C1 M1.out W hW hr
              rw [e11, e12, ← HC2.out] at this
              exact this
            have HDn : Hid (∀ W, KT W → W.heap[w.heap.size + 1 + 1 + 1]? = some (.cells #[.int .i64 3, .int .i64 7, .int .i64 0, .int .i64 5, .int .i64 31, .int .i64 0] 39 (0, 0)) → Calls Tryd.prog 19 #[.agg C2, .agg #[.int .i64 4, .slice (some ⟨w.heap.size + 1 + 1 + 1, 0, none⟩) 2 2]] W fun e w' => e = .returned (.tuple #[.agg C3, .bool false]) ∧ Below W.heap.size W w') := fun W hW hr => by
              have := test_down 3 7 0 31 0 (w.heap.size + 1 + 1 + 1) _ C2 M2.out W hW hr
              rw [e21, e23, ← HC3.out] at this
              exact this
            have I0 : Hid ((Tryd.prog.info? 37).map (·.size) = some C.size) := by rw [HCM.out.size]; exact zero_mem.2
            have I1 : Hid ((Tryd.prog.info? 37).map (·.size) = some C1.size) := by rw [M1.out.size]; exact zero_mem.2
            have I2 : Hid ((Tryd.prog.info? 37).map (·.size) = some C2.size) := by rw [M2.out.size]; exact zero_mem.2
            have I3 : Hid ((Tryd.prog.info? 37).map (·.size) = some C3.size) := by rw [M3.out.size]; exact zero_mem.2
            clear e11 e12 e13 e21 e22 e23
            have HLx : Hid ((loadVar 39 ⟨w.heap.size, 0, none⟩).run Tryd.prog wr = .ok (.agg #[.int .i64 3, .int .i64 7, .int .i64 0]) wr) := load_all HER.out.x _ _ Tryd.underlying39 rfl arg_size
            have HLm : Hid ((loadVar 37 ⟨w.heap.size + 1 + 1 + 1 + 1 + 1, 0, none⟩).run Tryd.prog wr = .ok (.agg C) wr) := load_all HRM.out _ _ Tryd.underlying37 rfl I0.out
            go_wp2_with (first | (refine wpL_load rfl 37 _ rfl _ _ rfl _ HLm.out ?_) | (refine wpL_load rfl 39 _ rfl _ _ rfl _ HLx.out ?_) | fail)
            refine (HPut.out _ (HT.out.later HER.out.bel)).mono ?_
            rintro e w1 ⟨rfl, g1⟩
            have R1 : Hid (EdgeRows w w1) := HER.out.later g1
            have r1 := (g1.block _ (Array.getElem?_eq_some_iff.1 HRM.out).1).trans HRM.out
            obtain ⟨v1, HV1⟩ : ∃ u, Hid (u = w1.setRow (w.heap.size + 1 + 1 + 1 + 1 + 1) C1) := ⟨_, rfl⟩
            have HS1 : Hid ((storeVar 37 ⟨w.heap.size + 1 + 1 + 1 + 1 + 1, 0, none⟩ (.agg C1)).run Tryd.prog w1 = .ok () v1) := by rw [HV1.out]; exact store_all r1 _ _ (HCM.out.size.trans M1.out.size.symm) I1.out M1.out.one
            have Q1 : Hid (EdgeRows w v1) := (by rw [HV1.out]; exact R1.out.row _ _ (Nat.le_refl _) : EdgeRows w v1)
            have q1 : v1.heap[w.heap.size + 1 + 1 + 1 + 1 + 1]? = some (.cells C1 37 (0, 0)) := by rw [HV1.out]; exact row_set r1 _
            have HLm1 : Hid ((loadVar 37 ⟨w.heap.size + 1 + 1 + 1 + 1 + 1, 0, none⟩).run Tryd.prog v1 = .ok (.agg C1) v1) := load_all q1 _ _ Tryd.underlying37 rfl I1.out
            have HLu : Hid ((loadVar 56 ⟨w.heap.size + 1 + 1, 0, none⟩).run Tryd.prog v1 = .ok (.agg #[.int .i64 3, .slice (some ⟨w.heap.size + 1, 0, none⟩) 2 2]) v1) := load_all Q1.out.u2 _ _ Tryd.underlying56 rfl info_elem
            have J1 : Hid (v1.heap[w.heap.size + 1 + 1 + 1 + 1 + 1]? = some (.cells C1 37 (0, 0))) := q1
            clear g1 r1 q1 HV1 HLx HLm
            go_wp2_with (first | (refine wpL_store rfl 37 _ _ rfl _ _ rfl _ rfl _ HS1.out ?_) | (refine wpL_load rfl 37 _ rfl _ _ rfl _ HLm1.out ?_) | (refine wpL_load rfl 56 _ rfl _ _ rfl _ HLu.out ?_) | fail)
            refine (HUp.out _ (HT.out.later Q1.out.bel) Q1.out.u1).mono ?_
            rintro e w2 ⟨rfl, g2⟩
            have R2 : Hid (EdgeRows w w2) := Q1.out.later g2
            have k2 := (g2.block _ (Array.getElem?_eq_some_iff.1 J1.out).1).trans J1.out
            have l2 : w.heap.size + 1 + 1 + 1 + 1 + 1 < w2.heap.size := (Array.getElem?_eq_some_iff.1 k2).1
            obtain ⟨v2, HV2⟩ : ∃ u, Hid (u = (w2.alloc (.cells Z 37)).setRow w2.heap.size C2) := ⟨_, rfl⟩
            have HS2 : Hid ((storeVar 37 ⟨w2.heap.size, 0, none⟩ (.agg C2)).run Tryd.prog (w2.alloc (.cells Z 37)) = .ok () v2) := by rw [HV2.out]; exact store_all (heap_alloc_last w2 _) _ _ (HZM.out.size.trans M2.out.size.symm) I2.out M2.out.one
            have Q2 : Hid (EdgeRows w v2) := (by rw [HV2.out]; exact (R2.out.later ((Below.refl _ _).alloc (Nat.le_refl _) _)).row _ _ (by omega) : EdgeRows w v2)
            have q2 : v2.heap[w2.heap.size]? = some (.cells C2 37 (0, 0)) := by rw [HV2.out]; exact row_set (heap_alloc_last w2 _) _
            have p2 : v2.heap[w.heap.size + 1 + 1 + 1 + 1 + 1]? = some (.cells C1 37 (0, 0)) := by rw [HV2.out]; exact row_beside ((heap_alloc_old w2 _ l2).trans k2) _ (by omega) _
            have HLm2 : Hid ((loadVar 37 ⟨w2.heap.size, 0, none⟩).run Tryd.prog v2 = .ok (.agg C2) v2) := load_all q2 _ _ Tryd.underlying37 rfl I2.out
            have HLd : Hid ((loadVar 56 ⟨w.heap.size + 1 + 1 + 1 + 1, 0, none⟩).run Tryd.prog v2 = .ok (.agg #[.int .i64 4, .slice (some ⟨w.heap.size + 1 + 1 + 1, 0, none⟩) 2 2]) v2) := load_all Q2.out.d2 _ _ Tryd.underlying56 rfl info_elem
            have J2 : Hid (v2.heap[w.heap.size + 1 + 1 + 1 + 1 + 1]? = some (.cells C1 37 (0, 0))) := p2
            clear g2 k2 q2 p2 HV2 HS1 HLm1 HLu
            go_wp2_with (first | (refine wpL_store rfl 37 _ _ rfl _ _ rfl _ rfl _ HS2.out ?_) | (refine wpL_load rfl 37 _ rfl _ _ rfl _ HLm2.out ?_) | (refine wpL_load rfl 56 _ rfl _ _ rfl _ HLd.out ?_) | fail)
            refine (HDn.out _ (HT.out.later Q2.out.bel) Q2.out.d1).mono ?_
            rintro e w3 ⟨rfl, g3⟩
            have R3 : Hid (EdgeRows w w3) := Q2.out.later g3
            have k3 := (g3.block _ (Array.getElem?_eq_some_iff.1 J2.out).1).trans J2.out
            have l3 : w.heap.size + 1 + 1 + 1 + 1 + 1 < w3.heap.size := (Array.getElem?_eq_some_iff.1 k3).1
            obtain ⟨v3, HV3⟩ : ∃ u, Hid (u = (w3.alloc (.cells Z 37)).setRow w3.heap.size C3) := ⟨_, rfl⟩
            have HS3 : Hid ((storeVar 37 ⟨w3.heap.size, 0, none⟩ (.agg C3)).run Tryd.prog (w3.alloc (.cells Z 37)) = .ok () v3) := by rw [HV3.out]; exact store_all (heap_alloc_last w3 _) _ _ (HZM.out.size.trans M3.out.size.symm) I3.out M3.out.one
            have Q3 : Hid (EdgeRows w v3) := (by rw [HV3.out]; exact (R3.out.later ((Below.refl _ _).alloc (Nat.le_refl _) _)).row _ _ (by omega) : EdgeRows w v3)
            have q3 : v3.heap[w3.heap.size]? = some (.cells C3 37 (0, 0)) := by rw [HV3.out]; exact row_set (heap_alloc_last w3 _) _
            have p3 : v3.heap[w.heap.size + 1 + 1 + 1 + 1 + 1]? = some (.cells C1 37 (0, 0)) := by rw [HV3.out]; exact row_beside ((heap_alloc_old w3 _ l3).trans k3) _ (by omega) _
            have HLm3 : Hid ((loadVar 37 ⟨w3.heap.size, 0, none⟩).run Tryd.prog v3 = .ok (.agg C3) v3) := load_all q3 _ _ Tryd.underlying37 rfl I3.out
            obtain ⟨v4, HV4⟩ : ∃ u, Hid (u = v3.setRow (w.heap.size + 1 + 1 + 1 + 1 + 1) C3) := ⟨_, rfl⟩
            have HS4 : Hid ((storeVar 37 ⟨w.heap.size + 1 + 1 + 1 + 1 + 1, 0, none⟩ (.agg C3)).run Tryd.prog v3 = .ok () v4) := by rw [HV4.out]; exact store_all p3 _ _ (M1.out.size.trans M3.out.size.symm) I3.out M3.out.one
            have Q4 : Hid (EdgeRows w v4) := (by rw [HV4.out]; exact Q3.out.row _ _ (Nat.le_refl _) : EdgeRows w v4)
            have J4 : Hid (v4.heap[w.heap.size + 1 + 1 + 1 + 1 + 1]? = some (.cells C3 37 (0, 0))) := (by rw [HV4.out]; exact row_set p3 _ : v4.heap[w.heap.size + 1 + 1 + 1 + 1 + 1]? = some (.cells C3 37 (0, 0)))
            clear g3 k3 q3 p3 HV3 HV4 HS2 HLm2 HLd
            go_wp2_with (first | (refine wpL_store rfl 37 _ _ rfl _ _ rfl _ rfl _ HS3.out ?_) | (refine wpL_load rfl 37 _ rfl _ _ rfl _ HLm3.out ?_) | (refine wpL_store rfl 37 _ _ rfl _ _ rfl _ rfl _ HS4.out ?_) | fail)
            go_roundg (gk - 1)
            case measure => omega
            case rel => exact ⟨n + 1, C3, true, by omega, by simp, rfl, Q4.out, J4.out, M3.out, E31.out, E32.out⟩
          · skip
            obtain ⟨C1, HC1⟩ : ∃ X, Hid (X = putb C 3 7 true) := ⟨_, rfl⟩
            have M1 : Hid (MemOk C1) := (by rw [HC1.out]; exact memOk_putb HCM.out 3 7 _ : MemOk C1)
            have e11 : mbit C1 3 7 = true := by rw [HC1.out, mbit_putb_same HCM.out 3 7 7 _ (by decide) (by decide), if_pos rfl]
            have e12 : mbit C1 5 1 = true := by rw [HC1.out, mbit_putb_ne 3 7 5 1 _ (by decide)]; exact HB1.out
            have e13 : mbit C1 5 31 = true := by rw [HC1.out, mbit_putb_ne 3 7 5 31 _ (by decide)]; exact HB2.out
            obtain ⟨C2, HC2⟩ : ∃ X, Hid (X = putb C1 5 1 true) := ⟨_, rfl⟩
            have M2 : Hid (MemOk C2) := (by rw [HC2.out]; exact memOk_putb M1.out 5 1 _ : MemOk C2)
            have e21 : mbit C2 3 7 = true := by rw [HC2.out, mbit_putb_ne 5 1 3 7 _ (by decide)]; exact e11
            have e22 : mbit C2 5 1 = true := by rw [HC2.out, mbit_putb_same M1.out 5 1 1 _ (by decide) (by decide), if_pos rfl]
            have e23 : mbit C2 5 31 = true := by rw [HC2.out, mbit_putb_same M1.out 5 1 31 _ (by decide) (by decide), if_neg (by decide)]; exact e13
            obtain ⟨C3, HC3⟩ : ∃ X, Hid (X = putb C2 5 31 true) := ⟨_, rfl⟩
            have M3 : Hid (MemOk C3) := (by rw [HC3.out]; exact memOk_putb M2.out 5 31 _ : MemOk C3)
            have E31 : Hid (mbit C3 5 1 = true) := (by rw [HC3.out, mbit_putb_same M2.out 5 31 1 _ (by decide) (by decide), if_neg (by decide)]; exact e22 : mbit C3 5 1 = true)
            have E32 : Hid (mbit C3 5 31 = true) := (by rw [HC3.out, mbit_putb_same M2.out 5 31 31 _ (by decide) (by decide), if_pos rfl] : mbit C3 5 31 = true)
            have HPut : Hid (∀ W, KT W → Calls Tryd.prog 9 #[.agg C, .agg #[.int .i64 3, .int .i64 7, .int .i64 0], .bool true] W fun e w' => e = .returned (.agg C1) ∧ Below W.heap.size W w') := fun W hW => by rw [HC1.out]; exact put_i C HCM.out 3 7 0 _ W hW
            have HUp : Hid (∀ W, KT W → W.heap[w.heap.size + 1]? = some (.cells #[.int .i64 3, .int .i64 7, .int .i64 0, .int .i64 5, .int .i64 1, .int .i64 0] 39 (0, 0)) → Calls Tryd.prog 19 #[.agg C1, .agg #[.int .i64 3, .slice (some ⟨w.heap.size + 1, 0, none⟩) 2 2]] W fun e w' => e = .returned (.tuple #[.agg C2, .bool false]) ∧ Below W.heap.size W w') := fun W hW hr => by
              have := test_up 3 7 0 1 0 (w.heap.size + 1) _ C1 M1.out W hW hr
              rw [e11, e12, ← HC2.out] at this
              exact this
            have HDn : Hid (∀ W, KT W → W.heap[w.heap.size + 1 + 1 + 1]? = some (.cells #[.int .i64 3, .int .i64 7, .int .i64 0, .int .i64 5, .int .i64 31, .int .i64 0] 39 (0, 0)) → Calls Tryd.prog 19 #[.agg C2, .agg #[.int .i64 4, .slice (some ⟨w.heap.size + 1 + 1 + 1, 0, none⟩) 2 2]] W fun e w' => e = .returned (.tuple #[.agg C3, .bool false]) ∧ Below W.heap.size W w') := fun W hW hr => by
              have := test_down 3 7 0 31 0 (w.heap.size + 1 + 1 + 1) _ C2 M2.out W hW hr
              rw [e21, e23, ← HC3.out] at this
              exact this
            have I0 : Hid ((Tryd.prog.info? 37).map (·.size) = some C.size) := by rw [HCM.out.size]; exact zero_mem.2
            have I1 : Hid ((Tryd.prog.info? 37).map (·.size) = some C1.size) := by rw [M1.out.size]; exact zero_mem.2
            have I2 : Hid ((Tryd.prog.info? 37).map (·.size) = some C2.size) := by rw [M2.out.size]; exact zero_mem.2
            have I3 : Hid ((Tryd.prog.info? 37).map (·.size) = some C3.size) := by rw [M3.out.size]; exact zero_mem.2
            clear e11 e12 e13 e21 e22 e23
            have HLx : Hid ((loadVar 39 ⟨w.heap.size, 0, none⟩).run Tryd.prog wr = .ok (.agg #[.int .i64 3, .int .i64 7, .int .i64 0]) wr) := load_all HER.out.x _ _ Tryd.underlying39 rfl arg_size
            have HLm : Hid ((loadVar 37 ⟨w.heap.size + 1 + 1 + 1 + 1 + 1, 0, none⟩).run Tryd.prog wr = .ok (.agg C) wr) := load_all HRM.out _ _ Tryd.underlying37 rfl I0.out
            go_wp2_with (first | (refine wpL_load rfl 37 _ rfl _ _ rfl _ HLm.out ?_) | (refine wpL_load rfl 39 _ rfl _ _ rfl _ HLx.out ?_) | fail)
            refine (HPut.out _ (HT.out.later HER.out.bel)).mono ?_
            rintro e w1 ⟨rfl, g1⟩
            have R1 : Hid (EdgeRows w w1) := HER.out.later g1
            have r1 := (g1.block _ (Array.getElem?_eq_some_iff.1 HRM.out).1).trans HRM.out
            obtain ⟨v1, HV1⟩ : ∃ u, Hid (u = w1.setRow (w.heap.size + 1 + 1 + 1 + 1 + 1) C1) := ⟨_, rfl⟩
            have HS1 : Hid ((storeVar 37 ⟨w.heap.size + 1 + 1 + 1 + 1 + 1, 0, none⟩ (.agg C1)).run Tryd.prog w1 = .ok () v1) := by rw [HV1.out]; exact store_all r1 _ _ (HCM.out.size.trans M1.out.size.symm) I1.out M1.out.one
            have Q1 : Hid (EdgeRows w v1) := (by rw [HV1.out]; exact R1.out.row _ _ (Nat.le_refl _) : EdgeRows w v1)
            have q1 : v1.heap[w.heap.size + 1 + 1 + 1 + 1 + 1]? = some (.cells C1 37 (0, 0)) := by rw [HV1.out]; exact row_set r1 _
            have HLm1 : Hid ((loadVar 37 ⟨w.heap.size + 1 + 1 + 1 + 1 + 1, 0, none⟩).run Tryd.prog v1 = .ok (.agg C1) v1) := load_all q1 _ _ Tryd.underlying37 rfl I1.out
            have HLu : Hid ((loadVar 56 ⟨w.heap.size + 1 + 1, 0, none⟩).run Tryd.prog v1 = .ok (.agg #[.int .i64 3, .slice (some ⟨w.heap.size + 1, 0, none⟩) 2 2]) v1) := load_all Q1.out.u2 _ _ Tryd.underlying56 rfl info_elem
            have J1 : Hid (v1.heap[w.heap.size + 1 + 1 + 1 + 1 + 1]? = some (.cells C1 37 (0, 0))) := q1
            clear g1 r1 q1 HV1 HLx HLm
            go_wp2_with (first | (refine wpL_store rfl 37 _ _ rfl _ _ rfl _ rfl _ HS1.out ?_) | (refine wpL_load rfl 37 _ rfl _ _ rfl _ HLm1.out ?_) | (refine wpL_load rfl 56 _ rfl _ _ rfl _ HLu.out ?_) | fail)
            refine (HUp.out _ (HT.out.later Q1.out.bel) Q1.out.u1).mono ?_
            rintro e w2 ⟨rfl, g2⟩
            have R2 : Hid (EdgeRows w w2) := Q1.out.later g2
            have k2 := (g2.block _ (Array.getElem?_eq_some_iff.1 J1.out).1).trans J1.out
            have l2 : w.heap.size + 1 + 1 + 1 + 1 + 1 < w2.heap.size := (Array.getElem?_eq_some_iff.1 k2).1
            obtain ⟨v2, HV2⟩ : ∃ u, Hid (u = (w2.alloc (.cells Z 37)).setRow w2.heap.size C2) := ⟨_, rfl⟩
            have HS2 : Hid ((storeVar 37 ⟨w2.heap.size, 0, none⟩ (.agg C2)).run Tryd.prog (w2.alloc (.cells Z 37)) = .ok () v2) := by rw [HV2.out]; exact store_all (heap_alloc_last w2 _) _ _ (HZM.out.size.trans M2.out.size.symm) I2.out M2.out.one
            have Q2 : Hid (EdgeRows w v2) := (by rw [HV2.out]; exact (R2.out.later ((Below.refl _ _).alloc (Nat.le_refl _) _)).row _ _ (by omega) : EdgeRows w v2)
            have q2 : v2.heap[w2.heap.size]? = some (.cells C2 37 (0, 0)) := by rw [HV2.out]; exact row_set (heap_alloc_last w2 _) _
            have p2 : v2.heap[w.heap.size + 1 + 1 + 1 + 1 + 1]? = some (.cells C1 37 (0, 0)) := by rw [HV2.out]; exact row_beside ((heap_alloc_old w2 _ l2).trans k2) _ (by omega) _
            have HLm2 : Hid ((loadVar 37 ⟨w2.heap.size, 0, none⟩).run Tryd.prog v2 = .ok (.agg C2) v2) := load_all q2 _ _ Tryd.underlying37 rfl I2.out
            have HLd : Hid ((loadVar 56 ⟨w.heap.size + 1 + 1 + 1 + 1, 0, none⟩).run Tryd.prog v2 = .ok (.agg #[.int .i64 4, .slice (some ⟨w.heap.size + 1 + 1 + 1, 0, none⟩) 2 2]) v2) := load_all Q2.out.d2 _ _ Tryd.underlying56 rfl info_elem
            have J2 : Hid (v2.heap[w.heap.size + 1 + 1 + 1 + 1 + 1]? = some (.cells C1 37 (0, 0))) := p2
            clear g2 k2 q2 p2 HV2 HS1 HLm1 HLu
            go_wp2_with (first | (refine wpL_store rfl 37 _ _ rfl _ _ rfl _ rfl _ HS2.out ?_) | (refine wpL_load rfl 37 _ rfl _ _ rfl _ HLm2.out ?_) | (refine wpL_load rfl 56 _ rfl _ _ rfl _ HLd.out ?_) | fail)
            refine (HDn.out _ (HT.out.later Q2.out.bel) Q2.out.d1).mono ?_
            rintro e w3 ⟨rfl, g3⟩
            have R3 : Hid (EdgeRows w w3) := Q2.out.later g3
            have k3 := (g3.block _ (Array.getElem?_eq_some_iff.1 J2.out).1).trans J2.out
            have l3 : w.heap.size + 1 + 1 + 1 + 1 + 1 < w3.heap.size := (Array.getElem?_eq_some_iff.1 k3).1
            obtain ⟨v3, HV3⟩ : ∃ u, Hid (u = (w3.alloc (.cells Z 37)).setRow w3.heap.size C3) := ⟨_, rfl⟩
            have HS3 : Hid ((storeVar 37 ⟨w3.heap.size, 0, none⟩ (.agg C3)).run Tryd.prog (w3.alloc (.cells Z 37)) = .ok () v3) := by rw [HV3.out]; exact store_all (heap_alloc_last w3 _) _ _ (HZM.out.size.trans M3.out.size.symm) I3.out M3.out.one
            have Q3 : Hid (EdgeRows w v3) := (by rw [HV3.out]; exact (R3.out.later ((Below.refl _ _).alloc (Nat.le_refl _) _)).row _ _ (by omega) : EdgeRows w v3)
            have q3 : v3.heap[w3.heap.size]? = some (.cells C3 37 (0, 0)) := by rw [HV3.out]; exact row_set (heap_alloc_last w3 _) _
            have p3 : v3.heap[w.heap.size + 1 + 1 + 1 + 1 + 1]? = some (.cells C1 37 (0, 0)) := by rw [HV3.out]; exact row_beside ((heap_alloc_old w3 _ l3).trans k3) _ (by omega) _
            have HLm3 : Hid ((loadVar 37 ⟨w3.heap.size, 0, none⟩).run Tryd.prog v3 = .ok (.agg C3) v3) := load_all q3 _ _ Tryd.underlying37 rfl I3.out
            obtain ⟨v4, HV4⟩ : ∃ u, Hid (u = v3.setRow (w.heap.size + 1 + 1 + 1 + 1 + 1) C3) := ⟨_, rfl⟩
            have HS4 : Hid ((storeVar 37 ⟨w.heap.size + 1 + 1 + 1 + 1 + 1, 0, none⟩ (.agg C3)).run Tryd.prog v3 = .ok () v4) := by rw [HV4.out]; exact store_all p3 _ _ (M1.out.size.trans M3.out.size.symm) I3.out M3.out.one
            have Q4 : Hid (EdgeRows w v4) := (by rw [HV4.out]; exact Q3.out.row _ _ (Nat.le_refl _) : EdgeRows w v4)
            have J4 : Hid (v4.heap[w.heap.size + 1 + 1 + 1 + 1 + 1]? = some (.cells C3 37 (0, 0))) := (by rw [HV4.out]; exact row_set p3 _ : v4.heap[w.heap.size + 1 + 1 + 1 + 1 + 1]? = some (.cells C3 37 (0, 0)))
            clear g3 k3 q3 p3 HV3 HV4 HS2 HLm2 HLd
            go_wp2_with (first | (refine wpL_store rfl 37 _ _ rfl _ _ rfl _ rfl _ HS3.out ?_) | (refine wpL_load rfl 37 _ rfl _ _ rfl _ HLm3.out ?_) | (refine wpL_store rfl 37 _ _ rfl _ _ rfl _ rfl _ HS4.out ?_) | fail)
            go_roundg (gk - 1)
            case measure => omega
            case rel => exact ⟨n + 1, C3, true, by omega, by simp, rfl, Q4.out, J4.out, M3.out, E31.out, E32.out⟩
        · have t1 : (y % 2 == 1) = false := by simp [hnow]
          have t2 : (y.tmod 2 == 1) = false := by rw [Int.tmod_eq_emod_of_nonneg y0]; exact t1
          have t3 : y % 2 = 0 := by omega
          cases b
          · skip
            obtain ⟨C1, HC1⟩ : ∃ X, Hid (X = putb C 3 7 false) := ⟨_, rfl⟩
            have M1 : Hid (MemOk C1) := (by rw [HC1.out]; exact memOk_putb HCM.out 3 7 _ : MemOk C1)
            have e11 : mbit C1 3 7 = false := by rw [HC1.out, mbit_putb_same HCM.out 3 7 7 _ (by decide) (by decide), if_pos rfl]
            have e12 : mbit C1 5 1 = false := by rw [HC1.out, mbit_putb_ne 3 7 5 1 _ (by decide)]; exact HB1.out
            have e13 : mbit C1 5 31 = false := by rw [HC1.out, mbit_putb_ne 3 7 5 31 _ (by decide)]; exact HB2.out
            obtain ⟨C2, HC2⟩ : ∃ X, Hid (X = putb C1 5 1 false) := ⟨_, rfl⟩
            have M2 : Hid (MemOk C2) := (by rw [HC2.out]; exact memOk_putb M1.out 5 1 _ : MemOk C2)
            have e21 : mbit C2 3 7 = false := by rw [HC2.out, mbit_putb_ne 5 1 3 7 _ (by decide)]; exact e11
            have e22 : mbit C2 5 1 = false := by rw [HC2.out, mbit_putb_same M1.out 5 1 1 _ (by decide) (by decide), if_pos rfl]
            have e23 : mbit C2 5 31 = false := by rw [HC2.out, mbit_putb_same M1.out 5 1 31 _ (by decide) (by decide), if_neg (by decide)]; exact e13
            obtain ⟨C3, HC3⟩ : ∃ X, Hid (X = putb C2 5 31 false) := ⟨_, rfl⟩
            have M3 : Hid (MemOk C3) := (by rw [HC3.out]; exact memOk_putb M2.out 5 31 _ : MemOk C3)
            have E31 : Hid (mbit C3 5 1 = false) := (by rw [HC3.out, mbit_putb_same M2.out 5 31 1 _ (by decide) (by decide), if_neg (by decide)]; exact e22 : mbit C3 5 1 = false)
            have E32 : Hid (mbit C3 5 31 = false) := (by rw [HC3.out, mbit_putb_same M2.out 5 31 31 _ (by decide) (by decide), if_pos rfl] : mbit C3 5 31 = false)
            have HPut : Hid (∀ W, KT W → Calls Tryd.prog 9 #[.agg C, .agg #[.int .i64 3, .int .i64 7, .int .i64 0], .bool false] W fun e w' => e = .returned (.agg C1) ∧ Below W.heap.size W w') := fun W hW => by rw [HC1.out]; exact put_i C HCM.out 3 7 0 _ W hW
            have HUp : Hid (∀ W, KT W → W.heap[w.heap.size + 1]? = some (.cells #[.int .i64 3, .int .i64 7, .int .i64 0, .int .i64 5, .int .i64 1, .int .i64 0] 39 (0, 0)) → Calls Tryd.prog 19 #[.agg C1, .agg #[.int .i64 3, .slice (some ⟨w.heap.size + 1, 0, none⟩) 2 2]] W fun e w' => e = .returned (.tuple #[.agg C2, .bool false]) ∧ Below W.heap.size W w') := fun W hW hr => by
              have := test_up 3 7 0 1 0 (w.heap.size + 1) _ C1 M1.out W hW hr
              rw [e11, e12, ← HC2.out] at this
              exact this
            have HDn : Hid (∀ W, KT W → W.heap[w.heap.size + 1 + 1 + 1]? = some (.cells #[.int .i64 3, .int .i64 7, .int .i64 0, .int .i64 5, .int .i64 31, .int .i64 0] 39 (0, 0)) → Calls Tryd.prog 19 #[.agg C2, .agg #[.int .i64 4, .slice (some ⟨w.heap.size + 1 + 1 + 1, 0, none⟩) 2 2]] W fun e w' => e = .returned (.tuple #[.agg C3, .bool false]) ∧ Below W.heap.size W w') := fun W hW hr => by
              have := test_down 3 7 0 31 0 (w.heap.size + 1 + 1 + 1) _ C2 M2.out W hW hr
              rw [e21, e23, ← HC3.out] at this
              exact this
            have I0 : Hid ((Tryd.prog.info? 37).map (·.size) = some C.size) := by rw [HCM.out.size]; exact zero_mem.2
            have I1 : Hid ((Tryd.prog.info? 37).map (·.size) = some C1.size) := by rw [M1.out.size]; exact zero_mem.2
            have I2 : Hid ((Tryd.prog.info? 37).map (·.size) = some C2.size) := by rw [M2.out.size]; exact zero_mem.2
            have I3 : Hid ((Tryd.prog.info? 37).map (·.size) = some C3.size) := by rw [M3.out.size]; exact zero_mem.2
            clear e11 e12 e13 e21 e22 e23
            have HLx : Hid ((loadVar 39 ⟨w.heap.size, 0, none⟩).run Tryd.prog wr = .ok (.agg #[.int .i64 3, .int .i64 7, .int .i64 0]) wr) := load_all HER.out.x _ _ Tryd.underlying39 rfl arg_size
            have HLm : Hid ((loadVar 37 ⟨w.heap.size + 1 + 1 + 1 + 1 + 1, 0, none⟩).run Tryd.prog wr = .ok (.agg C) wr) := load_all HRM.out _ _ Tryd.underlying37 rfl I0.out
            go_wp2_with (first | (refine wpL_load rfl 37 _ rfl _ _ rfl _ HLm.out ?_) | (refine wpL_load rfl 39 _ rfl _ _ rfl _ HLx.out ?_) | fail)
            refine (HPut.out _ (HT.out.later HER.out.bel)).mono ?_
            rintro e w1 ⟨rfl, g1⟩
            have R1 : Hid (EdgeRows w w1) := HER.out.later g1
            have r1 := (g1.block _ (Array.getElem?_eq_some_iff.1 HRM.out).1).trans HRM.out
            obtain ⟨v1, HV1⟩ : ∃ u, Hid (u = w1.setRow (w.heap.size + 1 + 1 + 1 + 1 + 1) C1) := ⟨_, rfl⟩
            have HS1 : Hid ((storeVar 37 ⟨w.heap.size + 1 + 1 + 1 + 1 + 1, 0, none⟩ (.agg C1)).run Tryd.prog w1 = .ok () v1) := by rw [HV1.out]; exact store_all r1 _ _ (HCM.out.size.trans M1.out.size.symm) I1.out M1.out.one
            have Q1 : Hid (EdgeRows w v1) := (by rw [HV1.out]; exact R1.out.row _ _ (Nat.le_refl _) : EdgeRows w v1)
            have q1 : v1.heap[w.heap.size + 1 + 1 + 1 + 1 + 1]? = some (.cells C1 37 (0, 0)) := by rw [HV1.out]; exact row_set r1 _
            have HLm1 : Hid ((loadVar 37 ⟨w.heap.size + 1 + 1 + 1 + 1 + 1, 0, none⟩).run Tryd.prog v1 = .ok (.agg C1) v1) := load_all q1 _ _ Tryd.underlying37 rfl I1.out
            have HLu : Hid ((loadVar 56 ⟨w.heap.size + 1 + 1, 0, none⟩).run Tryd.prog v1 = .ok (.agg #[.int .i64 3, .slice (some ⟨w.heap.size + 1, 0, none⟩) 2 2]) v1) := load_all Q1.out.u2 _ _ Tryd.underlying56 rfl info_elem
            have J1 : Hid (v1.heap[w.heap.size + 1 + 1 + 1 + 1 + 1]? = some (.cells C1 37 (0, 0))) := q1
            clear g1 r1 q1 HV1 HLx HLm
            go_wp2_with (first | (refine wpL_store rfl 37 _ _ rfl _ _ rfl _ rfl _ HS1.out ?_) | (refine wpL_load rfl 37 _ rfl _ _ rfl _ HLm1.out ?_) | (refine wpL_load rfl 56 _ rfl _ _ rfl _ HLu.out ?_) | fail)
            refine (HUp.out _ (HT.out.later Q1.out.bel) Q1.out.u1).mono ?_
            rintro e w2 ⟨rfl, g2⟩
            have R2 : Hid (EdgeRows w w2) := Q1.out.later g2
            have k2 := (g2.block _ (Array.getElem?_eq_some_iff.1 J1.out).1).trans J1.out
            have l2 : w.heap.size + 1 + 1 + 1 + 1 + 1 < w2.heap.size := (Array.getElem?_eq_some_iff.1 k2).1
            obtain ⟨v2, HV2⟩ : ∃ u, Hid (u = (w2.alloc (.cells Z 37)).setRow w2.heap.size C2) := ⟨_, rfl⟩
            have HS2 : Hid ((storeVar 37 ⟨w2.heap.size, 0, none⟩ (.agg C2)).run Tryd.prog (w2.alloc (.cells Z 37)) = .ok () v2) := by rw [HV2.out]; exact store_all (heap_alloc_last w2 _) _ _ (HZM.out.size.trans M2.out.size.symm) I2.out M2.out.one
            have Q2 : Hid (EdgeRows w v2) := (by rw [HV2.out]; exact (R2.out.later ((Below.refl _ _).alloc (Nat.le_refl _) _)).row _ _ (by omega) : EdgeRows w v2)
            have q2 : v2.heap[w2.heap.size]? = some (.cells C2 37 (0, 0)) := by rw [HV2.out]; exact row_set (heap_alloc_last w2 _) _
            have p2 : v2.heap[w.heap.size + 1 + 1 + 1 + 1 + 1]? = some (.cells C1 37 (0, 0)) := by rw [HV2.out]; exact row_beside ((heap_alloc_old w2 _ l2).trans k2) _ (by omega) _
            have HLm2 : Hid ((loadVar 37 ⟨w2.heap.size, 0, none⟩).run Tryd.prog v2 = .ok (.agg C2) v2) := load_all q2 _ _ Tryd.underlying37 rfl I2.out
            have HLd : Hid ((loadVar 56 ⟨w.heap.size + 1 + 1 + 1 + 1, 0, none⟩).run Tryd.prog v2 = .ok (.agg #[.int .i64 4, .slice (some ⟨w.heap.size + 1 + 1 + 1, 0, none⟩) 2 2]) v2) := load_all Q2.out.d2 _ _ Tryd.underlying56 rfl info_elem
            have J2 : Hid (v2.heap[w.heap.size + 1 + 1 + 1 + 1 + 1]? = some (.cells C1 37 (0, 0))) := p2
            clear g2 k2 q2 p2 HV2 HS1 HLm1 HLu
            go_wp2_with (first | (refine wpL_store rfl 37 _ _ rfl _ _ rfl _ rfl _ HS2.out ?_) | (refine wpL_load rfl 37 _ rfl _ _ rfl _ HLm2.out ?_) | (refine wpL_load rfl 56 _ rfl _ _ rfl _ HLd.out ?_) | fail)
            refine (HDn.out _ (HT.out.later Q2.out.bel) Q2.out.d1).mono ?_
            rintro e w3 ⟨rfl, g3⟩
            have R3 : Hid (EdgeRows w w3) := Q2.out.later g3
            have k3 := (g3.block _ (Array.getElem?_eq_some_iff.1 J2.out).1).trans J2.out
            have l3 : w.heap.size + 1 + 1 + 1 + 1 + 1 < w3.heap.size := (Array.getElem?_eq_some_iff.1 k3).1
            obtain ⟨v3, HV3⟩ : ∃ u, Hid (u = (w3.alloc (.cells Z 37)).setRow w3.heap.size C3) := ⟨_, rfl⟩
            have HS3 : Hid ((storeVar 37 ⟨w3.heap.size, 0, none⟩ (.agg C3)).run Tryd.prog (w3.alloc (.cells Z 37)) = .ok () v3) := by rw [HV3.out]; exact store_all (heap_alloc_last w3 _) _ _ (HZM.out.size.trans M3.out.size.symm) I3.out M3.out.one
            have Q3 : Hid (EdgeRows w v3) := (by rw [HV3.out]; exact (R3.out.later ((Below.refl _ _).alloc (Nat.le_refl _) _)).row _ _ (by omega) : EdgeRows w v3)
            have q3 : v3.heap[w3.heap.size]? = some (.cells C3 37 (0, 0)) := by rw [HV3.out]; exact row_set (heap_alloc_last w3 _) _
            have p3 : v3.heap[w.heap.size + 1 + 1 + 1 + 1 + 1]? = some (.cells C1 37 (0, 0)) := by rw [HV3.out]; exact row_beside ((heap_alloc_old w3 _ l3).trans k3) _ (by omega) _
            have HLm3 : Hid ((loadVar 37 ⟨w3.heap.size, 0, none⟩).run Tryd.prog v3 = .ok (.agg C3) v3) := load_all q3 _ _ Tryd.underlying37 rfl I3.out
            obtain ⟨v4, HV4⟩ : ∃ u, Hid (u = v3.setRow (w.heap.size + 1 + 1 + 1 + 1 + 1) C3) := ⟨_, rfl⟩
            have HS4 : Hid ((storeVar 37 ⟨w.heap.size + 1 + 1 + 1 + 1 + 1, 0, none⟩ (.agg C3)).run Tryd.prog v3 = .ok () v4) := by rw [HV4.out]; exact store_all p3 _ _ (M1.out.size.trans M3.out.size.symm) I3.out M3.out.one
            have Q4 : Hid (EdgeRows w v4) := (by rw [HV4.out]; exact Q3.out.row _ _ (Nat.le_refl _) : EdgeRows w v4)
            have J4 : Hid (v4.heap[w.heap.size + 1 + 1 + 1 + 1 + 1]? = some (.cells C3 37 (0, 0))) := (by rw [HV4.out]; exact row_set p3 _ : v4.heap[w.heap.size + 1 + 1 + 1 + 1 + 1]? = some (.cells C3 37 (0, 0)))
            clear g3 k3 q3 p3 HV3 HV4 HS2 HLm2 HLd
            go_wp2_with (first | (refine wpL_store rfl 37 _ _ rfl _ _ rfl _ rfl _ HS3.out ?_) | (refine wpL_load rfl 37 _ rfl _ _ rfl _ HLm3.out ?_) | (refine wpL_store rfl 37 _ _ rfl _ _ rfl _ rfl _ HS4.out ?_) | fail)
            go_roundg (gk - 1)
            case measure => omega
            case rel => exact ⟨n + 1, C3, false, by omega, by simp, rfl, Q4.out, J4.out, M3.out, E31.out, E32.out⟩
          · skip
            obtain ⟨C1, HC1⟩ : ∃ X, Hid (X = putb C 3 7 false) := ⟨_, rfl⟩
            have M1 : Hid (MemOk C1) := (by rw [HC1.out]; exact memOk_putb HCM.out 3 7 _ : MemOk C1)
            have e11 : mbit C1 3 7 = false := by rw [HC1.out, mbit_putb_same HCM.out 3 7 7 _ (by decide) (by decide), if_pos rfl]
            have e12 : mbit C1 5 1 = true := by rw [HC1.out, mbit_putb_ne 3 7 5 1 _ (by decide)]; exact HB1.out
            have e13 : mbit C1 5 31 = true := by rw [HC1.out, mbit_putb_ne 3 7 5 31 _ (by decide)]; exact HB2.out
            obtain ⟨C2, HC2⟩ : ∃ X, Hid (X = putb C1 5 1 false) := ⟨_, rfl⟩
            have M2 : Hid (MemOk C2) := (by rw [HC2.out]; exact memOk_putb M1.out 5 1 _ : MemOk C2)
            have e21 : mbit C2 3 7 = false := by rw [HC2.out, mbit_putb_ne 5 1 3 7 _ (by decide)]; exact e11
            have e22 : mbit C2 5 1 = false := by rw [HC2.out, mbit_putb_same M1.out 5 1 1 _ (by decide) (by decide), if_pos rfl]
            have e23 : mbit C2 5 31 = true := by rw [HC2.out, mbit_putb_same M1.out 5 1 31 _ (by decide) (by decide), if_neg (by decide)]; exact e13
            obtain ⟨C3, HC3⟩ : ∃ X, Hid (X = putb C2 5 31 false) := ⟨_, rfl⟩
            have M3 : Hid (MemOk C3) := (by rw [HC3.out]; exact memOk_putb M2.out 5 31 _ : MemOk C3)
            have E31 : Hid (mbit C3 5 1 = false) := (by rw [HC3.out, mbit_putb_same M2.out 5 31 1 _ (by decide) (by decide), if_neg (by decide)]; exact e22 : mbit C3 5 1 = false)
            have E32 : Hid (mbit C3 5 31 = false) := (by rw [HC3.out, mbit_putb_same M2.out 5 31 31 _ (by decide) (by decide), if_pos rfl] : mbit C3 5 31 = false)
            have HPut : Hid (∀ W, KT W → Calls Tryd.prog 9 #[.agg C, .agg #[.int .i64 3, .int .i64 7, .int .i64 0], .bool false] W fun e w' => e = .returned (.agg C1) ∧ Below W.heap.size W w') := fun W hW => by rw [HC1.out]; exact put_i C HCM.out 3 7 0 _ W hW
            have HUp : Hid (∀ W, KT W → W.heap[w.heap.size + 1]? = some (.cells #[.int .i64 3, .int .i64 7, .int .i64 0, .int .i64 5, .int .i64 1, .int .i64 0] 39 (0, 0)) → Calls Tryd.prog 19 #[.agg C1, .agg #[.int .i64 3, .slice (some ⟨w.heap.size + 1, 0, none⟩) 2 2]] W fun e w' => e = .returned (.tuple #[.agg C2, .bool false]) ∧ Below W.heap.size W w') := fun W hW hr => by
              have := test_up 3 7 0 1 0 (w.heap.size + 1) _ C1 M1.out W hW hr
              rw [e11, e12, ← HC2.out] at this
              exact this
            have HDn : Hid (∀ W, KT W → W.heap[w.heap.size + 1 + 1 + 1]? = some (.cells #[.int .i64 3, .int .i64 7, .int .i64 0, .int .i64 5, .int .i64 31, .int .i64 0] 39 (0, 0)) → Calls Tryd.prog 19 #[.agg C2, .agg #[.int .i64 4, .slice (some ⟨w.heap.size + 1 + 1 + 1, 0, none⟩) 2 2]] W fun e w' => e = .returned (.tuple #[.agg C3, .bool true]) ∧ Below W.heap.size W w') := fun W hW hr => by
              have := test_down 3 7 0 31 0 (w.heap.size + 1 + 1 + 1) _ C2 M2.out W hW hr
              rw [e21, e23, ← HC3.out] at this
              exact this
            have I0 : Hid ((Tryd.prog.info? 37).map (·.size) = some C.size) := by rw [HCM.out.size]; exact zero_mem.2
            have I1 : Hid ((Tryd.prog.info? 37).map (·.size) = some C1.size) := by rw [M1.out.size]; exact zero_mem.2
            have I2 : Hid ((Tryd.prog.info? 37).map (·.size) = some C2.size) := by rw [M2.out.size]; exact zero_mem.2
            have I3 : Hid ((Tryd.prog.info? 37).map (·.size) = some C3.size) := by rw [M3.out.size]; exact zero_mem.2
            clear e11 e12 e13 e21 e22 e23
            have HLx : Hid ((loadVar 39 ⟨w.heap.size, 0, none⟩).run Tryd.prog wr = .ok (.agg #[.int .i64 3, .int .i64 7, .int .i64 0]) wr) := load_all HER.out.x _ _ Tryd.underlying39 rfl arg_size
            have HLm : Hid ((loadVar 37 ⟨w.heap.size + 1 + 1 + 1 + 1 + 1, 0, none⟩).run Tryd.prog wr = .ok (.agg C) wr) := load_all HRM.out _ _ Tryd.underlying37 rfl I0.out
            go_wp2_with (first | (refine wpL_load rfl 37 _ rfl _ _ rfl _ HLm.out ?_) | (refine wpL_load rfl 39 _ rfl _ _ rfl _ HLx.out ?_) | fail)
            refine (HPut.out _ (HT.out.later HER.out.bel)).mono ?_
            rintro e w1 ⟨rfl, g1⟩
            have R1 : Hid (EdgeRows w w1) := HER.out.later g1
            have r1 := (g1.block _ (Array.getElem?_eq_some_iff.1 HRM.out).1).trans HRM.out
            obtain ⟨v1, HV1⟩ : ∃ u, Hid (u = w1.setRow (w.heap.size + 1 + 1 + 1 + 1 + 1) C1) := ⟨_, rfl⟩
            have HS1 : Hid ((storeVar 37 ⟨w.heap.size + 1 + 1 + 1 + 1 + 1, 0, none⟩ (.agg C1)).run Tryd.prog w1 = .ok () v1) := by rw [HV1.out]; exact store_all r1 _ _ (HCM.out.size.trans M1.out.size.symm) I1.out M1.out.one
            have Q1 : Hid (EdgeRows w v1) := (by rw [HV1.out]; exact R1.out.row _ _ (Nat.le_refl _) : EdgeRows w v1)
            have q1 : v1.heap[w.heap.size + 1 + 1 + 1 + 1 + 1]? = some (.cells C1 37 (0, 0)) := by rw [HV1.out]; exact row_set r1 _
            have HLm1 : Hid ((loadVar 37 ⟨w.heap.size + 1 + 1 + 1 + 1 + 1, 0, none⟩).run Tryd.prog v1 = .ok (.agg C1) v1) := load_all q1 _ _ Tryd.underlying37 rfl I1.out
            have HLu : Hid ((loadVar 56 ⟨w.heap.size + 1 + 1, 0, none⟩).run Tryd.prog v1 = .ok (.agg #[.int .i64 3, .slice (some ⟨w.heap.size + 1, 0, none⟩) 2 2]) v1) := load_all Q1.out.u2 _ _ Tryd.underlying56 rfl info_elem
            have J1 : Hid (v1.heap[w.heap.size + 1 + 1 + 1 + 1 + 1]? = some (.cells C1 37 (0, 0))) := q1
            clear g1 r1 q1 HV1 HLx HLm
            go_wp2_with (first | (refine wpL_store rfl 37 _ _ rfl _ _ rfl _ rfl _ HS1.out ?_) | (refine wpL_load rfl 37 _ rfl _ _ rfl _ HLm1.out ?_) | (refine wpL_load rfl 56 _ rfl _ _ rfl _ HLu.out ?_) | fail)
            refine (HUp.out _ (HT.out.later Q1.out.bel) Q1.out.u1).mono ?_
            rintro e w2 ⟨rfl, g2⟩
            have R2 : Hid (EdgeRows w w2) := Q1.out.later g2
            have k2 := (g2.block _ (Array.getElem?_eq_some_iff.1 J1.out).1).trans J1.out
            have l2 : w.heap.size + 1 + 1 + 1 + 1 + 1 < w2.heap.size := (Array.getElem?_eq_some_iff.1 k2).1
            obtain ⟨v2, HV2⟩ : ∃ u, Hid (u = (w2.alloc (.cells Z 37)).setRow w2.heap.size C2) := ⟨_, rfl⟩
            have HS2 : Hid ((storeVar 37 ⟨w2.heap.size, 0, none⟩ (.agg C2)).run Tryd.prog (w2.alloc (.cells Z 37)) = .ok () v2) := by rw [HV2.out]; exact store_all (heap_alloc_last w2 _) _ _ (HZM.out.size.trans M2.out.size.symm) I2.out M2.out.one
            have Q2 : Hid (EdgeRows w v2) := (by rw [HV2.out]; exact (R2.out.later ((Below.refl _ _).alloc (Nat.le_refl _) _)).row _ _ (by omega) : EdgeRows w v2)
            have q2 : v2.heap[w2.heap.size]? = some (.cells C2 37 (0, 0)) := by rw [HV2.out]; exact row_set (heap_alloc_last w2 _) _
            have p2 : v2.heap[w.heap.size + 1 + 1 + 1 + 1 + 1]? = some (.cells C1 37 (0, 0)) := by rw [HV2.out]; exact row_beside ((heap_alloc_old w2 _ l2).trans k2) _ (by omega) _
            have HLm2 : Hid ((loadVar 37 ⟨w2.heap.size, 0, none⟩).run Tryd.prog v2 = .ok (.agg C2) v2) := load_all q2 _ _ Tryd.underlying37 rfl I2.out
            have HLd : Hid ((loadVar 56 ⟨w.heap.size + 1 + 1 + 1 + 1, 0, none⟩).run Tryd.prog v2 = .ok (.agg #[.int .i64 4, .slice (some ⟨w.heap.size + 1 + 1 + 1, 0, none⟩) 2 2]) v2) := load_all Q2.out.d2 _ _ Tryd.underlying56 rfl info_elem
            have J2 : Hid (v2.heap[w.heap.size + 1 + 1 + 1 + 1 + 1]? = some (.cells C1 37 (0, 0))) := p2
            clear g2 k2 q2 p2 HV2 HS1 HLm1 HLu
            go_wp2_with (first | (refine wpL_store rfl 37 _ _ rfl _ _ rfl _ rfl _ HS2.out ?_) | (refine wpL_load rfl 37 _ rfl _ _ rfl _ HLm2.out ?_) | (refine wpL_load rfl 56 _ rfl _ _ rfl _ HLd.out ?_) | fail)
            refine (HDn.out _ (HT.out.later Q2.out.bel) Q2.out.d1).mono ?_
            rintro e w3 ⟨rfl, g3⟩
            have R3 : Hid (EdgeRows w w3) := Q2.out.later g3
            have k3 := (g3.block _ (Array.getElem?_eq_some_iff.1 J2.out).1).trans J2.out
            have l3 : w.heap.size + 1 + 1 + 1 + 1 + 1 < w3.heap.size := (Array.getElem?_eq_some_iff.1 k3).1
            obtain ⟨v3, HV3⟩ : ∃ u, Hid (u = (w3.alloc (.cells Z 37)).setRow w3.heap.size C3) := ⟨_, rfl⟩
            have HS3 : Hid ((storeVar 37 ⟨w3.heap.size, 0, none⟩ (.agg C3)).run Tryd.prog (w3.alloc (.cells Z 37)) = .ok () v3) := by rw [HV3.out]; exact store_all (heap_alloc_last w3 _) _ _ (HZM.out.size.trans M3.out.size.symm) I3.out M3.out.one
            have Q3 : Hid (EdgeRows w v3) := (by rw [HV3.out]; exact (R3.out.later ((Below.refl _ _).alloc (Nat.le_refl _) _)).row _ _ (by omega) : EdgeRows w v3)
            have q3 : v3.heap[w3.heap.size]? = some (.cells C3 37 (0, 0)) := by rw [HV3.out]; exact row_set (heap_alloc_last w3 _) _
            have p3 : v3.heap[w.heap.size + 1 + 1 + 1 + 1 + 1]? = some (.cells C1 37 (0, 0)) := by rw [HV3.out]; exact row_beside ((heap_alloc_old w3 _ l3).trans k3) _ (by omega) _
            have HLm3 : Hid ((loadVar 37 ⟨w3.heap.size, 0, none⟩).run Tryd.prog v3 = .ok (.agg C3) v3) := load_all q3 _ _ Tryd.underlying37 rfl I3.out
            obtain ⟨v4, HV4⟩ : ∃ u, Hid (u = v3.setRow (w.heap.size + 1 + 1 + 1 + 1 + 1) C3) := ⟨_, rfl⟩
            have HS4 : Hid ((storeVar 37 ⟨w.heap.size + 1 + 1 + 1 + 1 + 1, 0, none⟩ (.agg C3)).run Tryd.prog v3 = .ok () v4) := by rw [HV4.out]; exact store_all p3 _ _ (M1.out.size.trans M3.out.size.symm) I3.out M3.out.one
            have Q4 : Hid (EdgeRows w v4) := (by rw [HV4.out]; exact Q3.out.row _ _ (Nat.le_refl _) : EdgeRows w v4)
            have J4 : Hid (v4.heap[w.heap.size + 1 + 1 + 1 + 1 + 1]? = some (.cells C3 37 (0, 0))) := (by rw [HV4.out]; exact row_set p3 _ : v4.heap[w.heap.size + 1 + 1 + 1 + 1 + 1]? = some (.cells C3 37 (0, 0)))
            clear g3 k3 q3 p3 HV3 HV4 HS2 HLm2 HLd
            go_wp2_with (first | (refine wpL_store rfl 37 _ _ rfl _ _ rfl _ rfl _ HS3.out ?_) | (refine wpL_load rfl 37 _ rfl _ _ rfl _ HLm3.out ?_) | (refine wpL_store rfl 37 _ _ rfl _ _ rfl _ rfl _ HS4.out ?_) | fail)
            go_roundg (gk - 1)
            case measure => omega
            case rel => exact ⟨n + 1, C3, false, by omega, by simp, rfl, Q4.out, J4.out, M3.out, E31.out, E32.out⟩
      · have j1 : (n : Int) < (len : Int) := by omega
        have j2 : ¬ ((n : Int) < 2000) := by omega
        go_wp2
        go_ret
        exact ⟨rfl, HER.out.bel⟩
    · have j1 : ¬ ((n : Int) < (len : Int)) := by omega
      go_wp2
      go_ret
      exact ⟨rfl, HER.out.bel⟩

set_option maxHeartbeats 400000 in
theorem walk_edge (a : Option Addr) (len cap : Nat) (zs : List Int) (w : World) (h : IsRow .u8 w a len cap zs) (hk : KT w) :
    Calls Tryd.prog 5 #[.slice a len cap] w fun e w' => e = .returned (.bool true) ∧ Below w.heap.size w w' := by
  by_cases hl : len ≤ 1048576
  · obtain ⟨blk, off, z, hc⟩ := h.code hl
    exact law_edge w hk hc
  · have hcap : len ≤ maxLen := by
      rcases h with ⟨_, rfl, _⟩ | ⟨_, _, h1, h2, _⟩
      · omega
      · omega
    unfold maxLen at hcap
    have i1 : (1048576 : Int) < (len : Int) := by omega
    go_enter Tryd.func5, Tryd.ntmps5
    go_wp2
    go_ret
    exact ⟨rfl, Below.refl _ _⟩
end Go.Proofs.YtlpoplnghfohmaaDoor
