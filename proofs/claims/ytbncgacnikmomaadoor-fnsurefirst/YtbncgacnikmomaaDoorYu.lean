/- The law FnSureFirst: its walk. -/
import Derived.Test.YtbncgacnikmomaaDoorYs
namespace Go.Proofs.YtbncgacnikmomaaDoor
open Go.RowKit
set_option linter.unusedVariables false

set_option maxRecDepth 10000 in
set_option maxHeartbeats 8000000 in
theorem law_sfirst {a a' : Option Addr} {len cap blk off len' cap' blk' off' : Nat} {zz zz' : Nat → Int} (w : World) (hT : KT w) (hL : LT w) (h : Code0 w a len cap blk off zz) (h' : Code0 w a' len' cap' blk' off' zz') :
    Calls Tryd.prog 4 #[.slice a len cap, .slice a' len' cap'] w fun e w' => e = .returned (.bool true) ∧ Below w.heap.size w w' := by
  have hl := h.short
  have hl' := h'.short
  go_enter Tryd.func4, Tryd.ntmps4
  go_wp2_with fail
  refine (drawcheck_r w h).mono ?_
  rintro e w1 ⟨b, n, cp, xs, rfl, HX, hn, hs, g1⟩
  have his : InstsIs w1 0 (.slice b n cp) xs := HX.out.2.is (by have := HX.out.1; omega)
  have hxl : xs.length ≤ 1048576 := by have := HX.out.1; omega
  obtain ⟨C, HC⟩ : ∃ q, Hid (q = (checkT xs).1) := ⟨_, rfl⟩
  obtain ⟨D, HD⟩ : ∃ q, Hid (q = (checkT xs).2) := ⟨_, rfl⟩
  have HCD : Hid (checkT xs = (C, D)) := by show checkT xs = (C, D); rw [HC.out, HD.out]
  have HI : Hid (∀ (W : World) (v : Value) (zs : List InstT), Below w.heap.size w W → InstsIs W 0 v zs → zs.length ≤ 1048576 → Calls Tryd.prog 6 #[v] W fun e w' => e = .returned (.agg #[.int .i64 (checkT zs).1, .int .i64 (checkT zs).2]) ∧ Below W.heap.size W w') := fun W v zs g hv hz => check_i v zs W 0 hv hz (hT.later g) (hL.later g)
  have HI1 : Hid (Calls Tryd.prog 6 #[.slice b n cp] w1 fun e w' => e = .returned (.agg #[.int .i64 C, .int .i64 D]) ∧ Below w1.heap.size w1 w') := by
    rw [HC.out, HD.out]; exact HI.out w1 _ xs g1 his hxl
  have HK : Hid (∀ W, Below w1.heap.size w1 W → Calls Tryd.prog 7 #[.slice b n cp] W fun e w' => e = .returned (.agg #[.int .i64 C, .int .i64 D]) ∧ Below W.heap.size W w') := fun W g => by
    rw [HC.out, HD.out]; exact check_s _ xs W 0 (instsIs_move (Keeps.of_below g 0) (Nat.le_refl _) his) hxl
  have HIs : Hid (InstsIs w1 0 (.slice b n cp) xs) := his
  have HG1 : Hid (Below w.heap.size w w1) := g1
  have HCo : Hid (Code0 w a' len' cap' blk' off' zz') := h'
  clear his hxl h g1 HC HD hT hL h'
  go_wp2_with fail
  refine HI1.out.mono ?_
  rintro e w2 ⟨rfl, g2⟩
  have gA : Below w1.heap.size w1 (w2.alloc (.cells #[.int .i64 C, .int .i64 D] 26)) := g2.alloc g2.size _
  have kA : (w2.alloc (.cells #[.int .i64 C, .int .i64 D] 26)).heap[w2.heap.size]? = some (.cells #[.int .i64 C, .int .i64 D] 26 (0, 0)) := heap_alloc_last w2 _
  obtain ⟨W2, HW2⟩ : ∃ W, Hid (W = w2.alloc (.cells #[.int .i64 C, .int .i64 D] 26)) := ⟨_, rfl⟩
  rw [← HW2.out] at gA kA
  have HGA : Hid (Below w1.heap.size w1 W2) := gA
  have HKA : Hid (W2.heap[w2.heap.size]? = some (.cells #[.int .i64 C, .int .i64 D] 26 (0, 0))) := kA
  have HR2 : Hid (W2.rangeAt w2.heap.size 0 [.int .i64 C, .int .i64 D]) := fun i c hi => by
    rw [Nat.zero_add, cell_of_row _ _ _ _ _ _ kA]
    simpa using hi
  have cK : ∀ d os, Calls Tryd.prog 7 #[.slice b n cp] (Sort.grow (redrawn W2 d) os) fun e w'' => e = .returned (.agg #[.int .i64 C, .int .i64 D]) ∧ ∃ p : Regrown, w'' = Sort.grow (redrawn W2 p.d) p.os :=
    fun d os => Calls.regrown_of (HK.out _ (HGA.out.trans ((below_regrown W2 d os).mono HGA.out.size)))
  clear g2 gA kA HI1
  go_upto_region 5 with fail
  rw [← HW2.out]
  clear HW2
  refine wp_region_quiet_below (by kernel_rfl) (by kernel_rfl) ?_
  refine wpQ_load rfl 26 _ rfl _ _ rfl (.agg #[.int .i64 C, .int .i64 D]) (fun W hW => run_loadVar_mid W w2.heap.size 0 26 [.int .i64 C, .int .i64 D] _ (range_regrown HR2.out hW) Tryd.underlying26 rfl (by kernel_rfl)) ?_
  simp only [Act.put, List.setIfInBounds_toArray, List.set_cons_succ, List.set_cons_zero]
  repeat go_big_quiet_step (first | with_reducible exact cK _ _)
  refine wpQuiet_nil ?_
  intro w7 hw'
  have g7 : Below W2.heap.size W2 w7 := by
    obtain ⟨⟨dq, osq⟩, rfl⟩ := hw'
    exact below_regrown W2 dq osq
  have HB7 : Hid (Below w1.heap.size w1 w7) := HGA.out.trans (g7.mono HGA.out.size)
  have HK7 : Hid (w7.heap[w2.heap.size]? = some (.cells #[.int .i64 C, .int .i64 D] 26 (0, 0))) := (g7.block _ (Array.getElem?_eq_some_iff.1 HKA.out).1).trans HKA.out
  have d0 : w7.cell? ⟨w2.heap.size, 0, none⟩ = some (.int .i64 C) := (cell_of_row _ _ _ _ _ _ HK7.out).trans rfl
  have d1 : w7.cell? ⟨w2.heap.size, 1, none⟩ = some (.int .i64 D) := (cell_of_row _ _ _ _ _ _ HK7.out).trans rfl
  clear hw' g7 cK HR2 HKA HGA HK
  have HE : Hid (∀ w', Below w7.heap.size w7 w' → Below w.heap.size w w') := fun w' g => HG1.out.trans ((HB7.out.trans (g.mono HB7.out.size)).mono HG1.out.size)
  by_cases c0 : C = 0
  · have f0 : (C == 0) = true := by simp [c0]
    clear c0
    have HF : Hid (Below w.heap.size w w7) := HE.out _ (Below.refl _ _)
    clear HE
    go_wp2
    go_ret
    exact ⟨rfl, HF.out⟩
  have f0 : (C == 0) = false := by simp [c0]
  by_cases c1 : C = 1
  · have f1 : (C == 1) = true := by simp [c1]
    clear c1
    have HF : Hid (Below w.heap.size w w7) := HE.out _ (Below.refl _ _)
    clear HE
    go_wp2
    go_ret
    exact ⟨rfl, HF.out⟩
  have f1 : (C == 1) = false := by simp [c1]
  by_cases c9 : C = 9
  · have f9 : (C == 9) = true := by simp [c9]
    clear c9
    have HF : Hid (Below w.heap.size w w7) := HE.out _ (Below.refl _ _)
    clear HE
    go_wp2
    go_ret
    exact ⟨rfl, HF.out⟩
  have f9 : (C == 9) = false := by simp [c9]
  obtain ⟨hx1000, j, hj, hDj, hlong, hshort⟩ := check_first HCD.out c0 c1 c9
  have hjn : j < n := by have := HX.out.1; omega
  obtain rfl := hDj
  have hcapn : n ≤ cp := by
    obtain ⟨g', cap', c, e, hc, _⟩ := HX.out.2.cell j _ (List.getElem?_eq_getElem hj)
    simp only [Value.slice.injEq] at e
    have := HX.out.1
    omega
  have HLong : Hid (∀ ys, (xs.take (j + 1) ++ ys).length ≤ 1000 → checkT (xs.take (j + 1) ++ ys) = (C, (j : Int))) := hlong
  have hjc : j ≤ cp := by omega
  have HIP : Hid (Calls Tryd.prog 6 #[.slice b j cp] w7 fun e w' => (e = .returned (.agg #[.int .i64 0, .int .i64 0]) ∨ e = .returned (.agg #[.int .i64 9, .int .i64 j])) ∧ Below w7.heap.size w7 w') := by
    refine (HI.out w7 _ (xs.take j) (HE.out _ (Below.refl _ _)) (InstsIs.pre (instsIs_move (Keeps.of_below HB7.out 0) (Nat.le_refl _) HIs.out) j (by omega)) (by rw [List.length_take]; omega)).mono ?_
    rintro e w' ⟨rfl, g⟩
    refine ⟨?_, g⟩
    rcases hshort with hq | hq <;> rw [hq]
    · exact .inl rfl
    · exact .inr rfl
  clear hlong hshort hx1000 hj c0 c1 c9 HCD HIs
  go_wp2_with fail
  refine HIP.out.mono ?_
  rintro e w8 ⟨he, g8⟩
  obtain ⟨G0, G1, rfl, hG⟩ : ∃ G0 G1 : Int, e = .returned (.agg #[.int .i64 G0, .int .i64 G1]) ∧ (G0 = 0 ∨ G0 = 9 ∧ G1 = (j : Int)) := by
    rcases he with rfl | rfl
    · exact ⟨0, 0, rfl, .inl rfl⟩
    · exact ⟨9, j, rfl, .inr ⟨rfl, rfl⟩⟩
  have r8 : w8.heap[w2.heap.size]? = some (.cells #[.int .i64 C, .int .i64 j] 26 (0, 0)) := (g8.block _ (Array.getElem?_eq_some_iff.1 HK7.out).1).trans HK7.out
  have hlt8 : w2.heap.size < w8.heap.size := (Array.getElem?_eq_some_iff.1 r8).1
  obtain ⟨W9, HW9⟩ : ∃ W, Hid (W = w8.alloc (.cells #[.int .i64 G0, .int .i64 G1] 26)) := ⟨_, rfl⟩
  have r9 : W9.heap[w2.heap.size]? = some (.cells #[.int .i64 C, .int .i64 j] 26 (0, 0)) := by rw [HW9.out]; exact (heap_alloc_old _ _ (h := hlt8)).trans r8
  have s9 : W9.heap[w8.heap.size]? = some (.cells #[.int .i64 G0, .int .i64 G1] 26 (0, 0)) := by rw [HW9.out]; exact heap_alloc_last w8 _
  have HB9 : Hid (Below w1.heap.size w1 W9) := by
    show Below w1.heap.size w1 W9
    rw [HW9.out]
    have h8 : Below w1.heap.size w1 w8 := HB7.out.trans (g8.mono HB7.out.size)
    exact h8.alloc h8.size _
  have HR9 : Hid (W9.heap[w2.heap.size]? = some (.cells #[.int .i64 C, .int .i64 j] 26 (0, 0))) := r9
  have d0 : W9.cell? ⟨w2.heap.size, 0, none⟩ = some (.int .i64 C) := (cell_of_row _ _ _ _ _ _ r9).trans rfl
  have d1 : W9.cell? ⟨w2.heap.size, 1, none⟩ = some (.int .i64 j) := (cell_of_row _ _ _ _ _ _ r9).trans rfl
  have e0 : W9.cell? ⟨w8.heap.size, 0, none⟩ = some (.int .i64 G0) := (cell_of_row _ _ _ _ _ _ s9).trans rfl
  have e1 : W9.cell? ⟨w8.heap.size, 1, none⟩ = some (.int .i64 G1) := (cell_of_row _ _ _ _ _ _ s9).trans rfl
  clear r8 r9 s9 g8 HB7 HK7 HE HIP hlt8
  go_upto_region 10 with fail
  rw [← HW9.out]
  clear HW9
  go_cut [52] from 9 (fun v wc => v = .bool false ∧ wc = W9)
  case first =>
    rcases hG with hG | ⟨hG, hG1⟩
    · have q0 : (G0 != 0) = false := by simp [hG]
      clear hG
      go_wp2_with fail
      go_meet
      exact ⟨rfl, rfl⟩
    · have q0 : (G0 != 0) = true := by simp [hG]
      subst hG hG1
      go_wp2_with fail
      go_meet
      exact ⟨rfl, rfl⟩
  case rest =>
  obtain ⟨hv, hw⟩ := hcut
  subst hv
  subst hw
  obtain ⟨W9, ew⟩ : ∃ W, W = wc := ⟨_, rfl⟩
  subst ew
  obtain ⟨J1, HJ1⟩ : ∃ q, Hid (q = j + 1) := ⟨_, rfl⟩
  have hJ1 : J1 ≤ n := by have := HJ1.out; omega
  have hJ2 : J1 ≤ cp := by omega
  have hJ0 : 0 < J1 := by have := HJ1.out; omega
  have hwr : IntKind.i64.wrap ((j : Int) + 1) = (J1 : Int) := by have := HJ1.out; rw [IntKind.wrap_i64]; omega
  obtain ⟨g3, cap3, W3, hr3, hRD3, hB3, hg3⟩ := first_copy (k := J1) HX.out.2 HX.out.1 hn HB9.out hs (by have := HG1.out.size; omega) hJ1 hJ0
  have HR3 : Hid (∀ ty, (Builtin.append_ #[23, 23] ty #[.slice (some ⟨W9.heap.size, 0, none⟩) 0 0, .slice b J1 cp]).run Tryd.prog (W9.alloc (.cells #[] 39)) = .ok (.slice (some ⟨g3, 0, none⟩) J1 cap3) W3) := hr3
  have HB13 : Hid (Below w1.heap.size w1 W3) := HB9.out.trans (hB3.mono HB9.out.size)
  have HD3 : Hid (Calls Tryd.prog 5 #[.slice a' len' cap'] W3 fun e w' => HalfR W3 e w') := drawcheck_r W3 (HCo.out.later (HG1.out.trans (HB13.out.mono HG1.out.size)))
  have HR3k : Hid (W3.heap[w2.heap.size]? = some (.cells #[.int .i64 C, .int .i64 j] 26 (0, 0))) := (hB3.block _ (Array.getElem?_eq_some_iff.1 HR9.out).1).trans HR9.out
  have hlt9 : w2.heap.size < W9.heap.size := (Array.getElem?_eq_some_iff.1 HR9.out).1
  have hne9 : w2.heap.size ≠ W9.heap.size := by omega
  have hs13 := HB13.out.size
  have hs19 := HB9.out.size
  have hs01 := HG1.out.size
  have HRD3 : Hid (RD W3 w.heap.size w.heap.size (.slice (some ⟨g3, 0, none⟩) J1 cap3) (xs.take J1)) := hRD3
  have HXl : Hid (n = xs.length) := HX.out.1
  rw [← HJ1.out] at HLong
  clear hr3 hRD3 HX HB9 HR9 HCo e0 e1 hB3
  go_wp2_with (at_builtin; refine wpList_app_run rfl _ _ 23 rfl _ _ rfl rfl _ _ HR3.out ?_)
  refine HD3.out.mono ?_
  rintro e w4 ⟨b2, n2, cp2, ys, rfl, HY, hn2, hs4, g4⟩
  obtain ⟨g5, cap5, W5, hr5, hI5, gg5⟩ := first_join HRD3.out (by rw [List.length_take]; have := HXl.out; omega) g4 (by omega) (by omega) HY.out.2 HY.out.1 (by omega)
  obtain ⟨N5, HN5⟩ : ∃ q, Hid (q = J1 + n2) := ⟨_, rfl⟩
  rw [← HN5.out] at hr5 hI5
  have HR5 : Hid (∀ ty, (Builtin.append_ #[23, 23] ty #[.slice (some ⟨g3, 0, none⟩) J1 cap3, .slice b2 n2 cp2]).run Tryd.prog w4 = .ok (.slice (some ⟨g5, 0, none⟩) N5 cap5) W5) := hr5
  have hs5 := gg5.size
  have hs44 := g4.size
  have hl2 : w2.heap.size < W3.heap.size := (Array.getElem?_eq_some_iff.1 HR3k.out).1
  have k5 : W5.heap[w2.heap.size]? = some (.cells #[.int .i64 C, .int .i64 j] 26 (0, 0)) := (gg5.block _ (by omega) (by simp; omega)).trans ((g4.block _ hl2).trans HR3k.out)
  have HB5 : Hid (Below w.heap.size w W5) := by
    have h4 : Below w.heap.size w w4 := HG1.out.trans ((HB13.out.trans (g4.mono (by omega))).mono HG1.out.size)
    exact h4.grown gg5 h4.size (fun q hq => by cases hq; omega)
  have HI5 : Hid (InstsIs W5 0 (.slice (some ⟨g5, 0, none⟩) N5 cap5) (xs.take J1 ++ ys)) := hI5
  have HL5 : Hid ((xs.take J1 ++ ys).length = N5) := by
    show (xs.take J1 ++ ys).length = N5
    rw [List.length_append, List.length_take, HN5.out, ← HY.out.1]
    have := HXl.out
    omega
  have hN5 : N5 ≤ 100000 := by have := HN5.out; omega
  have HR5r : Hid (W5.rangeAt w2.heap.size 0 [.int .i64 C, .int .i64 j]) := fun i c hi => by
    rw [Nat.zero_add, cell_of_row _ _ _ _ _ _ k5]
    simpa using hi
  have k0 : ∀ d os, (Sort.grow (redrawn W5 d) os).cell? ⟨w2.heap.size, 0, none⟩ = some (.int .i64 C) := fun d os => (Keeps.of_below (below_regrown W5 d os) 0) _ _ _ (Nat.zero_le _) (HR5r.out 0 _ rfl)
  have k1 : ∀ d os, (Sort.grow (redrawn W5 d) os).cell? ⟨w2.heap.size, 1, none⟩ = some (.int .i64 j) := fun d os => (Keeps.of_below (below_regrown W5 d os) 0) _ _ _ (Nat.zero_le _) (HR5r.out 1 _ rfl)
  clear hr5 hI5 gg5 g4 HY hn2 hs4 k5 HRD3 HR3k HB13 HD3 HG1 HR3 d0 d1 hlt9 hne9 hwr
  go_upto_region 13 with (at_builtin; refine wpList_app_run rfl _ _ 23 rfl _ _ rfl rfl _ _ HR5.out ?_)
  clear HR5
  by_cases i5 : (1000 : Int) < (N5 : Int)
  · clear HI HLong HI5 HL5
    refine wp_region_quiet_below (by kernel_rfl) (by kernel_rfl) ?_
    repeat go_big_quiet_step (first | fail)
    refine wpQuiet_nil ?_
    intro w7 hw'
    have g7 : Below W5.heap.size W5 w7 := by
      obtain ⟨⟨dq, osq⟩, rfl⟩ := hw'
      exact below_regrown W5 dq osq
    have HF : Hid (Below w.heap.size w w7) := HB5.out.trans (g7.mono HB5.out.size)
    clear hw' g7 k0 k1
    go_wp2
    go_ret
    exact ⟨rfl, HF.out⟩
  · have cC : ∀ d os, Calls Tryd.prog 6 #[.slice (some ⟨g5, 0, none⟩) N5 cap5] (Sort.grow (redrawn W5 d) os) fun e w'' => e = .returned (.agg #[.int .i64 C, .int .i64 j]) ∧ ∃ p : Regrown, w'' = Sort.grow (redrawn W5 p.d) p.os := fun d os => by
      have hq := HI.out (Sort.grow (redrawn W5 d) os) _ (xs.take J1 ++ ys) (HB5.out.trans ((below_regrown W5 d os).mono HB5.out.size)) (instsIs_move (Keeps.of_below (below_regrown W5 d os) 0) (Nat.le_refl _) HI5.out) (by rw [HL5.out]; omega)
      rw [HLong.out ys (by rw [HL5.out]; omega)] at hq
      exact Calls.regrown_of hq
    clear HI HLong HI5 HL5
    refine wp_region_quiet_below (by kernel_rfl) (by kernel_rfl) ?_
    repeat go_big_quiet_step (first | with_reducible exact cC _ _)
    refine wpQuiet_nil ?_
    intro w7 hw'
    have g7 : Below W5.heap.size W5 w7 := by
      obtain ⟨⟨dq, osq⟩, rfl⟩ := hw'
      exact below_regrown W5 dq osq
    have HF : Hid (Below w.heap.size w w7) := HB5.out.trans (g7.mono HB5.out.size)
    clear hw' g7 k0 k1 cC
    go_wp2
    go_ret
    exact ⟨rfl, HF.out⟩
theorem walk_sfirst (a : Option Addr) (len cap : Nat) (zs : List Int) (a' : Option Addr) (len' cap' : Nat) (zs' : List Int) (w : World) (h : IsRow .u8 w a len cap zs) (h' : IsRow .u8 w a' len' cap' zs') (hL : LT w) (hT : KT w) :
    Calls Tryd.prog 4 #[.slice a len cap, .slice a' len' cap'] w fun e w' => e = .returned (.bool true) ∧ Below w.heap.size w w' := by
  have hcap : len ≤ maxLen := by
    rcases h with ⟨_, rfl, _⟩ | ⟨_, _, h1, h2, _⟩
    · omega
    · omega
  have hcap' : len' ≤ maxLen := by
    rcases h' with ⟨_, rfl, _⟩ | ⟨_, _, h1, h2, _⟩
    · omega
    · omega
  unfold maxLen at hcap hcap'
  by_cases hl : len ≤ 1048576
  · by_cases hl' : len' ≤ 1048576
    · obtain ⟨blk, off, z, hc⟩ := h.code hl
      obtain ⟨blk', off', z', hc'⟩ := h'.code hl'
      exact law_sfirst w hT hL hc hc'
    · have i0 : ¬ ((1048576 : Int) < (len : Int)) := by omega
      have i1 : (1048576 : Int) < (len' : Int) := by omega
      go_enter Tryd.func4, Tryd.ntmps4
      go_wp2
      go_ret
      exact ⟨rfl, Below.refl _ _⟩
  · have i1 : (1048576 : Int) < (len : Int) := by omega
    go_enter Tryd.func4, Tryd.ntmps4
    go_wp2
    go_ret
    exact ⟨rfl, Below.refl _ _⟩
end Go.Proofs.YtbncgacnikmomaaDoor
