/- The specification's ListSame; the law. -/
import Derived.Test.YtidfjinmaiechaaZb
import Derived.Test.YtidfjinmaiechaaZc
namespace Go.Proofs.Ytidfjinmaiechaa
open Go.RowKit
set_option linter.unusedVariables false

set_option maxRecDepth 10000 in
set_option maxHeartbeats 8000000 in
theorem s_listsame (v v' : Value) (xs ys : List InstT) (w : World) (lo lo' : Nat) (hv : InstsIs w lo v xs) (hv' : InstsIs w lo' v' ys) :
    Calls Try.prog 5 #[v, v'] w fun r w' => r = .returned (.bool (eqB xs ys)) ∧ Below w.heap.size w w' := by
  obtain ⟨a, cap, rfl, hl, hx⟩ := hv
  obtain ⟨a', cap', rfl, hl', hx'⟩ := hv'
  have HX : Hid (∀ j x, xs[j]? = some x → ∃ b o cs, a = some ⟨b, o, none⟩ ∧ lo ≤ b ∧ cs.length = 3 ∧ w.rangeAt b (o + j * 3) cs ∧ (InstIs w lo) x cs) := hx
  have HX' : Hid (∀ j x, ys[j]? = some x → ∃ b o cs, a' = some ⟨b, o, none⟩ ∧ lo' ≤ b ∧ cs.length = 3 ∧ w.rangeAt b (o + j * 3) cs ∧ (InstIs w lo') x cs) := hx'
  clear hx hx'
  by_cases hlen : xs.length = ys.length
  · rw [← hlen] at hl' ⊢
    have HLY : Hid (xs.length = ys.length) := hlen
    obtain ⟨len, HL⟩ : ∃ len, Hid (len = xs.length) := ⟨_, rfl⟩
    obtain ⟨RES, HR⟩ : ∃ r, Hid (r = eqB xs ys) := ⟨_, rfl⟩
    rw [← HL.out] at hl hl' ⊢
    rw [← HR.out]
    clear hl' hlen
    go_enter Try.func5, Try.ntmps5
    go_wp2
    go_loopg [5] len (fun g i wr => ∃ n : Nat, n + g = len ∧ i = .int .i64 n ∧ Below w.heap.size w wr ∧ Hid (∀ j, j < n → xs[j]? = ys[j]?))
    case atStart => exact ⟨0, by omega, rfl, Below.refl _ _, fun j hj => by omega⟩
    case round =>
      obtain ⟨n, hn, rfl, hb, HS⟩ := hrel
      obtain ⟨go, hgo⟩ : ∃ go, go = gk := ⟨_, rfl⟩
      by_cases hlt : n < len
      · have i1 : (n : Int) < (len : Int) := by omega
        have i3 : (0 : Int) ≤ (n : Int) := by omega
        obtain ⟨⟨c, op, al⟩, hxn⟩ : ∃ x, xs[n]? = some x := ⟨_, List.getElem?_eq_getElem (by have := HL.out; omega)⟩
        obtain ⟨⟨c', op', al'⟩, hyn⟩ : ∃ y, ys[n]? = some y := ⟨_, List.getElem?_eq_getElem (by have := HL.out; have := HLY.out; omega)⟩
        obtain ⟨b, o, cs, rfl, _, hcs, hrg, hR⟩ := HX.out n _ hxn
        obtain ⟨b', o', ds, rfl, _, hds, hrg', hR'⟩ := HX'.out n _ hyn
        obtain ⟨v1, rfl, hA⟩ := hR
        obtain ⟨v2, rfl, hA'⟩ := hR'
        obtain ⟨a1, k1, rfl, hl1, hx1⟩ := hA
        obtain ⟨a2, k2, rfl, hl2, hx2⟩ := hA'
        have HXA : Hid (∀ j x, al[j]? = some x → ∃ b o cs, a1 = some ⟨b, o, none⟩ ∧ lo ≤ b ∧ cs.length = 3 ∧ w.rangeAt b (o + j * 3) cs ∧ ArgIs x cs) := hx1
        have HXB : Hid (∀ j x, al'[j]? = some x → ∃ b o cs, a2 = some ⟨b, o, none⟩ ∧ lo' ≤ b ∧ cs.length = 3 ∧ w.rangeAt b (o + j * 3) cs ∧ ArgIs x cs) := hx2
        simp only [] at hrg hrg' hl1 hl2
        have HXn : Hid (xs[n]? = some ⟨c, op, al⟩) := hxn
        have HYn : Hid (ys[n]? = some ⟨c', op', al'⟩) := hyn
        have HB : Hid (Below w.heap.size w wr) := hb
        have K := Keeps.of_below hb 0
        have x0 : wr.cell? ⟨b, o + n * 3, none⟩ = some (.int .i64 c) := K _ _ _ (Nat.zero_le _) (hrg 0 _ rfl)
        have x1 : wr.cell? ⟨b, o + n * 3 + 1, none⟩ = some (.int .i64 op) := K _ _ _ (Nat.zero_le _) (hrg 1 _ rfl)
        have y0 : wr.cell? ⟨b', o' + n * 3, none⟩ = some (.int .i64 c') := K _ _ _ (Nat.zero_le _) (hrg' 0 _ rfl)
        have y1 : wr.cell? ⟨b', o' + n * 3 + 1, none⟩ = some (.int .i64 op') := K _ _ _ (Nat.zero_le _) (hrg' 1 _ rfl)
        have HC2 : Hid (∀ W, Below w.heap.size w W → W.cell? ⟨b, o + n * 3 + 1 + 1, none⟩ = some (.slice a1 al.length k1) ∧ W.cell? ⟨b', o' + n * 3 + 1 + 1, none⟩ = some (.slice a2 al'.length k2)) := fun W g => ⟨(Keeps.of_below g 0) _ _ _ (Nat.zero_le _) (hrg 2 _ rfl), (Keeps.of_below g 0) _ _ _ (Nat.zero_le _) (hrg' 2 _ rfl)⟩
        obtain ⟨x2, y2⟩ := HC2.out _ hb
        obtain ⟨m1, HM1⟩ : ∃ m, Hid (m = al.length) := ⟨_, rfl⟩
        obtain ⟨m2, HM2⟩ : ∃ m, Hid (m = al'.length) := ⟨_, rfl⟩
        rw [← HM1.out] at x2 hl1 HC2
        rw [← HM2.out] at y2 hl2 HC2
        have q0 := cell_regrown x0
        have q1 := cell_regrown x1
        have q2 := cell_regrown x2
        have p0 := cell_regrown y0
        have p1 := cell_regrown y1
        have p2 := cell_regrown y2
        clear x0 x1 x2 y0 y1 y2 K hb hrg hrg' hcs hds hx1 hx2 hxn hyn
        by_cases hc : c = c'
        · subst hc
          by_cases hop : op = op'
          · subst hop
            by_cases hm : m1 = m2
            · subst hm
              go_upto_region 6 with fail
              refine wp_region_quiet_below (by kernel_rfl) (by kernel_rfl) ?_
              repeat (go_big_quiet_step (fail))
              refine wpQuiet_nil ?_
              intro w7 hw'
              have b7 : Below w.heap.size w w7 := by
                obtain ⟨⟨dq, osq⟩, rfl⟩ := hw'
                exact HB.out.trans ((below_regrown wr dq osq).mono HB.out.size)
              clear hw' q0 q1 q2 p0 p1 p2
              have HB7 : Hid (Below w.heap.size w w7) := b7
              clear b7
              go_wp2
              go_loopg [6] m1 (fun g i wr => ∃ d : Nat, d + g = m1 ∧ i = .int .i64 d ∧ Hid (Below w.heap.size w wr) ∧ Hid (∀ j, j < d → al[j]? = al'[j]?))
              case atStart => exact ⟨0, by omega, rfl, HB7, fun j hj => by omega⟩
              case round =>
                obtain ⟨d, hd, rfl, HB, HT⟩ := hrel
                obtain ⟨z2, u2⟩ := HC2.out _ HB.out
                by_cases hdl : d < m1
                · have j2 : (d : Int) < (m1 : Int) := by omega
                  have j3 : (0 : Int) ≤ (d : Int) := by omega
                  obtain ⟨x, hxd⟩ : ∃ x, al[d]? = some x := ⟨_, List.getElem?_eq_getElem (by have := HM1.out; omega)⟩
                  obtain ⟨y, hyd⟩ : ∃ y, al'[d]? = some y := ⟨_, List.getElem?_eq_getElem (by have := HM2.out; omega)⟩
                  obtain ⟨b1, o1, cs, rfl, _, hcs, hrg, hR⟩ := HXA.out d x hxd
                  obtain ⟨b2, o2, ds, rfl, _, hds, hrg', hR'⟩ := HXB.out d y hyd
                  have H1 : Hid (wr.rangeAt b1 (o1 + d * 3) cs ∧ cs.length = 3) := ⟨fun i c hi => (Keeps.of_below HB.out 0) _ _ _ (Nat.zero_le _) (hrg i c hi), hcs⟩
                  have H2 : Hid (wr.rangeAt b2 (o2 + d * 3) ds ∧ ds.length = 3) := ⟨fun i c hi => (Keeps.of_below HB.out 0) _ _ _ (Nat.zero_le _) (hrg' i c hi), hds⟩
                  obtain ⟨q, Hq⟩ : ∃ q, Hid (q = eqB x y) := ⟨_, rfl⟩
                  obtain rfl : cs = _ := hR
                  obtain rfl : ds = _ := hR'
                  obtain ⟨r, hr, hr'⟩ := eqD_arg 9998 x.1 x.2.1 x.2.2 y.1 y.2.1 y.2.2
                  have hrq : r = q := by rw [Hq.out]; exact (eqB_iff hr').symm
                  subst hrq
                  have q2 := cell_regrown z2
                  have p2 := cell_regrown u2
                  clear hr' hrg hrg' hcs hds
                  go_upto_region 11 with fail
                  refine wp_region_quiet_below (by kernel_rfl) (by kernel_rfl) ?_
                  go_big_quiet_step (fail)
                  go_big_quiet_step (fail)
                  go_big_quiet_step (fail)
                  go_big_quiet_step (fail)
                  go_big_quiet_step (fail)
                  go_big_quiet_step (fail)
                  go_big_quiet_step (fail)
                  go_big_quiet_step (fail)
                  refine wpQ_load rfl 40 _ rfl _ _ rfl (.agg #[.int .i64 x.1, .int .i64 x.2.1, .int .i64 x.2.2]) (fun W hW => run_loadVar_mid W b1 (o1 + d * 3) 40 ([.int .i64 x.1, .int .i64 x.2.1, .int .i64 x.2.2]) _ (range_regrown H1.out.1 hW) Try.underlying40 rfl (by rw [H1.out.2]; kernel_rfl)) ?_
                  simp only [Act.put, List.setIfInBounds_toArray, List.set_cons_succ, List.set_cons_zero]
                  go_big_quiet_step (fail)
                  go_big_quiet_step (fail)
                  go_big_quiet_step (fail)
                  go_big_quiet_step (fail)
                  go_big_quiet_step (fail)
                  go_big_quiet_step (fail)
                  go_big_quiet_step (fail)
                  go_big_quiet_step (fail)
                  refine wpQ_load rfl 40 _ rfl _ _ rfl (.agg #[.int .i64 y.1, .int .i64 y.2.1, .int .i64 y.2.2]) (fun W hW => run_loadVar_mid W b2 (o2 + d * 3) 40 ([.int .i64 y.1, .int .i64 y.2.1, .int .i64 y.2.2]) _ (range_regrown H2.out.1 hW) Try.underlying40 rfl (by rw [H2.out.2]; kernel_rfl)) ?_
                  simp only [Act.put, List.setIfInBounds_toArray, List.set_cons_succ, List.set_cons_zero]
                  go_big_quiet_step (fail)
                  refine wpQuiet_nil ?_
                  intro w9 hw'
                  have Bw9 : Hid (Below w.heap.size w w9) := by
                    obtain ⟨⟨dq, osq⟩, rfl⟩ := hw'
                    exact HB.out.trans ((below_regrown wr dq osq).mono HB.out.size)
                  clear hw' q2 p2 z2 u2 hr H1 H2
                  cases r with
                  | true =>
                    go_wp2
                    go_roundg (gk - 1)
                    case measure => omega
                    case rel =>
                      refine ⟨d + 1, by omega, by simp, Bw9, ?_⟩
                      intro j hj
                      by_cases hjn : j = d
                      · rw [hjn, hxd, hyd, eqB_true.1 Hq.out.symm]
                      · exact HT.out j (by omega)
                  | false =>
                    go_wp2
                    go_ret
                    refine ⟨?_, Bw9.out⟩
                    rw [HR.out, eqB_false (a := xs) (b := ys) (fun e => by
                      have h := HXn.out
                      rw [e, HYn.out] at h
                      simp only [Option.some.injEq, InstT.mk.injEq, ElemT.mk.injEq] at h
                      have h2 := h.2.2
                      rw [h2] at hyd
                      have hxy := Option.some.inj (hxd.symm.trans hyd)
                      have := Hq.out
                      rw [hxy, eqB_refl] at this
                      cases this)]
                    rfl
                · have j2 : ¬ ((d : Int) < (m1 : Int)) := by omega
                  have HE : Hid (al = al') := by
                    apply List.ext_getElem?
                    intro j
                    by_cases hj : j < d
                    · exact HT.out j hj
                    · have := HM1.out; have := HM2.out
                      rw [List.getElem?_eq_none (by omega), List.getElem?_eq_none (by omega)]
                  have HBo : Hid (Below w.heap.size w wr) := HB
                  clear HB HB7
                  go_wp2
                  go_roundg (go - 1)
                  case measure => omega
                  case rel =>
                    refine ⟨n + 1, by omega, by simp, HBo.out, ?_⟩
                    intro j hj
                    by_cases hjn : j = n
                    · rw [hjn, HXn.out, HYn.out, HE.out]
                    · exact HS.out j (by omega)
            · have hne : ((m1 : Int) != (m2 : Int)) = true := by simp; omega
              go_upto_region 6 with fail
              refine wp_region_quiet_below (by kernel_rfl) (by kernel_rfl) ?_
              repeat (go_big_quiet_step (fail))
              refine wpQuiet_nil ?_
              intro w7 hw'
              have b7 : Below w.heap.size w w7 := by
                obtain ⟨⟨dq, osq⟩, rfl⟩ := hw'
                exact HB.out.trans ((below_regrown wr dq osq).mono HB.out.size)
              clear hw' q0 q1 q2 p0 p1 p2
              go_wp2
              go_ret
              refine ⟨?_, b7⟩
              rw [HR.out, eqB_false (a := xs) (b := ys) (fun e => by
                have h := HXn.out
                rw [e, HYn.out] at h
                simp only [Option.some.injEq, InstT.mk.injEq, ElemT.mk.injEq] at h
                exact hm (by rw [HM1.out, HM2.out, h.2.2]))]
              rfl
          · have hne : (op != op') = true := by simp [hop]
            go_upto_region 6 with fail
            refine wp_region_quiet_below (by kernel_rfl) (by kernel_rfl) ?_
            repeat (go_big_quiet_step (fail))
            refine wpQuiet_nil ?_
            intro w7 hw'
            have b7 : Below w.heap.size w w7 := by
              obtain ⟨⟨dq, osq⟩, rfl⟩ := hw'
              exact HB.out.trans ((below_regrown wr dq osq).mono HB.out.size)
            clear hw' q0 q1 q2 p0 p1 p2
            go_wp2
            go_ret
            refine ⟨?_, b7⟩
            rw [HR.out, eqB_false (a := xs) (b := ys) (fun e => by
              have h := HXn.out
              rw [e, HYn.out] at h
              simp only [Option.some.injEq, InstT.mk.injEq, ElemT.mk.injEq] at h
              exact hop h.2.1.symm)]
            rfl
        · have hne : (c != c') = true := by simp [hc]
          go_upto_region 6 with fail
          refine wp_region_quiet_below (by kernel_rfl) (by kernel_rfl) ?_
          repeat (go_big_quiet_step (fail))
          refine wpQuiet_nil ?_
          intro w7 hw'
          have b7 : Below w.heap.size w w7 := by
            obtain ⟨⟨dq, osq⟩, rfl⟩ := hw'
            exact HB.out.trans ((below_regrown wr dq osq).mono HB.out.size)
          clear hw' q0 q1 q2 p0 p1 p2
          go_wp2
          go_ret
          refine ⟨?_, b7⟩
          rw [HR.out, eqB_false (a := xs) (b := ys) (fun e => by
            have h := HXn.out
            rw [e, HYn.out] at h
            simp only [Option.some.injEq, InstT.mk.injEq, ElemT.mk.injEq] at h
            exact hc h.1.symm)]
          rfl
      · have i1 : ¬ ((n : Int) < (len : Int)) := by omega
        have HE : Hid (xs = ys) := by
          apply List.ext_getElem?
          intro j
          by_cases hj : j < n
          · exact HS.out j hj
          · have := HL.out; have := HLY.out
            rw [List.getElem?_eq_none (by omega), List.getElem?_eq_none (by omega)]
        go_wp2
        go_ret
        exact ⟨by rw [HR.out, HE.out, eqB_refl]; rfl, hb⟩
  · have i1 : ((xs.length : Nat) : Int) ≠ ((ys.length : Nat) : Int) := by omega
    rw [eqB_false (fun e => hlen (by rw [e]))]
    generalize xs.length = l1 at hl i1 hlen ⊢
    generalize ys.length = l2 at hl' i1 hlen ⊢
    go_enter Try.func5, Try.ntmps5
    go_wp2
    go_ret
    exact ⟨rfl, Below.refl _ _⟩

set_option maxRecDepth 10000 in
set_option maxHeartbeats 4000000 in
theorem law_same (v v' : Value) (w : World) (ha : ∃ xs, InstsIs w 0 v xs) (hb : ∃ xs, InstsIs w 0 v' xs) :
    Calls Try.prog 3 #[v, v'] w fun e w' => e = .returned (.bool true) ∧ Below w.heap.size w w' := by
  obtain ⟨xs, hx⟩ := ha
  obtain ⟨ys, hy⟩ := hb
  have HX : Hid (InstsIs w 0 v xs) := hx
  have HY : Hid (InstsIs w 0 v' ys) := hy
  clear hx hy
  have LX : Hid (∀ W, Below w.heap.size w W → InstsIs W 0 v xs) := fun W g => instsIs_move (Keeps.of_below g 0) (Nat.le_refl _) HX.out
  have LY : Hid (∀ W, Below w.heap.size w W → InstsIs W 0 v' ys) := fun W g => instsIs_move (Keeps.of_below g 0) (Nat.le_refl _) HY.out
  have b0 : Below w.heap.size w w := Below.refl _ _
  obtain ⟨p, Hp⟩ : ∃ p, Hid (p = xs.length + (xs.map wI).sum) := ⟨_, rfl⟩
  obtain ⟨q, Hq⟩ : ∃ q, Hid (q = ys.length + (ys.map wI).sum) := ⟨_, rfl⟩
  go_enter Try.func3, Try.ntmps3
  go_wp2_with fail
  refine (sz_insts 1048576 (by omega) (by omega) v xs w 0 HX.out).mono ?_
  rintro e w1 ⟨rfl, g1⟩
  rw [← Hp.out]
  have b1 : Below w.heap.size w w1 := g1
  clear g1
  by_cases hp : (p : Int) ≤ 1048576
  case neg =>
    rw [szR_no hp]
    go_wp2
    go_ret
    exact ⟨rfl, b1⟩
  rw [szR_yes hp]
  have i1 : ¬ ((1048576 : Int) - p < 0) := by omega
  go_wp2_with fail
  refine (sz_insts (1048576 - p) (by omega) (by omega) v' ys w1 0 (LY.out _ b1)).mono ?_
  rintro e w2 ⟨rfl, g2⟩
  rw [← Hq.out]
  have b2 := b1.trans (g2.mono b1.size)
  clear g2
  by_cases hq : (q : Int) ≤ 1048576 - p
  case neg =>
    rw [szR_no hq]
    go_wp2
    go_ret
    exact ⟨rfl, b2⟩
  rw [szR_yes hq]
  have i2 : ¬ ((1048576 : Int) - p - q < 0) := by omega
  have HTX : Hid (∀ W, Below w.heap.size w W → Calls Try.prog 6 #[v] W fun r w' => ∃ v', r = .returned v' ∧ InstsIs w' W.heap.size v' xs ∧ Below W.heap.size W w') := fun W g => to_insts v xs W 0 (LX.out W g) (by have := Hp.out; omega)
  have HTY : Hid (∀ W, Below w.heap.size w W → Calls Try.prog 6 #[v'] W fun r w' => ∃ v', r = .returned v' ∧ InstsIs w' W.heap.size v' ys ∧ Below W.heap.size W w') := fun W g => to_insts v' ys W 0 (LY.out W g) (by have := Hq.out; omega)
  clear LX LY HX HY Hp Hq
  go_wp2_with fail
  refine (HTX.out _ b2).mono ?_
  rintro e w3 ⟨t1, rfl, k1, g3⟩
  have b3 := b2.trans (g3.mono b2.size)
  have K1 : Hid (InstsIs w3 0 t1 xs) := instsIs_move (Keeps.refl _ _) (Nat.zero_le _) k1
  clear g3 k1 b2
  go_wp2_with fail
  refine (HTY.out _ b3).mono ?_
  rintro e w4 ⟨t2, rfl, k2, g4⟩
  have b4 := b3.trans (g4.mono b3.size)
  have K2 : Hid (InstsIs w4 0 t2 ys) := instsIs_move (Keeps.refl _ _) (Nat.zero_le _) k2
  have K1 : Hid (InstsIs w4 0 t1 xs) := instsIs_move (Keeps.of_below g4 0) (Nat.zero_le _) K1.out
  clear g4 k2 b3
  go_wp2_with fail
  refine (s_listsame t1 t2 xs ys w4 0 0 K1.out K2.out).mono ?_
  rintro e w5 ⟨rfl, g5⟩
  have b5 := b4.trans (g5.mono b4.size)
  obtain ⟨R, HR⟩ : ∃ r, Hid (r = eqB xs ys) := ⟨_, rfl⟩
  rw [← HR.out]
  clear g5 b4 K1 K2
  go_wp2_with fail
  refine (HTX.out _ b5).mono ?_
  rintro e w6 ⟨x0, rfl, k6, g6⟩
  have b6 := b5.trans (g6.mono b5.size)
  have X6 : Hid (InstsIs w6 0 x0 xs) := instsIs_move (Keeps.refl _ _) (Nat.zero_le _) k6
  clear g6 k6 b5
  go_wp2_with fail
  refine (HTY.out _ b6).mono ?_
  rintro e w7 ⟨x1, rfl, k7, g7⟩
  have b7 := b6.trans (g7.mono b6.size)
  have Y7 : Hid (InstsIs w7 0 x1 ys) := instsIs_move (Keeps.refl _ _) (Nat.zero_le _) k7
  have X7 : Hid (InstsIs w7 0 x0 xs) := instsIs_move (Keeps.of_below g7 0) (Nat.zero_le _) X6.out
  clear g7 k7 b6 X6
  go_wp2_with fail
  refine (i_listsame x0 x1 xs ys w7 0 0 X7.out Y7.out).mono ?_
  rintro e w8 ⟨rfl, g8⟩
  rw [← HR.out]
  have b8 := b7.trans (g8.mono b7.size)
  have Y8 : Hid (InstsIs w8 0 x1 ys) := instsIs_move (Keeps.of_below g8 0) (Nat.zero_le _) Y7.out
  have X8 : Hid (InstsIs w8 0 x0 xs) := instsIs_move (Keeps.of_below g8 0) (Nat.zero_le _) X7.out
  clear g8 b7 X7 Y7
  go_wp2_with fail
  refine (HTX.out _ b8).mono ?_
  rintro e w9 ⟨x2, rfl, k9, g9⟩
  have b9 := b8.trans (g9.mono b8.size)
  have Y9 : Hid (InstsIs w9 0 x1 ys) := instsIs_move (Keeps.of_below g9 0) (Nat.zero_le _) Y8.out
  have X9 : Hid (InstsIs w9 0 x0 xs) := instsIs_move (Keeps.of_below g9 0) (Nat.zero_le _) X8.out
  have Z9 : Hid (InstsIs w9 0 x2 xs) := instsIs_move (Keeps.refl _ _) (Nat.zero_le _) k9
  clear g9 b8 X8 Y8 k9
  go_wp2_with fail
  refine (eq_insts x0 x2 xs xs w9 0 0 X9.out Z9.out).mono ?_
  rintro e wa ⟨rfl, ga⟩
  rw [eqB_refl]
  have ba := b9.trans (ga.mono b9.size)
  have Ya : Hid (InstsIs wa 0 x1 ys) := instsIs_move (Keeps.of_below ga 0) (Nat.zero_le _) Y9.out
  clear ga b9 X9 Y9 Z9
  go_wp2_with fail
  refine (HTY.out _ ba).mono ?_
  rintro e wb ⟨x3, rfl, kb, gb⟩
  have bb := ba.trans (gb.mono ba.size)
  have Yb : Hid (InstsIs wb 0 x1 ys) := instsIs_move (Keeps.of_below gb 0) (Nat.zero_le _) Ya.out
  have Zb : Hid (InstsIs wb 0 x3 ys) := instsIs_move (Keeps.refl _ _) (Nat.zero_le _) kb
  clear gb ba Ya kb
  go_wp2_with fail
  refine (eq_insts x1 x3 ys ys wb 0 0 Yb.out Zb.out).mono ?_
  rintro e wc ⟨rfl, gc⟩
  rw [eqB_refl]
  have bc := bb.trans (gc.mono bb.size)
  clear gc bb Yb Zb
  go_wp2
  go_ret
  exact ⟨rfl, bc⟩
end Go.Proofs.Ytidfjinmaiechaa
