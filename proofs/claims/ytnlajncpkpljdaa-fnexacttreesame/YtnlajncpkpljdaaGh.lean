/- The specification's TreeSame. -/
import Derived.Test.YtnlajncpkpljdaaGg
namespace Go.Proofs.Ytnlajncpkpljdaa
open Go.RowKit
set_option linter.unusedVariables false


set_option maxRecDepth 10000 in
set_option maxHeartbeats 2000000 in
theorem s_elem (e e' : ElemT) (cs ds : List Value) (w : World) (lo lo' : Nat) (hv : ElemIs w lo e cs) (hv' : ElemIs w lo' e' ds) :
    Calls Try.prog 43 #[.agg cs.toArray, .agg ds.toArray] w fun r w' => r = .returned (.bool (eqB e e')) ∧ Below w.heap.size w w' := by
  obtain ⟨v, rfl, h⟩ := hv
  obtain ⟨v', rfl, h'⟩ := hv'
  rw [eqB_iff (elemT_eq e e')]
  obtain ⟨a, cap, rfl, hl, hx⟩ := h
  obtain ⟨a', cap', rfl, hl', hx'⟩ := h'
  have HX : Hid (∀ j x, e.args[j]? = some x → ∃ b o cs, a = some ⟨b, o, none⟩ ∧ lo ≤ b ∧ cs.length = 3 ∧ w.rangeAt b (o + j * 3) cs ∧ ArgIs x cs) := hx
  have HX' : Hid (∀ j x, e'.args[j]? = some x → ∃ b o cs, a' = some ⟨b, o, none⟩ ∧ lo' ≤ b ∧ cs.length = 3 ∧ w.rangeAt b (o + j * 3) cs ∧ ArgIs x cs) := hx'
  clear hx hx'
  obtain ⟨xs, Hxs⟩ : ∃ xs, Hid (xs = e.args) := ⟨_, rfl⟩
  obtain ⟨ys, Hys⟩ : ∃ ys, Hid (ys = e'.args) := ⟨_, rfl⟩
  rw [← Hxs.out] at HX hl ⊢
  rw [← Hys.out] at HX' hl' ⊢
  generalize e.op = op
  generalize e'.op = op'
  by_cases hop : op = op'
  · subst hop
    by_cases hlen : xs.length = ys.length
    · rw [← hlen] at hl' ⊢
      have HLY : Hid (xs.length = ys.length) := hlen
      obtain ⟨len, HL⟩ : ∃ len, Hid (len = xs.length) := ⟨_, rfl⟩
      obtain ⟨RES, HR⟩ : ∃ r, Hid (r = (decide (op = op) && eqB xs ys)) := ⟨_, rfl⟩
      rw [← HL.out] at hl hl' ⊢
      rw [← HR.out]
      clear hl' hlen
      go_enter Try.func43, Try.ntmps43
      go_wp2
      go_loopg [5] len (fun g i wr => ∃ n : Nat, n + g = len ∧ i = .int .i64 n ∧ Below w.heap.size w wr ∧ wr.heap[w.heap.size]? = some (.cells #[.int .i64 op, .slice a len cap] 49 (0, 0)) ∧ wr.heap[w.heap.size + 1]? = some (.cells #[.int .i64 op, .slice a' len cap'] 49 (0, 0)) ∧ Hid (∀ j, j < n → xs[j]? = ys[j]?))
      case atStart => exact ⟨0, by omega, rfl, ((Below.refl _ _).alloc (Nat.le_refl _) _).alloc (by simp) _, (rows2 w _ _).1, (rows2 w _ _).2, fun j hj => by omega⟩
      case round =>
        obtain ⟨n, hn, rfl, hb, hk0, hk1, HS⟩ := hrel
        have c0 : wr.cell? ⟨w.heap.size, 1, none⟩ = some (.slice a len cap) := (cell_of_row _ _ _ _ _ _ hk0).trans rfl
        have c1 : wr.cell? ⟨w.heap.size + 1, 1, none⟩ = some (.slice a' len cap') := (cell_of_row _ _ _ _ _ _ hk1).trans rfl
        by_cases hlt : n < len
        · have i1 : (n : Int) < (len : Int) := by omega
          have i3 : (0 : Int) ≤ (n : Int) := by omega
          obtain ⟨x, hxn⟩ : ∃ x, xs[n]? = some x := ⟨_, List.getElem?_eq_getElem (by have := HL.out; omega)⟩
          obtain ⟨y, hyn⟩ : ∃ y, ys[n]? = some y := ⟨_, List.getElem?_eq_getElem (by have := HL.out; have := HLY.out; omega)⟩
          obtain ⟨b, o, cs, rfl, _, hcs, hrg, hR⟩ := HX.out n x hxn
          obtain ⟨b', o', ds, rfl, _, hds, hrg', hR'⟩ := HX'.out n y hyn
          have HB : Hid (Below w.heap.size w wr) := hb
          have HK : Hid (wr.heap[w.heap.size]? = some (.cells #[.int .i64 op, .slice (some ⟨b, o, none⟩) len cap] 49 (0, 0)) ∧ wr.heap[w.heap.size + 1]? = some (.cells #[.int .i64 op, .slice (some ⟨b', o', none⟩) len cap'] 49 (0, 0))) := ⟨hk0, hk1⟩
          have H1 : Hid (wr.rangeAt b (o + n * 3) cs ∧ cs.length = 3) := ⟨fun i c hi => (Keeps.of_below hb 0) _ _ _ (Nat.zero_le _) (hrg i c hi), hcs⟩
          have H2 : Hid (wr.rangeAt b' (o' + n * 3) ds ∧ ds.length = 3) := ⟨fun i c hi => (Keeps.of_below hb 0) _ _ _ (Nat.zero_le _) (hrg' i c hi), hds⟩
          obtain ⟨q, Hq⟩ : ∃ q, Hid (q = eqB x y) := ⟨_, rfl⟩
          obtain rfl : cs = _ := hR
          obtain rfl : ds = _ := hR'
          obtain ⟨r, hr, hr'⟩ := eqD_arg 9998 x.1 x.2.1 x.2.2 y.1 y.2.1 y.2.2
          have hrq : r = q := by rw [Hq.out]; exact (eqB_iff hr').symm
          subst hrq
          clear hr'
          have q0 := cell_regrown c0
          have q1 := cell_regrown c1
          clear hb hrg hrg' hcs hds hk0 hk1
          go_upto_region 6 with fail
          refine wp_region_quiet_below (by kernel_rfl) (by kernel_rfl) ?_
          go_big_quiet_step (fail)
          go_big_quiet_step (fail)
          go_big_quiet_step (fail)
          go_big_quiet_step (fail)
          refine wpQ_load rfl 33 _ rfl _ _ rfl (.agg #[.int .i64 x.1, .int .i64 x.2.1, .int .i64 x.2.2]) (fun W hW => run_loadVar_mid W b (o + n * 3) 33 ([.int .i64 x.1, .int .i64 x.2.1, .int .i64 x.2.2]) _ (range_regrown H1.out.1 hW) Try.underlying33 rfl (by rw [H1.out.2]; kernel_rfl)) ?_
          simp only [Act.put, List.setIfInBounds_toArray, List.set_cons_succ, List.set_cons_zero]
          go_big_quiet_step (fail)
          go_big_quiet_step (fail)
          go_big_quiet_step (fail)
          go_big_quiet_step (fail)
          refine wpQ_load rfl 33 _ rfl _ _ rfl (.agg #[.int .i64 y.1, .int .i64 y.2.1, .int .i64 y.2.2]) (fun W hW => run_loadVar_mid W b' (o' + n * 3) 33 ([.int .i64 y.1, .int .i64 y.2.1, .int .i64 y.2.2]) _ (range_regrown H2.out.1 hW) Try.underlying33 rfl (by rw [H2.out.2]; kernel_rfl)) ?_
          simp only [Act.put, List.setIfInBounds_toArray, List.set_cons_succ, List.set_cons_zero]
          go_big_quiet_step (fail)
          refine wpQuiet_nil ?_
          intro w7 hw'
          have b7 : Below w.heap.size w w7 := by
            obtain ⟨⟨dq, osq⟩, rfl⟩ := hw'
            exact HB.out.trans ((below_regrown wr dq osq).mono HB.out.size)
          have k7 : Hid (w7.heap[w.heap.size]? = some (.cells #[.int .i64 op, .slice (some ⟨b, o, none⟩) len cap] 49 (0, 0)) ∧ w7.heap[w.heap.size + 1]? = some (.cells #[.int .i64 op, .slice (some ⟨b', o', none⟩) len cap'] 49 (0, 0))) := ⟨row_regrown HK.out.1 hw', row_regrown HK.out.2 hw'⟩
          clear hw' q0 q1 c0 c1 hr
          cases r with
          | true =>
            go_wp2
            go_roundg (gk - 1)
            case measure => omega
            case rel =>
              refine ⟨n + 1, by omega, by simp, b7, k7.out.1, k7.out.2, ?_⟩
              intro j hj
              by_cases hjn : j = n
              · rw [hjn, hxn, hyn, eqB_true.1 Hq.out.symm]
              · exact HS.out j (by omega)
          | false =>
            go_wp2
            go_ret
            refine ⟨?_, b7⟩
            rw [HR.out, eqB_false (a := xs) (b := ys) (fun e => by
              rw [e] at hxn
              have hxy := Option.some.inj (hxn.symm.trans hyn)
              have := Hq.out
              rw [hxy, eqB_refl] at this
              cases this)]
            simp
        · have i1 : ¬ ((n : Int) < (len : Int)) := by omega
          have hE : xs = ys := by
            apply List.ext_getElem?
            intro j
            by_cases hj : j < n
            · exact HS.out j hj
            · have := HL.out; have := HLY.out
              rw [List.getElem?_eq_none (by omega), List.getElem?_eq_none (by omega)]
          go_wp2
          go_ret
          exact ⟨by rw [HR.out, hE, eqB_refl]; simp, hb⟩
    · have i1 : ((xs.length : Nat) : Int) ≠ ((ys.length : Nat) : Int) := by omega
      rw [eqB_false (a := xs) (b := ys) (fun e => hlen (by rw [e]))]
      generalize xs.length = l1 at hl i1 hlen ⊢
      generalize ys.length = l2 at hl' i1 hlen ⊢
      go_enter Try.func43, Try.ntmps43
      go_wp2
      go_ret
      exact ⟨by simp, ((Below.refl _ _).alloc (Nat.le_refl _) _).alloc (by simp) _⟩
  · generalize xs.length = l1 at hl ⊢
    generalize ys.length = l2 at hl' ⊢
    rw [show decide (op = op') = false by simp [hop]]
    go_enter Try.func43, Try.ntmps43
    go_wp2
    go_ret
    exact ⟨by simp, ((Below.refl _ _).alloc (Nat.le_refl _) _).alloc (by simp) _⟩


set_option maxRecDepth 10000 in
set_option maxHeartbeats 4000000 in
theorem s_net_step (m m' : Nat) (k k' op op' : Int) (v v' u u' : Value) (r0 : Bool) (xs ys : List NetT) (p0 : v.oneCell' = true) (q0 : v'.oneCell' = true) (w : World) (lo lo' : Nat) (hv : NetsIs w lo m u xs) (hv' : NetsIs w lo' m' u' ys)
    (HE : Hid (∀ W, Below w.heap.size w W → Calls Try.prog 43 #[.agg #[.int .i64 op, v], .agg #[.int .i64 op', v']] W fun r w' => r = .returned (.bool r0) ∧ Below W.heap.size W w'))
    (HC : Hid (∀ x cs y ds, x ∈ xs → y ∈ ys → ∀ (W : World), NetIs W lo m x cs → NetIs W lo' m' y ds → Calls Try.prog 42 #[.agg cs.toArray, .agg ds.toArray] W fun r w' => r = .returned (.bool (eqB x y)) ∧ Below W.heap.size W w')) :
    Calls Try.prog 42 #[.agg #[.int .i64 k, .int .i64 op, v, u], .agg #[.int .i64 k', .int .i64 op', v', u']] w fun r w' => r = .returned (.bool (decide (k = k') && r0 && eqB xs ys)) ∧ Below w.heap.size w w' := by
  have HM : Hid (∀ x cs (l n : Nat) (W W' : World), Keeps l W W' → NetIs W l n x cs → NetIs W' l n x cs) := fun x cs l n W W' k h => NetIs.move k (Nat.le_refl _) _ _ (Nat.le_refl _) _ _ h
  obtain ⟨a, cap, rfl, hl, hx⟩ := hv
  obtain ⟨a', cap', rfl, hl', hx'⟩ := hv'
  have HX : Hid (∀ j x, xs[j]? = some x → ∃ b o cs, a = some ⟨b, o, none⟩ ∧ lo ≤ b ∧ cs.length = 4 ∧ w.rangeAt b (o + j * 4) cs ∧ NetIs w lo m x cs) := hx
  have HX' : Hid (∀ j x, ys[j]? = some x → ∃ b o cs, a' = some ⟨b, o, none⟩ ∧ lo' ≤ b ∧ cs.length = 4 ∧ w.rangeAt b (o + j * 4) cs ∧ NetIs w lo' m' x cs) := hx'
  clear hx hx'
  by_cases hop : k = k'
  · subst hop
    obtain ⟨l1, HL⟩ : ∃ len, Hid (len = xs.length) := ⟨_, rfl⟩
    obtain ⟨l2, HL2⟩ : ∃ len, Hid (len = ys.length) := ⟨_, rfl⟩
    rw [← HL.out] at hl ⊢
    rw [← HL2.out] at hl' ⊢
    have b0 : Below w.heap.size w ((w.alloc (.cells #[.int .i64 k, .int .i64 op, v, .slice a l1 cap] 52)).alloc (.cells #[.int .i64 k, .int .i64 op', v', .slice a' l2 cap'] 52)) := ((Below.refl _ _).alloc (Nat.le_refl _) _).alloc (by simp) _
    go_enter Try.func42, Try.ntmps42
    go_wp2_with fail
    have hk := rows2 w (.cells #[.int .i64 k, .int .i64 op, v, .slice a l1 cap] 52) (.cells #[.int .i64 k, .int .i64 op', v', .slice a' l2 cap'] 52)
    have hz : ((w.alloc (.cells #[.int .i64 k, .int .i64 op, v, .slice a l1 cap] 52)).alloc (.cells #[.int .i64 k, .int .i64 op', v', .slice a' l2 cap'] 52)).heap.size = w.heap.size + 1 + 1 := by simp
    generalize ((w.alloc (.cells #[.int .i64 k, .int .i64 op, v, .slice a l1 cap] 52)).alloc (.cells #[.int .i64 k, .int .i64 op', v', .slice a' l2 cap'] 52)) = W0 at b0 hk hz ⊢
    refine (HE.out _ b0).mono ?_
    rintro e w1 ⟨rfl, g1⟩
    have b1 := b0.trans (g1.mono b0.size)
    have k0 := (g1.block _ (by omega)).trans hk.1
    have k1 := (g1.block _ (by omega)).trans hk.2
    clear g1 b0 hk hz HE
    cases r0 with
    | false =>
      clear k0 k1
      go_wp2
      go_ret
      exact ⟨by simp, b1⟩
    | true =>
      have cx3 : w1.cell? ⟨w.heap.size, 3, none⟩ = some (.slice a l1 cap) := (cell_of_row _ _ _ _ _ _ k0).trans rfl
      have cy3 : w1.cell? ⟨w.heap.size + 1, 3, none⟩ = some (.slice a' l2 cap') := (cell_of_row _ _ _ _ _ _ k1).trans rfl
      have HK : Hid (w1.heap[w.heap.size]? = some (.cells #[.int .i64 k, .int .i64 op, v, .slice a l1 cap] 52 (0, 0)) ∧ w1.heap[w.heap.size + 1]? = some (.cells #[.int .i64 k, .int .i64 op', v', .slice a' l2 cap'] 52 (0, 0))) := ⟨k0, k1⟩
      clear k0 k1
      by_cases hlen : l1 = l2
      · subst hlen
        have HLY : Hid (xs.length = ys.length) := HL.out.symm.trans HL2.out
        obtain ⟨RES, HR⟩ : ∃ r, Hid (r = (decide (k = k) && true && eqB xs ys)) := ⟨_, rfl⟩
        clear hl' HL2
        go_wp2
        go_loopg [5] l1 (fun g i wr => ∃ n : Nat, n + g = l1 ∧ i = .int .i64 n ∧ Below w.heap.size w wr ∧ wr.heap[w.heap.size]? = some (.cells #[.int .i64 k, .int .i64 op, v, .slice a l1 cap] 52 (0, 0)) ∧ wr.heap[w.heap.size + 1]? = some (.cells #[.int .i64 k, .int .i64 op', v', .slice a' l1 cap'] 52 (0, 0)) ∧ Hid (∀ j, j < n → xs[j]? = ys[j]?))
        case atStart => exact ⟨0, by omega, rfl, b1, HK.out.1, HK.out.2, fun j hj => by omega⟩
        case round =>
          obtain ⟨n, hn, rfl, hb, hk0, hk1, HS⟩ := hrel
          have c0 : wr.cell? ⟨w.heap.size, 3, none⟩ = some (.slice a l1 cap) := (cell_of_row _ _ _ _ _ _ hk0).trans rfl
          have c1 : wr.cell? ⟨w.heap.size + 1, 3, none⟩ = some (.slice a' l1 cap') := (cell_of_row _ _ _ _ _ _ hk1).trans rfl
          by_cases hlt : n < l1
          · have i1 : (n : Int) < (l1 : Int) := by omega
            have i3 : (0 : Int) ≤ (n : Int) := by omega
            obtain ⟨x, hxn⟩ : ∃ x, xs[n]? = some x := ⟨_, List.getElem?_eq_getElem (by have := HL.out; omega)⟩
            obtain ⟨y, hyn⟩ : ∃ y, ys[n]? = some y := ⟨_, List.getElem?_eq_getElem (by have := HL.out; have := HLY.out; omega)⟩
            obtain ⟨b, o, cs, rfl, _, hcs, hrg, hR⟩ := HX.out n x hxn
            obtain ⟨b', o', ds, rfl, _, hds, hrg', hR'⟩ := HX'.out n y hyn
            have HB : Hid (Below w.heap.size w wr) := hb
            have HK : Hid (wr.heap[w.heap.size]? = some (.cells #[.int .i64 k, .int .i64 op, v, .slice (some ⟨b, o, none⟩) l1 cap] 52 (0, 0)) ∧ wr.heap[w.heap.size + 1]? = some (.cells #[.int .i64 k, .int .i64 op', v', .slice (some ⟨b', o', none⟩) l1 cap'] 52 (0, 0))) := ⟨hk0, hk1⟩
            have H1 : Hid (wr.rangeAt b (o + n * 4) cs ∧ cs.length = 4) := ⟨fun i c hi => (Keeps.of_below hb 0) _ _ _ (Nat.zero_le _) (hrg i c hi), hcs⟩
            have H2 : Hid (wr.rangeAt b' (o' + n * 4) ds ∧ ds.length = 4) := ⟨fun i c hi => (Keeps.of_below hb 0) _ _ _ (Nat.zero_le _) (hrg' i c hi), hds⟩
            obtain ⟨q, Hq⟩ : ∃ q, Hid (q = eqB x y) := ⟨_, rfl⟩
            have cE : ∀ d os, Calls Try.prog 42 #[.agg cs.toArray, .agg ds.toArray] (Sort.grow (redrawn wr d) os) fun e w'' => e = .returned (.bool q) ∧ ∃ p : Regrown, w'' = Sort.grow (redrawn wr p.d) p.os :=
              fun d os => Calls.regrown_of (by rw [Hq.out]; exact HC.out x cs y ds (List.mem_of_getElem? hxn) (List.mem_of_getElem? hyn) _ (HM.out x cs lo m w _ ((Keeps.of_below hb lo).trans (Keeps.of_below (below_regrown wr d os) lo)) hR) (HM.out y ds lo' m' w _ ((Keeps.of_below hb lo').trans (Keeps.of_below (below_regrown wr d os) lo')) hR'))
            have q0 := cell_regrown c0
            have q1 := cell_regrown c1
            clear hb hrg hrg' hcs hds hR hR' hk0 hk1
            go_upto_region 6 with fail
            refine wp_region_quiet_below (by kernel_rfl) (by kernel_rfl) ?_
            go_big_quiet_step (first | with_reducible exact cE _ _)
            go_big_quiet_step (first | with_reducible exact cE _ _)
            go_big_quiet_step (first | with_reducible exact cE _ _)
            go_big_quiet_step (first | with_reducible exact cE _ _)
            refine wpQ_load rfl 52 _ rfl _ _ rfl (.agg cs.toArray) (fun W hW => run_loadVar_mid W b (o + n * 4) 52 (cs) _ (range_regrown H1.out.1 hW) Try.underlying52 rfl (by rw [H1.out.2]; kernel_rfl)) ?_
            simp only [Act.put, List.setIfInBounds_toArray, List.set_cons_succ, List.set_cons_zero]
            go_big_quiet_step (first | with_reducible exact cE _ _)
            go_big_quiet_step (first | with_reducible exact cE _ _)
            go_big_quiet_step (first | with_reducible exact cE _ _)
            go_big_quiet_step (first | with_reducible exact cE _ _)
            refine wpQ_load rfl 52 _ rfl _ _ rfl (.agg ds.toArray) (fun W hW => run_loadVar_mid W b' (o' + n * 4) 52 (ds) _ (range_regrown H2.out.1 hW) Try.underlying52 rfl (by rw [H2.out.2]; kernel_rfl)) ?_
            simp only [Act.put, List.setIfInBounds_toArray, List.set_cons_succ, List.set_cons_zero]
            go_big_quiet_step (first | with_reducible exact cE _ _)
            go_big_quiet_step (first | with_reducible exact cE _ _)
            refine wpQuiet_nil ?_
            intro w7 hw'
            have b7 : Below w.heap.size w w7 := by
              obtain ⟨⟨dq, osq⟩, rfl⟩ := hw'
              exact HB.out.trans ((below_regrown wr dq osq).mono HB.out.size)
            have k7 : Hid (w7.heap[w.heap.size]? = some (.cells #[.int .i64 k, .int .i64 op, v, .slice (some ⟨b, o, none⟩) l1 cap] 52 (0, 0)) ∧ w7.heap[w.heap.size + 1]? = some (.cells #[.int .i64 k, .int .i64 op', v', .slice (some ⟨b', o', none⟩) l1 cap'] 52 (0, 0))) := ⟨row_regrown HK.out.1 hw', row_regrown HK.out.2 hw'⟩
            clear hw' q0 q1 c0 c1 cE
            cases q with
            | true =>
              go_wp2
              go_roundg (gk - 1)
              case measure => omega
              case rel =>
                refine ⟨n + 1, by omega, by simp, b7, k7.out.1, k7.out.2, ?_⟩
                intro j hj
                by_cases hjn : j = n
                · rw [hjn, hxn, hyn, eqB_true.1 Hq.out.symm]
                · exact HS.out j (by omega)
            | false =>
              go_wp2
              go_ret
              refine ⟨?_, b7⟩
              rw [eqB_false (a := xs) (b := ys) (fun e => by
                rw [e] at hxn
                have hxy := Option.some.inj (hxn.symm.trans hyn)
                have := Hq.out
                rw [hxy, eqB_refl] at this
                cases this)]
              simp
          · have i1 : ¬ ((n : Int) < (l1 : Int)) := by omega
            have hE : xs = ys := by
              apply List.ext_getElem?
              intro j
              by_cases hj : j < n
              · exact HS.out j hj
              · have := HL.out; have := HLY.out
                rw [List.getElem?_eq_none (by omega), List.getElem?_eq_none (by omega)]
            go_wp2
            go_ret
            exact ⟨by first | (rw [hE, eqB_refl]; simp) | (rw [eqB_refl]; simp), hb⟩

      · have i1 : ((l1 : Nat) : Int) ≠ ((l2 : Nat) : Int) := by omega
        clear HK HC HM
        go_wp2
        go_ret
        exact ⟨by rw [eqB_false (a := xs) (b := ys) (fun e => hlen (by rw [HL.out, HL2.out, e]))]; simp, b1⟩
  · generalize xs.length = l1 at hl ⊢
    generalize ys.length = l2 at hl' ⊢
    rw [show decide (k = k') = false by simp [hop]]
    go_enter Try.func42, Try.ntmps42
    go_wp2
    go_ret
    exact ⟨by simp, ((Below.refl _ _).alloc (Nat.le_refl _) _).alloc (by simp) _⟩


set_option maxRecDepth 10000 in
set_option maxHeartbeats 4000000 in
theorem s_arm_step (n0 n0' n1 n1' n2 n2' n3 n3' u u' t t' : Value) (r0 r2 : Bool) (xs ys : List ElemT) (o0 : n0.oneCell' = true) (o0' : n0'.oneCell' = true) (o1 : n1.oneCell' = true) (o1' : n1'.oneCell' = true) (o2 : n2.oneCell' = true) (o2' : n2'.oneCell' = true) (o3 : n3.oneCell' = true) (o3' : n3'.oneCell' = true) (p0 : t.oneCell' = true) (q0 : t'.oneCell' = true) (w : World) (lo lo' : Nat) (hv : ElemsIs w lo u xs) (hv' : ElemsIs w lo' u' ys)
    (HE : Hid (∀ W, Below w.heap.size w W → Calls Try.prog 42 #[.agg #[n0, n1, n2, n3], .agg #[n0', n1', n2', n3']] W fun r w' => r = .returned (.bool r0) ∧ Below W.heap.size W w'))
    (HT : Hid (∀ W, Below w.heap.size w W → Calls Try.prog 11 #[t, t'] W fun r w' => r = .returned (.bool r2) ∧ Below W.heap.size W w')) :
    Calls Try.prog 21 #[.agg #[n0, n1, n2, n3, u, t], .agg #[n0', n1', n2', n3', u', t']] w fun r w' => r = .returned (.bool (r0 && eqB xs ys && r2)) ∧ Below w.heap.size w w' := by
  have HM : Hid (∀ x cs (l n : Nat) (W W' : World), Keeps l W W' → ElemIs W l x cs → ElemIs W' l x cs) := fun x cs l n W W' k h => h.move k (Nat.le_refl _)
  have HC : Hid (∀ x cs y ds, x ∈ xs → y ∈ ys → ∀ (W : World), ElemIs W lo x cs → ElemIs W lo' y ds → Calls Try.prog 43 #[.agg cs.toArray, .agg ds.toArray] W fun r w' => r = .returned (.bool (eqB x y)) ∧ Below W.heap.size W w') := fun x cs y ds _ _ W h h' => s_elem x y cs ds W lo lo' h h'
  obtain ⟨a, cap, rfl, hl, hx⟩ := hv
  obtain ⟨a', cap', rfl, hl', hx'⟩ := hv'
  have HX : Hid (∀ j x, xs[j]? = some x → ∃ b o cs, a = some ⟨b, o, none⟩ ∧ lo ≤ b ∧ cs.length = 2 ∧ w.rangeAt b (o + j * 2) cs ∧ ElemIs w lo x cs) := hx
  have HX' : Hid (∀ j x, ys[j]? = some x → ∃ b o cs, a' = some ⟨b, o, none⟩ ∧ lo' ≤ b ∧ cs.length = 2 ∧ w.rangeAt b (o + j * 2) cs ∧ ElemIs w lo' x cs) := hx'
  clear hx hx'
  obtain ⟨l1, HL⟩ : ∃ len, Hid (len = xs.length) := ⟨_, rfl⟩
  obtain ⟨l2, HL2⟩ : ∃ len, Hid (len = ys.length) := ⟨_, rfl⟩
  rw [← HL.out] at hl ⊢
  rw [← HL2.out] at hl' ⊢
  have b0 : Below w.heap.size w ((w.alloc (.cells #[n0, n1, n2, n3, .slice a l1 cap, t] 55)).alloc (.cells #[n0', n1', n2', n3', .slice a' l2 cap', t'] 55)) := ((Below.refl _ _).alloc (Nat.le_refl _) _).alloc (by simp) _
  go_enter Try.func21, Try.ntmps21
  go_wp2_with fail
  have hk := rows2 w (.cells #[n0, n1, n2, n3, .slice a l1 cap, t] 55) (.cells #[n0', n1', n2', n3', .slice a' l2 cap', t'] 55)
  have hz : ((w.alloc (.cells #[n0, n1, n2, n3, .slice a l1 cap, t] 55)).alloc (.cells #[n0', n1', n2', n3', .slice a' l2 cap', t'] 55)).heap.size = w.heap.size + 1 + 1 := by simp
  generalize ((w.alloc (.cells #[n0, n1, n2, n3, .slice a l1 cap, t] 55)).alloc (.cells #[n0', n1', n2', n3', .slice a' l2 cap', t'] 55)) = W0 at b0 hk hz ⊢
  refine (HE.out _ b0).mono ?_
  rintro e w1 ⟨rfl, g1⟩
  have b1 := b0.trans (g1.mono b0.size)
  have k0 := (g1.block _ (by omega)).trans hk.1
  have k1 := (g1.block _ (by omega)).trans hk.2
  clear g1 b0 hk hz HE
  cases r0 with
  | false =>
    clear k0 k1
    go_wp2
    go_ret
    exact ⟨by simp, b1⟩
  | true =>
    have cx3 : w1.cell? ⟨w.heap.size, 4, none⟩ = some (.slice a l1 cap) := (cell_of_row _ _ _ _ _ _ k0).trans rfl
    have cy3 : w1.cell? ⟨w.heap.size + 1, 4, none⟩ = some (.slice a' l2 cap') := (cell_of_row _ _ _ _ _ _ k1).trans rfl
    have HK : Hid (w1.heap[w.heap.size]? = some (.cells #[n0, n1, n2, n3, .slice a l1 cap, t] 55 (0, 0)) ∧ w1.heap[w.heap.size + 1]? = some (.cells #[n0', n1', n2', n3', .slice a' l2 cap', t'] 55 (0, 0))) := ⟨k0, k1⟩
    clear k0 k1
    by_cases hlen : l1 = l2
    · subst hlen
      have HLY : Hid (xs.length = ys.length) := HL.out.symm.trans HL2.out
      clear hl' HL2
      go_wp2
      go_loopg [5] l1 (fun g i wr => ∃ n : Nat, n + g = l1 ∧ i = .int .i64 n ∧ Below w.heap.size w wr ∧ wr.heap[w.heap.size]? = some (.cells #[n0, n1, n2, n3, .slice a l1 cap, t] 55 (0, 0)) ∧ wr.heap[w.heap.size + 1]? = some (.cells #[n0', n1', n2', n3', .slice a' l1 cap', t'] 55 (0, 0)) ∧ Hid (∀ j, j < n → xs[j]? = ys[j]?))
      case atStart => exact ⟨0, by omega, rfl, b1, HK.out.1, HK.out.2, fun j hj => by omega⟩
      case round =>
        obtain ⟨n, hn, rfl, hb, hk0, hk1, HS⟩ := hrel
        have c0 : wr.cell? ⟨w.heap.size, 4, none⟩ = some (.slice a l1 cap) := (cell_of_row _ _ _ _ _ _ hk0).trans rfl
        have c1 : wr.cell? ⟨w.heap.size + 1, 4, none⟩ = some (.slice a' l1 cap') := (cell_of_row _ _ _ _ _ _ hk1).trans rfl
        by_cases hlt : n < l1
        · have i1 : (n : Int) < (l1 : Int) := by omega
          have i3 : (0 : Int) ≤ (n : Int) := by omega
          obtain ⟨x, hxn⟩ : ∃ x, xs[n]? = some x := ⟨_, List.getElem?_eq_getElem (by have := HL.out; omega)⟩
          obtain ⟨y, hyn⟩ : ∃ y, ys[n]? = some y := ⟨_, List.getElem?_eq_getElem (by have := HL.out; have := HLY.out; omega)⟩
          obtain ⟨b, o, cs, rfl, _, hcs, hrg, hR⟩ := HX.out n x hxn
          obtain ⟨b', o', ds, rfl, _, hds, hrg', hR'⟩ := HX'.out n y hyn
          have HB : Hid (Below w.heap.size w wr) := hb
          have HK : Hid (wr.heap[w.heap.size]? = some (.cells #[n0, n1, n2, n3, .slice (some ⟨b, o, none⟩) l1 cap, t] 55 (0, 0)) ∧ wr.heap[w.heap.size + 1]? = some (.cells #[n0', n1', n2', n3', .slice (some ⟨b', o', none⟩) l1 cap', t'] 55 (0, 0))) := ⟨hk0, hk1⟩
          have H1 : Hid (wr.rangeAt b (o + n * 2) cs ∧ cs.length = 2) := ⟨fun i c hi => (Keeps.of_below hb 0) _ _ _ (Nat.zero_le _) (hrg i c hi), hcs⟩
          have H2 : Hid (wr.rangeAt b' (o' + n * 2) ds ∧ ds.length = 2) := ⟨fun i c hi => (Keeps.of_below hb 0) _ _ _ (Nat.zero_le _) (hrg' i c hi), hds⟩
          obtain ⟨q, Hq⟩ : ∃ q, Hid (q = eqB x y) := ⟨_, rfl⟩
          have cE : ∀ d os, Calls Try.prog 43 #[.agg cs.toArray, .agg ds.toArray] (Sort.grow (redrawn wr d) os) fun e w'' => e = .returned (.bool q) ∧ ∃ p : Regrown, w'' = Sort.grow (redrawn wr p.d) p.os :=
            fun d os => Calls.regrown_of (by rw [Hq.out]; exact HC.out x cs y ds (List.mem_of_getElem? hxn) (List.mem_of_getElem? hyn) _ (HM.out x cs lo 0 w _ ((Keeps.of_below hb lo).trans (Keeps.of_below (below_regrown wr d os) lo)) hR) (HM.out y ds lo' 0 w _ ((Keeps.of_below hb lo').trans (Keeps.of_below (below_regrown wr d os) lo')) hR'))
          have q0 := cell_regrown c0
          have q1 := cell_regrown c1
          clear hb hrg hrg' hcs hds hR hR' hk0 hk1
          go_upto_region 6 with fail
          refine wp_region_quiet_below (by kernel_rfl) (by kernel_rfl) ?_
          go_big_quiet_step (first | with_reducible exact cE _ _)
          go_big_quiet_step (first | with_reducible exact cE _ _)
          go_big_quiet_step (first | with_reducible exact cE _ _)
          go_big_quiet_step (first | with_reducible exact cE _ _)
          refine wpQ_load rfl 49 _ rfl _ _ rfl (.agg cs.toArray) (fun W hW => run_loadVar_mid W b (o + n * 2) 49 (cs) _ (range_regrown H1.out.1 hW) Try.underlying49 rfl (by rw [H1.out.2]; kernel_rfl)) ?_
          simp only [Act.put, List.setIfInBounds_toArray, List.set_cons_succ, List.set_cons_zero]
          go_big_quiet_step (first | with_reducible exact cE _ _)
          go_big_quiet_step (first | with_reducible exact cE _ _)
          go_big_quiet_step (first | with_reducible exact cE _ _)
          go_big_quiet_step (first | with_reducible exact cE _ _)
          refine wpQ_load rfl 49 _ rfl _ _ rfl (.agg ds.toArray) (fun W hW => run_loadVar_mid W b' (o' + n * 2) 49 (ds) _ (range_regrown H2.out.1 hW) Try.underlying49 rfl (by rw [H2.out.2]; kernel_rfl)) ?_
          simp only [Act.put, List.setIfInBounds_toArray, List.set_cons_succ, List.set_cons_zero]
          go_big_quiet_step (first | with_reducible exact cE _ _)
          go_big_quiet_step (first | with_reducible exact cE _ _)
          refine wpQuiet_nil ?_
          intro w7 hw'
          have b7 : Below w.heap.size w w7 := by
            obtain ⟨⟨dq, osq⟩, rfl⟩ := hw'
            exact HB.out.trans ((below_regrown wr dq osq).mono HB.out.size)
          have k7 : Hid (w7.heap[w.heap.size]? = some (.cells #[n0, n1, n2, n3, .slice (some ⟨b, o, none⟩) l1 cap, t] 55 (0, 0)) ∧ w7.heap[w.heap.size + 1]? = some (.cells #[n0', n1', n2', n3', .slice (some ⟨b', o', none⟩) l1 cap', t'] 55 (0, 0))) := ⟨row_regrown HK.out.1 hw', row_regrown HK.out.2 hw'⟩
          clear hw' q0 q1 c0 c1 cE
          cases q with
          | true =>
            go_wp2
            go_roundg (gk - 1)
            case measure => omega
            case rel =>
              refine ⟨n + 1, by omega, by simp, b7, k7.out.1, k7.out.2, ?_⟩
              intro j hj
              by_cases hjn : j = n
              · rw [hjn, hxn, hyn, eqB_true.1 Hq.out.symm]
              · exact HS.out j (by omega)
          | false =>
            go_wp2
            go_ret
            refine ⟨?_, b7⟩
            rw [eqB_false (a := xs) (b := ys) (fun e => by
              rw [e] at hxn
              have hxy := Option.some.inj (hxn.symm.trans hyn)
              have := Hq.out
              rw [hxy, eqB_refl] at this
              cases this)]
            simp
        · have i1 : ¬ ((n : Int) < (l1 : Int)) := by omega
          have hE : xs = ys := by
            apply List.ext_getElem?
            intro j
            by_cases hj : j < n
            · exact HS.out j hj
            · have := HL.out; have := HLY.out
              rw [List.getElem?_eq_none (by omega), List.getElem?_eq_none (by omega)]
          have d0 : wr.cell? ⟨w.heap.size, 5, none⟩ = some t := (cell_of_row _ _ _ _ _ _ hk0).trans rfl
          have d1 : wr.cell? ⟨w.heap.size + 1, 5, none⟩ = some t' := (cell_of_row _ _ _ _ _ _ hk1).trans rfl
          clear hk0 hk1
          go_wp2_with fail
          refine (HT.out _ hb).mono ?_
          rintro e w8 ⟨rfl, g8⟩
          have b8 := hb.trans (g8.mono hb.size)
          clear g8
          go_wp2
          go_ret
          exact ⟨by first | (rw [hE, eqB_refl]; simp) | (rw [eqB_refl]; simp), b8⟩

    · have i1 : ((l1 : Nat) : Int) ≠ ((l2 : Nat) : Int) := by omega
      clear HK HC HM HT
      go_wp2
      go_ret
      exact ⟨by rw [eqB_false (a := xs) (b := ys) (fun e => hlen (by rw [HL.out, HL2.out, e]))]; simp, b1⟩


set_option maxRecDepth 10000 in
set_option maxHeartbeats 2000000 in
theorem s_arms_row (m m' : Nat) (v v' : Value) (xs ys : List ArmT) (w : World) (lo lo' : Nat) (hv : RowIs w lo 6 (ArmIs w lo m) v xs) (hv' : RowIs w lo' 6 (ArmIs w lo' m') v' ys)
    (HC : Hid (∀ x cs y ds, x ∈ xs → y ∈ ys → ∀ (W : World), (ArmIs W lo m) x cs → (ArmIs W lo' m') y ds → Calls Try.prog 21 #[.agg cs.toArray, .agg ds.toArray] W fun r w' => r = .returned (.bool (eqB x y)) ∧ Below W.heap.size W w'))
    (HM : Hid (∀ x cs (l n : Nat) (W W' : World), Keeps l W W' → (ArmIs W l n) x cs → (ArmIs W' l n) x cs)) :
    Calls Try.prog 11 #[v, v'] w fun r w' => r = .returned (.bool (eqB xs ys)) ∧ Below w.heap.size w w' := by
  obtain ⟨a, cap, rfl, hl, hx⟩ := hv
  obtain ⟨a', cap', rfl, hl', hx'⟩ := hv'
  have HX : Hid (∀ j x, xs[j]? = some x → ∃ b o cs, a = some ⟨b, o, none⟩ ∧ lo ≤ b ∧ cs.length = 6 ∧ w.rangeAt b (o + j * 6) cs ∧ (ArmIs w lo m) x cs) := hx
  have HX' : Hid (∀ j x, ys[j]? = some x → ∃ b o cs, a' = some ⟨b, o, none⟩ ∧ lo' ≤ b ∧ cs.length = 6 ∧ w.rangeAt b (o + j * 6) cs ∧ (ArmIs w lo' m') x cs) := hx'
  clear hx hx'
  by_cases hlen : xs.length = ys.length
  · rw [← hlen] at hl' ⊢
    have HLY : Hid (xs.length = ys.length) := hlen
    obtain ⟨len, HL⟩ : ∃ len, Hid (len = xs.length) := ⟨_, rfl⟩
    obtain ⟨RES, HR⟩ : ∃ r, Hid (r = eqB xs ys) := ⟨_, rfl⟩
    rw [← HL.out] at hl hl' ⊢
    rw [← HR.out]
    clear hl' hlen
    go_enter Try.func11, Try.ntmps11
    go_wp2
    go_loopg [5] len (fun g i wr => ∃ n : Nat, n + g = len ∧ i = .int .i64 n ∧ Below w.heap.size w wr ∧ Hid (∀ j, j < n → xs[j]? = ys[j]?))
    case atStart => exact ⟨0, by omega, rfl, Below.refl _ _, fun j hj => by omega⟩
    case round =>
      obtain ⟨n, hn, rfl, hb, HS⟩ := hrel
      by_cases hlt : n < len
      · have i1 : (n : Int) < (len : Int) := by omega
        have i3 : (0 : Int) ≤ (n : Int) := by omega
        obtain ⟨x, hxn⟩ : ∃ x, xs[n]? = some x := ⟨_, List.getElem?_eq_getElem (by have := HL.out; omega)⟩
        obtain ⟨y, hyn⟩ : ∃ y, ys[n]? = some y := ⟨_, List.getElem?_eq_getElem (by have := HL.out; have := HLY.out; omega)⟩
        obtain ⟨b, o, cs, rfl, _, hcs, hrg, hR⟩ := HX.out n x hxn
        obtain ⟨b', o', ds, rfl, _, hds, hrg', hR'⟩ := HX'.out n y hyn
        have HB : Hid (Below w.heap.size w wr) := hb
        have H1 : Hid (wr.rangeAt b (o + n * 6) cs ∧ cs.length = 6) := ⟨fun i c hi => (Keeps.of_below hb 0) _ _ _ (Nat.zero_le _) (hrg i c hi), hcs⟩
        have H2 : Hid (wr.rangeAt b' (o' + n * 6) ds ∧ ds.length = 6) := ⟨fun i c hi => (Keeps.of_below hb 0) _ _ _ (Nat.zero_le _) (hrg' i c hi), hds⟩
        obtain ⟨q, Hq⟩ : ∃ q, Hid (q = eqB x y) := ⟨_, rfl⟩
        have cE : ∀ d os, Calls Try.prog 21 #[.agg cs.toArray, .agg ds.toArray] (Sort.grow (redrawn wr d) os) fun e w'' => e = .returned (.bool q) ∧ ∃ p : Regrown, w'' = Sort.grow (redrawn wr p.d) p.os :=
          fun d os => Calls.regrown_of (by rw [Hq.out]; exact HC.out x cs y ds (List.mem_of_getElem? hxn) (List.mem_of_getElem? hyn) _ (HM.out x cs lo m w _ ((Keeps.of_below hb lo).trans (Keeps.of_below (below_regrown wr d os) lo)) hR) (HM.out y ds lo' m' w _ ((Keeps.of_below hb lo').trans (Keeps.of_below (below_regrown wr d os) lo')) hR'))
        clear hb hrg hrg' hcs hds hR hR'
        go_upto_region 6 with fail
        refine wp_region_quiet_below (by kernel_rfl) (by kernel_rfl) ?_
        go_big_quiet_step (first | with_reducible exact cE _ _)
        go_big_quiet_step (first | with_reducible exact cE _ _)
        go_big_quiet_step (first | with_reducible exact cE _ _)
        refine wpQ_load rfl 55 _ rfl _ _ rfl (.agg cs.toArray) (fun W hW => run_loadVar_mid W b (o + n * 6) 55 cs _ (range_regrown H1.out.1 hW) Try.underlying55 rfl (by rw [H1.out.2]; kernel_rfl)) ?_
        simp only [Act.put, List.setIfInBounds_toArray, List.set_cons_succ, List.set_cons_zero]
        go_big_quiet_step (first | with_reducible exact cE _ _)
        go_big_quiet_step (first | with_reducible exact cE _ _)
        go_big_quiet_step (first | with_reducible exact cE _ _)
        refine wpQ_load rfl 55 _ rfl _ _ rfl (.agg ds.toArray) (fun W hW => run_loadVar_mid W b' (o' + n * 6) 55 ds _ (range_regrown H2.out.1 hW) Try.underlying55 rfl (by rw [H2.out.2]; kernel_rfl)) ?_
        simp only [Act.put, List.setIfInBounds_toArray, List.set_cons_succ, List.set_cons_zero]
        go_big_quiet_step (first | with_reducible exact cE _ _)
        go_big_quiet_step (first | with_reducible exact cE _ _)
        refine wpQuiet_nil ?_
        intro w7 hw'
        have b7 : Below w.heap.size w w7 := by
          obtain ⟨⟨dq, osq⟩, rfl⟩ := hw'
          exact HB.out.trans ((below_regrown wr dq osq).mono HB.out.size)
        clear hw' cE
        cases q with
        | true =>
          go_wp2
          go_roundg (gk - 1)
          case measure => omega
          case rel =>
            refine ⟨n + 1, by omega, by simp, b7, ?_⟩
            intro j hj
            by_cases hjn : j = n
            · rw [hjn, hxn, hyn, eqB_true.1 Hq.out.symm]
            · exact HS.out j (by omega)
        | false =>
          go_wp2
          go_ret
          refine ⟨?_, b7⟩
          rw [HR.out, eqB_false (fun e => by
            rw [e] at hxn
            have hxy := Option.some.inj (hxn.symm.trans hyn)
            have := Hq.out
            rw [hxy, eqB_refl] at this
            cases this)]
          rfl
      · have i1 : ¬ ((n : Int) < (len : Int)) := by omega
        have hE : xs = ys := by
          apply List.ext_getElem?
          intro j
          by_cases hj : j < n
          · exact HS.out j hj
          · have := HL.out; have := HLY.out
            rw [List.getElem?_eq_none (by omega), List.getElem?_eq_none (by omega)]
        go_wp2
        go_ret
        exact ⟨by rw [HR.out, hE, eqB_refl]; rfl, hb⟩
  · have i1 : ((xs.length : Nat) : Int) ≠ ((ys.length : Nat) : Int) := by omega
    rw [eqB_false (fun e => hlen (by rw [e]))]
    generalize xs.length = l1 at hl i1 hlen ⊢
    generalize ys.length = l2 at hl' i1 hlen ⊢
    go_enter Try.func11, Try.ntmps11
    go_wp2
    go_ret
    exact ⟨rfl, Below.refl _ _⟩


theorem s_net : ∀ (m m' : Nat) (t t' : NetT) (cs ds : List Value) (w : World) (lo lo' : Nat) (hv : NetIs w lo m t cs) (hv' : NetIs w lo' m' t' ds),
    Calls Try.prog 42 #[.agg cs.toArray, .agg ds.toArray] w fun r w' => r = .returned (.bool (eqB t t')) ∧ Below w.heap.size w w'
  | 0, _, _, _, _, _, _, _, _, h, _ => h.elim
  | _ + 1, 0, _, _, _, _, _, _, _, _, h => h.elim
  | m + 1, m' + 1, .mk k e kids, .mk k' e' kids', cs, ds, w, lo, lo', hv, hv' => by
    obtain ⟨v, u, rfl, ha, hk⟩ := hv
    obtain ⟨v', u', rfl, ha', hk'⟩ := hv'
    rw [eqB_iff (netT_eq k k' e e' kids kids')]
    exact s_net_step m m' k k' e.op e'.op v v' u u' _ kids kids' ha.one ha'.one w lo lo' hk hk'
      (fun W g => s_elem e e' _ _ W lo lo' ⟨v, rfl, argsIs_move (Keeps.of_below g lo) (Nat.le_refl _) ha⟩ ⟨v', rfl, argsIs_move (Keeps.of_below g lo') (Nat.le_refl _) ha'⟩)
      (fun x cs y ds _ _ W h h' => s_net m m' x y cs ds W lo lo' h h')
theorem s_arm : ∀ (m m' : Nat) (t t' : ArmT) (cs ds : List Value) (w : World) (lo lo' : Nat) (hv : ArmIs w lo m t cs) (hv' : ArmIs w lo' m' t' ds),
    Calls Try.prog 21 #[.agg cs.toArray, .agg ds.toArray] w fun r w' => r = .returned (.bool (eqB t t')) ∧ Below w.heap.size w w'
  | 0, _, _, _, _, _, _, _, _, h, _ => h.elim
  | _ + 1, 0, _, _, _, _, _, _, _, _, h => h.elim
  | m + 1, m' + 1, .mk n c kids, .mk n' c' kids', cs, ds, w, lo, lo', hv, hv' => by
    obtain ⟨ns, v, u, rfl, hn, ha, hk⟩ := hv
    obtain ⟨ns', v', u', rfl, hn', ha', hk'⟩ := hv'
    have q := hn
    have q' := hn'
    obtain ⟨n0, n1, n2, n3, rfl, o0, o1, o2, o3⟩ := q.cells
    obtain ⟨n0', n1', n2', n3', rfl, o0', o1', o2', o3'⟩ := q'.cells
    rw [eqB_iff (armT_eq n n' c c' kids kids')]
    exact s_arm_step n0 n0' n1 n1' n2 n2' n3 n3' v v' u u' _ _ c c' o0 o0' o1 o1' o2 o2' o3 o3' hk.one hk'.one w lo lo' ha ha'
      (fun W g => s_net m m' n n' _ _ W lo lo' (NetIs.move (Keeps.of_below g lo) (Nat.le_refl _) _ _ (Nat.le_refl _) _ _ hn) (NetIs.move (Keeps.of_below g lo') (Nat.le_refl _) _ _ (Nat.le_refl _) _ _ hn'))
      (fun W g => s_arms_row m m' u u' kids kids' W lo lo' (armsIs_move (Keeps.of_below g lo) (Nat.le_refl _) (Nat.le_refl _) hk) (armsIs_move (Keeps.of_below g lo') (Nat.le_refl _) (Nat.le_refl _) hk')
        (fun x cs y ds _ _ W h h' => s_arm m m' x y cs ds W lo lo' h h') (fun x cs l n W W' k h => ArmIs.move k (Nat.le_refl _) _ _ (Nat.le_refl _) _ _ h))
theorem s_arms (m m' : Nat) (v v' : Value) (xs ys : List ArmT) (w : World) (lo lo' : Nat) (hv : ArmsIs w lo m v xs) (hv' : ArmsIs w lo' m' v' ys) :
    Calls Try.prog 11 #[v, v'] w fun r w' => r = .returned (.bool (eqB xs ys)) ∧ Below w.heap.size w w' :=
  s_arms_row m m' v v' xs ys w lo lo' hv hv' (fun x cs y ds _ _ W h h' => s_arm m m' x y cs ds W lo lo' h h') (fun x cs l n W W' k h => ArmIs.move k (Nat.le_refl _) _ _ (Nat.le_refl _) _ _ h)
end Go.Proofs.Ytnlajncpkpljdaa
