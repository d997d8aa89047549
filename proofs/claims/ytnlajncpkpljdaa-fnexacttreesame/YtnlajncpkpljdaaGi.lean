/- The program's TreeSame. -/
import Derived.Test.YtnlajncpkpljdaaGh
namespace Go.Proofs.Ytnlajncpkpljdaa
open Go.RowKit
set_option linter.unusedVariables false

theorem ArmIs.cells {W : World} {lo : Nat} : ∀ {m : Nat} {t : ArmT} {cs : List Value}, ArmIs W lo m t cs → ∃ n0 n1 n2 n3 n4 n5, cs = [n0, n1, n2, n3, n4, n5] ∧ n0.oneCell' = true ∧ n1.oneCell' = true ∧ n2.oneCell' = true ∧ n3.oneCell' = true ∧ n4.oneCell' = true ∧ n5.oneCell' = true
  | 0, _, _, h => h.elim
  | m + 1, .mk net coils kids, cs, h => by
    obtain ⟨ns, v, v', rfl, hn, hc, hk⟩ := h
    obtain ⟨n0, n1, n2, n3, rfl, o0, o1, o2, o3⟩ := hn.cells
    exact ⟨_, _, _, _, _, _, rfl, o0, o1, o2, o3, hc.one, hk.one⟩
theorem mem2 {a b : Value} (ha : a.oneCell' = true) (hb : b.oneCell' = true) : ∀ x ∈ [a, b], x.oneCell' = true := by
  intro x hx
  simp at hx
  rcases hx with rfl | rfl <;> assumption
theorem ElemIs.cells {W : World} {lo : Nat} {t : ElemT} {cs : List Value} (h : ElemIs W lo t cs) : ∃ n0 n1, cs = [n0, n1] ∧ n0.oneCell' = true ∧ n1.oneCell' = true := by
  obtain ⟨v, rfl, hr⟩ := h
  exact ⟨_, _, rfl, rfl, hr.one⟩

set_option maxRecDepth 10000 in
set_option maxHeartbeats 2000000 in
theorem i_args (v v' : Value) (xs ys : List ArgT) (w : World) (lo lo' : Nat) (hv : ArgsIs w lo v xs) (hv' : ArgsIs w lo' v' ys) :
    Calls Try.prog 44 #[v, v'] w fun r w' => r = .returned (.bool (eqB xs ys)) ∧ Below w.heap.size w w' := by
  obtain ⟨a, cap, rfl, hl, hx⟩ := hv
  obtain ⟨a', cap', rfl, hl', hx'⟩ := hv'
  have HX : Hid (∀ j x, xs[j]? = some x → ∃ b o cs, a = some ⟨b, o, none⟩ ∧ lo ≤ b ∧ cs.length = 3 ∧ w.rangeAt b (o + j * 3) cs ∧ ArgIs x cs) := hx
  have HX' : Hid (∀ j x, ys[j]? = some x → ∃ b o cs, a' = some ⟨b, o, none⟩ ∧ lo' ≤ b ∧ cs.length = 3 ∧ w.rangeAt b (o + j * 3) cs ∧ ArgIs x cs) := hx'
  clear hx hx'
  by_cases hlen : xs.length = ys.length
  · rw [← hlen] at hl' ⊢
    have HLY : Hid (xs.length = ys.length) := hlen
    obtain ⟨len, HL⟩ : ∃ len, Hid (len = xs.length) := ⟨_, rfl⟩
    obtain ⟨RES, HR⟩ : ∃ r, Hid (r = eqB xs ys) := ⟨_, rfl⟩
    rw [← HL.out] at hl hl' ⊢
    rw [← HR.out]
    clear hl' hlen
    go_enter Try.func44, Try.ntmps44
    go_wp2
    go_loopg [13] len (fun g i wr => ∃ n : Nat, n + g = len ∧ i = .int .i64 n ∧ Below w.heap.size w wr ∧ Hid (∀ j, j < n → xs[j]? = ys[j]?))
    case atStart => exact ⟨0, by omega, rfl, Below.refl _ _, fun j hj => by omega⟩
    case round =>
      obtain ⟨n, hn, rfl, hb, HS⟩ := hrel
      by_cases hlt : n < len
      · have i1 : (n : Int) < (len : Int) := by omega
        have i3 : (0 : Int) ≤ (n : Int) := by omega
        obtain ⟨x, hxn⟩ : ∃ x, xs[n]? = some x := ⟨_, List.getElem?_eq_getElem (by have := HL.out; omega)⟩
        obtain ⟨y, hyn⟩ : ∃ y, ys[n]? = some y := ⟨_, List.getElem?_eq_getElem (by have := HL.out; have := HLY.out; omega)⟩
        obtain ⟨b, o, cs, rfl, _, hcs, hrg, hR⟩ := HX.out n x hxn
        obtain ⟨b', o', ds, rfl, _, hds, hrg', hR'⟩ := HX'.out n y hyn
        have HB : Hid (Below w.heap.size w wr) := hb
        have H1 : Hid (wr.rangeAt b (o + n * 3) cs ∧ cs.length = 3) := ⟨fun i c hi => (Keeps.of_below hb 0) _ _ _ (Nat.zero_le _) (hrg i c hi), hcs⟩
        have H2 : Hid (wr.rangeAt b' (o' + n * 3) ds ∧ ds.length = 3) := ⟨fun i c hi => (Keeps.of_below hb 0) _ _ _ (Nat.zero_le _) (hrg' i c hi), hds⟩
        obtain ⟨q, Hq⟩ : ∃ q, Hid (q = eqB x y) := ⟨_, rfl⟩
        obtain rfl : cs = _ := hR
        obtain rfl : ds = _ := hR'
        obtain ⟨r, hr, hr'⟩ := eqD_arg 9998 x.1 x.2.1 x.2.2 y.1 y.2.1 y.2.2
        have hrq : r = q := by rw [Hq.out]; exact (eqB_iff hr').symm
        subst hrq
        clear hr' hb hrg hrg' hcs hds
        go_upto_region 6 with fail
        refine wp_region_quiet_below (by kernel_rfl) (by kernel_rfl) ?_
        go_big_quiet_step (fail)
        go_big_quiet_step (fail)
        go_big_quiet_step (fail)
        refine wpQ_load rfl 33 _ rfl _ _ rfl (.agg #[.int .i64 x.1, .int .i64 x.2.1, .int .i64 x.2.2]) (fun W hW => run_loadVar_mid W b (o + n * 3) 33 [.int .i64 x.1, .int .i64 x.2.1, .int .i64 x.2.2] _ (range_regrown H1.out.1 hW) Try.underlying33 rfl (by rw [H1.out.2]; kernel_rfl)) ?_
        simp only [Act.put, List.setIfInBounds_toArray, List.set_cons_succ, List.set_cons_zero]
        go_big_quiet_step (fail)
        go_big_quiet_step (fail)
        go_big_quiet_step (fail)
        refine wpQ_load rfl 33 _ rfl _ _ rfl (.agg #[.int .i64 y.1, .int .i64 y.2.1, .int .i64 y.2.2]) (fun W hW => run_loadVar_mid W b' (o' + n * 3) 33 [.int .i64 y.1, .int .i64 y.2.1, .int .i64 y.2.2] _ (range_regrown H2.out.1 hW) Try.underlying33 rfl (by rw [H2.out.2]; kernel_rfl)) ?_
        simp only [Act.put, List.setIfInBounds_toArray, List.set_cons_succ, List.set_cons_zero]
        go_big_quiet_step (fail)
        refine wpQuiet_nil ?_
        intro w7 hw'
        have b7 : Below w.heap.size w w7 := by
          obtain ⟨⟨dq, osq⟩, rfl⟩ := hw'
          exact HB.out.trans ((below_regrown wr dq osq).mono HB.out.size)
        clear hw' hr
        cases r with
        | true =>
          go_wp2
          go_roundg (gk - 1)
          case measure => omega
          case rel =>
            refine ⟨n + 1, by omega, by simp, b7, ?_⟩
            intro j hj
            by_cases hjn : j = n
            · rw [hjn, hxn, hyn, eqB_true.1 Hq.out.symm]
            · exact HS.out j (by omega)
        | false =>
          go_wp2
          go_ret
          refine ⟨?_, b7⟩
          rw [HR.out, eqB_false (a := xs) (b := ys) (fun e => by
            rw [e] at hxn
            have hxy := Option.some.inj (hxn.symm.trans hyn)
            have := Hq.out
            rw [hxy, eqB_refl] at this
            cases this)]
          rfl
      · have i1 : ¬ ((n : Int) < (len : Int)) := by omega
        have hE : xs = ys := by
          apply List.ext_getElem?
          intro j
          by_cases hj : j < n
          · exact HS.out j hj
          · have := HL.out; have := HLY.out
            rw [List.getElem?_eq_none (by omega), List.getElem?_eq_none (by omega)]
        have HE : Hid (xs = ys) := hE
        clear hE
        go_wp2
        go_ret
        exact ⟨by rw [HR.out, HE.out, eqB_refl]; rfl, hb⟩
  · have i1 : ((xs.length : Nat) : Int) ≠ ((ys.length : Nat) : Int) := by omega
    rw [eqB_false (fun e => hlen (by rw [e]))]
    generalize xs.length = l1 at hl i1 hlen ⊢
    generalize ys.length = l2 at hl' i1 hlen ⊢
    go_enter Try.func44, Try.ntmps44
    go_wp2
    go_ret
    exact ⟨rfl, Below.refl _ _⟩

set_option maxRecDepth 10000 in
set_option maxHeartbeats 2000000 in
theorem i_elem (e e' : ElemT) (cs ds : List Value) (w : World) (lo lo' : Nat) (hv : ElemIs w lo e cs) (hv' : ElemIs w lo' e' ds) :
    Calls Try.prog 23 #[.agg cs.toArray, .agg ds.toArray] w fun r w' => r = .returned (.bool (eqB e e')) ∧ Below w.heap.size w w' := by
  obtain ⟨v, rfl, h⟩ := hv
  obtain ⟨v', rfl, h'⟩ := hv'
  rw [eqB_iff (elemT_eq e e')]
  have s1 := h.one
  have s2 := h'.one
  have b0 : ∀ A B, Below w.heap.size w ((w.alloc A).alloc B) := fun A B => ((Below.refl _ _).alloc (Nat.le_refl _) _).alloc (by simp) _
  have HA : Hid (∀ W, Below w.heap.size w W → Calls Try.prog 44 #[v, v'] W fun r w' => r = .returned (.bool (eqB e.args e'.args)) ∧ Below W.heap.size W w') := fun W g => i_args v v' _ _ W lo lo' (argsIs_move (Keeps.of_below g lo) (Nat.le_refl _) h) (argsIs_move (Keeps.of_below g lo') (Nat.le_refl _) h')
  generalize eqB e.args e'.args = r at HA ⊢
  generalize e.op = op
  generalize e'.op = op'
  clear h h'
  by_cases hop : op = op'
  · subst hop
    go_enter Try.func23, Try.ntmps23
    go_wp2_with fail
    refine (HA.out _ (b0 _ _)).mono ?_
    rintro e w1 ⟨rfl, g1⟩
    have b1 := (b0 (.cells #[.int .i64 op, v] 49) (.cells #[.int .i64 op, v'] 49)).trans (g1.mono (by simp; omega))
    clear g1 b0
    go_wp2
    go_ret
    exact ⟨by simp, b1⟩
  · rw [show decide (op = op') = false by simp [hop]]
    go_enter Try.func23, Try.ntmps23
    go_wp2
    go_ret
    exact ⟨by simp, b0 _ _⟩


set_option maxRecDepth 10000 in
set_option maxHeartbeats 4000000 in
theorem i_elems_row (v v' : Value) (xs ys : List ElemT) (w : World) (lo lo' : Nat) (hv : RowIs w lo 2 (ElemIs w lo) v xs) (hv' : RowIs w lo' 2 (ElemIs w lo') v' ys)
    
    (HC : Hid (∀ x cs y ds, x ∈ xs → y ∈ ys → ∀ (W : World), (ElemIs W lo) x cs → (ElemIs W lo') y ds → Calls Try.prog 23 #[.agg cs.toArray, .agg ds.toArray] W fun r w' => r = .returned (.bool (eqB x y)) ∧ Below W.heap.size W w'))
    (HM : Hid (∀ x cs (l n : Nat) (W W' : World), Keeps l W W' → (ElemIs W l) x cs → (ElemIs W' l) x cs)) :
    Calls Try.prog 26 #[v, v', .func (.func 23) #[] #[]] w fun r w' => r = .returned (.bool (eqB xs ys)) ∧ Below w.heap.size w w' := by
  obtain ⟨a, cap, rfl, hl, hx⟩ := hv
  obtain ⟨a', cap', rfl, hl', hx'⟩ := hv'
  have HX : Hid (∀ j x, xs[j]? = some x → ∃ b o cs, a = some ⟨b, o, none⟩ ∧ lo ≤ b ∧ cs.length = 2 ∧ w.rangeAt b (o + j * 2) cs ∧ (ElemIs w lo) x cs) := hx
  have HX' : Hid (∀ j x, ys[j]? = some x → ∃ b o cs, a' = some ⟨b, o, none⟩ ∧ lo' ≤ b ∧ cs.length = 2 ∧ w.rangeAt b (o + j * 2) cs ∧ (ElemIs w lo') x cs) := hx'
  
  clear hx hx'
  by_cases hlen : xs.length = ys.length
  · rw [← hlen] at hl' ⊢
    have HLY : Hid (xs.length = ys.length) := hlen
    obtain ⟨len, HL⟩ : ∃ len, Hid (len = xs.length) := ⟨_, rfl⟩
    obtain ⟨RES, HR⟩ : ∃ r, Hid (r = eqB xs ys) := ⟨_, rfl⟩
    rw [← HL.out] at hl hl' ⊢
    rw [← HR.out]
    clear hl' hlen
    go_enter Try.func26, Try.ntmps26
    go_wp2
    go_loopg [17] len (fun g i wr => ∃ n : Nat, n + g = len ∧ i = .int .i64 n ∧ Below w.heap.size w wr ∧ Hid (∀ j, j < n → xs[j]? = ys[j]?))
    case atStart => exact ⟨0, by omega, rfl, Below.refl _ _, fun j hj => by omega⟩
    case round =>
      obtain ⟨n, hn, rfl, hb, HS⟩ := hrel
      by_cases hlt : n < len
      · have i1 : (n : Int) < (len : Int) := by omega
        have i3 : (0 : Int) ≤ (n : Int) := by omega
        obtain ⟨x, hxn⟩ : ∃ x, xs[n]? = some x := ⟨_, List.getElem?_eq_getElem (by have := HL.out; omega)⟩
        obtain ⟨y, hyn⟩ : ∃ y, ys[n]? = some y := ⟨_, List.getElem?_eq_getElem (by have := HL.out; have := HLY.out; omega)⟩
        obtain ⟨b, o, cs, rfl, _, hcs, hrg, hR⟩ := HX.out n x hxn
        obtain ⟨b', o', ds, rfl, _, hds, hrg', hR'⟩ := HX'.out n y hyn
        obtain ⟨x0, x1, rfl, p0, p1⟩ := hR.cells
        obtain ⟨y0, y1, rfl, q0, q1⟩ := hR'.cells
        have HB : Hid (Below w.heap.size w wr) := hb
        have HL1 : Hid ((loadVar 49 ⟨b, o + n * 2, none⟩).run Try.prog wr = .ok (.agg #[x0, x1]) wr) := run_loadVar_mid wr b (o + n * 2) 49 [x0, x1] _ (fun i c hi => (Keeps.of_below hb 0) _ _ _ (Nat.zero_le _) (hrg i c hi)) Try.underlying49 rfl (by kernel_rfl)
        have HL2 : Hid ((loadVar 49 ⟨b', o' + n * 2, none⟩).run Try.prog (wr.alloc (.cells #[x0, x1] 49)) = .ok (.agg #[y0, y1]) (wr.alloc (.cells #[x0, x1] 49))) := run_loadVar_mid _ b' (o' + n * 2) 49 [y0, y1] _ (fun i c hi => ((Keeps.of_below hb 0).trans (Keeps.alloc _ _)) _ _ _ (Nat.zero_le _) (hrg' i c hi)) Try.underlying49 rfl (by kernel_rfl)
        have HS1 : Hid ((storeVar 49 ⟨wr.heap.size, 0, none⟩ (.agg #[x0, x1])).run Try.prog (wr.alloc (.cells #[.int .i64 0, .slice none 0 0] 49)) = .ok () (wr.alloc (.cells #[x0, x1] 49))) := run_storeVar_new wr 49 _ _ (by kernel_rfl) rfl (all_one [x0, x1] (mem2 p0 p1))
        have HS2 : Hid ((storeVar 49 ⟨wr.heap.size + 1, 0, none⟩ (.agg #[y0, y1])).run Try.prog ((wr.alloc (.cells #[x0, x1] 49)).alloc (.cells #[.int .i64 0, .slice none 0 0] 49)) = .ok () ((wr.alloc (.cells #[x0, x1] 49)).alloc (.cells #[y0, y1] 49))) := by
          have := run_storeVar_new (P := Try.prog) (wr.alloc (.cells #[x0, x1] 49)) 49 #[.int .i64 0, .slice none 0 0] #[y0, y1] (by kernel_rfl) rfl (all_one [y0, y1] (mem2 q0 q1))
          rwa [World.size_alloc] at this
        have b2 : Below w.heap.size w ((wr.alloc (.cells #[x0, x1] 49)).alloc (.cells #[y0, y1] 49)) := (hb.alloc hb.size _).alloc (by have := hb.size; simp; omega) _
        obtain ⟨q, Hq⟩ : ∃ q, Hid (q = eqB x y) := ⟨_, rfl⟩
        have HCx : Hid (Calls Try.prog 23 #[.agg #[x0, x1], .agg #[y0, y1]] ((wr.alloc (.cells #[x0, x1] 49)).alloc (.cells #[y0, y1] 49)) fun r w' => r = .returned (.bool q) ∧ Below ((wr.alloc (.cells #[x0, x1] 49)).alloc (.cells #[y0, y1] 49)).heap.size ((wr.alloc (.cells #[x0, x1] 49)).alloc (.cells #[y0, y1] 49)) w') := by
          rw [Hq.out]
          exact HC.out x [x0, x1] y [y0, y1] (List.mem_of_getElem? hxn) (List.mem_of_getElem? hyn) _  (HM.out x _ lo 0 w _ (Keeps.of_below b2 lo) hR) (HM.out y _ lo' 0 w _ (Keeps.of_below b2 lo') hR')
        clear hb hrg hrg' hcs hds hR hR'
        go_wp2_with (first | (refine wpL_load rfl 49 _ rfl _ _ rfl _ HL1.out ?_) | (refine wpL_load rfl 49 _ rfl _ _ rfl _ HL2.out ?_) | (refine wpL_store rfl 49 _ _ rfl _ _ rfl _ rfl _ HS1.out ?_) | (refine wpL_store rfl 49 _ _ rfl _ _ rfl _ rfl _ HS2.out ?_) | fail)
        refine HCx.out.mono ?_
        rintro e w7 ⟨rfl, g7⟩
        have b7 : Below w.heap.size w w7 := b2.trans (g7.mono b2.size)
        clear g7 b2 HCx HL1 HL2 HS1 HS2
        cases q with
        | true =>
          go_wp2
          go_roundg (gk - 1)
          case measure => omega
          case rel =>
            refine ⟨n + 1, by omega, by simp, b7, ?_⟩
            intro j hj
            by_cases hjn : j = n
            · rw [hjn, hxn, hyn, eqB_true.1 Hq.out.symm]
            · exact HS.out j (by omega)
        | false =>
          go_wp2
          go_ret
          refine ⟨?_, b7⟩
          rw [HR.out, eqB_false (a := xs) (b := ys) (fun e => by
            rw [e] at hxn
            have hxy := Option.some.inj (hxn.symm.trans hyn)
            have := Hq.out
            rw [hxy, eqB_refl] at this
            cases this)]
          rfl
      · have i1 : ¬ ((n : Int) < (len : Int)) := by omega
        have HE : Hid (xs = ys) := by
          apply List.ext_getElem?
          intro j
          by_cases hj : j < n
          · exact HS.out j hj
          · have := HL.out; have := HLY.out
            rw [List.getElem?_eq_none (by omega), List.getElem?_eq_none (by omega)]
        go_wp2
        go_ret
        exact ⟨by rw [HR.out, HE.out, eqB_refl]; rfl, hb⟩
  · have i1 : ((xs.length : Nat) : Int) ≠ ((ys.length : Nat) : Int) := by omega
    rw [eqB_false (fun e => hlen (by rw [e]))]
    generalize xs.length = l1 at hl i1 hlen ⊢
    generalize ys.length = l2 at hl' i1 hlen ⊢
    go_enter Try.func26, Try.ntmps26
    go_wp2
    go_ret
    exact ⟨rfl, Below.refl _ _⟩


set_option maxRecDepth 10000 in
set_option maxHeartbeats 4000000 in
theorem i_nets_row (m m' : Nat) (B : Nat) (v v' : Value) (xs ys : List NetT) (w : World) (lo lo' : Nat) (hv : RowIs w lo 4 (NetIs w lo m) v xs) (hv' : RowIs w lo' 4 (NetIs w lo' m') v' ys)
    (hB : w.cell? ⟨B, 0, none⟩ = some (.func (.func 22) #[] #[.pointer (some ⟨B, 0, none⟩)]))
    (HC : Hid (∀ x cs y ds, x ∈ xs → y ∈ ys → ∀ (W : World), W.cell? ⟨B, 0, none⟩ = some (.func (.func 22) #[] #[.pointer (some ⟨B, 0, none⟩)]) → (NetIs W lo m) x cs → (NetIs W lo' m') y ds → Calls Try.prog 22 #[.agg cs.toArray, .agg ds.toArray, .pointer (some ⟨B, 0, none⟩)] W fun r w' => r = .returned (.bool (eqB x y)) ∧ Below W.heap.size W w'))
    (HM : Hid (∀ x cs (l n : Nat) (W W' : World), Keeps l W W' → (NetIs W l n) x cs → (NetIs W' l n) x cs)) :
    Calls Try.prog 24 #[v, v', .func (.func 22) #[] #[.pointer (some ⟨B, 0, none⟩)]] w fun r w' => r = .returned (.bool (eqB xs ys)) ∧ Below w.heap.size w w' := by
  obtain ⟨a, cap, rfl, hl, hx⟩ := hv
  obtain ⟨a', cap', rfl, hl', hx'⟩ := hv'
  have HX : Hid (∀ j x, xs[j]? = some x → ∃ b o cs, a = some ⟨b, o, none⟩ ∧ lo ≤ b ∧ cs.length = 4 ∧ w.rangeAt b (o + j * 4) cs ∧ (NetIs w lo m) x cs) := hx
  have HX' : Hid (∀ j x, ys[j]? = some x → ∃ b o cs, a' = some ⟨b, o, none⟩ ∧ lo' ≤ b ∧ cs.length = 4 ∧ w.rangeAt b (o + j * 4) cs ∧ (NetIs w lo' m') x cs) := hx'
  have HBx : Hid (w.cell? ⟨B, 0, none⟩ = some (.func (.func 22) #[] #[.pointer (some ⟨B, 0, none⟩)])) := hB
  clear hx hx' hB
  by_cases hlen : xs.length = ys.length
  · rw [← hlen] at hl' ⊢
    have HLY : Hid (xs.length = ys.length) := hlen
    obtain ⟨len, HL⟩ : ∃ len, Hid (len = xs.length) := ⟨_, rfl⟩
    obtain ⟨RES, HR⟩ : ∃ r, Hid (r = eqB xs ys) := ⟨_, rfl⟩
    rw [← HL.out] at hl hl' ⊢
    rw [← HR.out]
    clear hl' hlen
    go_enter Try.func24, Try.ntmps24
    go_wp2
    go_loopg [17] len (fun g i wr => ∃ n : Nat, n + g = len ∧ i = .int .i64 n ∧ Below w.heap.size w wr ∧ Hid (∀ j, j < n → xs[j]? = ys[j]?))
    case atStart => exact ⟨0, by omega, rfl, Below.refl _ _, fun j hj => by omega⟩
    case round =>
      obtain ⟨n, hn, rfl, hb, HS⟩ := hrel
      by_cases hlt : n < len
      · have i1 : (n : Int) < (len : Int) := by omega
        have i3 : (0 : Int) ≤ (n : Int) := by omega
        obtain ⟨x, hxn⟩ : ∃ x, xs[n]? = some x := ⟨_, List.getElem?_eq_getElem (by have := HL.out; omega)⟩
        obtain ⟨y, hyn⟩ : ∃ y, ys[n]? = some y := ⟨_, List.getElem?_eq_getElem (by have := HL.out; have := HLY.out; omega)⟩
        obtain ⟨b, o, cs, rfl, _, hcs, hrg, hR⟩ := HX.out n x hxn
        obtain ⟨b', o', ds, rfl, _, hds, hrg', hR'⟩ := HX'.out n y hyn
        obtain ⟨x0, x1, x2, x3, rfl, p0, p1, p2, p3⟩ := hR.cells
        obtain ⟨y0, y1, y2, y3, rfl, q0, q1, q2, q3⟩ := hR'.cells
        have HB : Hid (Below w.heap.size w wr) := hb
        have HL1 : Hid ((loadVar 52 ⟨b, o + n * 4, none⟩).run Try.prog wr = .ok (.agg #[x0, x1, x2, x3]) wr) := run_loadVar_mid wr b (o + n * 4) 52 [x0, x1, x2, x3] _ (fun i c hi => (Keeps.of_below hb 0) _ _ _ (Nat.zero_le _) (hrg i c hi)) Try.underlying52 rfl (by kernel_rfl)
        have HL2 : Hid ((loadVar 52 ⟨b', o' + n * 4, none⟩).run Try.prog (wr.alloc (.cells #[x0, x1, x2, x3] 52)) = .ok (.agg #[y0, y1, y2, y3]) (wr.alloc (.cells #[x0, x1, x2, x3] 52))) := run_loadVar_mid _ b' (o' + n * 4) 52 [y0, y1, y2, y3] _ (fun i c hi => ((Keeps.of_below hb 0).trans (Keeps.alloc _ _)) _ _ _ (Nat.zero_le _) (hrg' i c hi)) Try.underlying52 rfl (by kernel_rfl)
        have HS1 : Hid ((storeVar 52 ⟨wr.heap.size, 0, none⟩ (.agg #[x0, x1, x2, x3])).run Try.prog (wr.alloc (.cells #[.int .i64 0, .int .i64 0, .slice none 0 0, .slice none 0 0] 52)) = .ok () (wr.alloc (.cells #[x0, x1, x2, x3] 52))) := run_storeVar_new wr 52 _ _ (by kernel_rfl) rfl (all_one [x0, x1, x2, x3] (mem4 p0 p1 p2 p3))
        have HS2 : Hid ((storeVar 52 ⟨wr.heap.size + 1, 0, none⟩ (.agg #[y0, y1, y2, y3])).run Try.prog ((wr.alloc (.cells #[x0, x1, x2, x3] 52)).alloc (.cells #[.int .i64 0, .int .i64 0, .slice none 0 0, .slice none 0 0] 52)) = .ok () ((wr.alloc (.cells #[x0, x1, x2, x3] 52)).alloc (.cells #[y0, y1, y2, y3] 52))) := by
          have := run_storeVar_new (P := Try.prog) (wr.alloc (.cells #[x0, x1, x2, x3] 52)) 52 #[.int .i64 0, .int .i64 0, .slice none 0 0, .slice none 0 0] #[y0, y1, y2, y3] (by kernel_rfl) rfl (all_one [y0, y1, y2, y3] (mem4 q0 q1 q2 q3))
          rwa [World.size_alloc] at this
        have b2 : Below w.heap.size w ((wr.alloc (.cells #[x0, x1, x2, x3] 52)).alloc (.cells #[y0, y1, y2, y3] 52)) := (hb.alloc hb.size _).alloc (by have := hb.size; simp; omega) _
        obtain ⟨q, Hq⟩ : ∃ q, Hid (q = eqB x y) := ⟨_, rfl⟩
        have HCx : Hid (Calls Try.prog 22 #[.agg #[x0, x1, x2, x3], .agg #[y0, y1, y2, y3], .pointer (some ⟨B, 0, none⟩)] ((wr.alloc (.cells #[x0, x1, x2, x3] 52)).alloc (.cells #[y0, y1, y2, y3] 52)) fun r w' => r = .returned (.bool q) ∧ Below ((wr.alloc (.cells #[x0, x1, x2, x3] 52)).alloc (.cells #[y0, y1, y2, y3] 52)).heap.size ((wr.alloc (.cells #[x0, x1, x2, x3] 52)).alloc (.cells #[y0, y1, y2, y3] 52)) w') := by
          rw [Hq.out]
          exact HC.out x [x0, x1, x2, x3] y [y0, y1, y2, y3] (List.mem_of_getElem? hxn) (List.mem_of_getElem? hyn) _ ((Keeps.of_below b2 0) _ _ _ (Nat.zero_le _) HBx.out) (HM.out x _ lo m w _ (Keeps.of_below b2 lo) hR) (HM.out y _ lo' m' w _ (Keeps.of_below b2 lo') hR')
        clear hb hrg hrg' hcs hds hR hR'
        go_wp2_with (first | (refine wpL_load rfl 52 _ rfl _ _ rfl _ HL1.out ?_) | (refine wpL_load rfl 52 _ rfl _ _ rfl _ HL2.out ?_) | (refine wpL_store rfl 52 _ _ rfl _ _ rfl _ rfl _ HS1.out ?_) | (refine wpL_store rfl 52 _ _ rfl _ _ rfl _ rfl _ HS2.out ?_) | fail)
        refine HCx.out.mono ?_
        rintro e w7 ⟨rfl, g7⟩
        have b7 : Below w.heap.size w w7 := b2.trans (g7.mono b2.size)
        clear g7 b2 HCx HL1 HL2 HS1 HS2
        cases q with
        | true =>
          go_wp2
          go_roundg (gk - 1)
          case measure => omega
          case rel =>
            refine ⟨n + 1, by omega, by simp, b7, ?_⟩
            intro j hj
            by_cases hjn : j = n
            · rw [hjn, hxn, hyn, eqB_true.1 Hq.out.symm]
            · exact HS.out j (by omega)
        | false =>
          go_wp2
          go_ret
          refine ⟨?_, b7⟩
          rw [HR.out, eqB_false (a := xs) (b := ys) (fun e => by
            rw [e] at hxn
            have hxy := Option.some.inj (hxn.symm.trans hyn)
            have := Hq.out
            rw [hxy, eqB_refl] at this
            cases this)]
          rfl
      · have i1 : ¬ ((n : Int) < (len : Int)) := by omega
        have HE : Hid (xs = ys) := by
          apply List.ext_getElem?
          intro j
          by_cases hj : j < n
          · exact HS.out j hj
          · have := HL.out; have := HLY.out
            rw [List.getElem?_eq_none (by omega), List.getElem?_eq_none (by omega)]
        go_wp2
        go_ret
        exact ⟨by rw [HR.out, HE.out, eqB_refl]; rfl, hb⟩
  · have i1 : ((xs.length : Nat) : Int) ≠ ((ys.length : Nat) : Int) := by omega
    rw [eqB_false (fun e => hlen (by rw [e]))]
    generalize xs.length = l1 at hl i1 hlen ⊢
    generalize ys.length = l2 at hl' i1 hlen ⊢
    go_enter Try.func24, Try.ntmps24
    go_wp2
    go_ret
    exact ⟨rfl, Below.refl _ _⟩


set_option maxRecDepth 10000 in
set_option maxHeartbeats 4000000 in
theorem i_arms_row (m m' : Nat) (B B' : Nat) (v v' : Value) (xs ys : List ArmT) (w : World) (lo lo' : Nat) (hv : RowIs w lo 6 (ArmIs w lo m) v xs) (hv' : RowIs w lo' 6 (ArmIs w lo' m') v' ys)
    (hB : (w.cell? ⟨B, 0, none⟩ = some (.func (.func 22) #[] #[.pointer (some ⟨B, 0, none⟩)]) ∧ w.cell? ⟨B', 0, none⟩ = some (.func (.func 25) #[] #[.pointer (some ⟨B, 0, none⟩), (.pointer (some ⟨B', 0, none⟩))])))
    (HC : Hid (∀ x cs y ds, x ∈ xs → y ∈ ys → ∀ (W : World), (W.cell? ⟨B, 0, none⟩ = some (.func (.func 22) #[] #[.pointer (some ⟨B, 0, none⟩)]) ∧ W.cell? ⟨B', 0, none⟩ = some (.func (.func 25) #[] #[.pointer (some ⟨B, 0, none⟩), (.pointer (some ⟨B', 0, none⟩))])) → (ArmIs W lo m) x cs → (ArmIs W lo' m') y ds → Calls Try.prog 25 #[.agg cs.toArray, .agg ds.toArray, .pointer (some ⟨B, 0, none⟩), (.pointer (some ⟨B', 0, none⟩))] W fun r w' => r = .returned (.bool (eqB x y)) ∧ Below W.heap.size W w'))
    (HM : Hid (∀ x cs (l n : Nat) (W W' : World), Keeps l W W' → (ArmIs W l n) x cs → (ArmIs W' l n) x cs)) :
    Calls Try.prog 27 #[v, v', .func (.func 25) #[] #[.pointer (some ⟨B, 0, none⟩), (.pointer (some ⟨B', 0, none⟩))]] w fun r w' => r = .returned (.bool (eqB xs ys)) ∧ Below w.heap.size w w' := by
  obtain ⟨a, cap, rfl, hl, hx⟩ := hv
  obtain ⟨a', cap', rfl, hl', hx'⟩ := hv'
  have HX : Hid (∀ j x, xs[j]? = some x → ∃ b o cs, a = some ⟨b, o, none⟩ ∧ lo ≤ b ∧ cs.length = 6 ∧ w.rangeAt b (o + j * 6) cs ∧ (ArmIs w lo m) x cs) := hx
  have HX' : Hid (∀ j x, ys[j]? = some x → ∃ b o cs, a' = some ⟨b, o, none⟩ ∧ lo' ≤ b ∧ cs.length = 6 ∧ w.rangeAt b (o + j * 6) cs ∧ (ArmIs w lo' m') x cs) := hx'
  have HBx : Hid ((w.cell? ⟨B, 0, none⟩ = some (.func (.func 22) #[] #[.pointer (some ⟨B, 0, none⟩)]) ∧ w.cell? ⟨B', 0, none⟩ = some (.func (.func 25) #[] #[.pointer (some ⟨B, 0, none⟩), (.pointer (some ⟨B', 0, none⟩))]))) := hB
  clear hx hx' hB
  by_cases hlen : xs.length = ys.length
  · rw [← hlen] at hl' ⊢
    have HLY : Hid (xs.length = ys.length) := hlen
    obtain ⟨len, HL⟩ : ∃ len, Hid (len = xs.length) := ⟨_, rfl⟩
    obtain ⟨RES, HR⟩ : ∃ r, Hid (r = eqB xs ys) := ⟨_, rfl⟩
    rw [← HL.out] at hl hl' ⊢
    rw [← HR.out]
    clear hl' hlen
    go_enter Try.func27, Try.ntmps27
    go_wp2
    go_loopg [17] len (fun g i wr => ∃ n : Nat, n + g = len ∧ i = .int .i64 n ∧ Below w.heap.size w wr ∧ Hid (∀ j, j < n → xs[j]? = ys[j]?))
    case atStart => exact ⟨0, by omega, rfl, Below.refl _ _, fun j hj => by omega⟩
    case round =>
      obtain ⟨n, hn, rfl, hb, HS⟩ := hrel
      by_cases hlt : n < len
      · have i1 : (n : Int) < (len : Int) := by omega
        have i3 : (0 : Int) ≤ (n : Int) := by omega
        obtain ⟨x, hxn⟩ : ∃ x, xs[n]? = some x := ⟨_, List.getElem?_eq_getElem (by have := HL.out; omega)⟩
        obtain ⟨y, hyn⟩ : ∃ y, ys[n]? = some y := ⟨_, List.getElem?_eq_getElem (by have := HL.out; have := HLY.out; omega)⟩
        obtain ⟨b, o, cs, rfl, _, hcs, hrg, hR⟩ := HX.out n x hxn
        obtain ⟨b', o', ds, rfl, _, hds, hrg', hR'⟩ := HX'.out n y hyn
        obtain ⟨x0, x1, x2, x3, x4, x5, rfl, p0, p1, p2, p3, p4, p5⟩ := hR.cells
        obtain ⟨y0, y1, y2, y3, y4, y5, rfl, q0, q1, q2, q3, q4, q5⟩ := hR'.cells
        have HB : Hid (Below w.heap.size w wr) := hb
        have HL1 : Hid ((loadVar 55 ⟨b, o + n * 6, none⟩).run Try.prog wr = .ok (.agg #[x0, x1, x2, x3, x4, x5]) wr) := run_loadVar_mid wr b (o + n * 6) 55 [x0, x1, x2, x3, x4, x5] _ (fun i c hi => (Keeps.of_below hb 0) _ _ _ (Nat.zero_le _) (hrg i c hi)) Try.underlying55 rfl (by kernel_rfl)
        have HL2 : Hid ((loadVar 55 ⟨b', o' + n * 6, none⟩).run Try.prog (wr.alloc (.cells #[x0, x1, x2, x3, x4, x5] 55)) = .ok (.agg #[y0, y1, y2, y3, y4, y5]) (wr.alloc (.cells #[x0, x1, x2, x3, x4, x5] 55))) := run_loadVar_mid _ b' (o' + n * 6) 55 [y0, y1, y2, y3, y4, y5] _ (fun i c hi => ((Keeps.of_below hb 0).trans (Keeps.alloc _ _)) _ _ _ (Nat.zero_le _) (hrg' i c hi)) Try.underlying55 rfl (by kernel_rfl)
        have HS1 : Hid ((storeVar 55 ⟨wr.heap.size, 0, none⟩ (.agg #[x0, x1, x2, x3, x4, x5])).run Try.prog (wr.alloc (.cells #[.int .i64 0, .int .i64 0, .slice none 0 0, .slice none 0 0, .slice none 0 0, .slice none 0 0] 55)) = .ok () (wr.alloc (.cells #[x0, x1, x2, x3, x4, x5] 55))) := run_storeVar_new wr 55 _ _ (by kernel_rfl) rfl (all_one [x0, x1, x2, x3, x4, x5] (mem6 p0 p1 p2 p3 p4 p5))
        have HS2 : Hid ((storeVar 55 ⟨wr.heap.size + 1, 0, none⟩ (.agg #[y0, y1, y2, y3, y4, y5])).run Try.prog ((wr.alloc (.cells #[x0, x1, x2, x3, x4, x5] 55)).alloc (.cells #[.int .i64 0, .int .i64 0, .slice none 0 0, .slice none 0 0, .slice none 0 0, .slice none 0 0] 55)) = .ok () ((wr.alloc (.cells #[x0, x1, x2, x3, x4, x5] 55)).alloc (.cells #[y0, y1, y2, y3, y4, y5] 55))) := by
          have := run_storeVar_new (P := Try.prog) (wr.alloc (.cells #[x0, x1, x2, x3, x4, x5] 55)) 55 #[.int .i64 0, .int .i64 0, .slice none 0 0, .slice none 0 0, .slice none 0 0, .slice none 0 0] #[y0, y1, y2, y3, y4, y5] (by kernel_rfl) rfl (all_one [y0, y1, y2, y3, y4, y5] (mem6 q0 q1 q2 q3 q4 q5))
          rwa [World.size_alloc] at this
        have b2 : Below w.heap.size w ((wr.alloc (.cells #[x0, x1, x2, x3, x4, x5] 55)).alloc (.cells #[y0, y1, y2, y3, y4, y5] 55)) := (hb.alloc hb.size _).alloc (by have := hb.size; simp; omega) _
        obtain ⟨q, Hq⟩ : ∃ q, Hid (q = eqB x y) := ⟨_, rfl⟩
        have HCx : Hid (Calls Try.prog 25 #[.agg #[x0, x1, x2, x3, x4, x5], .agg #[y0, y1, y2, y3, y4, y5], .pointer (some ⟨B, 0, none⟩), (.pointer (some ⟨B', 0, none⟩))] ((wr.alloc (.cells #[x0, x1, x2, x3, x4, x5] 55)).alloc (.cells #[y0, y1, y2, y3, y4, y5] 55)) fun r w' => r = .returned (.bool q) ∧ Below ((wr.alloc (.cells #[x0, x1, x2, x3, x4, x5] 55)).alloc (.cells #[y0, y1, y2, y3, y4, y5] 55)).heap.size ((wr.alloc (.cells #[x0, x1, x2, x3, x4, x5] 55)).alloc (.cells #[y0, y1, y2, y3, y4, y5] 55)) w') := by
          rw [Hq.out]
          exact HC.out x [x0, x1, x2, x3, x4, x5] y [y0, y1, y2, y3, y4, y5] (List.mem_of_getElem? hxn) (List.mem_of_getElem? hyn) _ ⟨(Keeps.of_below b2 0) _ _ _ (Nat.zero_le _) HBx.out.1, (Keeps.of_below b2 0) _ _ _ (Nat.zero_le _) HBx.out.2⟩ (HM.out x _ lo m w _ (Keeps.of_below b2 lo) hR) (HM.out y _ lo' m' w _ (Keeps.of_below b2 lo') hR')
        clear hb hrg hrg' hcs hds hR hR'
        go_wp2_with (first | (refine wpL_load rfl 55 _ rfl _ _ rfl _ HL1.out ?_) | (refine wpL_load rfl 55 _ rfl _ _ rfl _ HL2.out ?_) | (refine wpL_store rfl 55 _ _ rfl _ _ rfl _ rfl _ HS1.out ?_) | (refine wpL_store rfl 55 _ _ rfl _ _ rfl _ rfl _ HS2.out ?_) | fail)
        refine HCx.out.mono ?_
        rintro e w7 ⟨rfl, g7⟩
        have b7 : Below w.heap.size w w7 := b2.trans (g7.mono b2.size)
        clear g7 b2 HCx HL1 HL2 HS1 HS2
        cases q with
        | true =>
          go_wp2
          go_roundg (gk - 1)
          case measure => omega
          case rel =>
            refine ⟨n + 1, by omega, by simp, b7, ?_⟩
            intro j hj
            by_cases hjn : j = n
            · rw [hjn, hxn, hyn, eqB_true.1 Hq.out.symm]
            · exact HS.out j (by omega)
        | false =>
          go_wp2
          go_ret
          refine ⟨?_, b7⟩
          rw [HR.out, eqB_false (a := xs) (b := ys) (fun e => by
            rw [e] at hxn
            have hxy := Option.some.inj (hxn.symm.trans hyn)
            have := Hq.out
            rw [hxy, eqB_refl] at this
            cases this)]
          rfl
      · have i1 : ¬ ((n : Int) < (len : Int)) := by omega
        have HE : Hid (xs = ys) := by
          apply List.ext_getElem?
          intro j
          by_cases hj : j < n
          · exact HS.out j hj
          · have := HL.out; have := HLY.out
            rw [List.getElem?_eq_none (by omega), List.getElem?_eq_none (by omega)]
        go_wp2
        go_ret
        exact ⟨by rw [HR.out, HE.out, eqB_refl]; rfl, hb⟩
  · have i1 : ((xs.length : Nat) : Int) ≠ ((ys.length : Nat) : Int) := by omega
    rw [eqB_false (fun e => hlen (by rw [e]))]
    generalize xs.length = l1 at hl i1 hlen ⊢
    generalize ys.length = l2 at hl' i1 hlen ⊢
    go_enter Try.func27, Try.ntmps27
    go_wp2
    go_ret
    exact ⟨rfl, Below.refl _ _⟩

end Go.Proofs.Ytnlajncpkpljdaa
