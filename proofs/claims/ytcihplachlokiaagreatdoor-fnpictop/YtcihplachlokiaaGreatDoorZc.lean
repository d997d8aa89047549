/- The program's ListSame. -/
import Derived.Test.YtcihplachlokiaaGreatDoorGgM
import Derived.Test.YtcihplachlokiaaGreatDoorZaM
namespace Go.Proofs.YtcihplachlokiaaGreatDoor
open Go.RowKit
set_option linter.unusedVariables false

theorem InstIs.cells {W : World} {lo : Nat} {t : InstT} {cs : List Value} (h : InstIs W lo t cs) : ∃ n0 n1 n2, cs = [n0, n1, n2] ∧ n0.oneCell' = true ∧ n1.oneCell' = true ∧ n2.oneCell' = true := by
  obtain ⟨v, rfl, hr⟩ := h
  exact ⟨_, _, _, rfl, rfl, rfl, hr.one⟩
theorem mem3 {a b c : Value} (ha : a.oneCell' = true) (hb : b.oneCell' = true) (hc : c.oneCell' = true) : ∀ x ∈ [a, b, c], x.oneCell' = true := by
  intro x hx
  simp at hx
  rcases hx with rfl | rfl | rfl <;> assumption

set_option maxRecDepth 10000 in
set_option maxHeartbeats 2000000 in
theorem i_inst_step (k k' op op' : Int) (v v' : Value) (r0 : Bool) (p0 : v.oneCell' = true) (q0 : v'.oneCell' = true) (w : World)
    (HE : Hid (∀ W, Below w.heap.size w W → Calls Tryz.prog 50 #[.agg #[.int .i64 op, v], .agg #[.int .i64 op', v']] W fun r w' => r = .returned (.bool r0) ∧ Below W.heap.size W w')) :
    Calls Tryz.prog 28 #[.agg #[.int .i64 k, .int .i64 op, v], .agg #[.int .i64 k', .int .i64 op', v']] w fun r w' => r = .returned (.bool (decide (k = k') && r0)) ∧ Below w.heap.size w w' := by
  by_cases hk : k = k'
  · subst hk
    have b0 : Below w.heap.size w ((w.alloc (.cells #[.int .i64 k, .int .i64 op, v] 44)).alloc (.cells #[.int .i64 k, .int .i64 op', v'] 44)) := ((Below.refl _ _).alloc (Nat.le_refl _) _).alloc (by simp) _
    go_enter Tryz.func28, Tryz.ntmps28
    go_wp2_with fail
    refine (HE.out _ b0).mono ?_
    rintro e w1 ⟨rfl, g1⟩
    have b1 := b0.trans (g1.mono b0.size)
    clear g1 b0
    go_wp2
    go_ret
    exact ⟨by simp, b1⟩
  · rw [show decide (k = k') = false by simp [hk]]
    have b0 : Below w.heap.size w ((w.alloc (.cells #[.int .i64 k, .int .i64 op, v] 44)).alloc (.cells #[.int .i64 k', .int .i64 op', v'] 44)) := ((Below.refl _ _).alloc (Nat.le_refl _) _).alloc (by simp) _
    go_enter Tryz.func28, Tryz.ntmps28
    go_wp2
    go_ret
    exact ⟨by simp, b0⟩
theorem i_inst (i j : InstT) (cs ds : List Value) (w : World) (lo lo' : Nat) (hv : InstIs w lo i cs) (hv' : InstIs w lo' j ds) :
    Calls Tryz.prog 28 #[.agg cs.toArray, .agg ds.toArray] w fun r w' => r = .returned (.bool (eqB i j)) ∧ Below w.heap.size w w' := by
  obtain ⟨v, rfl, h⟩ := hv
  obtain ⟨v', rfl, h'⟩ := hv'
  rw [eqB_iff (instT_eq i j)]
  exact i_inst_step i.code j.code i.one.op j.one.op v v' _ h.one h'.one w (fun W g => i_elem i.one j.one _ _ W lo lo' ⟨v, rfl, argsIs_move (Keeps.of_below g lo) (Nat.le_refl _) h⟩ ⟨v', rfl, argsIs_move (Keeps.of_below g lo') (Nat.le_refl _) h'⟩)


set_option maxRecDepth 10000 in
set_option maxHeartbeats 4000000 in
theorem i_insts_row (v v' : Value) (xs ys : List InstT) (w : World) (lo lo' : Nat) (hv : RowIs w lo 3 (InstIs w lo) v xs) (hv' : RowIs w lo' 3 (InstIs w lo') v' ys)
    
    (HC : Hid (∀ x cs y ds, x ∈ xs → y ∈ ys → ∀ (W : World), (InstIs W lo) x cs → (InstIs W lo') y ds → Calls Tryz.prog 28 #[.agg cs.toArray, .agg ds.toArray] W fun r w' => r = .returned (.bool (eqB x y)) ∧ Below W.heap.size W w'))
    (HM : Hid (∀ x cs (l n : Nat) (W W' : World), Keeps l W W' → (InstIs W l) x cs → (InstIs W' l) x cs)) :
    Calls Tryz.prog 27 #[v, v', .func (.func 28) #[] #[]] w fun r w' => r = .returned (.bool (eqB xs ys)) ∧ Below w.heap.size w w' := by
  obtain ⟨a, cap, rfl, hl, hx⟩ := hv
  obtain ⟨a', cap', rfl, hl', hx'⟩ := hv'
  have HX : Hid (∀ j x, xs[j]? = some x → ∃ b o cs, a = some ⟨b, o, none⟩ ∧ lo ≤ b ∧ cs.length = 3 ∧ w.rangeAt b (o + j * 3) cs ∧ (InstIs w lo) x cs) := hx
  have HX' : Hid (∀ j x, ys[j]? = some x → ∃ b o cs, a' = some ⟨b, o, none⟩ ∧ lo' ≤ b ∧ cs.length = 3 ∧ w.rangeAt b (o + j * 3) cs ∧ (InstIs w lo') x cs) := hx'
  
  clear hx hx'
  by_cases hlen : xs.length = ys.length
  · rw [← hlen] at hl' ⊢
    have HLY : Hid (xs.length = ys.length) := hlen
    obtain ⟨len, HL⟩ : ∃ len, Hid (len = xs.length) := ⟨_, rfl⟩
    obtain ⟨RES, HR⟩ : ∃ r, Hid (r = eqB xs ys) := ⟨_, rfl⟩
    rw [← HL.out] at hl hl' ⊢
    rw [← HR.out]
    clear hl' hlen
    go_enter Tryz.func27, Tryz.ntmps27
    go_wp2
    go_loopg [17] len (fun g i wr => ∃ n : Nat, n + g = len ∧ i = .int .i64 n ∧ Below w.heap.size w wr ∧ Hid (∀ j, j < n → xs[j]? = ys[j]?))
    case atStart => exact ⟨0, by omega, rfl, Below.refl _ _, fun j hj => by omega⟩
    case round =>
      obtain ⟨n, hn, rfl, hb, HS⟩ := hrel
      by_cases hlt : n < len
      · have i1 : (n : Int) < (len : Int) := by omega
        have i3 : (0 : Int) ≤ (n : Int) := by omega
        obtain ⟨x, hxn⟩ : ∃ x, xs[n]? = some x := ⟨_, List.getElem?_eq_getElem (by have := HL.out; omega)⟩
        obtain ⟨y, hyn⟩ : ∃ y, ys[n]? = some y := ⟨_, List.getElem?_eq_getElem (by have := HL.out; have := HLY.out; omega)⟩
        obtain ⟨b, o, cs, rfl, _, hcs, hrg, hR⟩ := HX.out n x hxn
        obtain ⟨b', o', ds, rfl, _, hds, hrg', hR'⟩ := HX'.out n y hyn
        obtain ⟨x0, x1, x2, rfl, p0, p1, p2⟩ := hR.cells
        obtain ⟨y0, y1, y2, rfl, q0, q1, q2⟩ := hR'.cells
        have HB : Hid (Below w.heap.size w wr) := hb
        have HL1 : Hid ((loadVar 44 ⟨b, o + n * 3, none⟩).run Tryz.prog wr = .ok (.agg #[x0, x1, x2]) wr) := run_loadVar_mid wr b (o + n * 3) 44 [x0, x1, x2] _ (fun i c hi => (Keeps.of_below hb 0) _ _ _ (Nat.zero_le _) (hrg i c hi)) Tryz.underlying44 rfl (by kernel_rfl)
        have HL2 : Hid ((loadVar 44 ⟨b', o' + n * 3, none⟩).run Tryz.prog (wr.alloc (.cells #[x0, x1, x2] 44)) = .ok (.agg #[y0, y1, y2]) (wr.alloc (.cells #[x0, x1, x2] 44))) := run_loadVar_mid _ b' (o' + n * 3) 44 [y0, y1, y2] _ (fun i c hi => ((Keeps.of_below hb 0).trans (Keeps.alloc _ _)) _ _ _ (Nat.zero_le _) (hrg' i c hi)) Tryz.underlying44 rfl (by kernel_rfl)
        have HS1 : Hid ((storeVar 44 ⟨wr.heap.size, 0, none⟩ (.agg #[x0, x1, x2])).run Tryz.prog (wr.alloc (.cells #[.int .i64 0, .int .i64 0, .slice none 0 0] 44)) = .ok () (wr.alloc (.cells #[x0, x1, x2] 44))) := run_storeVar_new wr 44 _ _ (by kernel_rfl) rfl (all_one [x0, x1, x2] (mem3 p0 p1 p2))
        have HS2 : Hid ((storeVar 44 ⟨wr.heap.size + 1, 0, none⟩ (.agg #[y0, y1, y2])).run Tryz.prog ((wr.alloc (.cells #[x0, x1, x2] 44)).alloc (.cells #[.int .i64 0, .int .i64 0, .slice none 0 0] 44)) = .ok () ((wr.alloc (.cells #[x0, x1, x2] 44)).alloc (.cells #[y0, y1, y2] 44))) := by
          have := run_storeVar_new (P := Tryz.prog) (wr.alloc (.cells #[x0, x1, x2] 44)) 44 #[.int .i64 0, .int .i64 0, .slice none 0 0] #[y0, y1, y2] (by kernel_rfl) rfl (all_one [y0, y1, y2] (mem3 q0 q1 q2))
          rwa [World.size_alloc] at this
        have b2 : Below w.heap.size w ((wr.alloc (.cells #[x0, x1, x2] 44)).alloc (.cells #[y0, y1, y2] 44)) := (hb.alloc hb.size _).alloc (by have := hb.size; simp; omega) _
        obtain ⟨q, Hq⟩ : ∃ q, Hid (q = eqB x y) := ⟨_, rfl⟩
        have HCx : Hid (Calls Tryz.prog 28 #[.agg #[x0, x1, x2], .agg #[y0, y1, y2]] ((wr.alloc (.cells #[x0, x1, x2] 44)).alloc (.cells #[y0, y1, y2] 44)) fun r w' => r = .returned (.bool q) ∧ Below ((wr.alloc (.cells #[x0, x1, x2] 44)).alloc (.cells #[y0, y1, y2] 44)).heap.size ((wr.alloc (.cells #[x0, x1, x2] 44)).alloc (.cells #[y0, y1, y2] 44)) w') := by
          rw [Hq.out]
          exact HC.out x [x0, x1, x2] y [y0, y1, y2] (List.mem_of_getElem? hxn) (List.mem_of_getElem? hyn) _  (HM.out x _ lo 0 w _ (Keeps.of_below b2 lo) hR) (HM.out y _ lo' 0 w _ (Keeps.of_below b2 lo') hR')
        clear hb hrg hrg' hcs hds hR hR'
        go_wp2_with (first | (refine wpL_load rfl 44 _ rfl _ _ rfl _ HL1.out ?_) | (refine wpL_load rfl 44 _ rfl _ _ rfl _ HL2.out ?_) | (refine wpL_store rfl 44 _ _ rfl _ _ rfl _ rfl _ HS1.out ?_) | (refine wpL_store rfl 44 _ _ rfl _ _ rfl _ rfl _ HS2.out ?_) | fail)
        refine HCx.out.mono ?_
        rintro e w7 ⟨rfl, g7⟩
        have b7 : Below w.heap.size w w7 := b2.trans (g7.mono b2.size)
        clear g7 b2 HCx HL1 HL2 HS1 HS2
        cases q with
        | true =>
          go_wp2
          go_roundg (gk - 1)
          case measure => omega
          case rel =>
            refine ⟨n + 1, by omega, by simp, b7, ?_⟩
            intro j hj
            by_cases hjn : j = n
            · rw [hjn, hxn, hyn, eqB_true.1 Hq.out.symm]
            · exact HS.out j (by omega)
        | false =>
          go_wp2
          go_ret
          refine ⟨?_, b7⟩
          rw [HR.out, eqB_false (a := xs) (b := ys) (fun e => by
            rw [e] at hxn
            have hxy := Option.some.inj (hxn.symm.trans hyn)
            have := Hq.out
            rw [hxy, eqB_refl] at this
            cases this)]
          rfl
      · have i1 : ¬ ((n : Int) < (len : Int)) := by omega
        have HE : Hid (xs = ys) := by
          apply List.ext_getElem?
          intro j
          by_cases hj : j < n
          · exact HS.out j hj
          · have := HL.out; have := HLY.out
            rw [List.getElem?_eq_none (by omega), List.getElem?_eq_none (by omega)]
        go_wp2
        go_ret
        exact ⟨by rw [HR.out, HE.out, eqB_refl]; rfl, hb⟩
  · have i1 : ((xs.length : Nat) : Int) ≠ ((ys.length : Nat) : Int) := by omega
    rw [eqB_false (fun e => hlen (by rw [e]))]
    generalize xs.length = l1 at hl i1 hlen ⊢
    generalize ys.length = l2 at hl' i1 hlen ⊢
    go_enter Tryz.func27, Tryz.ntmps27
    go_wp2
    go_ret
    exact ⟨rfl, Below.refl _ _⟩


set_option maxHeartbeats 1000000 in
theorem i_listsame (v v' : Value) (xs ys : List InstT) (w : World) (lo lo' : Nat) (hv : InstsIs w lo v xs) (hv' : InstsIs w lo' v' ys) :
    Calls Tryz.prog 8 #[v, v'] w fun r w' => r = .returned (.bool (eqB xs ys)) ∧ Below w.heap.size w w' := by
  have H : Hid (Calls Tryz.prog 27 #[v, v', .func (.func 28) #[] #[]] w fun r w' => r = .returned (.bool (eqB xs ys)) ∧ Below w.heap.size w w') := i_insts_row v v' xs ys w lo lo' hv hv' (fun x cs y ds _ _ W h h' => i_inst x y cs ds W lo lo' h h') (fun x cs l n W W' k h => h.move k (Nat.le_refl _))
  generalize eqB xs ys = R at H ⊢
  clear hv hv'
  go_enter Tryz.func8, Tryz.ntmps8
  go_wp2_with fail
  refine H.out.mono ?_
  rintro e w1 ⟨rfl, g1⟩
  go_wp2
  go_ret
  exact ⟨rfl, g1⟩
end Go.Proofs.YtcihplachlokiaaGreatDoor