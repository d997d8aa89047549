/- Instructions in the memory: sizes, copies, comparison. -/
import Derived.Test.YtcihplachlokiaaDoorGeM
namespace Go.Proofs.YtcihplachlokiaaDoor
open Go.RowKit
set_option linter.unusedVariables false

structure InstT where
  code : Int
  one : ElemT
def InstIs (W : World) (lo : Nat) (i : InstT) (cs : List Value) : Prop := ∃ v, cs = [.int .i64 i.code, .int .i64 i.one.op, v] ∧ RowIs W lo 3 ArgIs v i.one.args
theorem InstIs.move {W W' : World} {lo lo' : Nat} (k : Keeps lo W W') (hl : lo' ≤ lo) {e : InstT} {cs : List Value} (h : InstIs W lo e cs) : InstIs W' lo' e cs := by
  obtain ⟨v, hc, hr⟩ := h
  exact ⟨v, hc, hr.move k hl fun _ _ _ h => h⟩
abbrev InstsIs (W : World) (lo : Nat) (v : Value) (xs : List InstT) : Prop := RowIs W lo 3 (InstIs W lo) v xs
theorem instsIs_move {W W' : World} {lo lo' : Nat} (k : Keeps lo W W') (hl : lo' ≤ lo) {v : Value} {xs : List InstT} (h : InstsIs W lo v xs) : InstsIs W' lo' v xs := h.move k hl fun _ _ _ h => h.move k hl
def wI (i : InstT) : Nat := wE i.one
theorem instT_eq (i j : InstT) : (decide (i.code = j.code) && eqB i.one j.one) = true ↔ i = j := by
  rw [Bool.and_eq_true, decide_eq_true_iff, eqB_true]
  cases i; cases j; simp

set_option maxRecDepth 10000 in
set_option maxHeartbeats 2000000 in
theorem sz_inst_step (left : Int) (p : Nat) (k op : Int) (v : Value) (s1 : v.oneCell' = true) (w : World)
    (HE : Hid (∀ W, Below w.heap.size w W → Calls Tryd.prog 55 #[.agg #[.int .i64 op, v], .int .i64 left] W fun r w' => r = .returned (.int .i64 (szR left p)) ∧ Below W.heap.size W w')) :
    Calls Tryd.prog 32 #[.agg #[.int .i64 k, .int .i64 op, v], .int .i64 left] w fun r w' => r = .returned (.int .i64 (szR left p)) ∧ Below w.heap.size w w' := by
  have b0 : Below w.heap.size w (w.alloc (.cells #[.int .i64 k, .int .i64 op, v] 68)) := (Below.refl _ _).alloc (Nat.le_refl _) _
  have hc := szR_cases left p
  generalize szR left p = R at HE hc ⊢
  go_enter Tryd.func32, Tryd.ntmps32
  go_wp2_with fail
  refine (HE.out _ b0).mono ?_
  rintro r w1 ⟨rfl, g1⟩
  have b1 := b0.trans (g1.mono b0.size)
  clear g1 b0
  rcases hc with h | rfl
  · have i2 : ¬ (R < 0) := by omega
    go_wp2
    go_ret
    exact ⟨rfl, b1⟩
  · go_wp2
    go_ret
    exact ⟨rfl, b1⟩
theorem sz_inst (left : Int) (h0 : 0 ≤ left) (h1 : left ≤ 1048576) (i : InstT) (cs : List Value) (w : World) (lo : Nat) (hv : InstIs w lo i cs) :
    Calls Tryd.prog 32 #[.agg cs.toArray, .int .i64 left] w fun r w' => r = .returned (.int .i64 (szR left (wI i))) ∧ Below w.heap.size w w' := by
  obtain ⟨v, rfl, ha⟩ := hv
  exact sz_inst_step left (wI i) i.code i.one.op v ha.one w (fun W g => sz_elem left h0 h1 i.one _ W lo ⟨v, rfl, argsIs_move (Keeps.of_below g lo) (Nat.le_refl _) ha⟩)


set_option maxRecDepth 10000 in
set_option maxHeartbeats 2000000 in
theorem sz_insts_row (left : Int) (h0 : 0 ≤ left) (h1 : left ≤ 1048576) (v : Value) (xs : List InstT) (w : World) (lo : Nat) (hv : RowIs w lo 3 (InstIs w lo) v xs)
    (HC : Hid (∀ x cs, x ∈ xs → ∀ (l : Int) (W : World), 0 ≤ l → l ≤ 1048576 → (InstIs W lo) x cs → Calls Tryd.prog 32 #[.agg cs.toArray, .int .i64 l] W fun r w' => r = .returned (.int .i64 (szR l (wI x))) ∧ Below W.heap.size W w'))
    (HM : Hid (∀ x cs (W : World), Below w.heap.size w W → (InstIs w lo) x cs → (InstIs W lo) x cs)) :
    Calls Tryd.prog 9 #[v, .int .i64 left] w fun r w' => r = .returned (.int .i64 (szR left (xs.length + (xs.map (wI)).sum))) ∧ Below w.heap.size w w' := by
  obtain ⟨a, cap, rfl, hl, hx⟩ := hv
  have HX : Hid (∀ j x, xs[j]? = some x → ∃ b o cs, a = some ⟨b, o, none⟩ ∧ lo ≤ b ∧ cs.length = 3 ∧ w.rangeAt b (o + j * 3) cs ∧ (InstIs w lo) x cs) := hx
  have HTot : Hid (∀ n, ((xs.take n).map (wI)).sum ≤ (xs.map (wI)).sum) := fun n => sum_take_le _ _ _
  obtain ⟨len, HL⟩ : ∃ len, Hid (len = xs.length) := ⟨_, rfl⟩
  obtain ⟨tot, HT⟩ : ∃ t, Hid (t = (xs.map (wI)).sum) := ⟨_, rfl⟩
  rw [← HL.out] at hl ⊢
  rw [← HT.out] at HTot ⊢
  clear hx
  by_cases h : (len : Int) ≤ left
  · have i1 : ¬ (left - (len : Int) < 0) := by omega
    go_enter Tryd.func9, Tryd.ntmps9
    go_wp2
    go_loopg [1, 5] len (fun g l i wr => ∃ n S : Nat, n + g = len ∧ i = .int .i64 n ∧ l = .int .i64 (left - len - S) ∧ Hid (S = ((xs.take n).map (wI)).sum) ∧ (S : Int) ≤ left - len ∧ Below w.heap.size w wr)
    case atStart => exact ⟨0, 0, by omega, rfl, by simp, (by simp : (0 : Nat) = ((xs.take 0).map (wI)).sum), by omega, Below.refl _ _⟩
    case round =>
      obtain ⟨n, S, hn, rfl, rfl, HS, hS, hb⟩ := hrel
      by_cases hlt : n < len
      · have i2 : (n : Int) < (len : Int) := by omega
        have i3 : (0 : Int) ≤ (n : Int) := by omega
        obtain ⟨x, hxn⟩ : ∃ x, xs[n]? = some x := ⟨_, List.getElem?_eq_getElem (by have := HL.out; omega)⟩
        obtain ⟨b, o, cs, rfl, hlo, hcs, hrg, hR⟩ := HX.out n x hxn
        have HB : Hid (Below w.heap.size w wr) := hb
        have HLd : Hid ((loadVar 68 ⟨b, o + n * 3, none⟩).run Tryd.prog wr = .ok (.agg cs.toArray) wr) := run_loadVar_mid wr b (o + n * 3) 68 cs _ (fun i c hi => (Keeps.of_below hb 0) _ _ _ (Nat.zero_le _) (hrg i c hi)) Tryd.underlying68 rfl (by rw [hcs]; kernel_rfl)
        have HCx : Hid (Calls Tryd.prog 32 #[.agg cs.toArray, .int .i64 (left - len - S)] wr fun r w' => r = .returned (.int .i64 (szR (left - len - S) (wI x))) ∧ Below wr.heap.size wr w') := HC.out x cs (List.mem_of_getElem? hxn) _ wr (by omega) (by omega) (HM.out x cs wr hb hR)
        have HS' : Hid (S + wI x = ((xs.take (n + 1)).map (wI)).sum) := (by rw [sum_take _ _ _ _ hxn, HS.out] : S + wI x = ((xs.take (n + 1)).map (wI)).sum)
        obtain ⟨q, Hq⟩ : ∃ q, Hid (q = wI x) := ⟨_, rfl⟩
        rw [← Hq.out] at HCx HS'
        have htq : S + q ≤ tot := by rw [HS'.out]; exact HTot.out _
        clear hb hrg hcs hR HS hlo
        by_cases hq : (q : Int) ≤ left - len - S
        · rw [szR_yes hq] at HCx
          have i4 : ¬ (left - (len : Int) - S - q < 0) := by omega
          go_wp2_with (first | (refine wpL_load rfl 68 _ rfl _ _ rfl _ HLd.out ?_) | fail)
          refine HCx.out.mono ?_
          rintro r w1 ⟨rfl, g1⟩
          have b1 : Below w.heap.size w w1 := HB.out.trans (g1.mono HB.out.size)
          clear g1 HCx HLd
          go_wp2
          go_roundg (gk - 1)
          case measure => omega
          case rel => exact ⟨n + 1, S + q, by omega, by simp, congrArg (Value.int .i64) (by omega), HS', by omega, b1⟩
        · rw [szR_no hq] at HCx
          go_wp2_with (first | (refine wpL_load rfl 68 _ rfl _ _ rfl _ HLd.out ?_) | fail)
          refine HCx.out.mono ?_
          rintro r w1 ⟨rfl, g1⟩
          have b1 : Below w.heap.size w w1 := HB.out.trans (g1.mono HB.out.size)
          clear g1 HCx HLd
          go_wp2
          go_ret
          exact ⟨by rw [szR_no (by omega)]; rfl, b1⟩
      · have i2 : ¬ ((n : Int) < (len : Int)) := by omega
        have hSt : S = tot := by rw [HS.out, HT.out, List.take_of_length_le (by have := HL.out; omega)]
        go_wp2
        go_ret
        exact ⟨by rw [szR_yes (by omega)]; exact congrArg (fun z => Ending.returned (Value.int .i64 z)) (by omega), hb⟩
  · rw [szR_no (by omega)]
    have i1 : left - (len : Int) < 0 := by omega
    go_enter Tryd.func9, Tryd.ntmps9
    go_wp2
    go_ret
    exact ⟨rfl, Below.refl _ _⟩


theorem sz_insts (left : Int) (h0 : 0 ≤ left) (h1 : left ≤ 1048576) (v : Value) (xs : List InstT) (w : World) (lo : Nat) (hv : InstsIs w lo v xs) :
    Calls Tryd.prog 9 #[v, .int .i64 left] w fun r w' => r = .returned (.int .i64 (szR left (xs.length + (xs.map wI).sum))) ∧ Below w.heap.size w w' :=
  sz_insts_row left h0 h1 v xs w lo hv (fun x cs _ l W a b h => sz_inst l a b x cs W lo h) (fun x cs W g h => h.move (Keeps.of_below g lo) (Nat.le_refl _))

set_option maxRecDepth 10000 in
set_option maxHeartbeats 2000000 in
theorem to_inst_step (e : ElemT) (k : Int) (v : Value) (s1 : v.oneCell' = true) (w : World)
    (HE : Hid (∀ W, Below w.heap.size w W → Calls Tryd.prog 58 #[.agg #[.int .i64 e.op, v]] W fun r w' => ∃ ds : List Value, r = .returned (.agg ds.toArray) ∧ ds.length = 2 ∧ (∀ d ∈ ds, d.oneCell' = true) ∧ ElemIs w' W.heap.size e ds ∧ Below W.heap.size W w')) :
    Calls Tryd.prog 36 #[.agg #[.int .i64 k, .int .i64 e.op, v]] w fun r w' => ∃ ds : List Value, r = .returned (.agg ds.toArray) ∧ ds.length = 3 ∧ (∀ d ∈ ds, d.oneCell' = true) ∧ InstIs w' w.heap.size ⟨k, e⟩ ds ∧ Below w.heap.size w w' := by
  obtain ⟨op, Hop⟩ : ∃ op, Hid (op = e.op) := ⟨_, rfl⟩
  rw [← Hop.out] at HE ⊢
  go_enter Tryd.func36, Tryd.ntmps36
  go_wp2_with fail
  have b0 : Below w.heap.size w (((w.alloc (.cells #[.int .i64 k, .int .i64 op, v] 68)).alloc (.cells #[.int .i64 0, .int .i64 0, .slice none 0 0] 56)).alloc (.cells #[.int .i64 k, .int .i64 0, .slice none 0 0] 56)) := (((Below.refl _ _).alloc (Nat.le_refl _) _).alloc (by simp) _).alloc (by simp <;> omega) _
  have hk := rows3 w (.cells #[.int .i64 k, .int .i64 op, v] 68) (.cells #[.int .i64 0, .int .i64 0, .slice none 0 0] 56) (.cells #[.int .i64 k, .int .i64 0, .slice none 0 0] 56)
  have hz : (((w.alloc (.cells #[.int .i64 k, .int .i64 op, v] 68)).alloc (.cells #[.int .i64 0, .int .i64 0, .slice none 0 0] 56)).alloc (.cells #[.int .i64 k, .int .i64 0, .slice none 0 0] 56)).heap.size = w.heap.size + 1 + 1 + 1 := by simp
  generalize (((w.alloc (.cells #[.int .i64 k, .int .i64 op, v] 68)).alloc (.cells #[.int .i64 0, .int .i64 0, .slice none 0 0] 56)).alloc (.cells #[.int .i64 k, .int .i64 0, .slice none 0 0] 56)) = W0 at b0 hk hz ⊢
  refine (HE.out W0 b0).mono ?_
  rintro r w1 ⟨ds, rfl, hds, hone, ⟨v1, rfl, hv1⟩, g1⟩
  rw [← Hop.out] at hone ⊢
  have c1 := (g1.block _ (by omega)).trans hk.2.1
  have c2 := (g1.block _ (by omega)).trans hk.2.2
  have b1 := b0.trans (g1.mono b0.size)
  have HST : Hid ((storeVar 54 ⟨w.heap.size + 1 + 1, 1, none⟩ (.agg #[.int .i64 op, v1])).run Tryd.prog w1 = .ok () (w1.setRow (w.heap.size + 1 + 1) #[.int .i64 k, .int .i64 op, v1])) := store_sub (P := Tryd.prog) c2 54 1 #[.int .i64 op, v1] (by simp) (by kernel_rfl) (all_one [.int .i64 op, v1] hone)
  have s2 := hv1.one
  have HO : Hid (∀ d ∈ [Value.int .i64 k, .int .i64 op, v1], d.oneCell' = true) := by
    intro d hd
    simp at hd
    rcases hd with rfl | rfl | rfl
    · rfl
    · rfl
    · exact s2
  obtain ⟨W2, HW2⟩ : ∃ W, Hid (W = w1.setRow (w.heap.size + 1 + 1) #[.int .i64 k, .int .i64 op, v1]) := ⟨_, rfl⟩
  have d1 : W2.heap[w.heap.size + 1]? = some (.cells #[.int .i64 0, .int .i64 0, .slice none 0 0] 56 (0, 0)) := by rw [HW2.out]; exact row_beside c1 _ (by omega) _
  have d2 : W2.heap[w.heap.size + 1 + 1]? = some (.cells #[.int .i64 k, .int .i64 op, v1] 56 (0, 0)) := by rw [HW2.out]; exact row_set c2 _
  have b2 : Below w.heap.size w W2 := by rw [HW2.out]; exact below_setRow b1 (by omega) _
  have k2 : ArgsIs W2 (w.heap.size + 1 + 1 + 1) v1 e.args := by rw [HW2.out]; exact argsIs_move (keeps_row (by omega)) (by omega) hv1
  have HLD : Hid ((loadVar 56 ⟨w.heap.size + 1 + 1, 0, none⟩).run Tryd.prog W2 = .ok (.agg #[.int .i64 k, .int .i64 op, v1]) W2) := load_all d2 _ _ Tryd.underlying56 rfl (by kernel_rfl)
  have HS2 : Hid ((storeVar 56 ⟨w.heap.size + 1, 0, none⟩ (.agg #[.int .i64 k, .int .i64 op, v1])).run Tryd.prog W2 = .ok () (W2.setRow (w.heap.size + 1) #[.int .i64 k, .int .i64 op, v1])) := store_all d1 56 _ rfl (by kernel_rfl) (all_one [.int .i64 k, .int .i64 op, v1] HO.out)
  have HR : Hid ((W2.setRow (w.heap.size + 1) #[.int .i64 k, .int .i64 op, v1]).heap[w.heap.size + 1]? = some (.cells #[.int .i64 k, .int .i64 op, v1] 56 (0, 0))) := row_set d1 _
  have HB : Hid (Below w.heap.size w (W2.setRow (w.heap.size + 1) #[.int .i64 k, .int .i64 op, v1])) := below_setRow b2 (by omega) _
  have HK : Hid (ArgsIs (W2.setRow (w.heap.size + 1) #[.int .i64 k, .int .i64 op, v1]) w.heap.size v1 e.args) := argsIs_move (keeps_row (by omega)) (by omega) k2
  rw [← HW2.out] at HST
  clear HW2 g1 b0 hk hz c1 c2 b1 hv1 k2 d1 d2 b2 HE hone hds
  go_wp2_with (first | (refine wpL_store rfl 54 _ _ rfl _ _ rfl _ rfl _ HST.out ?_) | (refine wpL_load rfl 56 _ rfl _ _ rfl _ HLD.out ?_) | (refine wpL_store rfl 56 _ _ rfl _ _ rfl _ rfl _ HS2.out ?_) | (refine ret_row rfl rfl HR.out Tryd.underlying56 rfl (by kernel_rfl) rfl ?_) | fail)
  exact ⟨[.int .i64 k, .int .i64 op, v1], rfl, rfl, HO.out, ⟨v1, by rw [Hop.out], HK.out⟩, HB.out⟩
theorem to_inst (i : InstT) (cs : List Value) (w : World) (lo : Nat) (hv : InstIs w lo i cs) (hbig : wI i ≤ 1048576) :
    Calls Tryd.prog 36 #[.agg cs.toArray] w fun r w' => ∃ ds : List Value, r = .returned (.agg ds.toArray) ∧ ds.length = 3 ∧ (∀ d ∈ ds, d.oneCell' = true) ∧ InstIs w' w.heap.size i ds ∧ Below w.heap.size w w' := by
  obtain ⟨v, rfl, ha⟩ := hv
  exact to_inst_step i.one i.code v ha.one w (fun W g => to_elem i.one _ W lo ⟨v, rfl, argsIs_move (Keeps.of_below g lo) (Nat.le_refl _) ha⟩ hbig)


theorem make_Inst (n : Nat) (hn : n ≤ 1048576) (w : World) :
    (Instr.makeSlice 24 (.int .i64 (n : Int)) (.int .i64 (n : Int))).run Tryd.prog w = .ok (.slice (some ⟨w.heap.size, 0, none⟩) n n) (w.alloc (.cells (madeCells #[.int .i64 0, .int .i64 0, .slice none 0 0] (n * 3)) 56)) := by
  have hinfo : (Tryd.prog.info? 56).map (fun i => (i.zero, i.size, i.bytes)) = some (some (.agg #[.int .i64 0, .int .i64 0, .slice none 0 0]), 3, 40) := by kernel_rfl
  obtain ⟨i, hi, hzz⟩ := Option.map_eq_some_iff.1 hinfo
  simp only [Prod.mk.injEq] at hzz
  obtain ⟨hz, hs, hb⟩ := hzz
  have hr := run_make (P := Tryd.prog) w 24 56 i _ Tryd.underlying24 hi hz .i64 .i64 n n (by omega) (Int.le_refl _) (by rw [hb]; omega) (by omega)
  simp only [Int.toNat_natCast, hs] at hr
  exact hr

set_option maxRecDepth 10000 in
set_option maxHeartbeats 2000000 in
theorem to_insts_row (v : Value) (xs : List InstT) (w : World) (lo : Nat) (hv : RowIs w lo 3 (InstIs w lo) v xs) (hbig : xs.length ≤ 1048576)
    (HC : Hid (∀ x cs, x ∈ xs → ∀ (W : World), (InstIs W lo) x cs → Calls Tryd.prog 36 #[.agg cs.toArray] W fun r w' => ∃ ds : List Value, r = .returned (.agg ds.toArray) ∧ ds.length = 3 ∧ (∀ d ∈ ds, d.oneCell' = true) ∧ (InstIs w' W.heap.size) x ds ∧ Below W.heap.size W w'))
    (HM : Hid (∀ x cs (l l' : Nat) (W W' : World), Keeps l W W' → l' ≤ l → (InstIs W l) x cs → (InstIs W' l') x cs)) :
    Calls Tryd.prog 11 #[v] w fun r w' => ∃ v', r = .returned v' ∧ RowIs w' w.heap.size 3 (InstIs w' w.heap.size) v' xs ∧ Below w.heap.size w w' := by
  obtain ⟨a, cap, rfl, hl, hx⟩ := hv
  have HX : Hid (∀ j x, xs[j]? = some x → ∃ b o cs, a = some ⟨b, o, none⟩ ∧ lo ≤ b ∧ cs.length = 3 ∧ w.rangeAt b (o + j * 3) cs ∧ (InstIs w lo) x cs) := hx
  have hmk := make_Inst xs.length hbig
  obtain ⟨len, HL⟩ : ∃ len, Hid (len = xs.length) := ⟨_, rfl⟩
  rw [← HL.out] at hl hmk hbig ⊢
  clear hx
  go_enter Tryd.func11, Tryd.ntmps11
  go_wp2
  go_loopg [4] len (fun g i wr => ∃ n : Nat, n + g = len ∧ i = .int .i64 n ∧ Below w.heap.size w wr ∧ ∃ C : Array Value, wr.heap[w.heap.size]? = some (.cells C 56 (0, 0)) ∧ C.size = len * 3 ∧ Hid (∀ j x, j < n → xs[j]? = some x → ∃ ds : List Value, ds.length = 3 ∧ (∀ i d, ds[i]? = some d → C[j * 3 + i]? = some d) ∧ (InstIs wr (w.heap.size + 1)) x ds))
  case atStart => exact ⟨0, by omega, rfl, (Below.refl _ _).alloc (Nat.le_refl _) _, _, heap_alloc_last w _, size_madeCells _ _, fun j x hj => by omega⟩
  case round =>
    obtain ⟨n, hn, rfl, hb, C, hC, hs, HS⟩ := hrel
    by_cases hlt : n < len
    · have i1 : (n : Int) < (len : Int) := by omega
      have i3 : (0 : Int) ≤ (n : Int) := by omega
      obtain ⟨x, hxn⟩ : ∃ x, xs[n]? = some x := ⟨_, List.getElem?_eq_getElem (by have := HL.out; omega)⟩
      obtain ⟨b, o, cs, rfl, hlo, hcs, hrg, hR⟩ := HX.out n x hxn
      have HB : Hid (Below w.heap.size w wr) := hb
      have HCr : Hid (wr.heap[w.heap.size]? = some (.cells C 56 (0, 0))) := hC
      have HLd : Hid ((loadVar 68 ⟨b, o + n * 3, none⟩).run Tryd.prog wr = .ok (.agg cs.toArray) wr) := run_loadVar_mid wr b (o + n * 3) 68 cs _ (fun i c hi => (Keeps.of_below hb 0) _ _ _ (Nat.zero_le _) (hrg i c hi)) Tryd.underlying68 rfl (by rw [hcs]; kernel_rfl)
      have HCx : Hid (Calls Tryd.prog 36 #[.agg cs.toArray] wr fun r w' => ∃ ds : List Value, r = .returned (.agg ds.toArray) ∧ ds.length = 3 ∧ (∀ d ∈ ds, d.oneCell' = true) ∧ (InstIs w' wr.heap.size) x ds ∧ Below wr.heap.size wr w') := HC.out x cs (List.mem_of_getElem? hxn) wr (HM.out x cs lo lo w wr (Keeps.of_below hb lo) (Nat.le_refl _) hR)
      have Bl : w.heap.size < wr.heap.size := (Array.getElem?_eq_some_iff.1 hC).1
      clear hb hrg hcs hR hlo hC
      go_wp2_with (first | (refine wpL_load rfl 68 _ rfl _ _ rfl _ HLd.out ?_) | fail)
      refine HCx.out.mono ?_
      rintro r w1 ⟨ds, rfl, hds, hone, hRd, g1⟩
      have hC1 : w1.heap[w.heap.size]? = some (.cells C 56 (0, 0)) := (g1.block _ Bl).trans HCr.out
      have b1 : Below w.heap.size w w1 := HB.out.trans (g1.mono HB.out.size)
      have HST : Hid ((storeVar 56 ⟨w.heap.size, n * 3, none⟩ (.agg ds.toArray)).run Tryd.prog w1 = .ok () (w1.setRow w.heap.size (putAt C (n * 3) ds))) := by
        have h1 : n * 3 + 3 ≤ len * 3 := by omega
        have := store_sub (P := Tryd.prog) hC1 56 (n * 3) ds.toArray (by simp [hds]; omega) (by rw [List.size_toArray, hds]; kernel_rfl) (by simp; exact hone)
        show _ = _
        simpa using this
      clear HCx HLd
      go_wp2_with (first | (refine wpL_store rfl 56 _ _ rfl _ _ rfl _ rfl _ HST.out ?_) | fail)
      go_roundg (gk - 1)
      case measure => omega
      case rel =>
        refine ⟨n + 1, by omega, by simp, below_row b1 (Nat.le_refl _) hC1 _, _, row_set hC1 _, by rw [putAt_size]; exact hs, ?_⟩
        intro j x' hj hx'
        by_cases hjn : j = n
        · subst hjn
          obtain rfl := Option.some.inj (hxn.symm.trans hx')
          refine ⟨ds, hds, fun i d hd => ?_, HM.out _ _ wr.heap.size (w.heap.size + 1) w1 (w1.setRow w.heap.size (putAt C (j * 3) ds)) (keeps_row (by omega)) (by omega) hRd⟩
          have hi : i < 3 := by have := (List.getElem?_eq_some_iff.1 hd).1; omega
          rw [putAt_get _ _ _ (by omega), if_pos (by omega), Nat.add_sub_cancel_left]; exact hd
        · obtain ⟨es, he, hce, hRe⟩ := HS.out j x' (by omega) hx'
          refine ⟨es, he, fun i d hd => ?_, HM.out _ _ (w.heap.size + 1) (w.heap.size + 1) wr (w1.setRow w.heap.size (putAt C (n * 3) ds)) ((Keeps.of_below g1 _).trans (keeps_row (by omega))) (Nat.le_refl _) hRe⟩
          have hi : i < 3 := by have := (List.getElem?_eq_some_iff.1 hd).1; omega
          rw [putAt_get _ _ _ (by omega), if_neg (by omega)]; exact hce i d hd
    · have i1 : ¬ ((n : Int) < (len : Int)) := by omega
      go_wp2
      go_ret
      refine ⟨_, rfl, ⟨some ⟨w.heap.size, 0, none⟩, len, by rw [← HL.out]; rfl, by rw [← HL.out]; omega, fun j x hj => ?_⟩, hb⟩
      have hjl : j < n := by have := (List.getElem?_eq_some_iff.1 hj).1; have := HL.out; omega
      obtain ⟨ds, hds, hcd, hRd⟩ := HS.out j x hjl hj
      refine ⟨w.heap.size, 0, ds, rfl, Nat.le_refl _, hds, fun i d hd => ?_, HM.out _ _ (w.heap.size + 1) w.heap.size wr wr (Keeps.refl _ _) (by omega) hRd⟩
      rw [Nat.zero_add, cell_of_row _ _ _ _ _ _ hC]; exact hcd i d hd


theorem to_insts (v : Value) (xs : List InstT) (w : World) (lo : Nat) (hv : InstsIs w lo v xs) (hbig : xs.length + (xs.map wI).sum ≤ 1048576) :
    Calls Tryd.prog 11 #[v] w fun r w' => ∃ v', r = .returned v' ∧ InstsIs w' w.heap.size v' xs ∧ Below w.heap.size w w' :=
  to_insts_row v xs w lo hv (by omega) (fun x cs hx W h => to_inst x cs W lo h (by have := sum_mem wI xs x hx; omega)) (fun x cs l l' W W' k hl h => h.move k hl)


set_option maxRecDepth 10000 in
set_option maxHeartbeats 2000000 in
theorem eq_inst_step (x0 y0 : Int) (x1 y1 : Int) (x2 y2 : Value) (r0 : Bool) (p2 : x2.oneCell' = true) (q2 : y2.oneCell' = true) (w : World)
    (H0 : Hid (∀ W, Below w.heap.size w W → Calls Tryd.prog 62 #[.agg #[.int .i64 x1, x2], .agg #[.int .i64 y1, y2]] W fun r w' => r = .returned (.bool r0) ∧ Below W.heap.size W w')) :
    Calls Tryd.prog 41 #[.agg #[.int .i64 x0, .int .i64 x1, x2], .agg #[.int .i64 y0, .int .i64 y1, y2]] w fun r w' => r = .returned (.bool (decide (x0 = y0) && r0)) ∧ Below w.heap.size w w' := by
  have b0 : Below w.heap.size w ((w.alloc (.cells #[.int .i64 x0, .int .i64 x1, x2] 56)).alloc (.cells #[.int .i64 y0, .int .i64 y1, y2] 56)) := ((Below.refl _ _).alloc (Nat.le_refl _) _).alloc (by simp) _
  by_cases h0 : x0 = y0
  · subst h0
    have e0 : decide (x0 = x0) = true := by simp
    go_enter Tryd.func41, Tryd.ntmps41
    go_wp2_with fail
    have hk := rows2 w (.cells #[.int .i64 x0, .int .i64 x1, x2] 56) (.cells #[.int .i64 x0, .int .i64 y1, y2] 56)
    have hz : ((w.alloc (.cells #[.int .i64 x0, .int .i64 x1, x2] 56)).alloc (.cells #[.int .i64 x0, .int .i64 y1, y2] 56)).heap.size = w.heap.size + 1 + 1 := by simp
    generalize ((w.alloc (.cells #[.int .i64 x0, .int .i64 x1, x2] 56)).alloc (.cells #[.int .i64 x0, .int .i64 y1, y2] 56)) = W0 at b0 hk hz ⊢
    refine (H0.out _ b0).mono ?_
    rintro e w1 ⟨rfl, g1⟩
    have b1 := b0.trans (g1.mono b0.size)
    have k0 := (g1.block _ (by omega)).trans hk.1
    have k1 := (g1.block _ (by omega)).trans hk.2
    clear g1
    cases r0 with
    | false =>
      clear k0 k1 hk hz b0
      go_wp2
      go_ret
      exact ⟨by simp, b1⟩
    | true =>
      clear k0 k1 hk hz b0
      go_wp2
      go_ret
      exact ⟨by simp, b1⟩
  · have e0 : decide (x0 = y0) = false := by simp [h0]
    go_enter Tryd.func41, Tryd.ntmps41
    go_wp2
    go_ret
    exact ⟨by simp [e0], b0⟩


theorem eq_inst (i j : InstT) (cs ds : List Value) (w : World) (lo lo' : Nat) (hv : InstIs w lo i cs) (hv' : InstIs w lo' j ds) :
    Calls Tryd.prog 41 #[.agg cs.toArray, .agg ds.toArray] w fun r w' => r = .returned (.bool (eqB i j)) ∧ Below w.heap.size w w' := by
  obtain ⟨v, rfl, h⟩ := hv
  obtain ⟨v', rfl, h'⟩ := hv'
  rw [eqB_iff (instT_eq i j)]
  exact eq_inst_step i.code j.code i.one.op j.one.op v v' _ h.one h'.one w (fun W g => eq_elem i.one j.one _ _ W lo lo' ⟨v, rfl, argsIs_move (Keeps.of_below g lo) (Nat.le_refl _) h⟩ ⟨v', rfl, argsIs_move (Keeps.of_below g lo') (Nat.le_refl _) h'⟩)


set_option maxRecDepth 10000 in
set_option maxHeartbeats 2000000 in
theorem eq_insts_row (v v' : Value) (xs ys : List InstT) (w : World) (lo lo' : Nat) (hv : RowIs w lo 3 (InstIs w lo) v xs) (hv' : RowIs w lo' 3 (InstIs w lo') v' ys)
    (HC : Hid (∀ x cs y ds, x ∈ xs → y ∈ ys → ∀ (W : World), (InstIs W lo) x cs → (InstIs W lo') y ds → Calls Tryd.prog 41 #[.agg cs.toArray, .agg ds.toArray] W fun r w' => r = .returned (.bool (eqB x y)) ∧ Below W.heap.size W w'))
    (HM : Hid (∀ x cs (l n : Nat) (W W' : World), Keeps l W W' → (InstIs W l) x cs → (InstIs W' l) x cs)) :
    Calls Tryd.prog 15 #[v, v'] w fun r w' => r = .returned (.bool (eqB xs ys)) ∧ Below w.heap.size w w' := by
  obtain ⟨a, cap, rfl, hl, hx⟩ := hv
  obtain ⟨a', cap', rfl, hl', hx'⟩ := hv'
  have HX : Hid (∀ j x, xs[j]? = some x → ∃ b o cs, a = some ⟨b, o, none⟩ ∧ lo ≤ b ∧ cs.length = 3 ∧ w.rangeAt b (o + j * 3) cs ∧ (InstIs w lo) x cs) := hx
  have HX' : Hid (∀ j x, ys[j]? = some x → ∃ b o cs, a' = some ⟨b, o, none⟩ ∧ lo' ≤ b ∧ cs.length = 3 ∧ w.rangeAt b (o + j * 3) cs ∧ (InstIs w lo') x cs) := hx'
  clear hx hx'
  by_cases hlen : xs.length = ys.length
  · rw [← hlen] at hl' ⊢
    have HLY : Hid (xs.length = ys.length) := hlen
    obtain ⟨len, HL⟩ : ∃ len, Hid (len = xs.length) := ⟨_, rfl⟩
    obtain ⟨RES, HR⟩ : ∃ r, Hid (r = eqB xs ys) := ⟨_, rfl⟩
    rw [← HL.out] at hl hl' ⊢
    rw [← HR.out]
    clear hl' hlen
    go_enter Tryd.func15, Tryd.ntmps15
    go_wp2
    go_loopg [5] len (fun g i wr => ∃ n : Nat, n + g = len ∧ i = .int .i64 n ∧ Below w.heap.size w wr ∧ Hid (∀ j, j < n → xs[j]? = ys[j]?))
    case atStart => exact ⟨0, by omega, rfl, Below.refl _ _, fun j hj => by omega⟩
    case round =>
      obtain ⟨n, hn, rfl, hb, HS⟩ := hrel
      by_cases hlt : n < len
      · have i1 : (n : Int) < (len : Int) := by omega
        have i3 : (0 : Int) ≤ (n : Int) := by omega
        obtain ⟨x, hxn⟩ : ∃ x, xs[n]? = some x := ⟨_, List.getElem?_eq_getElem (by have := HL.out; omega)⟩
        obtain ⟨y, hyn⟩ : ∃ y, ys[n]? = some y := ⟨_, List.getElem?_eq_getElem (by have := HL.out; have := HLY.out; omega)⟩
        obtain ⟨b, o, cs, rfl, _, hcs, hrg, hR⟩ := HX.out n x hxn
        obtain ⟨b', o', ds, rfl, _, hds, hrg', hR'⟩ := HX'.out n y hyn
        have HB : Hid (Below w.heap.size w wr) := hb
        have H1 : Hid (wr.rangeAt b (o + n * 3) cs ∧ cs.length = 3) := ⟨fun i c hi => (Keeps.of_below hb 0) _ _ _ (Nat.zero_le _) (hrg i c hi), hcs⟩
        have H2 : Hid (wr.rangeAt b' (o' + n * 3) ds ∧ ds.length = 3) := ⟨fun i c hi => (Keeps.of_below hb 0) _ _ _ (Nat.zero_le _) (hrg' i c hi), hds⟩
        obtain ⟨q, Hq⟩ : ∃ q, Hid (q = eqB x y) := ⟨_, rfl⟩
        have cE : ∀ d os, Calls Tryd.prog 41 #[.agg cs.toArray, .agg ds.toArray] (Sort.grow (redrawn wr d) os) fun e w'' => e = .returned (.bool q) ∧ ∃ p : Regrown, w'' = Sort.grow (redrawn wr p.d) p.os :=
          fun d os => Calls.regrown_of (by rw [Hq.out]; exact HC.out x cs y ds (List.mem_of_getElem? hxn) (List.mem_of_getElem? hyn) _ (HM.out x cs lo 0 w _ ((Keeps.of_below hb lo).trans (Keeps.of_below (below_regrown wr d os) lo)) hR) (HM.out y ds lo' 0 w _ ((Keeps.of_below hb lo').trans (Keeps.of_below (below_regrown wr d os) lo')) hR'))
        clear hb hrg hrg' hcs hds hR hR'
        go_upto_region 6 with fail
        refine wp_region_quiet_below (by kernel_rfl) (by kernel_rfl) ?_
        go_big_quiet_step (first | with_reducible exact cE _ _)
        go_big_quiet_step (first | with_reducible exact cE _ _)
        go_big_quiet_step (first | with_reducible exact cE _ _)
        refine wpQ_load rfl 56 _ rfl _ _ rfl (.agg cs.toArray) (fun W hW => run_loadVar_mid W b (o + n * 3) 56 cs _ (range_regrown H1.out.1 hW) Tryd.underlying56 rfl (by rw [H1.out.2]; kernel_rfl)) ?_
        simp only [Act.put, List.setIfInBounds_toArray, List.set_cons_succ, List.set_cons_zero]
        go_big_quiet_step (first | with_reducible exact cE _ _)
        go_big_quiet_step (first | with_reducible exact cE _ _)
        go_big_quiet_step (first | with_reducible exact cE _ _)
        refine wpQ_load rfl 56 _ rfl _ _ rfl (.agg ds.toArray) (fun W hW => run_loadVar_mid W b' (o' + n * 3) 56 ds _ (range_regrown H2.out.1 hW) Tryd.underlying56 rfl (by rw [H2.out.2]; kernel_rfl)) ?_
        simp only [Act.put, List.setIfInBounds_toArray, List.set_cons_succ, List.set_cons_zero]
        go_big_quiet_step (first | with_reducible exact cE _ _)
        go_big_quiet_step (first | with_reducible exact cE _ _)
        refine wpQuiet_nil ?_
        intro w7 hw'
        have b7 : Below w.heap.size w w7 := by
          obtain ⟨⟨dq, osq⟩, rfl⟩ := hw'
          exact HB.out.trans ((below_regrown wr dq osq).mono HB.out.size)
        clear hw' cE
        cases q with
        | true =>
          go_wp2
          go_roundg (gk - 1)
          case measure => omega
          case rel =>
            refine ⟨n + 1, by omega, by simp, b7, ?_⟩
            intro j hj
            by_cases hjn : j = n
            · rw [hjn, hxn, hyn, eqB_true.1 Hq.out.symm]
            · exact HS.out j (by omega)
        | false =>
          go_wp2
          go_ret
          refine ⟨?_, b7⟩
          rw [HR.out, eqB_false (fun e => by
            rw [e] at hxn
            have hxy := Option.some.inj (hxn.symm.trans hyn)
            have := Hq.out
            rw [hxy, eqB_refl] at this
            cases this)]
          rfl
      · have i1 : ¬ ((n : Int) < (len : Int)) := by omega
        have hE : xs = ys := by
          apply List.ext_getElem?
          intro j
          by_cases hj : j < n
          · exact HS.out j hj
          · have := HL.out; have := HLY.out
            rw [List.getElem?_eq_none (by omega), List.getElem?_eq_none (by omega)]
        go_wp2
        go_ret
        exact ⟨by rw [HR.out, hE, eqB_refl]; rfl, hb⟩
  · have i1 : ((xs.length : Nat) : Int) ≠ ((ys.length : Nat) : Int) := by omega
    rw [eqB_false (fun e => hlen (by rw [e]))]
    generalize xs.length = l1 at hl i1 hlen ⊢
    generalize ys.length = l2 at hl' i1 hlen ⊢
    go_enter Tryd.func15, Tryd.ntmps15
    go_wp2
    go_ret
    exact ⟨rfl, Below.refl _ _⟩


theorem eq_insts (v v' : Value) (xs ys : List InstT) (w : World) (lo lo' : Nat) (hv : InstsIs w lo v xs) (hv' : InstsIs w lo' v' ys) :
    Calls Tryd.prog 15 #[v, v'] w fun r w' => r = .returned (.bool (eqB xs ys)) ∧ Below w.heap.size w w' :=
  eq_insts_row v v' xs ys w lo lo' hv hv' (fun x cs y ds _ _ W h h' => eq_inst x y cs ds W lo lo' h h') (fun x cs l n W W' k h => h.move k (Nat.le_refl _))
end Go.Proofs.YtcihplachlokiaaDoor/- Instructions copied: all that is made is plain cells. -/
namespace Go.Proofs.YtcihplachlokiaaDoor
open Go.RowKit
set_option linter.unusedVariables false

/-- From 'lo' on there are plain cells alone. -/
def Plain (lo : Nat) (W : World) : Prop := ∀ j, lo ≤ j → j < W.heap.size → ∃ C t, W.heap[j]? = some (.cells C t (0, 0))
structure BP (B : Nat) (w w' : World) : Prop where
  bel : Below B w w'
  pl : ∀ lo, Plain lo w → Plain lo w'
theorem BP.refl (B : Nat) (w : World) : BP B w w := ⟨Below.refl _ _, fun _ h => h⟩
theorem BP.size {B : Nat} {w w' : World} (h : BP B w w') : w.heap.size ≤ w'.heap.size := h.bel.size
theorem BP.block {B : Nat} {w w' : World} (h : BP B w w') : ∀ k, k < B → w'.heap[k]? = w.heap[k]? := h.bel.block
theorem BP.mono {B B' : Nat} {w w' : World} (h : BP B w w') (hb : B' ≤ B) : BP B' w w' := ⟨h.bel.mono hb, h.pl⟩
theorem BP.trans {B : Nat} {w w' w'' : World} (h : BP B w w') (h' : BP B w' w'') : BP B w w'' := ⟨h.bel.trans h'.bel, fun lo p => h'.pl lo (h.pl lo p)⟩
theorem BP.alloc {B : Nat} {a w : World} (h : BP B a w) (hb : B ≤ w.heap.size) {C : Array Value} (t : TypeId) : BP B a (w.alloc (.cells C t)) := ⟨h.bel.alloc hb _, fun lo p j h1 h2 => by
  by_cases e : j < w.heap.size
  · obtain ⟨C', t', k⟩ := h.pl lo p j h1 e
    exact ⟨C', t', (heap_alloc_old _ _ (h := e)).trans k⟩
  · simp at h2
    obtain rfl : j = w.heap.size := by omega
    exact ⟨C, t, heap_alloc_last w _⟩⟩
theorem bp_setRow {B : Nat} {a w : World} (h : BP B a w) {g : Nat} (hg : B ≤ g) (D : Array Value) : BP B a (w.setRow g D) := ⟨below_setRow h.bel hg D, fun lo p j h1 h2 => by
  have hs : (w.setRow g D).heap.size = w.heap.size := by unfold World.setRow; simp
  obtain ⟨C', t', k⟩ := h.pl lo p j h1 (by omega)
  by_cases e : j = g
  · subst e
    exact ⟨D, t', row_set k D⟩
  · exact ⟨C', t', row_beside k _ (fun q => e q.symm) D⟩⟩
theorem bp_row {w W : World} (b : BP w.heap.size w W) {g : Nat} (hg : w.heap.size ≤ g) {C : Array Value} {t : TypeId} (h : W.heap[g]? = some (.cells C t (0, 0))) (D : Array Value) : BP w.heap.size w (W.setRow g D) := bp_setRow b hg D
theorem Keeps.of_bp {B : Nat} {w w' : World} (g : BP w.heap.size w w') (lo : Nat) : Keeps lo w w' := Keeps.of_below g.bel lo
theorem BP.plain {w w' : World} (h : BP w.heap.size w w') : Plain w.heap.size w' := h.pl _ (fun j h1 h2 => by omega)

set_option maxHeartbeats 1000000 in
theorem to_argP (k n p : Int) (w : World) : Calls Tryd.prog 86 #[.agg #[.int .i64 k, .int .i64 n, .int .i64 p]] w fun e w' => e = .returned (.agg #[.int .i64 k, .int .i64 n, .int .i64 p]) ∧ BP w.heap.size w w' := by
  go_enter Tryd.func86, Tryd.ntmps86
  go_wp2
  refine bodyPost_ret (v := .agg #[.int .i64 k, .int .i64 n, .int .i64 p]) (by simp [results, Tryd.results86, go_sem]) rfl ⟨rfl, ?_⟩
  exact ((((BP.refl _ _).alloc (Nat.le_refl _) _).alloc (by simp) _).alloc (by simp <;> omega) _)

set_option maxRecDepth 10000 in
set_option maxHeartbeats 2000000 in
theorem to_args_rowP (v : Value) (xs : List ArgT) (w : World) (lo : Nat) (hv : RowIs w lo 3 (ArgIs) v xs) (hbig : xs.length ≤ 1048576)
    (HC : Hid (∀ x cs, x ∈ xs → ∀ (W : World), (ArgIs) x cs → Calls Tryd.prog 86 #[.agg cs.toArray] W fun r w' => ∃ ds : List Value, r = .returned (.agg ds.toArray) ∧ ds.length = 3 ∧ (∀ d ∈ ds, d.oneCell' = true) ∧ (ArgIs) x ds ∧ BP W.heap.size W w'))
    (HM : Hid (∀ x cs (l l' : Nat) (W W' : World), Keeps l W W' → l' ≤ l → (ArgIs) x cs → (ArgIs) x cs)) :
    Calls Tryd.prog 73 #[v] w fun r w' => ∃ v', r = .returned v' ∧ RowIs w' w.heap.size 3 (ArgIs) v' xs ∧ BP w.heap.size w w' := by
  obtain ⟨a, cap, rfl, hl, hx⟩ := hv
  have HX : Hid (∀ j x, xs[j]? = some x → ∃ b o cs, a = some ⟨b, o, none⟩ ∧ lo ≤ b ∧ cs.length = 3 ∧ w.rangeAt b (o + j * 3) cs ∧ (ArgIs) x cs) := hx
  have hmk := make_DevArg xs.length hbig
  obtain ⟨len, HL⟩ : ∃ len, Hid (len = xs.length) := ⟨_, rfl⟩
  rw [← HL.out] at hl hmk hbig ⊢
  clear hx
  go_enter Tryd.func73, Tryd.ntmps73
  go_wp2
  go_loopg [4] len (fun g i wr => ∃ n : Nat, n + g = len ∧ i = .int .i64 n ∧ BP w.heap.size w wr ∧ ∃ C : Array Value, wr.heap[w.heap.size]? = some (.cells C 87 (0, 0)) ∧ C.size = len * 3 ∧ Hid (∀ j x, j < n → xs[j]? = some x → ∃ ds : List Value, ds.length = 3 ∧ (∀ i d, ds[i]? = some d → C[j * 3 + i]? = some d) ∧ (ArgIs) x ds))
  case atStart => exact ⟨0, by omega, rfl, (BP.refl _ _).alloc (Nat.le_refl _) _, _, heap_alloc_last w _, size_madeCells _ _, fun j x hj => by omega⟩
  case round =>
    obtain ⟨n, hn, rfl, hb, C, hC, hs, HS⟩ := hrel
    by_cases hlt : n < len
    · have i1 : (n : Int) < (len : Int) := by omega
      have i3 : (0 : Int) ≤ (n : Int) := by omega
      obtain ⟨x, hxn⟩ : ∃ x, xs[n]? = some x := ⟨_, List.getElem?_eq_getElem (by have := HL.out; omega)⟩
      obtain ⟨b, o, cs, rfl, hlo, hcs, hrg, hR⟩ := HX.out n x hxn
      have HB : Hid (BP w.heap.size w wr) := hb
      have HCr : Hid (wr.heap[w.heap.size]? = some (.cells C 87 (0, 0))) := hC
      have HLd : Hid ((loadVar 119 ⟨b, o + n * 3, none⟩).run Tryd.prog wr = .ok (.agg cs.toArray) wr) := run_loadVar_mid wr b (o + n * 3) 119 cs _ (fun i c hi => (Keeps.of_bp (B := 0) hb 0) _ _ _ (Nat.zero_le _) (hrg i c hi)) Tryd.underlying119 rfl (by rw [hcs]; kernel_rfl)
      have HCx : Hid (Calls Tryd.prog 86 #[.agg cs.toArray] wr fun r w' => ∃ ds : List Value, r = .returned (.agg ds.toArray) ∧ ds.length = 3 ∧ (∀ d ∈ ds, d.oneCell' = true) ∧ (ArgIs) x ds ∧ BP wr.heap.size wr w') := HC.out x cs (List.mem_of_getElem? hxn) wr (HM.out x cs lo lo w wr (Keeps.of_bp (B := 0) hb lo) (Nat.le_refl _) hR)
      have Bl : w.heap.size < wr.heap.size := (Array.getElem?_eq_some_iff.1 hC).1
      clear hb hrg hcs hR hlo hC
      go_wp2_with (first | (refine wpL_load rfl 119 _ rfl _ _ rfl _ HLd.out ?_) | fail)
      refine HCx.out.mono ?_
      rintro r w1 ⟨ds, rfl, hds, hone, hRd, g1⟩
      have hC1 : w1.heap[w.heap.size]? = some (.cells C 87 (0, 0)) := (g1.block _ Bl).trans HCr.out
      have b1 : BP w.heap.size w w1 := HB.out.trans (g1.mono HB.out.size)
      have HST : Hid ((storeVar 87 ⟨w.heap.size, n * 3, none⟩ (.agg ds.toArray)).run Tryd.prog w1 = .ok () (w1.setRow w.heap.size (putAt C (n * 3) ds))) := by
        have h1 : n * 3 + 3 ≤ len * 3 := by omega
        have := store_sub (P := Tryd.prog) hC1 87 (n * 3) ds.toArray (by simp [hds]; omega) (by rw [List.size_toArray, hds]; kernel_rfl) (by simp; exact hone)
        show _ = _
        simpa using this
      clear HCx HLd
      go_wp2_with (first | (refine wpL_store rfl 87 _ _ rfl _ _ rfl _ rfl _ HST.out ?_) | fail)
      go_roundg (gk - 1)
      case measure => omega
      case rel =>
        refine ⟨n + 1, by omega, by simp, bp_row b1 (Nat.le_refl _) hC1 _, _, row_set hC1 _, by rw [putAt_size]; exact hs, ?_⟩
        intro j x' hj hx'
        by_cases hjn : j = n
        · subst hjn
          obtain rfl := Option.some.inj (hxn.symm.trans hx')
          refine ⟨ds, hds, fun i d hd => ?_, HM.out _ _ wr.heap.size (w.heap.size + 1) w1 (w1.setRow w.heap.size (putAt C (j * 3) ds)) (keeps_row (by omega)) (by omega) hRd⟩
          have hi : i < 3 := by have := (List.getElem?_eq_some_iff.1 hd).1; omega
          rw [putAt_get _ _ _ (by omega), if_pos (by omega), Nat.add_sub_cancel_left]; exact hd
        · obtain ⟨es, he, hce, hRe⟩ := HS.out j x' (by omega) hx'
          refine ⟨es, he, fun i d hd => ?_, HM.out _ _ (w.heap.size + 1) (w.heap.size + 1) wr (w1.setRow w.heap.size (putAt C (n * 3) ds)) ((Keeps.of_bp (B := 0) g1 _).trans (keeps_row (by omega))) (Nat.le_refl _) hRe⟩
          have hi : i < 3 := by have := (List.getElem?_eq_some_iff.1 hd).1; omega
          rw [putAt_get _ _ _ (by omega), if_neg (by omega)]; exact hce i d hd
    · have i1 : ¬ ((n : Int) < (len : Int)) := by omega
      go_wp2
      go_ret
      refine ⟨_, rfl, ⟨some ⟨w.heap.size, 0, none⟩, len, by rw [← HL.out]; rfl, by rw [← HL.out]; omega, fun j x hj => ?_⟩, hb⟩
      have hjl : j < n := by have := (List.getElem?_eq_some_iff.1 hj).1; have := HL.out; omega
      obtain ⟨ds, hds, hcd, hRd⟩ := HS.out j x hjl hj
      refine ⟨w.heap.size, 0, ds, rfl, Nat.le_refl _, hds, fun i d hd => ?_, HM.out _ _ (w.heap.size + 1) w.heap.size wr wr (Keeps.refl _ _) (by omega) hRd⟩
      rw [Nat.zero_add, cell_of_row _ _ _ _ _ _ hC]; exact hcd i d hd

theorem to_argsP (v : Value) (xs : List ArgT) (w : World) (lo : Nat) (hv : ArgsIs w lo v xs) (hbig : xs.length ≤ 1048576) :
    Calls Tryd.prog 73 #[v] w fun r w' => ∃ v', r = .returned v' ∧ ArgsIs w' w.heap.size v' xs ∧ BP w.heap.size w w' :=
  to_args_rowP v xs w lo hv hbig (fun x cs _ W h => by
    rw [show cs = _ from h]
    exact (to_argP _ _ _ W).mono fun e w' ⟨h1, h2⟩ => ⟨_, h1, rfl, by intro d hd; simp at hd; rcases hd with rfl | rfl | rfl <;> rfl, rfl, h2⟩) (fun x cs l l' W W' _ _ h => h)

set_option maxRecDepth 10000 in
set_option maxHeartbeats 2000000 in
theorem to_elemP (e : ElemT) (cs : List Value) (w : World) (lo : Nat) (hv : ElemIs w lo e cs) (hbig : wE e ≤ 1048576) :
    Calls Tryd.prog 58 #[.agg cs.toArray] w fun r w' => ∃ ds : List Value, r = .returned (.agg ds.toArray) ∧ ds.length = 2 ∧ (∀ d ∈ ds, d.oneCell' = true) ∧ ElemIs w' w.heap.size e ds ∧ BP w.heap.size w w' := by
  obtain ⟨v, rfl, hr⟩ := hv
  have s1 := hr.one
  obtain ⟨op, Hop⟩ : ∃ op, Hid (op = e.op) := ⟨_, rfl⟩
  have HA : Hid (∀ W, BP w.heap.size w W → Calls Tryd.prog 73 #[v] W fun r w' => ∃ v', r = .returned v' ∧ ArgsIs w' W.heap.size v' e.args ∧ BP W.heap.size W w') := fun W g => to_argsP v e.args W lo (argsIs_move (Keeps.of_bp (B := 0) g lo) (Nat.le_refl _) hr) hbig
  rw [← Hop.out]
  clear hr hbig
  go_enter Tryd.func58, Tryd.ntmps58
  go_wp2_with fail
  have b0 : BP w.heap.size w (((w.alloc (.cells #[.int .i64 op, v] 66)).alloc (.cells #[.int .i64 0, .slice none 0 0] 54)).alloc (.cells #[.int .i64 op, .slice none 0 0] 54)) := (((BP.refl _ _).alloc (Nat.le_refl _) _).alloc (by simp) _).alloc (by simp <;> omega) _
  have hk := rows3 w (.cells #[.int .i64 op, v] 66) (.cells #[.int .i64 0, .slice none 0 0] 54) (.cells #[.int .i64 op, .slice none 0 0] 54)
  have hz : (((w.alloc (.cells #[.int .i64 op, v] 66)).alloc (.cells #[.int .i64 0, .slice none 0 0] 54)).alloc (.cells #[.int .i64 op, .slice none 0 0] 54)).heap.size = w.heap.size + 1 + 1 + 1 := by simp
  generalize (((w.alloc (.cells #[.int .i64 op, v] 66)).alloc (.cells #[.int .i64 0, .slice none 0 0] 54)).alloc (.cells #[.int .i64 op, .slice none 0 0] 54)) = W0 at b0 hk hz ⊢
  refine (HA.out W0 b0).mono ?_
  rintro r w1 ⟨v1, rfl, hv1, g1⟩
  have c1 := (g1.block _ (by omega)).trans hk.2.1
  have c2 := (g1.block _ (by omega)).trans hk.2.2
  have b1 := b0.trans (g1.mono b0.size)
  have HST : Hid ((storeVar 52 ⟨w.heap.size + 1 + 1, 1, none⟩ v1).run Tryd.prog w1 = .ok () (w1.setRow (w.heap.size + 1 + 1) #[.int .i64 op, v1])) := store_one (P := Tryd.prog) c2 52 1 v1 (by simp) (by kernel_rfl) (slice_one hv1) hv1.one
  have s2 := hv1.one
  have HO : Hid (∀ d ∈ [Value.int .i64 op, v1], d.oneCell' = true) := by
    intro d hd
    simp at hd
    rcases hd with rfl | rfl
    · rfl
    · exact s2
  obtain ⟨W2, HW2⟩ : ∃ W, Hid (W = w1.setRow (w.heap.size + 1 + 1) #[.int .i64 op, v1]) := ⟨_, rfl⟩
  have d1 : W2.heap[w.heap.size + 1]? = some (.cells #[.int .i64 0, .slice none 0 0] 54 (0, 0)) := by rw [HW2.out]; exact row_beside c1 _ (by omega) _
  have d2 : W2.heap[w.heap.size + 1 + 1]? = some (.cells #[.int .i64 op, v1] 54 (0, 0)) := by rw [HW2.out]; exact row_set c2 _
  have b2 : BP w.heap.size w W2 := by rw [HW2.out]; exact bp_setRow b1 (by omega) _
  have k2 : ArgsIs W2 (w.heap.size + 1 + 1 + 1) v1 e.args := by rw [HW2.out]; exact argsIs_move (keeps_row (by omega)) (by omega) hv1
  have HLD : Hid ((loadVar 54 ⟨w.heap.size + 1 + 1, 0, none⟩).run Tryd.prog W2 = .ok (.agg #[.int .i64 op, v1]) W2) := load_all d2 _ _ Tryd.underlying54 rfl (by kernel_rfl)
  have HS2 : Hid ((storeVar 54 ⟨w.heap.size + 1, 0, none⟩ (.agg #[.int .i64 op, v1])).run Tryd.prog W2 = .ok () (W2.setRow (w.heap.size + 1) #[.int .i64 op, v1])) := store_all d1 54 _ rfl (by kernel_rfl) (all_one [.int .i64 op, v1] HO.out)
  have HR : Hid ((W2.setRow (w.heap.size + 1) #[.int .i64 op, v1]).heap[w.heap.size + 1]? = some (.cells #[.int .i64 op, v1] 54 (0, 0))) := row_set d1 _
  have HB : Hid (BP w.heap.size w (W2.setRow (w.heap.size + 1) #[.int .i64 op, v1])) := bp_setRow b2 (by omega) _
  have HK : Hid (ArgsIs (W2.setRow (w.heap.size + 1) #[.int .i64 op, v1]) w.heap.size v1 e.args) := argsIs_move (keeps_row (by omega)) (by omega) k2
  rw [← HW2.out] at HST
  clear HW2 g1 b0 hk hz c1 c2 b1 hv1 k2 d1 d2 b2 HA
  go_wp2_with (first | (refine wpL_store rfl 52 _ _ rfl _ _ rfl _ rfl _ HST.out ?_) | (refine wpL_load rfl 54 _ rfl _ _ rfl _ HLD.out ?_) | (refine wpL_store rfl 54 _ _ rfl _ _ rfl _ rfl _ HS2.out ?_) | (refine ret_row rfl rfl HR.out Tryd.underlying54 rfl (by kernel_rfl) rfl ?_) | fail)
  exact ⟨[.int .i64 op, v1], rfl, rfl, HO.out, ⟨v1, by rw [Hop.out], HK.out⟩, HB.out⟩

set_option maxRecDepth 10000 in
set_option maxHeartbeats 2000000 in
theorem to_inst_stepP (e : ElemT) (k : Int) (v : Value) (s1 : v.oneCell' = true) (w : World)
    (HE : Hid (∀ W, BP w.heap.size w W → Calls Tryd.prog 58 #[.agg #[.int .i64 e.op, v]] W fun r w' => ∃ ds : List Value, r = .returned (.agg ds.toArray) ∧ ds.length = 2 ∧ (∀ d ∈ ds, d.oneCell' = true) ∧ ElemIs w' W.heap.size e ds ∧ BP W.heap.size W w')) :
    Calls Tryd.prog 36 #[.agg #[.int .i64 k, .int .i64 e.op, v]] w fun r w' => ∃ ds : List Value, r = .returned (.agg ds.toArray) ∧ ds.length = 3 ∧ (∀ d ∈ ds, d.oneCell' = true) ∧ InstIs w' w.heap.size ⟨k, e⟩ ds ∧ BP w.heap.size w w' := by
  obtain ⟨op, Hop⟩ : ∃ op, Hid (op = e.op) := ⟨_, rfl⟩
  rw [← Hop.out] at HE ⊢
  go_enter Tryd.func36, Tryd.ntmps36
  go_wp2_with fail
  have b0 : BP w.heap.size w (((w.alloc (.cells #[.int .i64 k, .int .i64 op, v] 68)).alloc (.cells #[.int .i64 0, .int .i64 0, .slice none 0 0] 56)).alloc (.cells #[.int .i64 k, .int .i64 0, .slice none 0 0] 56)) := (((BP.refl _ _).alloc (Nat.le_refl _) _).alloc (by simp) _).alloc (by simp <;> omega) _
  have hk := rows3 w (.cells #[.int .i64 k, .int .i64 op, v] 68) (.cells #[.int .i64 0, .int .i64 0, .slice none 0 0] 56) (.cells #[.int .i64 k, .int .i64 0, .slice none 0 0] 56)
  have hz : (((w.alloc (.cells #[.int .i64 k, .int .i64 op, v] 68)).alloc (.cells #[.int .i64 0, .int .i64 0, .slice none 0 0] 56)).alloc (.cells #[.int .i64 k, .int .i64 0, .slice none 0 0] 56)).heap.size = w.heap.size + 1 + 1 + 1 := by simp
  generalize (((w.alloc (.cells #[.int .i64 k, .int .i64 op, v] 68)).alloc (.cells #[.int .i64 0, .int .i64 0, .slice none 0 0] 56)).alloc (.cells #[.int .i64 k, .int .i64 0, .slice none 0 0] 56)) = W0 at b0 hk hz ⊢
  refine (HE.out W0 b0).mono ?_
  rintro r w1 ⟨ds, rfl, hds, hone, ⟨v1, rfl, hv1⟩, g1⟩
  rw [← Hop.out] at hone ⊢
  have c1 := (g1.block _ (by omega)).trans hk.2.1
  have c2 := (g1.block _ (by omega)).trans hk.2.2
  have b1 := b0.trans (g1.mono b0.size)
  have HST : Hid ((storeVar 54 ⟨w.heap.size + 1 + 1, 1, none⟩ (.agg #[.int .i64 op, v1])).run Tryd.prog w1 = .ok () (w1.setRow (w.heap.size + 1 + 1) #[.int .i64 k, .int .i64 op, v1])) := store_sub (P := Tryd.prog) c2 54 1 #[.int .i64 op, v1] (by simp) (by kernel_rfl) (all_one [.int .i64 op, v1] hone)
  have s2 := hv1.one
  have HO : Hid (∀ d ∈ [Value.int .i64 k, .int .i64 op, v1], d.oneCell' = true) := by
    intro d hd
    simp at hd
    rcases hd with rfl | rfl | rfl
    · rfl
    · rfl
    · exact s2
  obtain ⟨W2, HW2⟩ : ∃ W, Hid (W = w1.setRow (w.heap.size + 1 + 1) #[.int .i64 k, .int .i64 op, v1]) := ⟨_, rfl⟩
  have d1 : W2.heap[w.heap.size + 1]? = some (.cells #[.int .i64 0, .int .i64 0, .slice none 0 0] 56 (0, 0)) := by rw [HW2.out]; exact row_beside c1 _ (by omega) _
  have d2 : W2.heap[w.heap.size + 1 + 1]? = some (.cells #[.int .i64 k, .int .i64 op, v1] 56 (0, 0)) := by rw [HW2.out]; exact row_set c2 _
  have b2 : BP w.heap.size w W2 := by rw [HW2.out]; exact bp_setRow b1 (by omega) _
  have k2 : ArgsIs W2 (w.heap.size + 1 + 1 + 1) v1 e.args := by rw [HW2.out]; exact argsIs_move (keeps_row (by omega)) (by omega) hv1
  have HLD : Hid ((loadVar 56 ⟨w.heap.size + 1 + 1, 0, none⟩).run Tryd.prog W2 = .ok (.agg #[.int .i64 k, .int .i64 op, v1]) W2) := load_all d2 _ _ Tryd.underlying56 rfl (by kernel_rfl)
  have HS2 : Hid ((storeVar 56 ⟨w.heap.size + 1, 0, none⟩ (.agg #[.int .i64 k, .int .i64 op, v1])).run Tryd.prog W2 = .ok () (W2.setRow (w.heap.size + 1) #[.int .i64 k, .int .i64 op, v1])) := store_all d1 56 _ rfl (by kernel_rfl) (all_one [.int .i64 k, .int .i64 op, v1] HO.out)
  have HR : Hid ((W2.setRow (w.heap.size + 1) #[.int .i64 k, .int .i64 op, v1]).heap[w.heap.size + 1]? = some (.cells #[.int .i64 k, .int .i64 op, v1] 56 (0, 0))) := row_set d1 _
  have HB : Hid (BP w.heap.size w (W2.setRow (w.heap.size + 1) #[.int .i64 k, .int .i64 op, v1])) := bp_setRow b2 (by omega) _
  have HK : Hid (ArgsIs (W2.setRow (w.heap.size + 1) #[.int .i64 k, .int .i64 op, v1]) w.heap.size v1 e.args) := argsIs_move (keeps_row (by omega)) (by omega) k2
  rw [← HW2.out] at HST
  clear HW2 g1 b0 hk hz c1 c2 b1 hv1 k2 d1 d2 b2 HE hone hds
  go_wp2_with (first | (refine wpL_store rfl 54 _ _ rfl _ _ rfl _ rfl _ HST.out ?_) | (refine wpL_load rfl 56 _ rfl _ _ rfl _ HLD.out ?_) | (refine wpL_store rfl 56 _ _ rfl _ _ rfl _ rfl _ HS2.out ?_) | (refine ret_row rfl rfl HR.out Tryd.underlying56 rfl (by kernel_rfl) rfl ?_) | fail)
  exact ⟨[.int .i64 k, .int .i64 op, v1], rfl, rfl, HO.out, ⟨v1, by rw [Hop.out], HK.out⟩, HB.out⟩

theorem to_instP (i : InstT) (cs : List Value) (w : World) (lo : Nat) (hv : InstIs w lo i cs) (hbig : wI i ≤ 1048576) :
    Calls Tryd.prog 36 #[.agg cs.toArray] w fun r w' => ∃ ds : List Value, r = .returned (.agg ds.toArray) ∧ ds.length = 3 ∧ (∀ d ∈ ds, d.oneCell' = true) ∧ InstIs w' w.heap.size i ds ∧ BP w.heap.size w w' := by
  obtain ⟨v, rfl, ha⟩ := hv
  exact to_inst_stepP i.one i.code v ha.one w (fun W g => to_elemP i.one _ W lo ⟨v, rfl, argsIs_move (Keeps.of_bp (B := 0) g lo) (Nat.le_refl _) ha⟩ hbig)

set_option maxRecDepth 10000 in
set_option maxHeartbeats 2000000 in
theorem to_insts_rowP (v : Value) (xs : List InstT) (w : World) (lo : Nat) (hv : RowIs w lo 3 (InstIs w lo) v xs) (hbig : xs.length ≤ 1048576)
    (HC : Hid (∀ x cs, x ∈ xs → ∀ (W : World), (InstIs W lo) x cs → Calls Tryd.prog 36 #[.agg cs.toArray] W fun r w' => ∃ ds : List Value, r = .returned (.agg ds.toArray) ∧ ds.length = 3 ∧ (∀ d ∈ ds, d.oneCell' = true) ∧ (InstIs w' W.heap.size) x ds ∧ BP W.heap.size W w'))
    (HM : Hid (∀ x cs (l l' : Nat) (W W' : World), Keeps l W W' → l' ≤ l → (InstIs W l) x cs → (InstIs W' l') x cs)) :
    Calls Tryd.prog 11 #[v] w fun r w' => ∃ v', r = .returned v' ∧ RowIs w' w.heap.size 3 (InstIs w' w.heap.size) v' xs ∧ BP w.heap.size w w' := by
  obtain ⟨a, cap, rfl, hl, hx⟩ := hv
  have HX : Hid (∀ j x, xs[j]? = some x → ∃ b o cs, a = some ⟨b, o, none⟩ ∧ lo ≤ b ∧ cs.length = 3 ∧ w.rangeAt b (o + j * 3) cs ∧ (InstIs w lo) x cs) := hx
  have hmk := make_Inst xs.length hbig
  obtain ⟨len, HL⟩ : ∃ len, Hid (len = xs.length) := ⟨_, rfl⟩
  rw [← HL.out] at hl hmk hbig ⊢
  clear hx
  go_enter Tryd.func11, Tryd.ntmps11
  go_wp2
  go_loopg [4] len (fun g i wr => ∃ n : Nat, n + g = len ∧ i = .int .i64 n ∧ BP w.heap.size w wr ∧ ∃ C : Array Value, wr.heap[w.heap.size]? = some (.cells C 56 (0, 0)) ∧ C.size = len * 3 ∧ Hid (∀ j x, j < n → xs[j]? = some x → ∃ ds : List Value, ds.length = 3 ∧ (∀ i d, ds[i]? = some d → C[j * 3 + i]? = some d) ∧ (InstIs wr (w.heap.size + 1)) x ds))
  case atStart => exact ⟨0, by omega, rfl, (BP.refl _ _).alloc (Nat.le_refl _) _, _, heap_alloc_last w _, size_madeCells _ _, fun j x hj => by omega⟩
  case round =>
    obtain ⟨n, hn, rfl, hb, C, hC, hs, HS⟩ := hrel
    by_cases hlt : n < len
    · have i1 : (n : Int) < (len : Int) := by omega
      have i3 : (0 : Int) ≤ (n : Int) := by omega
      obtain ⟨x, hxn⟩ : ∃ x, xs[n]? = some x := ⟨_, List.getElem?_eq_getElem (by have := HL.out; omega)⟩
      obtain ⟨b, o, cs, rfl, hlo, hcs, hrg, hR⟩ := HX.out n x hxn
      have HB : Hid (BP w.heap.size w wr) := hb
      have HCr : Hid (wr.heap[w.heap.size]? = some (.cells C 56 (0, 0))) := hC
      have HLd : Hid ((loadVar 68 ⟨b, o + n * 3, none⟩).run Tryd.prog wr = .ok (.agg cs.toArray) wr) := run_loadVar_mid wr b (o + n * 3) 68 cs _ (fun i c hi => (Keeps.of_bp (B := 0) hb 0) _ _ _ (Nat.zero_le _) (hrg i c hi)) Tryd.underlying68 rfl (by rw [hcs]; kernel_rfl)
      have HCx : Hid (Calls Tryd.prog 36 #[.agg cs.toArray] wr fun r w' => ∃ ds : List Value, r = .returned (.agg ds.toArray) ∧ ds.length = 3 ∧ (∀ d ∈ ds, d.oneCell' = true) ∧ (InstIs w' wr.heap.size) x ds ∧ BP wr.heap.size wr w') := HC.out x cs (List.mem_of_getElem? hxn) wr (HM.out x cs lo lo w wr (Keeps.of_bp (B := 0) hb lo) (Nat.le_refl _) hR)
      have Bl : w.heap.size < wr.heap.size := (Array.getElem?_eq_some_iff.1 hC).1
      clear hb hrg hcs hR hlo hC
      go_wp2_with (first | (refine wpL_load rfl 68 _ rfl _ _ rfl _ HLd.out ?_) | fail)
      refine HCx.out.mono ?_
      rintro r w1 ⟨ds, rfl, hds, hone, hRd, g1⟩
      have hC1 : w1.heap[w.heap.size]? = some (.cells C 56 (0, 0)) := (g1.block _ Bl).trans HCr.out
      have b1 : BP w.heap.size w w1 := HB.out.trans (g1.mono HB.out.size)
      have HST : Hid ((storeVar 56 ⟨w.heap.size, n * 3, none⟩ (.agg ds.toArray)).run Tryd.prog w1 = .ok () (w1.setRow w.heap.size (putAt C (n * 3) ds))) := by
        have h1 : n * 3 + 3 ≤ len * 3 := by omega
        have := store_sub (P := Tryd.prog) hC1 56 (n * 3) ds.toArray (by simp [hds]; omega) (by rw [List.size_toArray, hds]; kernel_rfl) (by simp; exact hone)
        show _ = _
        simpa using this
      clear HCx HLd
      go_wp2_with (first | (refine wpL_store rfl 56 _ _ rfl _ _ rfl _ rfl _ HST.out ?_) | fail)
      go_roundg (gk - 1)
      case measure => omega
      case rel =>
        refine ⟨n + 1, by omega, by simp, bp_row b1 (Nat.le_refl _) hC1 _, _, row_set hC1 _, by rw [putAt_size]; exact hs, ?_⟩
        intro j x' hj hx'
        by_cases hjn : j = n
        · subst hjn
          obtain rfl := Option.some.inj (hxn.symm.trans hx')
          refine ⟨ds, hds, fun i d hd => ?_, HM.out _ _ wr.heap.size (w.heap.size + 1) w1 (w1.setRow w.heap.size (putAt C (j * 3) ds)) (keeps_row (by omega)) (by omega) hRd⟩
          have hi : i < 3 := by have := (List.getElem?_eq_some_iff.1 hd).1; omega
          rw [putAt_get _ _ _ (by omega), if_pos (by omega), Nat.add_sub_cancel_left]; exact hd
        · obtain ⟨es, he, hce, hRe⟩ := HS.out j x' (by omega) hx'
          refine ⟨es, he, fun i d hd => ?_, HM.out _ _ (w.heap.size + 1) (w.heap.size + 1) wr (w1.setRow w.heap.size (putAt C (n * 3) ds)) ((Keeps.of_bp (B := 0) g1 _).trans (keeps_row (by omega))) (Nat.le_refl _) hRe⟩
          have hi : i < 3 := by have := (List.getElem?_eq_some_iff.1 hd).1; omega
          rw [putAt_get _ _ _ (by omega), if_neg (by omega)]; exact hce i d hd
    · have i1 : ¬ ((n : Int) < (len : Int)) := by omega
      go_wp2
      go_ret
      refine ⟨_, rfl, ⟨some ⟨w.heap.size, 0, none⟩, len, by rw [← HL.out]; rfl, by rw [← HL.out]; omega, fun j x hj => ?_⟩, hb⟩
      have hjl : j < n := by have := (List.getElem?_eq_some_iff.1 hj).1; have := HL.out; omega
      obtain ⟨ds, hds, hcd, hRd⟩ := HS.out j x hjl hj
      refine ⟨w.heap.size, 0, ds, rfl, Nat.le_refl _, hds, fun i d hd => ?_, HM.out _ _ (w.heap.size + 1) w.heap.size wr wr (Keeps.refl _ _) (by omega) hRd⟩
      rw [Nat.zero_add, cell_of_row _ _ _ _ _ _ hC]; exact hcd i d hd

theorem to_instsP (v : Value) (xs : List InstT) (w : World) (lo : Nat) (hv : InstsIs w lo v xs) (hbig : xs.length + (xs.map wI).sum ≤ 1048576) :
    Calls Tryd.prog 11 #[v] w fun r w' => ∃ v', r = .returned v' ∧ InstsIs w' w.heap.size v' xs ∧ BP w.heap.size w w' :=
  to_insts_rowP v xs w lo hv (by omega) (fun x cs hx W h => to_instP x cs W lo h (by have := sum_mem wI xs x hx; omega)) (fun x cs l l' W W' k hl h => h.move k hl)

end Go.Proofs.YtcihplachlokiaaDoor
/- A list's copy marked: what it touches. -/
namespace Go.Proofs.YtcihplachlokiaaDoor
open Go.RowKit
set_option linter.unusedVariables false

/-- Whole numbers have been written over whole numbers, in blocks from 'lo' on and ahead of 'hi'. -/
structure WMk (lo hi : Nat) (w w' : World) : Prop where
  os : w'.os = w.os
  tape : w'.tape = w.tape
  output : w'.output = w.output
  size : w.heap.size ≤ w'.heap.size
  out : ∀ j, j < w.heap.size → (j < lo ∨ hi ≤ j) → w'.heap[j]? = w.heap[j]?
  cell : ∀ (b o : Nat) (v : Value), w.cell? ⟨b, o, none⟩ = some v → (∀ k u, v ≠ .int k u) → w'.cell? ⟨b, o, none⟩ = some v
  num : ∀ (b o : Nat) (u : Int), w.cell? ⟨b, o, none⟩ = some (.int .i64 u) → ∃ u', w'.cell? ⟨b, o, none⟩ = some (.int .i64 u')
  soft : ∀ (b : Nat), (∃ C t, w.heap[b]? = some (.cells C t (0, 0))) → ∃ C t, w'.heap[b]? = some (.cells C t (0, 0))
theorem WMk.refl (lo hi : Nat) (w : World) : WMk lo hi w w := ⟨rfl, rfl, rfl, Nat.le_refl _, fun _ _ _ => rfl, fun _ _ _ h _ => h, fun _ _ u h => ⟨u, h⟩, fun _ h => h⟩
theorem WMk.trans {lo hi : Nat} {w w' w'' : World} (h : WMk lo hi w w') (h' : WMk lo hi w' w'') : WMk lo hi w w'' :=
  ⟨h'.os.trans h.os, h'.tape.trans h.tape, h'.output.trans h.output, Nat.le_trans h.size h'.size, fun j h1 hj => (h'.out j (Nat.lt_of_lt_of_le h1 h.size) hj).trans (h.out j h1 hj), fun b o v h1 h2 => h'.cell b o v (h.cell b o v h1 h2) h2, fun b o u h1 => by
    obtain ⟨u', h2⟩ := h.num b o u h1
    exact h'.num b o u' h2, fun b h1 => h'.soft b (h.soft b h1)⟩
theorem WMk.of_below (lo hi : Nat) {w w' : World} (g : Below w.heap.size w w') : WMk lo hi w w' :=
  ⟨g.os, g.tape, g.output, g.size, fun j h1 _ => g.block j h1, fun b o v h _ => (Keeps.of_below g 0) b o v (Nat.zero_le _) h, fun b o u h => ⟨u, (Keeps.of_below g 0) b o _ (Nat.zero_le _) h⟩, fun b h => by
    obtain ⟨C, t, k⟩ := h
    exact ⟨C, t, (g.block _ (Array.getElem?_eq_some_iff.1 k).1).trans k⟩⟩
theorem WMk.below {lo hi B : Nat} {a w w' : World} (h : Below B a w) (g : WMk lo hi w w') (hb : B ≤ lo) (hs : B ≤ w.heap.size) : Below B a w' :=
  ⟨g.os.trans h.os, g.tape.trans h.tape, g.output.trans h.output, Nat.le_trans h.size g.size, fun j hj => (g.out j (by omega) (.inl (by omega))).trans (h.block j hj)⟩
theorem cells_of_cell {w : World} {b o : Nat} {C : Array Value} {t : TypeId} {v : Value} (h : w.heap[b]? = some (.cells C t (0, 0))) (hc : w.cell? ⟨b, o, none⟩ = some v) : o < C.size := by
  rw [cell_of_row _ _ _ _ _ _ h] at hc
  exact (Array.getElem?_eq_some_iff.1 hc).1
/-- A number over a number. -/
theorem WMk.put {lo hi : Nat} {w : World} {b o : Nat} {u : Int} (hc : w.cell? ⟨b, o, none⟩ = some (.int .i64 u)) (hs : ∃ C t, w.heap[b]? = some (.cells C t (0, 0))) (hl : lo ≤ b) (hh : b < hi) (x : Int) : WMk lo hi w (w.setCell ⟨b, o, none⟩ (.int .i64 x)) := by
  obtain ⟨C, t, h⟩ := hs
  have h2 := row_put h o (.int .i64 x)
  have ho := cells_of_cell h hc
  have hcell : ∀ (b' o' : Nat), (w.setCell ⟨b, o, none⟩ (.int .i64 x)).cell? ⟨b', o', none⟩ = if b' = b ∧ o' = o then some (.int .i64 x) else w.cell? ⟨b', o', none⟩ := fun b' o' => by
    by_cases e : b' = b
    · subst e
      rw [cell_of_row _ _ _ _ _ _ h2, cell_of_row _ _ _ _ _ _ h]
      by_cases e2 : o' = o
      · subst e2
        rw [if_pos ⟨rfl, rfl⟩]
        simp [ho]
      · rw [if_neg (fun q => e2 q.2)]
        rw [Array.getElem?_setIfInBounds_ne (fun q => e2 q.symm)]
    · rw [if_neg (fun q => e q.1)]
      exact World.cell?_setCell_other _ _ _ _ (by simp)
  refine ⟨rfl, rfl, rfl, ?_, ?_, ?_, ?_, ?_⟩
  · simp [World.setCell]
  · intro j _ hj
    by_cases e : j = b
    · subst e; omega
    · simp only [World.setCell]
      simp only [Array.getElem?_modify]
      rw [if_neg (fun q : b = j => e q.symm)]
  · intro b' o' v hv hn
    rw [hcell]
    split
    · next e =>
      obtain ⟨rfl, rfl⟩ := e
      rw [hc] at hv
      exact absurd (Option.some.inj hv).symm (hn _ _)
    · exact hv
  · intro b' o' u' hu
    rw [hcell]
    split
    · exact ⟨x, rfl⟩
    · exact ⟨u', hu⟩
  · intro b' hb'
    by_cases e : b = b'
    · subst e; exact ⟨_, t, h2⟩
    · obtain ⟨C', t', k⟩ := hb'
      exact ⟨C', t', row_other k b o e _⟩
end Go.Proofs.YtcihplachlokiaaDoor
