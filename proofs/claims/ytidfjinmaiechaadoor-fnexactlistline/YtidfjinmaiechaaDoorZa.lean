/- Instructions in the memory: sizes, copies, comparison. -/
import Derived.Test.YtidfjinmaiechaaDoorGf
namespace Go.Proofs.YtidfjinmaiechaaDoor
open Go.RowKit
set_option linter.unusedVariables false

structure InstT where
  code : Int
  one : ElemT
def InstIs (W : World) (lo : Nat) (i : InstT) (cs : List Value) : Prop := ∃ v, cs = [.int .i64 i.code, .int .i64 i.one.op, v] ∧ RowIs W lo 3 ArgIs v i.one.args
theorem InstIs.move {W W' : World} {lo lo' : Nat} (k : Keeps lo W W') (hl : lo' ≤ lo) {e : InstT} {cs : List Value} (h : InstIs W lo e cs) : InstIs W' lo' e cs := by
  obtain ⟨v, hc, hr⟩ := h
  exact ⟨v, hc, hr.move k hl fun _ _ _ h => h⟩
abbrev InstsIs (W : World) (lo : Nat) (v : Value) (xs : List InstT) : Prop := RowIs W lo 3 (InstIs W lo) v xs
theorem instsIs_move {W W' : World} {lo lo' : Nat} (k : Keeps lo W W') (hl : lo' ≤ lo) {v : Value} {xs : List InstT} (h : InstsIs W lo v xs) : InstsIs W' lo' v xs := h.move k hl fun _ _ _ h => h.move k hl
def wI (i : InstT) : Nat := wE i.one
theorem instT_eq (i j : InstT) : (decide (i.code = j.code) && eqB i.one j.one) = true ↔ i = j := by
  rw [Bool.and_eq_true, decide_eq_true_iff, eqB_true]
  cases i; cases j; simp

set_option maxRecDepth 10000 in
set_option maxHeartbeats 2000000 in
theorem sz_inst_step (left : Int) (p : Nat) (k op : Int) (v : Value) (s1 : v.oneCell' = true) (w : World)
    (HE : Hid (∀ W, Below w.heap.size w W → Calls Tryd.prog 15 #[.agg #[.int .i64 op, v], .int .i64 left] W fun r w' => r = .returned (.int .i64 (szR left p)) ∧ Below W.heap.size W w')) :
    Calls Tryd.prog 8 #[.agg #[.int .i64 k, .int .i64 op, v], .int .i64 left] w fun r w' => r = .returned (.int .i64 (szR left p)) ∧ Below w.heap.size w w' := by
  have b0 : Below w.heap.size w (w.alloc (.cells #[.int .i64 k, .int .i64 op, v] 28)) := (Below.refl _ _).alloc (Nat.le_refl _) _
  have hc := szR_cases left p
  generalize szR left p = R at HE hc ⊢
  go_enter Tryd.func8, Tryd.ntmps8
  go_wp2_with fail
  refine (HE.out _ b0).mono ?_
  rintro r w1 ⟨rfl, g1⟩
  have b1 := b0.trans (g1.mono b0.size)
  clear g1 b0
  rcases hc with h | rfl
  · have i2 : ¬ (R < 0) := by omega
    go_wp2
    go_ret
    exact ⟨rfl, b1⟩
  · go_wp2
    go_ret
    exact ⟨rfl, b1⟩
theorem sz_inst (left : Int) (h0 : 0 ≤ left) (h1 : left ≤ 1048576) (i : InstT) (cs : List Value) (w : World) (lo : Nat) (hv : InstIs w lo i cs) :
    Calls Tryd.prog 8 #[.agg cs.toArray, .int .i64 left] w fun r w' => r = .returned (.int .i64 (szR left (wI i))) ∧ Below w.heap.size w w' := by
  obtain ⟨v, rfl, ha⟩ := hv
  exact sz_inst_step left (wI i) i.code i.one.op v ha.one w (fun W g => sz_elem left h0 h1 i.one _ W lo ⟨v, rfl, argsIs_move (Keeps.of_below g lo) (Nat.le_refl _) ha⟩)


set_option maxRecDepth 10000 in
set_option maxHeartbeats 2000000 in
theorem to_inst_step (e : ElemT) (k : Int) (v : Value) (s1 : v.oneCell' = true) (w : World)
    (HE : Hid (∀ W, Below w.heap.size w W → Calls Tryd.prog 18 #[.agg #[.int .i64 e.op, v]] W fun r w' => ∃ ds : List Value, r = .returned (.agg ds.toArray) ∧ ds.length = 2 ∧ (∀ d ∈ ds, d.oneCell' = true) ∧ ElemIs w' W.heap.size e ds ∧ Below W.heap.size W w')) :
    Calls Tryd.prog 10 #[.agg #[.int .i64 k, .int .i64 e.op, v]] w fun r w' => ∃ ds : List Value, r = .returned (.agg ds.toArray) ∧ ds.length = 3 ∧ (∀ d ∈ ds, d.oneCell' = true) ∧ InstIs w' w.heap.size ⟨k, e⟩ ds ∧ Below w.heap.size w w' := by
  obtain ⟨op, Hop⟩ : ∃ op, Hid (op = e.op) := ⟨_, rfl⟩
  rw [← Hop.out] at HE ⊢
  go_enter Tryd.func10, Tryd.ntmps10
  go_wp2_with fail
  have b0 : Below w.heap.size w (((w.alloc (.cells #[.int .i64 k, .int .i64 op, v] 28)).alloc (.cells #[.int .i64 0, .int .i64 0, .slice none 0 0] 35)).alloc (.cells #[.int .i64 k, .int .i64 0, .slice none 0 0] 35)) := (((Below.refl _ _).alloc (Nat.le_refl _) _).alloc (by simp) _).alloc (by simp <;> omega) _
  have hk := rows3 w (.cells #[.int .i64 k, .int .i64 op, v] 28) (.cells #[.int .i64 0, .int .i64 0, .slice none 0 0] 35) (.cells #[.int .i64 k, .int .i64 0, .slice none 0 0] 35)
  have hz : (((w.alloc (.cells #[.int .i64 k, .int .i64 op, v] 28)).alloc (.cells #[.int .i64 0, .int .i64 0, .slice none 0 0] 35)).alloc (.cells #[.int .i64 k, .int .i64 0, .slice none 0 0] 35)).heap.size = w.heap.size + 1 + 1 + 1 := by simp
  generalize (((w.alloc (.cells #[.int .i64 k, .int .i64 op, v] 28)).alloc (.cells #[.int .i64 0, .int .i64 0, .slice none 0 0] 35)).alloc (.cells #[.int .i64 k, .int .i64 0, .slice none 0 0] 35)) = W0 at b0 hk hz ⊢
  refine (HE.out W0 b0).mono ?_
  rintro r w1 ⟨ds, rfl, hds, hone, ⟨v1, rfl, hv1⟩, g1⟩
  rw [← Hop.out] at hone ⊢
  have c1 := (g1.block _ (by omega)).trans hk.2.1
  have c2 := (g1.block _ (by omega)).trans hk.2.2
  have b1 := b0.trans (g1.mono b0.size)
  have HST : Hid ((storeVar 33 ⟨w.heap.size + 1 + 1, 1, none⟩ (.agg #[.int .i64 op, v1])).run Tryd.prog w1 = .ok () (w1.setRow (w.heap.size + 1 + 1) #[.int .i64 k, .int .i64 op, v1])) := store_sub (P := Tryd.prog) c2 33 1 #[.int .i64 op, v1] (by simp) (by kernel_rfl) (all_one [.int .i64 op, v1] hone)
  have s2 := hv1.one
  have HO : Hid (∀ d ∈ [Value.int .i64 k, .int .i64 op, v1], d.oneCell' = true) := by
    intro d hd
    simp at hd
    rcases hd with rfl | rfl | rfl
    · rfl
    · rfl
    · exact s2
  obtain ⟨W2, HW2⟩ : ∃ W, Hid (W = w1.setRow (w.heap.size + 1 + 1) #[.int .i64 k, .int .i64 op, v1]) := ⟨_, rfl⟩
  have d1 : W2.heap[w.heap.size + 1]? = some (.cells #[.int .i64 0, .int .i64 0, .slice none 0 0] 35 (0, 0)) := by rw [HW2.out]; exact row_beside c1 _ (by omega) _
  have d2 : W2.heap[w.heap.size + 1 + 1]? = some (.cells #[.int .i64 k, .int .i64 op, v1] 35 (0, 0)) := by rw [HW2.out]; exact row_set c2 _
  have b2 : Below w.heap.size w W2 := by rw [HW2.out]; exact below_setRow b1 (by omega) _
  have k2 : ArgsIs W2 (w.heap.size + 1 + 1 + 1) v1 e.args := by rw [HW2.out]; exact argsIs_move (keeps_row (by omega)) (by omega) hv1
  have HLD : Hid ((loadVar 35 ⟨w.heap.size + 1 + 1, 0, none⟩).run Tryd.prog W2 = .ok (.agg #[.int .i64 k, .int .i64 op, v1]) W2) := load_all d2 _ _ Tryd.underlying35 rfl (by kernel_rfl)
  have HS2 : Hid ((storeVar 35 ⟨w.heap.size + 1, 0, none⟩ (.agg #[.int .i64 k, .int .i64 op, v1])).run Tryd.prog W2 = .ok () (W2.setRow (w.heap.size + 1) #[.int .i64 k, .int .i64 op, v1])) := store_all d1 35 _ rfl (by kernel_rfl) (all_one [.int .i64 k, .int .i64 op, v1] HO.out)
  have HR : Hid ((W2.setRow (w.heap.size + 1) #[.int .i64 k, .int .i64 op, v1]).heap[w.heap.size + 1]? = some (.cells #[.int .i64 k, .int .i64 op, v1] 35 (0, 0))) := row_set d1 _
  have HB : Hid (Below w.heap.size w (W2.setRow (w.heap.size + 1) #[.int .i64 k, .int .i64 op, v1])) := below_setRow b2 (by omega) _
  have HK : Hid (ArgsIs (W2.setRow (w.heap.size + 1) #[.int .i64 k, .int .i64 op, v1]) w.heap.size v1 e.args) := argsIs_move (keeps_row (by omega)) (by omega) k2
  rw [← HW2.out] at HST
  clear HW2 g1 b0 hk hz c1 c2 b1 hv1 k2 d1 d2 b2 HE hone hds
  go_wp2_with (first | (refine wpL_store rfl 33 _ _ rfl _ _ rfl _ rfl _ HST.out ?_) | (refine wpL_load rfl 35 _ rfl _ _ rfl _ HLD.out ?_) | (refine wpL_store rfl 35 _ _ rfl _ _ rfl _ rfl _ HS2.out ?_) | (refine ret_row rfl rfl HR.out Tryd.underlying35 rfl (by kernel_rfl) rfl ?_) | fail)
  exact ⟨[.int .i64 k, .int .i64 op, v1], rfl, rfl, HO.out, ⟨v1, by rw [Hop.out], HK.out⟩, HB.out⟩
theorem to_inst (i : InstT) (cs : List Value) (w : World) (lo : Nat) (hv : InstIs w lo i cs) (hbig : wI i ≤ 1048576) :
    Calls Tryd.prog 10 #[.agg cs.toArray] w fun r w' => ∃ ds : List Value, r = .returned (.agg ds.toArray) ∧ ds.length = 3 ∧ (∀ d ∈ ds, d.oneCell' = true) ∧ InstIs w' w.heap.size i ds ∧ Below w.heap.size w w' := by
  obtain ⟨v, rfl, ha⟩ := hv
  exact to_inst_step i.one i.code v ha.one w (fun W g => to_elem i.one _ W lo ⟨v, rfl, argsIs_move (Keeps.of_below g lo) (Nat.le_refl _) ha⟩ hbig)


set_option maxRecDepth 10000 in
set_option maxHeartbeats 2000000 in
theorem eq_inst_step (x0 y0 : Int) (x1 y1 : Int) (x2 y2 : Value) (r0 : Bool) (p2 : x2.oneCell' = true) (q2 : y2.oneCell' = true) (w : World)
    (H0 : Hid (∀ W, Below w.heap.size w W → Calls Tryd.prog 22 #[.agg #[.int .i64 x1, x2], .agg #[.int .i64 y1, y2]] W fun r w' => r = .returned (.bool r0) ∧ Below W.heap.size W w')) :
    Calls Tryd.prog 12 #[.agg #[.int .i64 x0, .int .i64 x1, x2], .agg #[.int .i64 y0, .int .i64 y1, y2]] w fun r w' => r = .returned (.bool (decide (x0 = y0) && r0)) ∧ Below w.heap.size w w' := by
  have b0 : Below w.heap.size w ((w.alloc (.cells #[.int .i64 x0, .int .i64 x1, x2] 35)).alloc (.cells #[.int .i64 y0, .int .i64 y1, y2] 35)) := ((Below.refl _ _).alloc (Nat.le_refl _) _).alloc (by simp) _
  by_cases h0 : x0 = y0
  · subst h0
    have e0 : decide (x0 = x0) = true := by simp
    go_enter Tryd.func12, Tryd.ntmps12
    go_wp2_with fail
    have hk := rows2 w (.cells #[.int .i64 x0, .int .i64 x1, x2] 35) (.cells #[.int .i64 x0, .int .i64 y1, y2] 35)
    have hz : ((w.alloc (.cells #[.int .i64 x0, .int .i64 x1, x2] 35)).alloc (.cells #[.int .i64 x0, .int .i64 y1, y2] 35)).heap.size = w.heap.size + 1 + 1 := by simp
    generalize ((w.alloc (.cells #[.int .i64 x0, .int .i64 x1, x2] 35)).alloc (.cells #[.int .i64 x0, .int .i64 y1, y2] 35)) = W0 at b0 hk hz ⊢
    refine (H0.out _ b0).mono ?_
    rintro e w1 ⟨rfl, g1⟩
    have b1 := b0.trans (g1.mono b0.size)
    have k0 := (g1.block _ (by omega)).trans hk.1
    have k1 := (g1.block _ (by omega)).trans hk.2
    clear g1
    cases r0 with
    | false =>
      clear k0 k1 hk hz b0
      go_wp2
      go_ret
      exact ⟨by simp, b1⟩
    | true =>
      clear k0 k1 hk hz b0
      go_wp2
      go_ret
      exact ⟨by simp, b1⟩
  · have e0 : decide (x0 = y0) = false := by simp [h0]
    go_enter Tryd.func12, Tryd.ntmps12
    go_wp2
    go_ret
    exact ⟨by simp [e0], b0⟩


theorem eq_inst (i j : InstT) (cs ds : List Value) (w : World) (lo lo' : Nat) (hv : InstIs w lo i cs) (hv' : InstIs w lo' j ds) :
    Calls Tryd.prog 12 #[.agg cs.toArray, .agg ds.toArray] w fun r w' => r = .returned (.bool (eqB i j)) ∧ Below w.heap.size w w' := by
  obtain ⟨v, rfl, h⟩ := hv
  obtain ⟨v', rfl, h'⟩ := hv'
  rw [eqB_iff (instT_eq i j)]
  exact eq_inst_step i.code j.code i.one.op j.one.op v v' _ h.one h'.one w (fun W g => eq_elem i.one j.one _ _ W lo lo' ⟨v, rfl, argsIs_move (Keeps.of_below g lo) (Nat.le_refl _) h⟩ ⟨v', rfl, argsIs_move (Keeps.of_below g lo') (Nat.le_refl _) h'⟩)


end Go.Proofs.YtidfjinmaiechaaDoor