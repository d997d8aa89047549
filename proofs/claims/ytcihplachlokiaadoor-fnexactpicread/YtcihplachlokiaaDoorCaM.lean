/- Instructions copied: all that is made is plain cells. -/
import Derived.Test.YtcihplachlokiaaDoorZa
namespace Go.Proofs.YtcihplachlokiaaDoor
open Go.RowKit
set_option linter.unusedVariables false

/-- From 'lo' on there are plain cells alone. -/
def Plain (lo : Nat) (W : World) : Prop := ∀ j, lo ≤ j → j < W.heap.size → ∃ C t, W.heap[j]? = some (.cells C t (0, 0))
structure BP (B : Nat) (w w' : World) : Prop where
  bel : Below B w w'
  pl : ∀ lo, Plain lo w → Plain lo w'
theorem BP.refl (B : Nat) (w : World) : BP B w w := ⟨Below.refl _ _, fun _ h => h⟩
theorem BP.size {B : Nat} {w w' : World} (h : BP B w w') : w.heap.size ≤ w'.heap.size := h.bel.size
theorem BP.block {B : Nat} {w w' : World} (h : BP B w w') : ∀ k, k < B → w'.heap[k]? = w.heap[k]? := h.bel.block
theorem BP.mono {B B' : Nat} {w w' : World} (h : BP B w w') (hb : B' ≤ B) : BP B' w w' := ⟨h.bel.mono hb, h.pl⟩
theorem BP.trans {B : Nat} {w w' w'' : World} (h : BP B w w') (h' : BP B w' w'') : BP B w w'' := ⟨h.bel.trans h'.bel, fun lo p => h'.pl lo (h.pl lo p)⟩
theorem BP.alloc {B : Nat} {a w : World} (h : BP B a w) (hb : B ≤ w.heap.size) {C : Array Value} (t : TypeId) : BP B a (w.alloc (.cells C t)) := ⟨h.bel.alloc hb _, fun lo p j h1 h2 => by
  by_cases e : j < w.heap.size
  · obtain ⟨C', t', k⟩ := h.pl lo p j h1 e
    exact ⟨C', t', (heap_alloc_old _ _ (h := e)).trans k⟩
  · simp at h2
    obtain rfl : j = w.heap.size := by omega
    exact ⟨C, t, heap_alloc_last w _⟩⟩
theorem bp_setRow {B : Nat} {a w : World} (h : BP B a w) {g : Nat} (hg : B ≤ g) (D : Array Value) : BP B a (w.setRow g D) := ⟨below_setRow h.bel hg D, fun lo p j h1 h2 => by
  have hs : (w.setRow g D).heap.size = w.heap.size := by unfold World.setRow; simp
  obtain ⟨C', t', k⟩ := h.pl lo p j h1 (by omega)
  by_cases e : j = g
  · subst e
    exact ⟨D, t', row_set k D⟩
  · exact ⟨C', t', row_beside k _ (fun q => e q.symm) D⟩⟩
theorem bp_row {w W : World} (b : BP w.heap.size w W) {g : Nat} (hg : w.heap.size ≤ g) {C : Array Value} {t : TypeId} (h : W.heap[g]? = some (.cells C t (0, 0))) (D : Array Value) : BP w.heap.size w (W.setRow g D) := bp_setRow b hg D
theorem Keeps.of_bp {B : Nat} {w w' : World} (g : BP w.heap.size w w') (lo : Nat) : Keeps lo w w' := Keeps.of_below g.bel lo
theorem BP.plain {w w' : World} (h : BP w.heap.size w w') : Plain w.heap.size w' := h.pl _ (fun j h1 h2 => by omega)

set_option maxHeartbeats 1000000 in
theorem to_argP (k n p : Int) (w : World) : Calls Tryd.prog 86 #[.agg #[.int .i64 k, .int .i64 n, .int .i64 p]] w fun e w' => e = .returned (.agg #[.int .i64 k, .int .i64 n, .int .i64 p]) ∧ BP w.heap.size w w' := by
  go_enter Tryd.func86, Tryd.ntmps86
  go_wp2
  refine bodyPost_ret (v := .agg #[.int .i64 k, .int .i64 n, .int .i64 p]) (by simp [results, Tryd.results86, go_sem]) rfl ⟨rfl, ?_⟩
  exact ((((BP.refl _ _).alloc (Nat.le_refl _) _).alloc (by simp) _).alloc (by simp <;> omega) _)

set_option maxRecDepth 10000 in
set_option maxHeartbeats 2000000 in
theorem to_args_rowP (v : Value) (xs : List ArgT) (w : World) (lo : Nat) (hv : RowIs w lo 3 (ArgIs) v xs) (hbig : xs.length ≤ 1048576)
    (HC : Hid (∀ x cs, x ∈ xs → ∀ (W : World), (ArgIs) x cs → Calls Tryd.prog 86 #[.agg cs.toArray] W fun r w' => ∃ ds : List Value, r = .returned (.agg ds.toArray) ∧ ds.length = 3 ∧ (∀ d ∈ ds, d.oneCell' = true) ∧ (ArgIs) x ds ∧ BP W.heap.size W w'))
    (HM : Hid (∀ x cs (l l' : Nat) (W W' : World), Keeps l W W' → l' ≤ l → (ArgIs) x cs → (ArgIs) x cs)) :
    Calls Tryd.prog 73 #[v] w fun r w' => ∃ v', r = .returned v' ∧ RowIs w' w.heap.size 3 (ArgIs) v' xs ∧ BP w.heap.size w w' := by
  obtain ⟨a, cap, rfl, hl, hx⟩ := hv
  have HX : Hid (∀ j x, xs[j]? = some x → ∃ b o cs, a = some ⟨b, o, none⟩ ∧ lo ≤ b ∧ cs.length = 3 ∧ w.rangeAt b (o + j * 3) cs ∧ (ArgIs) x cs) := hx
  have hmk := make_DevArg xs.length hbig
  obtain ⟨len, HL⟩ : ∃ len, Hid (len = xs.length) := ⟨_, rfl⟩
  rw [← HL.out] at hl hmk hbig ⊢
  clear hx
  go_enter Tryd.func73, Tryd.ntmps73
  go_wp2
  go_loopg [4] len (fun g i wr => ∃ n : Nat, n + g = len ∧ i = .int .i64 n ∧ BP w.heap.size w wr ∧ ∃ C : Array Value, wr.heap[w.heap.size]? = some (.cells C 87 (0, 0)) ∧ C.size = len * 3 ∧ Hid (∀ j x, j < n → xs[j]? = some x → ∃ ds : List Value, ds.length = 3 ∧ (∀ i d, ds[i]? = some d → C[j * 3 + i]? = some d) ∧ (ArgIs) x ds))
  case atStart => exact ⟨0, by omega, rfl, (BP.refl _ _).alloc (Nat.le_refl _) _, _, heap_alloc_last w _, size_madeCells _ _, fun j x hj => by omega⟩
  case round =>
    obtain ⟨n, hn, rfl, hb, C, hC, hs, HS⟩ := hrel
    by_cases hlt : n < len
    · have i1 : (n : Int) < (len : Int) := by omega
      have i3 : (0 : Int) ≤ (n : Int) := by omega
      obtain ⟨x, hxn⟩ : ∃ x, xs[n]? = some x := ⟨_, List.getElem?_eq_getElem (by have := HL.out; omega)⟩
      obtain ⟨b, o, cs, rfl, hlo, hcs, hrg, hR⟩ := HX.out n x hxn
      have HB : Hid (BP w.heap.size w wr) := hb
      have HCr : Hid (wr.heap[w.heap.size]? = some (.cells C 87 (0, 0))) := hC
      have HLd : Hid ((loadVar 119 ⟨b, o + n * 3, none⟩).run Tryd.prog wr = .ok (.agg cs.toArray) wr) := run_loadVar_mid wr b (o + n * 3) 119 cs _ (fun i c hi => (Keeps.of_bp (B := 0) hb 0) _ _ _ (Nat.zero_le _) (hrg i c hi)) Tryd.underlying119 rfl (by rw [hcs]; kernel_rfl)
      have HCx : Hid (Calls Tryd.prog 86 #[.agg cs.toArray] wr fun r w' => ∃ ds : List Value, r = .returned (.agg ds.toArray) ∧ ds.length = 3 ∧ (∀ d ∈ ds, d.oneCell' = true) ∧ (ArgIs) x ds ∧ BP wr.heap.size wr w') := HC.out x cs (List.mem_of_getElem? hxn) wr (HM.out x cs lo lo w wr (Keeps.of_bp (B := 0) hb lo) (Nat.le_refl _) hR)
      have Bl : w.heap.size < wr.heap.size := (Array.getElem?_eq_some_iff.1 hC).1
      clear hb hrg hcs hR hlo hC
      go_wp2_with (first | (refine wpL_load rfl 119 _ rfl _ _ rfl _ HLd.out ?_) | fail)
      refine HCx.out.mono ?_
      rintro r w1 ⟨ds, rfl, hds, hone, hRd, g1⟩
      have hC1 : w1.heap[w.heap.size]? = some (.cells C 87 (0, 0)) := (g1.block _ Bl).trans HCr.out
      have b1 : BP w.heap.size w w1 := HB.out.trans (g1.mono HB.out.size)
      have HST : Hid ((storeVar 87 ⟨w.heap.size, n * 3, none⟩ (.agg ds.toArray)).run Tryd.prog w1 = .ok () (w1.setRow w.heap.size (putAt C (n * 3) ds))) := by
        have h1 : n * 3 + 3 ≤ len * 3 := by omega
        have := store_sub (P := Tryd.prog) hC1 87 (n * 3) ds.toArray (by simp [hds]; omega) (by rw [List.size_toArray, hds]; kernel_rfl) (by simp; exact hone)
        show _ = _
        simpa using this
      clear HCx HLd
      go_wp2_with (first | (refine wpL_store rfl 87 _ _ rfl _ _ rfl _ rfl _ HST.out ?_) | fail)
      go_roundg (gk - 1)
      case measure => omega
      case rel =>
        refine ⟨n + 1, by omega, by simp, bp_row b1 (Nat.le_refl _) hC1 _, _, row_set hC1 _, by rw [putAt_size]; exact hs, ?_⟩
        intro j x' hj hx'
        by_cases hjn : j = n
        · subst hjn
          obtain rfl := Option.some.inj (hxn.symm.trans hx')
          refine ⟨ds, hds, fun i d hd => ?_, HM.out _ _ wr.heap.size (w.heap.size + 1) w1 (w1.setRow w.heap.size (putAt C (j * 3) ds)) (keeps_row (by omega)) (by omega) hRd⟩
          have hi : i < 3 := by have := (List.getElem?_eq_some_iff.1 hd).1; omega
          rw [putAt_get _ _ _ (by omega), if_pos (by omega), Nat.add_sub_cancel_left]; exact hd
        · obtain ⟨es, he, hce, hRe⟩ := HS.out j x' (by omega) hx'
          refine ⟨es, he, fun i d hd => ?_, HM.out _ _ (w.heap.size + 1) (w.heap.size + 1) wr (w1.setRow w.heap.size (putAt C (n * 3) ds)) ((Keeps.of_bp (B := 0) g1 _).trans (keeps_row (by omega))) (Nat.le_refl _) hRe⟩
          have hi : i < 3 := by have := (List.getElem?_eq_some_iff.1 hd).1; omega
          rw [putAt_get _ _ _ (by omega), if_neg (by omega)]; exact hce i d hd
    · have i1 : ¬ ((n : Int) < (len : Int)) := by omega
      go_wp2
      go_ret
      refine ⟨_, rfl, ⟨some ⟨w.heap.size, 0, none⟩, len, by rw [← HL.out]; rfl, by rw [← HL.out]; omega, fun j x hj => ?_⟩, hb⟩
      have hjl : j < n := by have := (List.getElem?_eq_some_iff.1 hj).1; have := HL.out; omega
      obtain ⟨ds, hds, hcd, hRd⟩ := HS.out j x hjl hj
      refine ⟨w.heap.size, 0, ds, rfl, Nat.le_refl _, hds, fun i d hd => ?_, HM.out _ _ (w.heap.size + 1) w.heap.size wr wr (Keeps.refl _ _) (by omega) hRd⟩
      rw [Nat.zero_add, cell_of_row _ _ _ _ _ _ hC]; exact hcd i d hd

theorem to_argsP (v : Value) (xs : List ArgT) (w : World) (lo : Nat) (hv : ArgsIs w lo v xs) (hbig : xs.length ≤ 1048576) :
    Calls Tryd.prog 73 #[v] w fun r w' => ∃ v', r = .returned v' ∧ ArgsIs w' w.heap.size v' xs ∧ BP w.heap.size w w' :=
  to_args_rowP v xs w lo hv hbig (fun x cs _ W h => by
    rw [show cs = _ from h]
    exact (to_argP _ _ _ W).mono fun e w' ⟨h1, h2⟩ => ⟨_, h1, rfl, by intro d hd; simp at hd; rcases hd with rfl | rfl | rfl <;> rfl, rfl, h2⟩) (fun x cs l l' W W' _ _ h => h)

set_option maxRecDepth 10000 in
set_option maxHeartbeats 2000000 in
theorem to_elemP (e : ElemT) (cs : List Value) (w : World) (lo : Nat) (hv : ElemIs w lo e cs) (hbig : wE e ≤ 1048576) :
    Calls Tryd.prog 58 #[.agg cs.toArray] w fun r w' => ∃ ds : List Value, r = .returned (.agg ds.toArray) ∧ ds.length = 2 ∧ (∀ d ∈ ds, d.oneCell' = true) ∧ ElemIs w' w.heap.size e ds ∧ BP w.heap.size w w' := by
  obtain ⟨v, rfl, hr⟩ := hv
  have s1 := hr.one
  obtain ⟨op, Hop⟩ : ∃ op, Hid (op = e.op) := ⟨_, rfl⟩
  have HA : Hid (∀ W, BP w.heap.size w W → Calls Tryd.prog 73 #[v] W fun r w' => ∃ v', r = .returned v' ∧ ArgsIs w' W.heap.size v' e.args ∧ BP W.heap.size W w') := fun W g => to_argsP v e.args W lo (argsIs_move (Keeps.of_bp (B := 0) g lo) (Nat.le_refl _) hr) hbig
  rw [← Hop.out]
  clear hr hbig
  go_enter Tryd.func58, Tryd.ntmps58
  go_wp2_with fail
  have b0 : BP w.heap.size w (((w.alloc (.cells #[.int .i64 op, v] 66)).alloc (.cells #[.int .i64 0, .slice none 0 0] 54)).alloc (.cells #[.int .i64 op, .slice none 0 0] 54)) := (((BP.refl _ _).alloc (Nat.le_refl _) _).alloc (by simp) _).alloc (by simp <;> omega) _
  have hk := rows3 w (.cells #[.int .i64 op, v] 66) (.cells #[.int .i64 0, .slice none 0 0] 54) (.cells #[.int .i64 op, .slice none 0 0] 54)
  have hz : (((w.alloc (.cells #[.int .i64 op, v] 66)).alloc (.cells #[.int .i64 0, .slice none 0 0] 54)).alloc (.cells #[.int .i64 op, .slice none 0 0] 54)).heap.size = w.heap.size + 1 + 1 + 1 := by simp
  generalize (((w.alloc (.cells #[.int .i64 op, v] 66)).alloc (.cells #[.int .i64 0, .slice none 0 0] 54)).alloc (.cells #[.int .i64 op, .slice none 0 0] 54)) = W0 at b0 hk hz ⊢
  refine (HA.out W0 b0).mono ?_
  rintro r w1 ⟨v1, rfl, hv1, g1⟩
  have c1 := (g1.block _ (by omega)).trans hk.2.1
  have c2 := (g1.block _ (by omega)).trans hk.2.2
  have b1 := b0.trans (g1.mono b0.size)
  have HST : Hid ((storeVar 52 ⟨w.heap.size + 1 + 1, 1, none⟩ v1).run Tryd.prog w1 = .ok () (w1.setRow (w.heap.size + 1 + 1) #[.int .i64 op, v1])) := store_one (P := Tryd.prog) c2 52 1 v1 (by simp) (by kernel_rfl) (slice_one hv1) hv1.one
  have s2 := hv1.one
  have HO : Hid (∀ d ∈ [Value.int .i64 op, v1], d.oneCell' = true) := by
    intro d hd
    simp at hd
    rcases hd with rfl | rfl
    · rfl
    · exact s2
  obtain ⟨W2, HW2⟩ : ∃ W, Hid (W = w1.setRow (w.heap.size + 1 + 1) #[.int .i64 op, v1]) := ⟨_, rfl⟩
  have d1 : W2.heap[w.heap.size + 1]? = some (.cells #[.int .i64 0, .slice none 0 0] 54 (0, 0)) := by rw [HW2.out]; exact row_beside c1 _ (by omega) _
  have d2 : W2.heap[w.heap.size + 1 + 1]? = some (.cells #[.int .i64 op, v1] 54 (0, 0)) := by rw [HW2.out]; exact row_set c2 _
  have b2 : BP w.heap.size w W2 := by rw [HW2.out]; exact bp_setRow b1 (by omega) _
  have k2 : ArgsIs W2 (w.heap.size + 1 + 1 + 1) v1 e.args := by rw [HW2.out]; exact argsIs_move (keeps_row (by omega)) (by omega) hv1
  have HLD : Hid ((loadVar 54 ⟨w.heap.size + 1 + 1, 0, none⟩).run Tryd.prog W2 = .ok (.agg #[.int .i64 op, v1]) W2) := load_all d2 _ _ Tryd.underlying54 rfl (by kernel_rfl)
  have HS2 : Hid ((storeVar 54 ⟨w.heap.size + 1, 0, none⟩ (.agg #[.int .i64 op, v1])).run Tryd.prog W2 = .ok () (W2.setRow (w.heap.size + 1) #[.int .i64 op, v1])) := store_all d1 54 _ rfl (by kernel_rfl) (all_one [.int .i64 op, v1] HO.out)
  have HR : Hid ((W2.setRow (w.heap.size + 1) #[.int .i64 op, v1]).heap[w.heap.size + 1]? = some (.cells #[.int .i64 op, v1] 54 (0, 0))) := row_set d1 _
  have HB : Hid (BP w.heap.size w (W2.setRow (w.heap.size + 1) #[.int .i64 op, v1])) := bp_setRow b2 (by omega) _
  have HK : Hid (ArgsIs (W2.setRow (w.heap.size + 1) #[.int .i64 op, v1]) w.heap.size v1 e.args) := argsIs_move (keeps_row (by omega)) (by omega) k2
  rw [← HW2.out] at HST
  clear HW2 g1 b0 hk hz c1 c2 b1 hv1 k2 d1 d2 b2 HA
  go_wp2_with (first | (refine wpL_store rfl 52 _ _ rfl _ _ rfl _ rfl _ HST.out ?_) | (refine wpL_load rfl 54 _ rfl _ _ rfl _ HLD.out ?_) | (refine wpL_store rfl 54 _ _ rfl _ _ rfl _ rfl _ HS2.out ?_) | (refine ret_row rfl rfl HR.out Tryd.underlying54 rfl (by kernel_rfl) rfl ?_) | fail)
  exact ⟨[.int .i64 op, v1], rfl, rfl, HO.out, ⟨v1, by rw [Hop.out], HK.out⟩, HB.out⟩

set_option maxRecDepth 10000 in
set_option maxHeartbeats 2000000 in
theorem to_inst_stepP (e : ElemT) (k : Int) (v : Value) (s1 : v.oneCell' = true) (w : World)
    (HE : Hid (∀ W, BP w.heap.size w W → Calls Tryd.prog 58 #[.agg #[.int .i64 e.op, v]] W fun r w' => ∃ ds : List Value, r = .returned (.agg ds.toArray) ∧ ds.length = 2 ∧ (∀ d ∈ ds, d.oneCell' = true) ∧ ElemIs w' W.heap.size e ds ∧ BP W.heap.size W w')) :
    Calls Tryd.prog 36 #[.agg #[.int .i64 k, .int .i64 e.op, v]] w fun r w' => ∃ ds : List Value, r = .returned (.agg ds.toArray) ∧ ds.length = 3 ∧ (∀ d ∈ ds, d.oneCell' = true) ∧ InstIs w' w.heap.size ⟨k, e⟩ ds ∧ BP w.heap.size w w' := by
  obtain ⟨op, Hop⟩ : ∃ op, Hid (op = e.op) := ⟨_, rfl⟩
  rw [← Hop.out] at HE ⊢
  go_enter Tryd.func36, Tryd.ntmps36
  go_wp2_with fail
  have b0 : BP w.heap.size w (((w.alloc (.cells #[.int .i64 k, .int .i64 op, v] 68)).alloc (.cells #[.int .i64 0, .int .i64 0, .slice none 0 0] 56)).alloc (.cells #[.int .i64 k, .int .i64 0, .slice none 0 0] 56)) := (((BP.refl _ _).alloc (Nat.le_refl _) _).alloc (by simp) _).alloc (by simp <;> omega) _
  have hk := rows3 w (.cells #[.int .i64 k, .int .i64 op, v] 68) (.cells #[.int .i64 0, .int .i64 0, .slice none 0 0] 56) (.cells #[.int .i64 k, .int .i64 0, .slice none 0 0] 56)
  have hz : (((w.alloc (.cells #[.int .i64 k, .int .i64 op, v] 68)).alloc (.cells #[.int .i64 0, .int .i64 0, .slice none 0 0] 56)).alloc (.cells #[.int .i64 k, .int .i64 0, .slice none 0 0] 56)).heap.size = w.heap.size + 1 + 1 + 1 := by simp
  generalize (((w.alloc (.cells #[.int .i64 k, .int .i64 op, v] 68)).alloc (.cells #[.int .i64 0, .int .i64 0, .slice none 0 0] 56)).alloc (.cells #[.int .i64 k, .int .i64 0, .slice none 0 0] 56)) = W0 at b0 hk hz ⊢
  refine (HE.out W0 b0).mono ?_
  rintro r w1 ⟨ds, rfl, hds, hone, ⟨v1, rfl, hv1⟩, g1⟩
  rw [← Hop.out] at hone ⊢
  have c1 := (g1.block _ (by omega)).trans hk.2.1
  have c2 := (g1.block _ (by omega)).trans hk.2.2
  have b1 := b0.trans (g1.mono b0.size)
  have HST : Hid ((storeVar 54 ⟨w.heap.size + 1 + 1, 1, none⟩ (.agg #[.int .i64 op, v1])).run Tryd.prog w1 = .ok () (w1.setRow (w.heap.size + 1 + 1) #[.int .i64 k, .int .i64 op, v1])) := store_sub (P := Tryd.prog) c2 54 1 #[.int .i64 op, v1] (by simp) (by kernel_rfl) (all_one [.int .i64 op, v1] hone)
  have s2 := hv1.one
  have HO : Hid (∀ d ∈ [Value.int .i64 k, .int .i64 op, v1], d.oneCell' = true) := by
    intro d hd
    simp at hd
    rcases hd with rfl | rfl | rfl
    · rfl
    · rfl
    · exact s2
  obtain ⟨W2, HW2⟩ : ∃ W, Hid (W = w1.setRow (w.heap.size + 1 + 1) #[.int .i64 k, .int .i64 op, v1]) := ⟨_, rfl⟩
  have d1 : W2.heap[w.heap.size + 1]? = some (.cells #[.int .i64 0, .int .i64 0, .slice none 0 0] 56 (0, 0)) := by rw [HW2.out]; exact row_beside c1 _ (by omega) _
  have d2 : W2.heap[w.heap.size + 1 + 1]? = some (.cells #[.int .i64 k, .int .i64 op, v1] 56 (0, 0)) := by rw [HW2.out]; exact row_set c2 _
  have b2 : BP w.heap.size w W2 := by rw [HW2.out]; exact bp_setRow b1 (by omega) _
  have k2 : ArgsIs W2 (w.heap.size + 1 + 1 + 1) v1 e.args := by rw [HW2.out]; exact argsIs_move (keeps_row (by omega)) (by omega) hv1
  have HLD : Hid ((loadVar 56 ⟨w.heap.size + 1 + 1, 0, none⟩).run Tryd.prog W2 = .ok (.agg #[.int .i64 k, .int .i64 op, v1]) W2) := load_all d2 _ _ Tryd.underlying56 rfl (by kernel_rfl)
  have HS2 : Hid ((storeVar 56 ⟨w.heap.size + 1, 0, none⟩ (.agg #[.int .i64 k, .int .i64 op, v1])).run Tryd.prog W2 = .ok () (W2.setRow (w.heap.size + 1) #[.int .i64 k, .int .i64 op, v1])) := store_all d1 56 _ rfl (by kernel_rfl) (all_one [.int .i64 k, .int .i64 op, v1] HO.out)
  have HR : Hid ((W2.setRow (w.heap.size + 1) #[.int .i64 k, .int .i64 op, v1]).heap[w.heap.size + 1]? = some (.cells #[.int .i64 k, .int .i64 op, v1] 56 (0, 0))) := row_set d1 _
  have HB : Hid (BP w.heap.size w (W2.setRow (w.heap.size + 1) #[.int .i64 k, .int .i64 op, v1])) := bp_setRow b2 (by omega) _
  have HK : Hid (ArgsIs (W2.setRow (w.heap.size + 1) #[.int .i64 k, .int .i64 op, v1]) w.heap.size v1 e.args) := argsIs_move (keeps_row (by omega)) (by omega) k2
  rw [← HW2.out] at HST
  clear HW2 g1 b0 hk hz c1 c2 b1 hv1 k2 d1 d2 b2 HE hone hds
  go_wp2_with (first | (refine wpL_store rfl 54 _ _ rfl _ _ rfl _ rfl _ HST.out ?_) | (refine wpL_load rfl 56 _ rfl _ _ rfl _ HLD.out ?_) | (refine wpL_store rfl 56 _ _ rfl _ _ rfl _ rfl _ HS2.out ?_) | (refine ret_row rfl rfl HR.out Tryd.underlying56 rfl (by kernel_rfl) rfl ?_) | fail)
  exact ⟨[.int .i64 k, .int .i64 op, v1], rfl, rfl, HO.out, ⟨v1, by rw [Hop.out], HK.out⟩, HB.out⟩

theorem to_instP (i : InstT) (cs : List Value) (w : World) (lo : Nat) (hv : InstIs w lo i cs) (hbig : wI i ≤ 1048576) :
    Calls Tryd.prog 36 #[.agg cs.toArray] w fun r w' => ∃ ds : List Value, r = .returned (.agg ds.toArray) ∧ ds.length = 3 ∧ (∀ d ∈ ds, d.oneCell' = true) ∧ InstIs w' w.heap.size i ds ∧ BP w.heap.size w w' := by
  obtain ⟨v, rfl, ha⟩ := hv
  exact to_inst_stepP i.one i.code v ha.one w (fun W g => to_elemP i.one _ W lo ⟨v, rfl, argsIs_move (Keeps.of_bp (B := 0) g lo) (Nat.le_refl _) ha⟩ hbig)

set_option maxRecDepth 10000 in
set_option maxHeartbeats 2000000 in
theorem to_insts_rowP (v : Value) (xs : List InstT) (w : World) (lo : Nat) (hv : RowIs w lo 3 (InstIs w lo) v xs) (hbig : xs.length ≤ 1048576)
    (HC : Hid (∀ x cs, x ∈ xs → ∀ (W : World), (InstIs W lo) x cs → Calls Tryd.prog 36 #[.agg cs.toArray] W fun r w' => ∃ ds : List Value, r = .returned (.agg ds.toArray) ∧ ds.length = 3 ∧ (∀ d ∈ ds, d.oneCell' = true) ∧ (InstIs w' W.heap.size) x ds ∧ BP W.heap.size W w'))
    (HM : Hid (∀ x cs (l l' : Nat) (W W' : World), Keeps l W W' → l' ≤ l → (InstIs W l) x cs → (InstIs W' l') x cs)) :
    Calls Tryd.prog 11 #[v] w fun r w' => ∃ v', r = .returned v' ∧ RowIs w' w.heap.size 3 (InstIs w' w.heap.size) v' xs ∧ BP w.heap.size w w' := by
  obtain ⟨a, cap, rfl, hl, hx⟩ := hv
  have HX : Hid (∀ j x, xs[j]? = some x → ∃ b o cs, a = some ⟨b, o, none⟩ ∧ lo ≤ b ∧ cs.length = 3 ∧ w.rangeAt b (o + j * 3) cs ∧ (InstIs w lo) x cs) := hx
  have hmk := make_Inst xs.length hbig
  obtain ⟨len, HL⟩ : ∃ len, Hid (len = xs.length) := ⟨_, rfl⟩
  rw [← HL.out] at hl hmk hbig ⊢
  clear hx
  go_enter Tryd.func11, Tryd.ntmps11
  go_wp2
  go_loopg [4] len (fun g i wr => ∃ n : Nat, n + g = len ∧ i = .int .i64 n ∧ BP w.heap.size w wr ∧ ∃ C : Array Value, wr.heap[w.heap.size]? = some (.cells C 56 (0, 0)) ∧ C.size = len * 3 ∧ Hid (∀ j x, j < n → xs[j]? = some x → ∃ ds : List Value, ds.length = 3 ∧ (∀ i d, ds[i]? = some d → C[j * 3 + i]? = some d) ∧ (InstIs wr (w.heap.size + 1)) x ds))
  case atStart => exact ⟨0, by omega, rfl, (BP.refl _ _).alloc (Nat.le_refl _) _, _, heap_alloc_last w _, size_madeCells _ _, fun j x hj => by omega⟩
  case round =>
    obtain ⟨n, hn, rfl, hb, C, hC, hs, HS⟩ := hrel
    by_cases hlt : n < len
    · have i1 : (n : Int) < (len : Int) := by omega
      have i3 : (0 : Int) ≤ (n : Int) := by omega
      obtain ⟨x, hxn⟩ : ∃ x, xs[n]? = some x := ⟨_, List.getElem?_eq_getElem (by have := HL.out; omega)⟩
      obtain ⟨b, o, cs, rfl, hlo, hcs, hrg, hR⟩ := HX.out n x hxn
      have HB : Hid (BP w.heap.size w wr) := hb
      have HCr : Hid (wr.heap[w.heap.size]? = some (.cells C 56 (0, 0))) := hC
      have HLd : Hid ((loadVar 68 ⟨b, o + n * 3, none⟩).run Tryd.prog wr = .ok (.agg cs.toArray) wr) := run_loadVar_mid wr b (o + n * 3) 68 cs _ (fun i c hi => (Keeps.of_bp (B := 0) hb 0) _ _ _ (Nat.zero_le _) (hrg i c hi)) Tryd.underlying68 rfl (by rw [hcs]; kernel_rfl)
      have HCx : Hid (Calls Tryd.prog 36 #[.agg cs.toArray] wr fun r w' => ∃ ds : List Value, r = .returned (.agg ds.toArray) ∧ ds.length = 3 ∧ (∀ d ∈ ds, d.oneCell' = true) ∧ (InstIs w' wr.heap.size) x ds ∧ BP wr.heap.size wr w') := HC.out x cs (List.mem_of_getElem? hxn) wr (HM.out x cs lo lo w wr (Keeps.of_bp (B := 0) hb lo) (Nat.le_refl _) hR)
      have Bl : w.heap.size < wr.heap.size := (Array.getElem?_eq_some_iff.1 hC).1
      clear hb hrg hcs hR hlo hC
      go_wp2_with (first | (refine wpL_load rfl 68 _ rfl _ _ rfl _ HLd.out ?_) | fail)
      refine HCx.out.mono ?_
      rintro r w1 ⟨ds, rfl, hds, hone, hRd, g1⟩
      have hC1 : w1.heap[w.heap.size]? = some (.cells C 56 (0, 0)) := (g1.block _ Bl).trans HCr.out
      have b1 : BP w.heap.size w w1 := HB.out.trans (g1.mono HB.out.size)
      have HST : Hid ((storeVar 56 ⟨w.heap.size, n * 3, none⟩ (.agg ds.toArray)).run Tryd.prog w1 = .ok () (w1.setRow w.heap.size (putAt C (n * 3) ds))) := by
        have h1 : n * 3 + 3 ≤ len * 3 := by omega
        have := store_sub (P := Tryd.prog) hC1 56 (n * 3) ds.toArray (by simp [hds]; omega) (by rw [List.size_toArray, hds]; kernel_rfl) (by simp; exact hone)
        show _ = _
        simpa using this
      clear HCx HLd
      go_wp2_with (first | (refine wpL_store rfl 56 _ _ rfl _ _ rfl _ rfl _ HST.out ?_) | fail)
      go_roundg (gk - 1)
      case measure => omega
      case rel =>
        refine ⟨n + 1, by omega, by simp, bp_row b1 (Nat.le_refl _) hC1 _, _, row_set hC1 _, by rw [putAt_size]; exact hs, ?_⟩
        intro j x' hj hx'
        by_cases hjn : j = n
        · subst hjn
          obtain rfl := Option.some.inj (hxn.symm.trans hx')
          refine ⟨ds, hds, fun i d hd => ?_, HM.out _ _ wr.heap.size (w.heap.size + 1) w1 (w1.setRow w.heap.size (putAt C (j * 3) ds)) (keeps_row (by omega)) (by omega) hRd⟩
          have hi : i < 3 := by have := (List.getElem?_eq_some_iff.1 hd).1; omega
          rw [putAt_get _ _ _ (by omega), if_pos (by omega), Nat.add_sub_cancel_left]; exact hd
        · obtain ⟨es, he, hce, hRe⟩ := HS.out j x' (by omega) hx'
          refine ⟨es, he, fun i d hd => ?_, HM.out _ _ (w.heap.size + 1) (w.heap.size + 1) wr (w1.setRow w.heap.size (putAt C (n * 3) ds)) ((Keeps.of_bp (B := 0) g1 _).trans (keeps_row (by omega))) (Nat.le_refl _) hRe⟩
          have hi : i < 3 := by have := (List.getElem?_eq_some_iff.1 hd).1; omega
          rw [putAt_get _ _ _ (by omega), if_neg (by omega)]; exact hce i d hd
    · have i1 : ¬ ((n : Int) < (len : Int)) := by omega
      go_wp2
      go_ret
      refine ⟨_, rfl, ⟨some ⟨w.heap.size, 0, none⟩, len, by rw [← HL.out]; rfl, by rw [← HL.out]; omega, fun j x hj => ?_⟩, hb⟩
      have hjl : j < n := by have := (List.getElem?_eq_some_iff.1 hj).1; have := HL.out; omega
      obtain ⟨ds, hds, hcd, hRd⟩ := HS.out j x hjl hj
      refine ⟨w.heap.size, 0, ds, rfl, Nat.le_refl _, hds, fun i d hd => ?_, HM.out _ _ (w.heap.size + 1) w.heap.size wr wr (Keeps.refl _ _) (by omega) hRd⟩
      rw [Nat.zero_add, cell_of_row _ _ _ _ _ _ hC]; exact hcd i d hd

theorem to_instsP (v : Value) (xs : List InstT) (w : World) (lo : Nat) (hv : InstsIs w lo v xs) (hbig : xs.length + (xs.map wI).sum ≤ 1048576) :
    Calls Tryd.prog 11 #[v] w fun r w' => ∃ v', r = .returned v' ∧ InstsIs w' w.heap.size v' xs ∧ BP w.heap.size w w' :=
  to_insts_rowP v xs w lo hv (by omega) (fun x cs hx W h => to_instP x cs W lo h (by have := sum_mem wI xs x hx; omega)) (fun x cs l l' W W' k hl h => h.move k hl)

end Go.Proofs.YtcihplachlokiaaDoor
/- A list's copy marked: what it touches. -/
namespace Go.Proofs.YtcihplachlokiaaDoor
open Go.RowKit
set_option linter.unusedVariables false

/-- Whole numbers have been written over whole numbers, in blocks from 'lo' on and ahead of 'hi'. -/
structure WMk (lo hi : Nat) (w w' : World) : Prop where
  os : w'.os = w.os
  tape : w'.tape = w.tape
  output : w'.output = w.output
  size : w.heap.size ≤ w'.heap.size
  out : ∀ j, j < w.heap.size → (j < lo ∨ hi ≤ j) → w'.heap[j]? = w.heap[j]?
  cell : ∀ (b o : Nat) (v : Value), w.cell? ⟨b, o, none⟩ = some v → (∀ k u, v ≠ .int k u) → w'.cell? ⟨b, o, none⟩ = some v
  num : ∀ (b o : Nat) (u : Int), w.cell? ⟨b, o, none⟩ = some (.int .i64 u) → ∃ u', w'.cell? ⟨b, o, none⟩ = some (.int .i64 u')
  soft : ∀ (b : Nat), (∃ C t, w.heap[b]? = some (.cells C t (0, 0))) → ∃ C t, w'.heap[b]? = some (.cells C t (0, 0))
theorem WMk.refl (lo hi : Nat) (w : World) : WMk lo hi w w := ⟨rfl, rfl, rfl, Nat.le_refl _, fun _ _ _ => rfl, fun _ _ _ h _ => h, fun _ _ u h => ⟨u, h⟩, fun _ h => h⟩
theorem WMk.trans {lo hi : Nat} {w w' w'' : World} (h : WMk lo hi w w') (h' : WMk lo hi w' w'') : WMk lo hi w w'' :=
  ⟨h'.os.trans h.os, h'.tape.trans h.tape, h'.output.trans h.output, Nat.le_trans h.size h'.size, fun j h1 hj => (h'.out j (Nat.lt_of_lt_of_le h1 h.size) hj).trans (h.out j h1 hj), fun b o v h1 h2 => h'.cell b o v (h.cell b o v h1 h2) h2, fun b o u h1 => by
    obtain ⟨u', h2⟩ := h.num b o u h1
    exact h'.num b o u' h2, fun b h1 => h'.soft b (h.soft b h1)⟩
theorem WMk.of_below (lo hi : Nat) {w w' : World} (g : Below w.heap.size w w') : WMk lo hi w w' :=
  ⟨g.os, g.tape, g.output, g.size, fun j h1 _ => g.block j h1, fun b o v h _ => (Keeps.of_below g 0) b o v (Nat.zero_le _) h, fun b o u h => ⟨u, (Keeps.of_below g 0) b o _ (Nat.zero_le _) h⟩, fun b h => by
    obtain ⟨C, t, k⟩ := h
    exact ⟨C, t, (g.block _ (Array.getElem?_eq_some_iff.1 k).1).trans k⟩⟩
theorem WMk.below {lo hi B : Nat} {a w w' : World} (h : Below B a w) (g : WMk lo hi w w') (hb : B ≤ lo) (hs : B ≤ w.heap.size) : Below B a w' :=
  ⟨g.os.trans h.os, g.tape.trans h.tape, g.output.trans h.output, Nat.le_trans h.size g.size, fun j hj => (g.out j (by omega) (.inl (by omega))).trans (h.block j hj)⟩
theorem cells_of_cell {w : World} {b o : Nat} {C : Array Value} {t : TypeId} {v : Value} (h : w.heap[b]? = some (.cells C t (0, 0))) (hc : w.cell? ⟨b, o, none⟩ = some v) : o < C.size := by
  rw [cell_of_row _ _ _ _ _ _ h] at hc
  exact (Array.getElem?_eq_some_iff.1 hc).1
/-- A number over a number. -/
theorem WMk.put {lo hi : Nat} {w : World} {b o : Nat} {u : Int} (hc : w.cell? ⟨b, o, none⟩ = some (.int .i64 u)) (hs : ∃ C t, w.heap[b]? = some (.cells C t (0, 0))) (hl : lo ≤ b) (hh : b < hi) (x : Int) : WMk lo hi w (w.setCell ⟨b, o, none⟩ (.int .i64 x)) := by
  obtain ⟨C, t, h⟩ := hs
  have h2 := row_put h o (.int .i64 x)
  have ho := cells_of_cell h hc
  have hcell : ∀ (b' o' : Nat), (w.setCell ⟨b, o, none⟩ (.int .i64 x)).cell? ⟨b', o', none⟩ = if b' = b ∧ o' = o then some (.int .i64 x) else w.cell? ⟨b', o', none⟩ := fun b' o' => by
    by_cases e : b' = b
    · subst e
      rw [cell_of_row _ _ _ _ _ _ h2, cell_of_row _ _ _ _ _ _ h]
      by_cases e2 : o' = o
      · subst e2
        rw [if_pos ⟨rfl, rfl⟩]
        simp [ho]
      · rw [if_neg (fun q => e2 q.2)]
        rw [Array.getElem?_setIfInBounds_ne (fun q => e2 q.symm)]
    · rw [if_neg (fun q => e q.1)]
      exact World.cell?_setCell_other _ _ _ _ (by simp)
  refine ⟨rfl, rfl, rfl, ?_, ?_, ?_, ?_, ?_⟩
  · simp [World.setCell]
  · intro j _ hj
    by_cases e : j = b
    · subst e; omega
    · simp only [World.setCell]
      simp only [Array.getElem?_modify]
      rw [if_neg (fun q : b = j => e q.symm)]
  · intro b' o' v hv hn
    rw [hcell]
    split
    · next e =>
      obtain ⟨rfl, rfl⟩ := e
      rw [hc] at hv
      exact absurd (Option.some.inj hv).symm (hn _ _)
    · exact hv
  · intro b' o' u' hu
    rw [hcell]
    split
    · exact ⟨x, rfl⟩
    · exact ⟨u', hu⟩
  · intro b' hb'
    by_cases e : b = b'
    · subst e; exact ⟨_, t, h2⟩
    · obtain ⟨C', t', k⟩ := hb'
      exact ⟨C', t', row_other k b o e _⟩
end Go.Proofs.YtcihplachlokiaaDoor
/- A list's copy marked: the walks. -/
namespace Go.Proofs.YtcihplachlokiaaDoor
open Go.RowKit
set_option linter.unusedVariables false

theorem soft_free {w : World} {b : Nat} (h : ∃ C t, w.heap[b]? = some (.cells C t (0, 0))) (o : Nat) : w.frozen? ⟨b, o, none⟩ = false := by
  obtain ⟨C, t, k⟩ := h
  simp [World.frozen?, k]

theorem mark_args_w0 (a : Option Addr) (uc : Nat) (m : Int) (w : World) (hm0 : 0 ≤ m) (hm1 : m ≤ 8388608) : Calls Tryd.prog 42 #[.slice a 0 uc, .int .i64 m] w fun e w' => e = .returned (.int .i64 m) ∧ w' = w := by
  go_enter Tryd.func42, Tryd.ntmps42
  go_wp2
  go_loopg [1, 5] 0 (fun gg k i wr => i = .int .i64 0 ∧ k = .int .i64 m ∧ wr = w)
  case atStart => exact ⟨rfl, rfl, rfl⟩
  case round =>
    obtain ⟨rfl, rfl, rfl⟩ := hrel
    go_wp2
    go_ret
    exact ⟨rfl, rfl⟩

set_option maxRecDepth 10000 in
set_option maxHeartbeats 4000000 in
theorem mark_args_w (lo hi b o ul uc : Nat) (m : Int) (w : World) (hm0 : 0 ≤ m) (hm1 : m ≤ 4194304) (hul : ul ≤ 1048576) (hs : ∃ C t, w.heap[b]? = some (.cells C t (0, 0))) (hl : lo ≤ b) (hh : b < hi)
    (hc : ∀ i, i < ul * 3 → ∃ u, w.cell? ⟨b, o + i, none⟩ = some (.int .i64 u)) :
    Calls Tryd.prog 42 #[.slice (some ⟨b, o, none⟩) ul uc, .int .i64 m] w fun e w' => e = .returned (.int .i64 (m + 3 * (ul : Int))) ∧ WMk lo hi w w' := by
  have HS : Hid ((∃ C t, w.heap[b]? = some (.cells C t (0, 0))) ∧ lo ≤ b ∧ b < hi ∧ ∀ i, i < ul * 3 → ∃ u, w.cell? ⟨b, o + i, none⟩ = some (.int .i64 u)) := ⟨hs, hl, hh, hc⟩
  clear hs hl hh hc
  go_enter Tryd.func42, Tryd.ntmps42
  go_wp2
  go_loopg [1, 5] ul (fun gg k i wr => ∃ (n : Nat) (K : Int), n + gg = ul ∧ i = .int .i64 n ∧ k = .int .i64 K ∧ Hid (K = m + 3 * (n : Int)) ∧ 0 ≤ K ∧ K ≤ 8388608 ∧ Hid (WMk lo hi w wr))
  case atStart => exact ⟨0, m, by omega, rfl, rfl, by simp [Hid], by omega, by omega, WMk.refl _ _ _⟩
  case round =>
    obtain ⟨n, K, hn, rfl, rfl, HK, hK0, hK1, HW⟩ := hrel
    by_cases hlt : n < ul
    · have i1 : (n : Int) < (ul : Int) := by omega
      have i2 : (0 : Int) ≤ (n : Int) := by omega
      obtain ⟨hs, hl, hh, hc⟩ := HS.out
      obtain ⟨u0, q0⟩ := hc (n * 3) (by omega)
      obtain ⟨u1, q1⟩ := hc (n * 3 + 1) (by omega)
      obtain ⟨u2, q2⟩ := hc (n * 3 + 2) (by omega)
      obtain ⟨x0, c0⟩ := HW.out.num b (o + n * 3) u0 q0
      have f0 := soft_free (HW.out.soft b hs) (o + n * 3)
      have P1 := HW.out.trans (WMk.put c0 (HW.out.soft b hs) hl hh K)
      obtain ⟨x1, c1⟩ := P1.num b (o + n * 3 + 1) u1 q1
      have f1 := soft_free (P1.soft b hs) (o + n * 3 + 1)
      have P2 := P1.trans (WMk.put c1 (P1.soft b hs) hl hh (K + 1))
      obtain ⟨x2, c2⟩ := P2.num b (o + n * 3 + 1 + 1) u2 q2
      have f2 := soft_free (P2.soft b hs) (o + n * 3 + 1 + 1)
      have P3 := P2.trans (WMk.put c2 (P2.soft b hs) hl hh (K + 1 + 1))
      have HP3 : Hid (WMk lo hi w (((wr.setCell ⟨b, o + n * 3, none⟩ (.int .i64 K)).setCell ⟨b, o + n * 3 + 1, none⟩ (.int .i64 (K + 1))).setCell ⟨b, o + n * 3 + 1 + 1, none⟩ (.int .i64 (K + 1 + 1)))) := P3
      have HK2 : Hid (K + 1 + 1 + 1 = m + 3 * ((n + 1 : Nat) : Int)) := by show K + 1 + 1 + 1 = m + 3 * ((n + 1 : Nat) : Int); rw [HK.out]; omega
      have hK3 : K + 1 + 1 + 1 ≤ 8388608 := by have := HK.out; omega
      clear hs hl hh hc q0 q1 q2 P1 P2 P3 HW
      go_wp2
      go_roundg (gk - 1)
      case measure => omega
      case rel => exact ⟨n + 1, K + 1 + 1 + 1, by omega, by go_num, rfl, HK2, by omega, hK3, HP3⟩
    · have i1 : ¬ ((n : Int) < (ul : Int)) := by omega
      have hqn : n = ul := by omega
      have HKn : Hid (K = m + 3 * (ul : Int)) := (by rw [← hqn]; exact HK.out : K = m + 3 * (ul : Int))
      clear hqn HK
      go_wp2
      go_ret
      exact ⟨(by show Ending.returned (.int .i64 K) = _; rw [HKn.out]), HW.out⟩

/-- The operands of an instruction: numbers, in plain cells. -/
theorem args_nums {w : World} {lo : Nat} {u : Value} {xs : List ArgT} (h : RowIs w lo 3 ArgIs u xs) (hp : Plain lo w) : ∃ (a : Option Addr) (cp : Nat), u = .slice a xs.length cp ∧ (xs.length = 0 ∨ ∃ b o, a = some ⟨b, o, none⟩ ∧ lo ≤ b ∧ b < w.heap.size ∧ (∃ C t, w.heap[b]? = some (.cells C t (0, 0))) ∧ ∀ i, i < xs.length * 3 → ∃ v, w.cell? ⟨b, o + i, none⟩ = some (.int .i64 v)) := by
  obtain ⟨a, cp, rfl, _, hx⟩ := h
  refine ⟨a, cp, rfl, ?_⟩
  by_cases h0 : xs.length = 0
  · exact .inl h0
  · right
    obtain ⟨b, o, cs, rfl, hlo, _, hr, hR⟩ := hx 0 _ (List.getElem?_eq_getElem (by omega))
    have hR : cs = _ := hR
    have hc0 := hr 0 _ (by rw [hR]; rfl)
    have hbl := World.block_lt_of_cell? _ _ hc0
    refine ⟨b, o, rfl, hlo, hbl, hp b hlo hbl, fun i hi => ?_⟩
    obtain ⟨b', o', cs', e, _, _, hr', hR'⟩ := hx (i / 3) _ (List.getElem?_eq_getElem (by omega))
    simp only [Option.some.injEq, Addr.mk.injEq] at e
    obtain ⟨rfl, rfl, _⟩ := e
    have hR' : cs' = _ := hR'
    have hi3 : i % 3 = 0 ∨ i % 3 = 1 ∨ i % 3 = 2 := by omega
    have hdm : i / 3 * 3 + i % 3 = i := by omega
    rcases hi3 with h | h | h
    · have k := hr' 0 _ (by rw [hR']; rfl)
      rw [show o + i / 3 * 3 + 0 = o + i by omega] at k
      exact ⟨_, k⟩
    · have k := hr' 1 _ (by rw [hR']; rfl)
      rw [show o + i / 3 * 3 + 1 = o + i by omega] at k
      exact ⟨_, k⟩
    · have k := hr' 2 _ (by rw [hR']; rfl)
      rw [show o + i / 3 * 3 + 2 = o + i by omega] at k
      exact ⟨_, k⟩

set_option maxRecDepth 10000 in
set_option maxHeartbeats 4000000 in
theorem mark_insts_w (lo hi : Nat) (v : Value) (xs : List InstT) (w0 w : World) (hv : InstsIs w0 lo v xs) (hp : Plain lo w0) (hhi : w0.heap.size ≤ hi) (hW : WMk lo hi w0 w) (hbig : xs.length + (xs.map wI).sum ≤ 1048576) :
    Calls Tryd.prog 16 #[v, .int .i64 1] w fun e w' => ∃ K : Int, e = .returned (.int .i64 K) ∧ 0 ≤ K ∧ WMk lo hi w w' := by
  obtain ⟨a, cap, rfl, hl, hx⟩ := hv
  have HX : Hid (∀ j x, xs[j]? = some x → ∃ b o cs, a = some ⟨b, o, none⟩ ∧ lo ≤ b ∧ cs.length = 3 ∧ w0.rangeAt b (o + j * 3) cs ∧ InstIs w0 lo x cs) := hx
  have HPl : Hid (Plain lo w0 ∧ w0.heap.size ≤ hi) := ⟨hp, hhi⟩
  have HW0 : Hid (WMk lo hi w0 w) := hW
  have HTot : Hid (∀ n, n ≤ xs.length → n + ((xs.take n).map wI).sum ≤ 1048576) := fun n hn => by have := sum_take_le wI xs n; omega
  obtain ⟨len, HL⟩ : ∃ len, Hid (len = xs.length) := ⟨_, rfl⟩
  rw [← HL.out] at hl ⊢
  have hlen : len ≤ 1048576 := by have := HL.out; omega
  clear hx hp hhi hW hbig
  go_enter Tryd.func16, Tryd.ntmps16
  go_wp2
  go_loopg [1, 5] len (fun gg k i wr => ∃ (n : Nat) (K : Int), n + gg = len ∧ i = .int .i64 n ∧ k = .int .i64 K ∧ Hid (K ≤ 1 + 3 * ((n : Int) + (((xs.take n).map wI).sum : Nat))) ∧ 0 ≤ K ∧ K ≤ 4000000 ∧ Hid (WMk lo hi w wr))
  case atStart => exact ⟨0, 1, by omega, rfl, rfl, (by simp : (1 : Int) ≤ 1 + 3 * (((0 : Nat) : Int) + (((xs.take 0).map wI).sum : Nat))), by omega, by omega, WMk.refl _ _ _⟩
  case round =>
    obtain ⟨n, K, hn, rfl, rfl, HK, hK0, hK1, HW⟩ := hrel
    by_cases hlt : n < len
    · have i1 : (n : Int) < (len : Int) := by omega
      have i2 : (0 : Int) ≤ (n : Int) := by omega
      obtain ⟨x, hxn⟩ : ∃ x, xs[n]? = some x := ⟨_, List.getElem?_eq_getElem (by have := HL.out; omega)⟩
      obtain ⟨b, o, cs, rfl, hlo, hcs, hrg, u, rfl, hR⟩ := HX.out n x hxn
      have q0 : w0.cell? ⟨b, o + n * 3, none⟩ = some (.int .i64 x.code) := by have := hrg 0 _ rfl; simpa using this
      have q1 : w0.cell? ⟨b, o + n * 3 + 1, none⟩ = some (.int .i64 x.one.op) := hrg 1 _ rfl
      have q2 : w0.cell? ⟨b, o + n * 3 + 1 + 1, none⟩ = some u := hrg 2 _ rfl
      have hbl := World.block_lt_of_cell? _ _ q0
      have hsf := HPl.out.1 b hlo hbl
      have hbh : b < hi := by have := HPl.out.2; simp only at hbl; omega
      obtain ⟨ua, uc, rfl, hcase⟩ := args_nums hR HPl.out.1
      have H0 := HW0.out.trans HW.out
      obtain ⟨x0, c0⟩ := H0.num b (o + n * 3) _ q0
      have f0 := soft_free (H0.soft b hsf) (o + n * 3)
      have D1 := WMk.put (lo := lo) (hi := hi) c0 (H0.soft b hsf) hlo hbh K
      have P1 := H0.trans D1
      obtain ⟨x1, c1⟩ := P1.num b (o + n * 3 + 1) _ q1
      have f1 := soft_free (P1.soft b hsf) (o + n * 3 + 1)
      have D2 := WMk.put (lo := lo) (hi := hi) c1 (P1.soft b hsf) hlo hbh (K + 1)
      have P2 := P1.trans D2
      have c2 := P2.cell b (o + n * 3 + 1 + 1) _ q2 (by simp)
      have HP2 : Hid (WMk lo hi w ((wr.setCell ⟨b, o + n * 3, none⟩ (.int .i64 K)).setCell ⟨b, o + n * 3 + 1, none⟩ (.int .i64 (K + 1)))) := (HW.out.trans D1).trans D2
      have hsum : ((xs.take (n + 1)).map wI).sum = ((xs.take n).map wI).sum + wI x := sum_take _ _ _ _ hxn
      have htot := HTot.out (n + 1) (by have := HL.out; omega)
      have hwx : wI x = x.one.args.length := rfl
      obtain ⟨ul, Hul⟩ : ∃ l, Hid (l = x.one.args.length) := ⟨_, rfl⟩
      rw [← Hul.out] at c2 hwx hcase
      have HK3 : Hid (K + 1 + 1 + 3 * (ul : Int) ≤ 1 + 3 * (((n + 1 : Nat) : Int) + (((xs.take (n + 1)).map wI).sum : Nat))) := by
        show K + 1 + 1 + 3 * (ul : Int) ≤ 1 + 3 * (((n + 1 : Nat) : Int) + (((xs.take (n + 1)).map wI).sum : Nat))
        have := HK.out
        omega
      have hK4 : K + 1 + 1 + 3 * (ul : Int) ≤ 4000000 := by have := HK3.out; omega
      have hul : ul ≤ 1048576 := by omega
      have HCl : Hid (Calls Tryd.prog 42 #[.slice ua ul uc, .int .i64 (K + 1 + 1)] ((wr.setCell ⟨b, o + n * 3, none⟩ (.int .i64 K)).setCell ⟨b, o + n * 3 + 1, none⟩ (.int .i64 (K + 1))) fun e w' => e = .returned (.int .i64 (K + 1 + 1 + 3 * (ul : Int))) ∧ WMk lo hi ((wr.setCell ⟨b, o + n * 3, none⟩ (.int .i64 K)).setCell ⟨b, o + n * 3 + 1, none⟩ (.int .i64 (K + 1))) w') := by
        rcases hcase with h0 | ⟨b', o', rfl, hlo', hbl', hsf', hcells⟩
        · subst h0
          exact (mark_args_w0 ua uc (K + 1 + 1) _ (by omega) (by omega)).mono fun e w' ⟨h1, h2⟩ => ⟨by rw [h1]; simp, by rw [h2]; exact WMk.refl _ _ _⟩
        · exact mark_args_w lo hi b' o' ul uc (K + 1 + 1) _ (by omega) (by omega) hul (P2.soft b' hsf') hlo' (by have := HPl.out.2; omega) (fun i hi => by
            obtain ⟨v, hv⟩ := hcells i hi
            exact P2.num b' (o' + i) v hv)
      clear hrg hcs hR hlo q0 q1 q2 hbl hsf hbh P1 P2 H0 D1 D2 hsum htot hwx hcase HX HK
      go_wp2_with fail
      refine HCl.out.mono ?_
      rintro e w5 ⟨rfl, g5⟩
      have HP5 : Hid (WMk lo hi w w5) := HP2.out.trans g5
      clear g5 HCl HP2 c0 c1 c2 f0 f1
      go_wp2
      go_roundg (gk - 1)
      case measure => omega
      case rel => exact ⟨n + 1, _, by omega, by go_num, rfl, HK3, by omega, hK4, HP5⟩
    · have i1 : ¬ ((n : Int) < (len : Int)) := by omega
      clear HK
      go_wp2
      go_ret
      exact ⟨K, rfl, hK0, HW.out⟩
end Go.Proofs.YtcihplachlokiaaDoor
