/- The definition that the verifier is held against. -/
import Derived.Test.YtbncgacnikmomaaDoorYv
import Derived.Deep.CutRange
import Derived.Test.YtbncgacnikmomaaDoorAd
namespace Go.Proofs.YtbncgacnikmomaaDoor
open Go.RowKit
set_option linter.unusedVariables false

/-- Where the loop stands. -/
structure WsI (xs : List InstT) (w wr : World) (b0 base : Nat) (tv : Value) (n m : Nat) (b f : Int) (s k : Bool) : Prop where
  rn : RnOk ⟨b, f, s, k⟩
  eb : b = htB xs m
  ef : f = htF xs m
  ck : (checkT xs).1 = 0 ↔ (chk (xs.drop m) m ⟨b, f, s, k⟩).1 = 0
  kk : k = true ↔ ∃ j x, m = j + 1 ∧ xs[j]? = some x ∧ x.code = 10
  row : wr.heap[b0]? = some (.cells #[.int .i64 b, .int .i64 f] 44 (0, 0))
  tr : TrIs wr base tv xs n
  bl : Below w.heap.size w wr
theorem WsI.bad {xs : List InstT} {w wr : World} {b0 base : Nat} {tv : Value} {n m : Nat} {b f : Int} {s k : Bool} (h : WsI xs w wr b0 base tv n m b f s k) {x : InstT} (hx : xs[m]? = some x) (hw : wrongC ⟨b, f, s, k⟩ (okT' x) x.code ≠ 0) : decide ((checkT xs).1 = 0) = false := by
  rw [decide_eq_false_iff_not, h.ck, chk_bad hx hw]
  exact hw
theorem WsI.done {xs : List InstT} {w wr : World} {b0 base : Nat} {tv : Value} {n m : Nat} {b f : Int} {s k : Bool} (h : WsI xs w wr b0 base tv n m b f s k) (hm : xs.length ≤ m) : (b = 0 ∧ f = 0 ∧ decide ((checkT xs).1 = 0) = true) ∨ (b ≠ 0 ∧ decide ((checkT xs).1 = 0) = false) := by
  by_cases e : b = 0
  · refine .inl ⟨e, (h.rn.z e).1, ?_⟩
    rw [decide_eq_true_iff, h.ck, chk_end hm]
    simp [e]
  · refine .inr ⟨e, ?_⟩
    rw [decide_eq_false_iff_not, h.ck, chk_end hm]
    simp [e]
theorem WsI.next {xs : List InstT} {w wr w5 : World} {b0 base g cp : Nat} {n m : Nat} {b f : Int} {s k : Bool} {ta : Option Addr} (h : WsI xs w wr b0 base (.slice ta n cp) n m b f s k) (hta : ta = some ⟨g, 0, none⟩) (hne : g ≠ b0) (hb0 : w.heap.size ≤ b0) (g5 : Below wr.heap.size wr w5) {x : InstT} (hx : xs[m]? = some x) (bb ff : Int) (hbb : bb = htB xs (m + 1)) (hff : ff = htF xs (m + 1)) (s' k' : Bool)
    (hw : wrongC ⟨b, f, s, k⟩ (okT' x) x.code = 0) (hs : (!decide (x.code = 11) && (s || decide (x.code = 10) || decide (x.code = 7))) = s') (hk : (!decide (x.code = 11) && decide (x.code = 10)) = k') :
    WsI xs w (w5.setRow b0 #[.int .i64 bb, .int .i64 ff]) b0 base (.slice ta n cp) n (m + 1) bb ff s' k' := by
  obtain ⟨e1, e2, e3, e4⟩ := nx_i h.rn hw
  simp only at e1 e2 e3 e4
  have hnx : nx ⟨b, f, s, k⟩ x.code = ⟨bb, ff, s', k'⟩ := by
    rw [show nx ⟨b, f, s, k⟩ x.code = ⟨(nx ⟨b, f, s, k⟩ x.code).b, (nx ⟨b, f, s, k⟩ x.code).f, (nx ⟨b, f, s, k⟩ x.code).s, (nx ⟨b, f, s, k⟩ x.code).k⟩ from rfl, e1, e2, e3, e4, hs, hk, hbb, hff, htB_succ hx, htF_succ hx, ← h.eb, ← h.ef]
  have k5 : w5.heap[b0]? = some (.cells #[.int .i64 b, .int .i64 f] 44 (0, 0)) := (g5.block _ (Array.getElem?_eq_some_iff.1 h.row).1).trans h.row
  have hB : Below w.heap.size w w5 := h.bl.trans (g5.mono h.bl.size)
  subst hta
  refine ⟨?_, hbb, hff, ?_, ?_, row_set k5 _, TrIs.beside (h.tr.later g5) _ hne, below_setRow hB hb0 _⟩
  · rw [← hnx]; exact rn_next h.rn (fun h => okI_code h) hw
  · rw [h.ck, chk_go hx hw, hnx]
  · rw [← hk]
    constructor
    · intro hh
      simp only [Bool.and_eq_true, decide_eq_true_iff] at hh
      exact ⟨m, x, rfl, hx, hh.2⟩
    · rintro ⟨j, y, e, hy, hc⟩
      obtain rfl : m = j := by omega
      rw [hx] at hy
      cases hy
      simp [hc]

set_option maxRecDepth 10000 in
set_option maxHeartbeats 16000000 in
theorem ws_s (a : Option Addr) (n cap : Nat) (xs : List InstT) (w : World) (hv : InstsIs w 0 (.slice a n cap) xs) (hbig : n ≤ 4000) :
    Calls Tryd.prog 8 #[.slice a n cap] w fun e w' => e = .returned (.bool (decide ((checkT xs).1 = 0))) ∧ Below w.heap.size w w' := by
  have hnn : n = xs.length := by obtain ⟨a', cap', e, _⟩ := hv; simp only [Value.slice.injEq] at e; exact e.2.1
  have HTr : Hid (Calls Tryd.prog 14 #[.slice a n cap] w fun e w' => TrR xs w e w') := trace_i _ xs w 0 hv (by omega)
  obtain ⟨a', cap', e, hl, hx⟩ := hv
  simp only [Value.slice.injEq] at e
  obtain ⟨rfl, -, -⟩ := e
  have HX : Hid (∀ j x, xs[j]? = some x → ∃ b o cs, a = some ⟨b, o, none⟩ ∧ 0 ≤ b ∧ cs.length = 3 ∧ w.rangeAt b (o + j * 3) cs ∧ InstIs w 0 x cs) := hx
  have HNn : Hid (n = xs.length) := hnn
  obtain ⟨Z, HZ⟩ : ∃ Z, Hid (Z = decide ((checkT xs).1 = 0)) := ⟨_, rfl⟩
  rw [← HZ.out]
  clear hx hl hnn
  by_cases hk : n ≤ 1000
  case neg =>
    have i0 : (1000 : Int) < (n : Int) := by omega
    have hZ : Z = false := by rw [HZ.out, decide_eq_false_iff_not]; unfold checkT; rw [if_pos (by have := HNn.out; omega)]; simp
    subst hZ
    go_enter Tryd.func8, Tryd.ntmps8
    go_wp2_with fail
    refine HTr.out.mono ?_
    rintro e w1 ⟨v', rfl, hT, g1⟩
    obtain ⟨ta, tc, rfl, _⟩ := hT.form
    have HB : Hid (Below w.heap.size w w1) := g1
    clear hT g1
    go_wp2
    go_ret
    exact ⟨rfl, HB.out⟩
  have i0 : ¬ ((1000 : Int) < (n : Int)) := by omega
  have hNt : trN xs = n := by rw [HNn.out]; exact if_pos (by have := HNn.out; omega)
  go_enter Tryd.func8, Tryd.ntmps8
  go_wp2_with fail
  refine HTr.out.mono ?_
  rintro e w1 ⟨v', rfl, hT, g1⟩
  rw [hNt] at hT
  obtain ⟨ta, tc, rfl, hta⟩ := hT.form
  have HA : Hid (∀ j, j < n → ∃ g, ta = some ⟨g, 0, none⟩ ∧ w.heap.size ≤ g ∧ g < w1.heap.size) := fun j hj => by
    obtain ⟨g, e, hg⟩ := hta j hj
    subst e
    exact ⟨g, rfl, hg, (World.ownsRow.lt hT g rfl).2⟩
  have hs1 := g1.size
  have HW0 : Hid (WsI xs w (w1.alloc (.cells #[.int .i64 0, .int .i64 0] 44)) w1.heap.size w.heap.size (.slice ta n tc) n 0 0 0 false false) :=
    ⟨rn_zero, rfl, rfl, by unfold checkT; rw [if_neg (by have := HNn.out; omega)]; rfl, ⟨fun h => (by cases h), fun ⟨j, x, h, _⟩ => (by omega)⟩, heap_alloc_last w1 _, hT.later ((Below.refl _ _).alloc (Nat.le_refl _) _), g1.alloc g1.size _⟩
  clear hT hta g1 HTr hNt
  go_wp2
  go_loopg [5, 6] n (fun gg sv iv wr => ∃ (m : Nat) (b f : Int) (s k : Bool), m + gg = n ∧ iv = .int .i64 m ∧ sv = .bool s ∧ (0 ≤ b ∧ b ≤ 16) ∧ (0 ≤ f ∧ f ≤ 8) ∧ Hid (WsI xs w wr w1.heap.size w.heap.size (.slice ta n tc) n m b f s k))
  case atStart => exact ⟨0, 0, 0, false, false, by omega, rfl, rfl, by omega, by omega, HW0⟩
  case round =>
    clear HW0
    obtain ⟨m, b, f, s, k, hm, rfl, rfl, hb, hf, HW⟩ := hrel
    by_cases hlt : m < n
    case neg =>
      have i1 : ¬ ((m : Int) < (n : Int)) := by omega
      have d0 : wr.cell? ⟨w1.heap.size, 0, none⟩ = some (.int .i64 b) := (cell_of_row _ _ _ _ _ _ HW.out.row).trans rfl
      have d1 : wr.cell? ⟨w1.heap.size, 1, none⟩ = some (.int .i64 f) := (cell_of_row _ _ _ _ _ _ HW.out.row).trans rfl
      have HB : Hid (Below w.heap.size w wr) := HW.out.bl
      rcases HW.out.done (by have := HNn.out; omega) with ⟨e1, e2, e3⟩ | ⟨e1, e3⟩
      · rw [← HZ.out] at e3
        subst e1 e2 e3
        clear HW
        go_wp2
        go_ret
        exact ⟨rfl, HB.out⟩
      · rw [← HZ.out] at e3
        have e4 : (b == 0) = false := by simp [e1]
        subst e3
        clear HW
        go_wp2
        go_ret
        exact ⟨rfl, HB.out⟩
    have i1 : (m : Int) < (n : Int) := by omega
    have i3 : (0 : Int) ≤ (m : Int) := by omega
    obtain ⟨x, hx⟩ : ∃ x, xs[m]? = some x := ⟨_, List.getElem?_eq_getElem (by have := HNn.out; omega)⟩
    obtain ⟨bk, o, cs, rfl, -, -, hrg, v2, rfl, hR0⟩ := HX.out m x hx
    obtain ⟨ua, uc, rfl, hul, hR1⟩ := id hR0
    have hsl := (sl_of (W := w) (lo := 0) hR0).2
    obtain ⟨ul, Hul⟩ : ∃ q, Hid (q = x.one.args.length) := ⟨_, rfl⟩
    have HXx : Hid (xs[m]? = some x) := hx
    have hbl := HW.out.bl
    have kp := Keeps.of_below hbl 0
    obtain ⟨c, Hc⟩ : ∃ q, Hid (q = x.code) := ⟨_, rfl⟩
    obtain ⟨op, Hop⟩ : ∃ q, Hid (q = x.one.op) := ⟨_, rfl⟩
    have c0 : wr.cell? ⟨bk, o + m * 3, none⟩ = some (.int .i64 c) := by rw [Hc.out]; exact kp _ _ _ (Nat.zero_le _) (hrg 0 _ rfl)
    have c1 : wr.cell? ⟨bk, o + m * 3 + 1, none⟩ = some (.int .i64 op) := by rw [Hop.out]; exact kp _ _ _ (Nat.zero_le _) (hrg 1 _ rfl)
    have c2 : wr.cell? ⟨bk, o + m * 3 + 1 + 1, none⟩ = some (.slice ua ul uc) := by rw [Hul.out]; exact kp _ _ _ (Nat.zero_le _) (hrg 2 _ rfl)
    have hbkw : bk < w.heap.size := World.block_lt_of_cell? _ _ (hrg 0 _ rfl)
    obtain ⟨g, rfl, hg, hg1⟩ := HA.out m hlt
    obtain ⟨bb, Hb⟩ : ∃ q, Hid (q = htB xs (m + 1)) := ⟨_, rfl⟩
    obtain ⟨ff, Hf⟩ : ∃ q, Hid (q = htF xs (m + 1)) := ⟨_, rfl⟩
    have t0 : wr.cell? ⟨g, m * 2, none⟩ = some (.int .i64 bb) := by rw [Hb.out]; exact (HW.out.tr.cell hlt).1
    have t1 : wr.cell? ⟨g, m * 2 + 1, none⟩ = some (.int .i64 ff) := by rw [Hf.out]; exact (HW.out.tr.cell hlt).2
    have HBb : Hid (bb = bhB b c) := by show bb = bhB b c; rw [Hb.out, Hc.out, htB_succ hx, ← HW.out.eb]
    have HFf : Hid (ff = bhF f c) := by show ff = bhF f c; rw [Hf.out, Hc.out, htF_succ hx, ← HW.out.ef]
    obtain ⟨okB, Hok⟩ : ∃ q, Hid (q = okT' x) := ⟨_, rfl⟩
    have HOk : Hid (Calls Tryd.prog 15 #[.agg #[.int .i64 c, .int .i64 op, .slice ua ul uc]] (wr.alloc (.cells #[.int .i64 bb, .int .i64 ff] 44)) fun e w' => e = .returned (.bool okB) ∧ Below (wr.alloc (.cells #[.int .i64 bb, .int .i64 ff] 44)).heap.size (wr.alloc (.cells #[.int .i64 bb, .int .i64 ff] 44)) w') := by
      rw [Hok.out, show okT' x = okI c op x.one.args by rw [Hc.out, Hop.out]; rfl]
      exact ok_s c op ua x.one.args ul uc Hul.out _ (hsl.later (hbl.alloc hbl.size _))
    have hbw : w1.heap.size < wr.heap.size := (Array.getElem?_eq_some_iff.1 HW.out.row).1
    have hne1 : bk ≠ wr.heap.size := by omega
    have hne2 : g ≠ wr.heap.size := by omega
    have kA : (wr.alloc (.cells #[.int .i64 bb, .int .i64 ff] 44)).heap[wr.heap.size]? = some (.cells #[.int .i64 bb, .int .i64 ff] 44 (0, 0)) := heap_alloc_last wr _
    have gA : Below w.heap.size w (wr.alloc (.cells #[.int .i64 bb, .int .i64 ff] 44)) := hbl.alloc hbl.size _
    have HLd : Hid ((loadVar 39 ⟨bk, o + m * 3, none⟩).run Tryd.prog (wr.alloc (.cells #[.int .i64 bb, .int .i64 ff] 44)) = .ok (.agg #[.int .i64 c, .int .i64 op, .slice ua ul uc]) (wr.alloc (.cells #[.int .i64 bb, .int .i64 ff] 44))) := by
      rw [Hc.out, Hop.out, Hul.out]
      exact run_loadVar_mid _ bk (o + m * 3) 39 [.int .i64 x.code, .int .i64 x.one.op, .slice ua x.one.args.length uc] _ (fun i c hi => (Keeps.of_below gA 0) _ _ _ (Nat.zero_le _) (hrg i c hi)) Tryd.underlying39 rfl (by kernel_rfl)
    have hRn := HW.out.rn
    have hcc : okB = true → 1 ≤ c ∧ c ≤ 11 := fun h => by
      rw [Hok.out] at h
      rw [Hc.out]
      exact okI_code h
    have HIff : Hid (wrongC ⟨b, f, s, k⟩ okB c = 0 ↔ (C11 okB bb ff = false ∧ C13 c b = false ∧ C15 c b = false ∧ C17 s c b = false ∧ C19 c f = false ∧ (C21 c && !k) = false ∧ C24 c bb ff = false)) := by
      rw [HBb.out, HFf.out]; exact ws_iff hRn hcc
    have HBD : Hid (wrongC ⟨b, f, s, k⟩ okB c ≠ 0 → Z = false) := fun hw => by
      rw [HZ.out]
      refine HW.out.bad HXx.out ?_
      rw [← Hok.out, ← Hc.out]; exact hw
    have HNX : Hid (∀ w5, Below wr.heap.size wr w5 → wrongC ⟨b, f, s, k⟩ okB c = 0 → WsI xs w (w5.setRow w1.heap.size #[.int .i64 bb, .int .i64 ff]) w1.heap.size w.heap.size (.slice (some ⟨g, 0, none⟩) n tc) n (m + 1) bb ff (S26 s c) (!decide (c = 11) && decide (c = 10))) := fun w5 G5 hw => by
      rw [Hok.out, Hc.out] at hw
      refine HW.out.next rfl (by omega) (by omega) G5 HXx.out bb ff Hb.out Hf.out _ _ hw ?_ ?_
      · rw [Hc.out]
        exact s26_eq s x.code
      · rw [Hc.out]
    have HKk : Hid (k = true ↔ ∃ j y, m = j + 1 ∧ xs[j]? = some y ∧ y.code = 10) := HW.out.kk
    have HRow : Hid (wr.heap[w1.heap.size]? = some (.cells #[.int .i64 b, .int .i64 f] 44 (0, 0))) := HW.out.row
    have HBl : Hid (Below w.heap.size w wr) := HW.out.bl
    obtain ⟨W1, HW1⟩ : ∃ W, Hid (W = wr.alloc (.cells #[.int .i64 bb, .int .i64 ff] 44)) := ⟨_, rfl⟩
    clear hrg hR0 hR1 hsl kp hbl hx hul gA HW hRn HXx
    go_upto_region 11 with fail
    rw [← HW1.out] at HLd HOk kA ⊢
    go_cut [62] from 22 to 169 (fun v wc => v = .bool (C11 okB bb ff) ∧ Hid (Below W1.heap.size W1 wc))
    case first =>
      as_aux_lemma =>
        go_wp2_with (first | (refine wpL_load rfl 39 _ rfl _ _ rfl _ HLd.out ?_) | fail)
        refine HOk.out.mono ?_
        rintro e w5 ⟨rfl, g5⟩
        have k5 : w5.heap[wr.heap.size]? = some (.cells #[.int .i64 bb, .int .i64 ff] 44 (0, 0)) := (g5.block _ (Array.getElem?_eq_some_iff.1 kA).1).trans kA
        have e0 : w5.cell? ⟨wr.heap.size, 0, none⟩ = some (.int .i64 bb) := (cell_of_row _ _ _ _ _ _ k5).trans rfl
        have e1 : w5.cell? ⟨wr.heap.size, 1, none⟩ = some (.int .i64 ff) := (cell_of_row _ _ _ _ _ _ k5).trans rfl
        have HG5 : Hid (Below W1.heap.size W1 w5) := g5
        clear k5 g5 kA HLd HOk HBD HNX HIff HKk HRow HBl HX HA HNn HZ HBb HFf Hb Hf Hok Hc Hop Hul hcc
        cases okB with
        | false =>
          go_wp2_with fail
          go_meet
          exact ⟨by simp [C11], HG5⟩
        | true =>
        by_cases n0 : bb < 0
        · go_wp2_with fail
          go_meet
          exact ⟨by simp [C11, n0], HG5⟩
        by_cases n1 : 16 < bb
        · go_wp2_with fail
          go_meet
          exact ⟨by simp [C11, n1], HG5⟩
        by_cases n2 : ff < 0
        · go_wp2_with fail
          go_meet
          exact ⟨by simp [C11, n2], HG5⟩
        go_wp2_with fail
        go_meet
        exact ⟨by simp [C11], HG5⟩
    case rest =>
    obtain ⟨hv, hG5⟩ := hcut
    subst hv
    obtain ⟨w5, ew⟩ : ∃ W, W = wc := ⟨_, rfl⟩
    subst ew
    have G5 : Below wr.heap.size wr w5 := by
      have h1 : Below wr.heap.size wr W1 := by rw [HW1.out]; exact (Below.refl _ _).alloc (Nat.le_refl _) _
      exact h1.trans (hG5.out.mono h1.size)
    have k5 : w5.heap[wr.heap.size]? = some (.cells #[.int .i64 bb, .int .i64 ff] 44 (0, 0)) := (hG5.out.block _ (Array.getElem?_eq_some_iff.1 kA).1).trans kA
    have r5 : w5.heap[w1.heap.size]? = some (.cells #[.int .i64 b, .int .i64 f] 44 (0, 0)) := (G5.block _ hbw).trans HRow.out
    have d0 : w5.cell? ⟨w1.heap.size, 0, none⟩ = some (.int .i64 b) := (cell_of_row _ _ _ _ _ _ r5).trans rfl
    have d1 : w5.cell? ⟨w1.heap.size, 1, none⟩ = some (.int .i64 f) := (cell_of_row _ _ _ _ _ _ r5).trans rfl
    have e0 : w5.cell? ⟨wr.heap.size, 0, none⟩ = some (.int .i64 bb) := (cell_of_row _ _ _ _ _ _ k5).trans rfl
    have e1 : w5.cell? ⟨wr.heap.size, 1, none⟩ = some (.int .i64 ff) := (cell_of_row _ _ _ _ _ _ k5).trans rfl
    have HST : Hid ((storeVar 44 ⟨w1.heap.size, 0, none⟩ (.agg #[.int .i64 bb, .int .i64 ff])).run Tryd.prog w5 = .ok () (w5.setRow w1.heap.size #[.int .i64 bb, .int .i64 ff])) := store_all (P := Tryd.prog) r5 44 _ rfl (by kernel_rfl) (by simp [Value.oneCell'])
    have HB5 : Hid (Below w.heap.size w w5) := HBl.out.trans (G5.mono HBl.out.size)
    have HN5 : Hid (wrongC ⟨b, f, s, k⟩ okB c = 0 → WsI xs w (w5.setRow w1.heap.size #[.int .i64 bb, .int .i64 ff]) w1.heap.size w.heap.size (.slice (some ⟨g, 0, none⟩) n tc) n (m + 1) bb ff (S26 s c) (!decide (c = 11) && decide (c = 10))) := HNX.out w5 G5
    have HPc : Hid ((k = true ∧ ∃ j, m = j + 1 ∧ w5.cell? ⟨bk, o + j * 3, none⟩ = some (.int .i64 10)) ∨ (k = false ∧ (m = 0 ∨ ∃ j q, m = j + 1 ∧ q ≠ 10 ∧ w5.cell? ⟨bk, o + j * 3, none⟩ = some (.int .i64 q)))) := by
      have kp5 := Keeps.of_below HB5.out 0
      have hget : ∀ j, j < n → ∃ y, xs[j]? = some y ∧ w5.cell? ⟨bk, o + j * 3, none⟩ = some (.int .i64 y.code) := fun j hj => by
        obtain ⟨y, hy⟩ : ∃ y, xs[j]? = some y := ⟨_, List.getElem?_eq_getElem (by have := HNn.out; omega)⟩
        obtain ⟨bk', o', cs', e', _, _, hrg', v', rfl, _⟩ := HX.out j y hy
        simp only [Option.some.injEq, Addr.mk.injEq, and_true] at e'
        obtain ⟨rfl, rfl⟩ := e'
        exact ⟨y, hy, kp5 _ _ _ (Nat.zero_le _) (hrg' 0 _ rfl)⟩
      cases hk : k with
      | true =>
        obtain ⟨j, y, e, hy, hc⟩ := HKk.out.1 hk
        obtain ⟨y', hy', hcell⟩ := hget j (by omega)
        rw [hy] at hy'; cases hy'
        exact .inl ⟨rfl, j, e, by rw [← hc]; exact hcell⟩
      | false =>
        refine .inr ⟨rfl, ?_⟩
        by_cases h0 : m = 0
        · exact .inl h0
        · obtain ⟨y, hy, hcell⟩ := hget (m - 1) (by omega)
          refine .inr ⟨m - 1, y.code, by omega, fun hc => ?_, hcell⟩
          have := HKk.out.2 ⟨m - 1, y, by omega, hy, hc⟩
          rw [hk] at this
          cases this
    clear kA k5 r5 G5 hG5 HW1 HNX HRow HBl HKk HX HA HOk HLd HNn Hb Hf Hok Hc Hop Hul HBb HFf hbw hcc c0 c1 c2 t0 t1 hne1 hne2 hg hg1 hbkw
    cases h11 : C11 okB bb ff with
    | true =>
      have hZ : Z = false := HBD.out fun h => (by have h2 := HIff.out.1 h; simp [h11] at h2)
      subst hZ
      clear HBD HIff HN5 HST HPc
      go_wp2
      go_ret
      exact ⟨rfl, HB5.out⟩
    | false =>
    go_upto_region 13 with fail
    go_cut [82] from 22 to 169 (fun v wc => v = .bool (C13 c b) ∧ wc = w5)
    case first =>
      as_aux_lemma =>
        clear HBD HIff HN5 HST HZ HB5
        by_cases n1 : c = 1
        · have f1 : (c != 1) = false := by simp [n1]
          have f4 : (c == 4) = false := by simp [n1]
          have f5 : (c == 5) = false := by simp [n1]
          clear n1
          go_wp2_with fail
          go_meet
          exact ⟨by simp [C13, f1, f4, f5], rfl⟩
        have f1 : (c != 1) = true := by simp [n1]
        by_cases n2 : b = 0
        · have f2 : (b == 0) = true := by simp [n2]
          clear n2
          go_wp2_with fail
          go_meet
          exact ⟨by simp [C13, f1, f2], rfl⟩
        have f2 : (b == 0) = false := by simp [n2]
        by_cases n4 : c = 4
        · have f4 : (c == 4) = true := by simp [n4]
          clear n4
          go_wp2_with fail
          go_meet
          exact ⟨by simp [C13, f2, f4], rfl⟩
        have f4 : (c == 4) = false := by simp [n4]
        by_cases n5 : c = 5
        · have f5 : (c == 5) = true := by simp [n5]
          clear n5
          go_wp2_with fail
          go_meet
          exact ⟨by simp [C13, f2, f5], rfl⟩
        have f5 : (c == 5) = false := by simp [n5]
        go_wp2_with fail
        go_meet
        exact ⟨by simp [C13, f2, f4, f5], rfl⟩
    case rest =>
    obtain ⟨hv, hw⟩ := hcut
    subst hv
    subst hw
    obtain ⟨w5, ew⟩ : ∃ W, W = wc := ⟨_, rfl⟩
    subst ew
    cases h13 : C13 c b with
    | true =>
      have hZ : Z = false := HBD.out fun h => (by have h2 := HIff.out.1 h; simp [h13] at h2)
      subst hZ
      clear HBD HIff HN5 HST HPc
      go_wp2
      go_ret
      exact ⟨rfl, HB5.out⟩
    | false =>
    go_upto_region 15 with fail
    go_cut [89] from 22 to 169 (fun v wc => v = .bool (C15 c b) ∧ wc = w5)
    case first =>
      as_aux_lemma =>
        clear HBD HIff HN5 HST HZ HB5
        by_cases n1 : 7 ≤ c
        · go_wp2_with fail
          go_meet
          exact ⟨by simp [C15, n1], rfl⟩
        go_wp2_with fail
        go_meet
        exact ⟨by simp [C15] <;> omega, rfl⟩
    case rest =>
    obtain ⟨hv, hw⟩ := hcut
    subst hv
    subst hw
    obtain ⟨w5, ew⟩ : ∃ W, W = wc := ⟨_, rfl⟩
    subst ew
    cases h15 : C15 c b with
    | true =>
      have hZ : Z = false := HBD.out fun h => (by have h2 := HIff.out.1 h; simp [h15] at h2)
      subst hZ
      clear HBD HIff HN5 HST HPc
      go_wp2
      go_ret
      exact ⟨rfl, HB5.out⟩
    | false =>
    go_upto_region 17 with fail
    go_cut [115] from 22 to 169 (fun v wc => v = .bool (C17 s c b) ∧ wc = w5)
    case first =>
      as_aux_lemma =>
        clear HBD HIff HN5 HST HZ HB5
        cases s with
        | false =>
          go_wp2_with fail
          go_meet
          exact ⟨by simp [C17], rfl⟩
        | true =>
        by_cases n3 : c = 3
        · have f3 : (c == 3) = true := by simp [n3]
          have f5 : (c == 5) = false := by simp [n3]
          clear n3
          by_cases n1 : b = 1
          · have g1 : (b == 1) = true := by simp [n1]
            clear n1
            go_wp2_with fail
            go_meet
            exact ⟨by simp [C17, f3, g1], rfl⟩
          have g1 : (b == 1) = false := by simp [n1]
          go_wp2_with fail
          go_meet
          exact ⟨by simp [C17, f5, g1], rfl⟩
        have f3 : (c == 3) = false := by simp [n3]
        by_cases n6 : c = 6
        · have f6 : (c == 6) = true := by simp [n6]
          have f5 : (c == 5) = false := by simp [n6]
          clear n6
          by_cases n1 : b = 1
          · have g1 : (b == 1) = true := by simp [n1]
            clear n1
            go_wp2_with fail
            go_meet
            exact ⟨by simp [C17, f6, g1], rfl⟩
          have g1 : (b == 1) = false := by simp [n1]
          go_wp2_with fail
          go_meet
          exact ⟨by simp [C17, f5, g1], rfl⟩
        have f6 : (c == 6) = false := by simp [n6]
        by_cases n5 : c = 5
        · have f5 : (c == 5) = true := by simp [n5]
          clear n5
          go_wp2_with fail
          go_meet
          exact ⟨by simp [C17, f3, f6, f5], rfl⟩
        have f5 : (c == 5) = false := by simp [n5]
        go_wp2_with fail
        go_meet
        exact ⟨by simp [C17, f3, f6, f5], rfl⟩
    case rest =>
    obtain ⟨hv, hw⟩ := hcut
    subst hv
    subst hw
    obtain ⟨w5, ew⟩ : ∃ W, W = wc := ⟨_, rfl⟩
    subst ew
    cases h17 : C17 s c b with
    | true =>
      have hZ : Z = false := HBD.out fun h => (by have h2 := HIff.out.1 h; simp [h17] at h2)
      subst hZ
      clear HBD HIff HN5 HST HPc
      go_wp2
      go_ret
      exact ⟨rfl, HB5.out⟩
    | false =>
    go_upto_region 19 with fail
    go_cut [122] from 22 to 169 (fun v wc => v = .bool (C19 c f) ∧ wc = w5)
    case first =>
      as_aux_lemma =>
        clear HBD HIff HN5 HST HZ HB5
        by_cases n8 : c = 8
        · have f8 : (c == 8) = true := by simp [n8]
          clear n8
          go_wp2_with fail
          go_meet
          exact ⟨by simp [C19, f8], rfl⟩
        have f8 : (c == 8) = false := by simp [n8]
        go_wp2_with fail
        go_meet
        exact ⟨by simp [C19, f8], rfl⟩
    case rest =>
    obtain ⟨hv, hw⟩ := hcut
    subst hv
    subst hw
    obtain ⟨w5, ew⟩ : ∃ W, W = wc := ⟨_, rfl⟩
    subst ew
    cases h19 : C19 c f with
    | true =>
      have hZ : Z = false := HBD.out fun h => (by have h2 := HIff.out.1 h; simp [h19] at h2)
      subst hZ
      clear HBD HIff HN5 HST HPc
      go_wp2
      go_ret
      exact ⟨rfl, HB5.out⟩
    | false =>
    go_upto_region 21 with fail
    go_cut [132] from 22 to 169 (fun v wc => v = .bool (C21 c) ∧ wc = w5)
    case first =>
      as_aux_lemma =>
        clear HBD HIff HN5 HST HZ HB5
        by_cases n8 : c = 8
        · have f8 : (c == 8) = true := by simp [n8]
          clear n8
          go_wp2_with fail
          go_meet
          exact ⟨by simp [C21, f8], rfl⟩
        have f8 : (c == 8) = false := by simp [n8]
        by_cases n9 : c = 9
        · have f9 : (c == 9) = true := by simp [n9]
          clear n9
          go_wp2_with fail
          go_meet
          exact ⟨by simp [C21, f9], rfl⟩
        have f9 : (c == 9) = false := by simp [n9]
        go_wp2_with fail
        go_meet
        exact ⟨by simp [C21, f8, f9], rfl⟩
    case rest =>
    obtain ⟨hv, hw⟩ := hcut
    subst hv
    subst hw
    obtain ⟨w5, ew⟩ : ∃ W, W = wc := ⟨_, rfl⟩
    subst ew
    go_upto_if 132 with fail
    go_cut [5] from 22 to 169 (fun v wc => v = .bool s ∧ wc = w5 ∧ Hid ((C21 c && !k) = false))
    case first =>
      as_aux_lemma =>
        clear HN5 HST
        cases h21 : C21 c with
        | false =>
          clear HBD HIff HZ HB5 HPc
          go_wp2_with fail
          go_meet
          exact ⟨rfl, rfl, (by simp [h21] : (C21 c && !k) = false)⟩
        | true =>
        go_upto_region 22 with fail
        go_cut [143] from 22 to 169 (fun v wc => v = .bool (!k) ∧ wc = w5)
        case first =>
          as_aux_lemma =>
            clear HBD HIff HZ HB5
            rcases HPc.out with ⟨rfl, j, hj, pc⟩ | ⟨rfl, hj | ⟨j, q, hj, hq, pc⟩⟩
            · have p0 : ((m : Int) == 0) = false := by simp; omega
              have p1 : IntKind.i64.wrap ((m : Int) - 1) = (j : Int) := by rw [IntKind.wrap_i64]; omega
              have p2 : (j : Int) < (n : Int) := by omega
              have p3 : (0 : Int) ≤ (j : Int) := by omega
              clear hj
              go_wp2_with fail
              go_meet
              exact ⟨by simp, rfl⟩
            · have p0 : ((m : Int) == 0) = true := by simp [hj]
              clear hj
              go_wp2_with fail
              go_meet
              exact ⟨by simp, rfl⟩
            · have p0 : ((m : Int) == 0) = false := by simp; omega
              have p1 : IntKind.i64.wrap ((m : Int) - 1) = (j : Int) := by rw [IntKind.wrap_i64]; omega
              have p2 : (j : Int) < (n : Int) := by omega
              have p3 : (0 : Int) ≤ (j : Int) := by omega
              clear hj
              go_wp2_with fail
              go_meet
              exact ⟨by simp [hq], rfl⟩
        case rest =>
        obtain ⟨hv, hw⟩ := hcut
        subst hv
        subst hw
        obtain ⟨w5, ew⟩ : ∃ W, W = wc := ⟨_, rfl⟩
        subst ew
        cases hk : k with
        | false =>
          have hZ : Z = false := HBD.out fun h => (by have h2 := HIff.out.1 h; simp [h21, hk] at h2)
          subst hZ
          clear HBD HIff HPc
          go_wp2
          go_ret
          exact ⟨rfl, HB5.out⟩
        | true =>
          clear HBD HIff HPc
          go_wp2_with fail
          go_meet
          exact ⟨rfl, rfl, (by simp [hk] : (C21 c && !k) = false)⟩
    case rest =>
    obtain ⟨hv, hw, hk21⟩ := hcut
    subst hv
    subst hw
    obtain ⟨w5, ew⟩ : ∃ W, W = wc := ⟨_, rfl⟩
    subst ew
    go_upto_region 24 with fail
    go_cut [155] from 22 to 169 (fun v wc => v = .bool (C24 c bb ff) ∧ wc = w5)
    case first =>
      as_aux_lemma =>
        clear HBD HIff HN5 HST HZ HB5
        by_cases n11 : c = 11
        · have f11 : (c == 11) = true := by simp [n11]
          clear n11
          by_cases n0 : bb = 0
          · have g0 : (bb != 0) = false := by simp [n0]
            clear n0
            go_wp2_with fail
            go_meet
            exact ⟨by simp [C24, f11, g0], rfl⟩
          have g0 : (bb != 0) = true := by simp [n0]
          go_wp2_with fail
          go_meet
          exact ⟨by simp [C24, f11, g0], rfl⟩
        have f11 : (c == 11) = false := by simp [n11]
        go_wp2_with fail
        go_meet
        exact ⟨by simp [C24, f11], rfl⟩
    case rest =>
    obtain ⟨hv, hw⟩ := hcut
    subst hv
    subst hw
    obtain ⟨w5, ew⟩ : ∃ W, W = wc := ⟨_, rfl⟩
    subst ew
    cases h24 : C24 c bb ff with
    | true =>
      have hZ : Z = false := HBD.out fun h => (by have h2 := HIff.out.1 h; simp [h24] at h2)
      subst hZ
      clear HBD HIff HN5 HST HPc
      go_wp2
      go_ret
      exact ⟨rfl, HB5.out⟩
    | false =>
    go_upto_region 26 with fail
    go_cut [5] from 22 to 169 (fun v wc => v = .bool (S26 s c) ∧ wc = w5)
    case first =>
      as_aux_lemma =>
        clear HBD HIff HN5 HST HZ HB5
        by_cases n11 : c = 11
        · have f11 : (c != 11) = false := by simp [n11]
          clear n11
          go_wp2_with fail
          go_meet
          exact ⟨by simp [S26, f11], rfl⟩
        have f11 : (c != 11) = true := by simp [n11]
        cases s with
        | true =>
          go_wp2_with fail
          go_meet
          exact ⟨by simp [S26, f11], rfl⟩
        | false =>
        by_cases n10 : c = 10
        · have f10 : (c == 10) = true := by simp [n10]
          clear n10
          go_wp2_with fail
          go_meet
          exact ⟨by simp [S26, f11, f10], rfl⟩
        have f10 : (c == 10) = false := by simp [n10]
        go_wp2_with fail
        go_meet
        exact ⟨by simp [S26, f11, f10], rfl⟩
    case rest =>
    obtain ⟨hv, hw⟩ := hcut
    subst hv
    subst hw
    obtain ⟨w5, ew⟩ : ∃ W, W = wc := ⟨_, rfl⟩
    subst ew
    have hw0 : wrongC ⟨b, f, s, k⟩ okB c = 0 := HIff.out.2 ⟨h11, h13, h15, h17, h19, hk21.out, h24⟩
    have HN : Hid (WsI xs w (w5.setRow w1.heap.size #[.int .i64 bb, .int .i64 ff]) w1.heap.size w.heap.size (.slice (some ⟨g, 0, none⟩) n tc) n (m + 1) bb ff (S26 s c) (!decide (c = 11) && decide (c = 10))) := HN5.out hw0
    clear HBD HIff HN5 HPc hw0
    go_wp2_with (first | (refine wpL_store rfl 44 _ _ rfl _ _ rfl _ rfl _ HST.out ?_) | fail)
    go_roundg (gk - 1)
    case measure => omega
    case rel => exact ⟨m + 1, bb, ff, S26 s c, _, by omega, by simp, rfl, ⟨HN.out.rn.b0, HN.out.rn.b1⟩, ⟨HN.out.rn.f0, HN.out.rn.f1⟩, HN⟩
end Go.Proofs.YtbncgacnikmomaaDoor
