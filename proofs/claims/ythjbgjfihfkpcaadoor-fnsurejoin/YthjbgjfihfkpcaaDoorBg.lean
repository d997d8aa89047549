/- SureCheck of the specification, and the law FnExactSureCheck. -/
import Derived.Test.YthjbgjfihfkpcaaDoorBe
import Derived.Test.YthjbgjfihfkpcaaDoorBf
import Derived.Test.YthjbgjfihfkpcaaDoorZb
import Derived.Lib.QuietBelow
namespace Go.Proofs.YthjbgjfihfkpcaaDoor
open Go.RowKit
set_option linter.unusedVariables false

theorem st_free {X : World} {B : Nat} {T : TypeId} {a b c d : Value} {w3 : World} {W : World} (g3 : Below W.heap.size W w3) (kA : X.heap[B]? = some (.cells #[a, b, c, d] T (0, 0))) (hX : W.heap = X.heap := by rfl) :
    w3.heap[B]? = some (.cells #[a, b, c, d] T (0, 0)) ∧ w3.cell? ⟨B, 0, none⟩ = some a ∧ w3.cell? ⟨B, 1, none⟩ = some b ∧ w3.cell? ⟨B, 2, none⟩ = some c ∧ w3.cell? ⟨B, 3, none⟩ = some d ∧ w3.frozen? ⟨B, 0, none⟩ = false ∧ w3.frozen? ⟨B, 1, none⟩ = false ∧ w3.frozen? ⟨B, 2, none⟩ = false ∧ w3.frozen? ⟨B, 3, none⟩ = false := by
  have k3 : w3.heap[B]? = some (.cells #[a, b, c, d] T (0, 0)) := by
    have h0 : W.heap[B]? = some (.cells #[a, b, c, d] T (0, 0)) := by rw [hX]; exact kA
    exact (g3.block _ (Array.getElem?_eq_some_iff.1 h0).1).trans h0
  exact ⟨k3, (cell_of_row _ _ _ _ _ _ k3).trans rfl, (cell_of_row _ _ _ _ _ _ k3).trans rfl, (cell_of_row _ _ _ _ _ _ k3).trans rfl, (cell_of_row _ _ _ _ _ _ k3).trans rfl, by simp [World.frozen?, k3], by simp [World.frozen?, k3], by simp [World.frozen?, k3], by simp [World.frozen?, k3]⟩

set_option maxRecDepth 10000 in
set_option maxHeartbeats 8000000 in
theorem check_s (v : Value) (xs : List InstT) (w : World) (lo : Nat) (hv : InstsIs w lo v xs) (hbig : xs.length ≤ 1048576) :
    Calls Tryd.prog 6 #[v] w fun e w' => CheckR xs w e w' := by
  obtain ⟨a, cap, rfl, hl, hx⟩ := hv
  have HX : Hid (∀ j x, xs[j]? = some x → ∃ b o cs, a = some ⟨b, o, none⟩ ∧ lo ≤ b ∧ cs.length = 3 ∧ w.rangeAt b (o + j * 3) cs ∧ InstIs w lo x cs) := hx
  by_cases hk : xs.length ≤ 1000
  case neg =>
    have i0 : (1000 : Int) < (xs.length : Int) := by omega
    have HF : Hid (CheckR xs w (.returned (.agg #[.int .i64 1, .int .i64 0])) (w.alloc (.cells #[.int .i64 1, .int .i64 0] 28))) := ⟨by rw [show checkT xs = (1, 0) from if_pos (by omega)], (Below.refl _ _).alloc (Nat.le_refl _) _⟩
    clear hx HX hk
    generalize xs.length = len at i0 hl hbig
    go_enter Tryd.func6, Tryd.ntmps6
    go_wp2
    exact bodyPost_ret (v := .agg #[.int .i64 1, .int .i64 0]) (by simp [results, Tryd.results6, go_sem]) rfl HF.out
  have HC : Hid (checkT xs = chk (xs.drop 0) 0 ⟨0, 0, false, false⟩) := if_neg (by omega)
  obtain ⟨len, HL⟩ : ∃ len, Hid (len = xs.length) := ⟨_, rfl⟩
  rw [← HL.out] at hl hbig hk ⊢
  clear hx
  have i0 : ¬ ((1000 : Int) < (len : Int)) := by omega
  go_enter Tryd.func6, Tryd.ntmps6
  go_wp2
  go_loopg [4] len (fun g i wr => ∃ (n : Nat) (b f : Int) (s k : Bool), n + g = len ∧ i = .int .i64 n ∧ Hid (wr.heap[w.heap.size]? = some (.cells #[.int .i64 0, .int .i64 0] 28 (0, 0)) ∧ wr.heap[w.heap.size + 1]? = some (.cells #[.int .i64 b, .int .i64 f, .bool s, .bool k] 39 (0, 0)) ∧ RnOk ⟨b, f, s, k⟩ ∧ checkT xs = chk (xs.drop n) n ⟨b, f, s, k⟩ ∧ Below w.heap.size w wr))
  case atStart =>
    have h2 := rows2 w (.cells #[.int .i64 0, .int .i64 0] 28) (.cells #[.int .i64 0, .int .i64 0, .bool false, .bool false] 39)
    exact ⟨0, 0, 0, false, false, by omega, rfl, h2.1, h2.2, rn_zero, HC.out, two_below _ _⟩
  case round =>
    clear HC
    obtain ⟨n, b, f, s, k, hn, rfl, HS⟩ := hrel
    by_cases hlt : n < len
    · have i1 : (n : Int) < (len : Int) := by omega
      have i3 : (0 : Int) ≤ (n : Int) := by omega
      obtain ⟨x, hxn⟩ : ∃ x, xs[n]? = some x := ⟨_, List.getElem?_eq_getElem (by have := HL.out; omega)⟩
      obtain ⟨bk, o, cs, rfl, hlo, hcs, hrg, u, rfl, hR⟩ := HX.out n x hxn
      have hb := HS.out.2.2.2.2
      have hR0 := hR
      obtain ⟨ua, uc, rfl, _, _⟩ := hR
      have hsl := sl_of hR0
      have HSl : Hid (Sl w ua x.one.args) := hsl.2
      obtain ⟨ul, Hul⟩ : ∃ l, Hid (l = x.one.args.length) := ⟨_, rfl⟩
      obtain ⟨c, Hc⟩ : ∃ c, Hid (c = x.code) := ⟨_, rfl⟩
      obtain ⟨op, Hop⟩ : ∃ c, Hid (c = x.one.op) := ⟨_, rfl⟩
      have H1 : Hid (wr.rangeAt bk (o + n * 3) [.int .i64 c, .int .i64 op, .slice ua ul uc]) := by
        rw [Hc.out, Hop.out, Hul.out]
        exact fun i c hi => (Keeps.of_below hb 0) _ _ _ (Nat.zero_le _) (hrg i c hi)
      have HSame : Hid (wrongS ⟨b, f, s, k⟩ (okI c op x.one.args) c = wrongC ⟨b, f, s, k⟩ (okT' x) x.code) := by
        show wrongS ⟨b, f, s, k⟩ (okI c op x.one.args) c = wrongC ⟨b, f, s, k⟩ (okI x.code x.one.op x.one.args) x.code
        rw [Hc.out, Hop.out]
        exact wrong_same HS.out.2.2.1 (fun h => okI_code h)
      have hbnn : 0 ≤ b := HS.out.2.2.1.b0
      have HWr : Hid (∀ W, Below w.heap.size w W → Calls Tryd.prog 11 #[.agg #[.int .i64 b, .int .i64 f, .bool s, .bool k], .agg #[.int .i64 c, .int .i64 op, .slice ua ul uc]] W fun e w' => e = .returned (.int .i64 (wrongC ⟨b, f, s, k⟩ (okT' x) x.code)) ∧ Below W.heap.size W w') := fun W g => by
        rw [← HSame.out]
        exact wrong_s b f s k c op ua x.one.args ul uc Hul.out W (HSl.out.later g) hbnn
      have hwin := wrong_in ⟨b, f, s, k⟩ (okT' x) x.code
      have hbb0 : -2000 ≤ b := by omega
      have hbb1 : b ≤ 2000 := by have h5 := HS.out.2.2.1.b1; simp only at h5; omega
      have hff0 : -2000 ≤ f := by have h5 := HS.out.2.2.1.f0; simp only at h5; omega
      have hff1 : f ≤ 2000 := by have h5 := HS.out.2.2.1.f1; simp only at h5; omega
      have HNx : Hid (∀ W, Calls Tryd.prog 12 #[.agg #[.int .i64 b, .int .i64 f, .bool s, .bool k], .int .i64 c] W fun e w' => e = .returned (.agg #[.int .i64 (nx ⟨b, f, s, k⟩ c).b, .int .i64 (nx ⟨b, f, s, k⟩ c).f, .bool (nx ⟨b, f, s, k⟩ c).s, .bool (nx ⟨b, f, s, k⟩ c).k]) ∧ Below W.heap.size W w') := fun W => next_s b f s k c W hbb0 hbb1 hff0 hff1
      obtain ⟨q, Hq⟩ : ∃ q, Hid (q = wrongC ⟨b, f, s, k⟩ (okT' x) x.code) := ⟨_, rfl⟩
      rw [← Hq.out] at HWr hwin
      have HB : Hid (Below w.heap.size w wr) := hb
      have cE : ∀ d os, Calls Tryd.prog 11 #[.agg #[.int .i64 b, .int .i64 f, .bool s, .bool k], .agg #[.int .i64 c, .int .i64 op, .slice ua ul uc]] (Sort.grow (redrawn wr d) os) fun e w'' => e = .returned (.int .i64 q) ∧ ∃ p : Regrown, w'' = Sort.grow (redrawn wr p.d) p.os :=
        fun d os => Calls.regrown_of (HWr.out _ (HB.out.trans ((below_regrown wr d os).mono HB.out.size)))
      have HRs : Hid (wr.heap[w.heap.size + 1]? = some (.cells #[.int .i64 b, .int .i64 f, .bool s, .bool k] 39 (0, 0))) := HS.out.2.1
      have HR4 : Hid (wr.rangeAt (w.heap.size + 1) 0 [.int .i64 b, .int .i64 f, .bool s, .bool k]) := fun i c hi => by
        rw [Nat.zero_add, cell_of_row _ _ _ _ _ _ HRs.out]
        simpa using hi
      clear hb hrg hcs hlo hR0 hsl
      go_upto_region 7 with fail
      refine wp_region_quiet_below (by kernel_rfl) (by kernel_rfl) ?_
      refine wpQ_load rfl 39 _ rfl _ _ rfl (.agg #[.int .i64 b, .int .i64 f, .bool s, .bool k]) (fun W hW => run_loadVar_mid W (w.heap.size + 1) 0 39 [.int .i64 b, .int .i64 f, .bool s, .bool k] _ (range_regrown HR4.out hW) Tryd.underlying39 rfl (by kernel_rfl)) ?_
      simp only [Act.put, List.setIfInBounds_toArray, List.set_cons_succ, List.set_cons_zero]
      go_big_quiet_step (first | with_reducible exact cE _ _)
      go_big_quiet_step (first | with_reducible exact cE _ _)
      go_big_quiet_step (first | with_reducible exact cE _ _)
      refine wpQ_load rfl 36 _ rfl _ _ rfl (.agg #[.int .i64 c, .int .i64 op, .slice ua ul uc]) (fun W hW => run_loadVar_mid W bk (o + n * 3) 36 [.int .i64 c, .int .i64 op, .slice ua ul uc] _ (range_regrown H1.out hW) Tryd.underlying36 rfl (by kernel_rfl)) ?_
      simp only [Act.put, List.setIfInBounds_toArray, List.set_cons_succ, List.set_cons_zero]
      go_big_quiet_step (first | with_reducible exact cE _ _)
      go_big_quiet_step (first | with_reducible exact cE _ _)
      refine wpQuiet_nil ?_
      intro w7 hw'
      have g7 : Below wr.heap.size wr w7 := by
        obtain ⟨⟨dq, osq⟩, rfl⟩ := hw'
        exact below_regrown wr dq osq
      have HG7 : Hid (w7.heap[w.heap.size]? = some (.cells #[.int .i64 0, .int .i64 0] 28 (0, 0)) ∧ w7.heap[w.heap.size + 1]? = some (.cells #[.int .i64 b, .int .i64 f, .bool s, .bool k] 39 (0, 0)) ∧ Below w.heap.size w w7 ∧ w7.rangeAt bk (o + n * 3) [.int .i64 c, .int .i64 op, .slice ua ul uc]) := ⟨(g7.block _ (Array.getElem?_eq_some_iff.1 HS.out.1).1).trans HS.out.1, (g7.block _ (Array.getElem?_eq_some_iff.1 HS.out.2.1).1).trans HS.out.2.1, HB.out.trans (g7.mono HB.out.size), fun i c hi => (Keeps.of_below g7 0) _ _ _ (Nat.zero_le _) (H1.out i c hi)⟩
      clear hw' cE g7 HB HRs HR4 H1 HWr
      by_cases hq0 : q = 0
      · have HGo : Hid (RnOk (nx ⟨b, f, s, k⟩ c) ∧ checkT xs = chk (xs.drop (n + 1)) (n + 1) (nx ⟨b, f, s, k⟩ c)) := by
          have h0 : wrongC ⟨b, f, s, k⟩ (okT' x) x.code = 0 := Hq.out.symm.trans hq0
          rw [Hc.out]
          exact ⟨rn_next HS.out.2.2.1 (fun h => okI_code h) h0, by rw [HS.out.2.2.2.1]; exact chk_go hxn h0⟩
        subst hq0
        generalize nx ⟨b, f, s, k⟩ c = r2 at HNx HGo
        obtain ⟨nb, nf, ns, nk⟩ := r2
        simp only at HNx
        have cc : w7.cell? ⟨bk, o + n * 3, none⟩ = some (.int .i64 c) := by have := HG7.out.2.2.2 0 _ rfl; simpa using this
        obtain ⟨kr, d0, d1, d2, d3, e0, e1, e2, e3⟩ := st_free (X := w7) (Below.refl _ _) HG7.out.2.1
        have kS := HG7.out.2.1
        clear HS Hq kr
        go_wp2
        go_region_with (first | (go_at_call 12; refine (HNx.out _).mono ?_; rintro e w9 ⟨rfl, g9⟩; obtain ⟨kr, c0, c1, c2, c3, f0, f1, f2, f3⟩ := st_free g9 kS))
        · have q0 : w9.heap[w.heap.size]? = some (.cells #[.int .i64 0, .int .i64 0] 28 (0, 0)) := (g9.block _ (Array.getElem?_eq_some_iff.1 HG7.out.1).1).trans HG7.out.1
          have qb : Below w.heap.size w w9 := HG7.out.2.2.1.drew.trans (g9.mono HG7.out.2.2.1.size)
          have HFh : Hid (((((w9.setCell ⟨w.heap.size + 1, 0, none⟩ (.int .i64 nb)).setCell ⟨w.heap.size + 1, 1, none⟩ (.int .i64 nf)).setCell ⟨w.heap.size + 1, 2, none⟩ (.bool ns)).setCell ⟨w.heap.size + 1, 3, none⟩ (.bool nk)).heap[w.heap.size]? = some (.cells #[.int .i64 0, .int .i64 0] 28 (0, 0)) ∧ ((((w9.setCell ⟨w.heap.size + 1, 0, none⟩ (.int .i64 nb)).setCell ⟨w.heap.size + 1, 1, none⟩ (.int .i64 nf)).setCell ⟨w.heap.size + 1, 2, none⟩ (.bool ns)).setCell ⟨w.heap.size + 1, 3, none⟩ (.bool nk)).heap[w.heap.size + 1]? = some (.cells #[.int .i64 nb, .int .i64 nf, .bool ns, .bool nk] 39 (0, 0)) ∧ RnOk ⟨nb, nf, ns, nk⟩ ∧ checkT xs = chk (xs.drop (n + 1)) (n + 1) ⟨nb, nf, ns, nk⟩ ∧ Below w.heap.size w ((((w9.setCell ⟨w.heap.size + 1, 0, none⟩ (.int .i64 nb)).setCell ⟨w.heap.size + 1, 1, none⟩ (.int .i64 nf)).setCell ⟨w.heap.size + 1, 2, none⟩ (.bool ns)).setCell ⟨w.heap.size + 1, 3, none⟩ (.bool nk))) :=
            ⟨row_other (row_other (row_other (row_other q0 _ _ (by omega) _) _ _ (by omega) _) _ _ (by omega) _) _ _ (by omega) _, row_put (row_put (row_put (row_put kr 0 _) 1 _) 2 _) 3 _, HGo.out.1, HGo.out.2, (((qb.setCell (p := ⟨w.heap.size + 1, 0, none⟩) (Nat.le_succ _) _).setCell (p := ⟨w.heap.size + 1, 1, none⟩) (Nat.le_succ _) _).setCell (p := ⟨w.heap.size + 1, 2, none⟩) (Nat.le_succ _) _).setCell (p := ⟨w.heap.size + 1, 3, none⟩) (Nat.le_succ _) _⟩
          clear q0 qb kr c0 c1 c2 c3 f0 f1 f2 f3 g9 d0 d1 d2 d3 e0 e1 e2 e3 cc kS
          go_wp2
          go_roundg (gk - 1)
          case measure => omega
          case rel => exact ⟨n + 1, nb, nf, ns, nk, by omega, by simp, HFh⟩
        · have q0 : w9.heap[w.heap.size]? = some (.cells #[.int .i64 0, .int .i64 0] 28 (0, 0)) := (g9.block _ (Array.getElem?_eq_some_iff.1 HG7.out.1).1).trans HG7.out.1
          have qb : Below w.heap.size w w9 := HG7.out.2.2.1.drew.trans (g9.mono HG7.out.2.2.1.size)
          have HFh : Hid (((((w9.setCell ⟨w.heap.size + 1, 0, none⟩ (.int .i64 nb)).setCell ⟨w.heap.size + 1, 1, none⟩ (.int .i64 nf)).setCell ⟨w.heap.size + 1, 2, none⟩ (.bool ns)).setCell ⟨w.heap.size + 1, 3, none⟩ (.bool nk)).heap[w.heap.size]? = some (.cells #[.int .i64 0, .int .i64 0] 28 (0, 0)) ∧ ((((w9.setCell ⟨w.heap.size + 1, 0, none⟩ (.int .i64 nb)).setCell ⟨w.heap.size + 1, 1, none⟩ (.int .i64 nf)).setCell ⟨w.heap.size + 1, 2, none⟩ (.bool ns)).setCell ⟨w.heap.size + 1, 3, none⟩ (.bool nk)).heap[w.heap.size + 1]? = some (.cells #[.int .i64 nb, .int .i64 nf, .bool ns, .bool nk] 39 (0, 0)) ∧ RnOk ⟨nb, nf, ns, nk⟩ ∧ checkT xs = chk (xs.drop (n + 1)) (n + 1) ⟨nb, nf, ns, nk⟩ ∧ Below w.heap.size w ((((w9.setCell ⟨w.heap.size + 1, 0, none⟩ (.int .i64 nb)).setCell ⟨w.heap.size + 1, 1, none⟩ (.int .i64 nf)).setCell ⟨w.heap.size + 1, 2, none⟩ (.bool ns)).setCell ⟨w.heap.size + 1, 3, none⟩ (.bool nk))) :=
            ⟨row_other (row_other (row_other (row_other q0 _ _ (by omega) _) _ _ (by omega) _) _ _ (by omega) _) _ _ (by omega) _, row_put (row_put (row_put (row_put kr 0 _) 1 _) 2 _) 3 _, HGo.out.1, HGo.out.2, (((qb.setCell (p := ⟨w.heap.size + 1, 0, none⟩) (Nat.le_succ _) _).setCell (p := ⟨w.heap.size + 1, 1, none⟩) (Nat.le_succ _) _).setCell (p := ⟨w.heap.size + 1, 2, none⟩) (Nat.le_succ _) _).setCell (p := ⟨w.heap.size + 1, 3, none⟩) (Nat.le_succ _) _⟩
          clear q0 qb kr c0 c1 c2 c3 f0 f1 f2 f3 g9 d0 d1 d2 d3 e0 e1 e2 e3 cc kS
          go_wp2
          go_roundg (gk - 1)
          case measure => omega
          case rel => exact ⟨n + 1, nb, nf, ns, nk, by omega, by simp, HFh⟩
      · have hqp : (0 : Int) < q := by omega
        have HF : Hid (CheckR xs w (.returned (.agg #[.int .i64 q, .int .i64 n])) (w7.setRow w.heap.size #[.int .i64 q, .int .i64 n])) := by
          refine ⟨?_, below_setRow HG7.out.2.2.1 (Nat.le_refl _) _⟩
          rw [HS.out.2.2.2.1, chk_bad hxn (by rw [← Hq.out]; exact hq0), ← Hq.out]
        have HST : Hid ((storeVar 28 ⟨w.heap.size, 0, none⟩ (.agg #[.int .i64 q, .int .i64 n])).run Tryd.prog w7 = .ok () (w7.setRow w.heap.size #[.int .i64 q, .int .i64 n])) := store_all HG7.out.1 28 _ rfl (by kernel_rfl) (all_one [.int .i64 q, .int .i64 n] (by intro d hd; simp at hd; rcases hd with rfl | rfl <;> rfl))
        have HR : Hid ((w7.setRow w.heap.size #[.int .i64 q, .int .i64 n]).heap[w.heap.size]? = some (.cells #[.int .i64 q, .int .i64 n] 28 (0, 0))) := row_set HG7.out.1 _
        clear HS Hq hq0 HG7
        go_wp2_with (first | (refine wpL_store rfl 28 _ _ rfl _ _ rfl _ rfl _ HST.out ?_) | (refine ret_row rfl rfl HR.out Tryd.underlying28 rfl (by kernel_rfl) rfl ?_) | fail)
        exact HF.out
    · have i1 : ¬ ((n : Int) < (len : Int)) := by omega
      have hE := HS.out.2.2.2.1
      rw [chk_end (by rw [← HL.out]; omega)] at hE
      have hnl : n = len := by omega
      have cb : wr.cell? ⟨w.heap.size + 1, 0, none⟩ = some (.int .i64 b) := (cell_of_row _ _ _ _ _ _ HS.out.2.1).trans rfl
      have hbn := HS.out.2.2.1.b0
      simp only at hbn hE
      by_cases hb0 : b = 0
      · subst hb0
        have HF : Hid (CheckR xs w (.returned (.agg #[.int .i64 0, .int .i64 0])) (wr.setRow w.heap.size #[.int .i64 0, .int .i64 0])) := ⟨by rw [hE, if_pos rfl], below_setRow HS.out.2.2.2.2 (Nat.le_refl _) _⟩
        have HST : Hid ((storeVar 28 ⟨w.heap.size, 0, none⟩ (.agg #[.int .i64 0, .int .i64 0])).run Tryd.prog wr = .ok () (wr.setRow w.heap.size #[.int .i64 0, .int .i64 0])) := store_all HS.out.1 28 _ rfl (by kernel_rfl) (all_one [.int .i64 0, .int .i64 0] (by intro d hd; simp at hd; rcases hd with rfl | rfl <;> rfl))
        have HR : Hid ((wr.setRow w.heap.size #[.int .i64 0, .int .i64 0]).heap[w.heap.size]? = some (.cells #[.int .i64 0, .int .i64 0] 28 (0, 0))) := row_set HS.out.1 _
        clear hE HS hnl hbn
        go_wp2_with (first | (refine wpL_store rfl 28 _ _ rfl _ _ rfl _ rfl _ HST.out ?_) | (refine ret_row rfl rfl HR.out Tryd.underlying28 rfl (by kernel_rfl) rfl ?_) | fail)
        exact HF.out
      · have hbp : (0 : Int) < b := by omega
        have HF : Hid (CheckR xs w (.returned (.agg #[.int .i64 9, .int .i64 len])) (wr.setRow w.heap.size #[.int .i64 9, .int .i64 len])) := ⟨by rw [hE, if_neg hb0, hnl], below_setRow HS.out.2.2.2.2 (Nat.le_refl _) _⟩
        have HST : Hid ((storeVar 28 ⟨w.heap.size, 0, none⟩ (.agg #[.int .i64 9, .int .i64 len])).run Tryd.prog wr = .ok () (wr.setRow w.heap.size #[.int .i64 9, .int .i64 len])) := store_all HS.out.1 28 _ rfl (by kernel_rfl) (all_one [.int .i64 9, .int .i64 len] (by intro d hd; simp at hd; rcases hd with rfl | rfl <;> rfl))
        have HR : Hid ((wr.setRow w.heap.size #[.int .i64 9, .int .i64 len]).heap[w.heap.size]? = some (.cells #[.int .i64 9, .int .i64 len] 28 (0, 0))) := row_set HS.out.1 _
        clear hE HS hnl hbn hb0
        go_wp2_with (first | (refine wpL_store rfl 28 _ _ rfl _ _ rfl _ rfl _ HST.out ?_) | (refine ret_row rfl rfl HR.out Tryd.underlying28 rfl (by kernel_rfl) rfl ?_) | fail)
        exact HF.out

end Go.Proofs.YthjbgjfihfkpcaaDoor
