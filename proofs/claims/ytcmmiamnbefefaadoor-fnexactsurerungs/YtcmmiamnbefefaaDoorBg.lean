/- SureCheck of the specification, and the law FnExactSureCheck. -/
import Derived.Test.YtcmmiamnbefefaaDoorBe
import Derived.Test.YtcmmiamnbefefaaDoorBf
import Derived.Test.YtcmmiamnbefefaaDoorZb
import Derived.Lib.QuietBelow
namespace Go.Proofs.YtcmmiamnbefefaaDoor
open Go.RowKit
set_option linter.unusedVariables false

theorem st_free {X : World} {B : Nat} {T : TypeId} {a b c d : Value} {w3 : World} {W : World} (g3 : Below W.heap.size W w3) (kA : X.heap[B]? = some (.cells #[a, b, c, d] T (0, 0))) (hX : W.heap = X.heap := by rfl) :
    w3.heap[B]? = some (.cells #[a, b, c, d] T (0, 0)) ∧ w3.cell? ⟨B, 0, none⟩ = some a ∧ w3.cell? ⟨B, 1, none⟩ = some b ∧ w3.cell? ⟨B, 2, none⟩ = some c ∧ w3.cell? ⟨B, 3, none⟩ = some d ∧ w3.frozen? ⟨B, 0, none⟩ = false ∧ w3.frozen? ⟨B, 1, none⟩ = false ∧ w3.frozen? ⟨B, 2, none⟩ = false ∧ w3.frozen? ⟨B, 3, none⟩ = false := by
  have k3 : w3.heap[B]? = some (.cells #[a, b, c, d] T (0, 0)) := by
    have h0 : W.heap[B]? = some (.cells #[a, b, c, d] T (0, 0)) := by rw [hX]; exact kA
    exact (g3.block _ (Array.getElem?_eq_some_iff.1 h0).1).trans h0
  exact ⟨k3, (cell_of_row _ _ _ _ _ _ k3).trans rfl, (cell_of_row _ _ _ _ _ _ k3).trans rfl, (cell_of_row _ _ _ _ _ _ k3).trans rfl, (cell_of_row _ _ _ _ _ _ k3).trans rfl, by simp [World.frozen?, k3], by simp [World.frozen?, k3], by simp [World.frozen?, k3], by simp [World.frozen?, k3]⟩

set_option maxRecDepth 10000 in
set_option maxHeartbeats 8000000 in
theorem check_s (v : Value) (xs : List InstT) (w : World) (lo : Nat) (hv : InstsIs w lo v xs) (hbig : xs.length ≤ 1048576) :
    Calls Tryd.prog 9 #[v] w fun e w' => CheckR xs w e w' := by
  obtain ⟨a, cap, rfl, hl, hx⟩ := hv
  have HX : Hid (∀ j x, xs[j]? = some x → ∃ b o cs, a = some ⟨b, o, none⟩ ∧ lo ≤ b ∧ cs.length = 3 ∧ w.rangeAt b (o + j * 3) cs ∧ InstIs w lo x cs) := hx
  by_cases hk : xs.length ≤ 1000
  case neg =>
    have i0 : (1000 : Int) < (xs.length : Int) := by omega
    have HF : Hid (CheckR xs w (.returned (.agg #[.int .i64 1, .int .i64 0])) (w.alloc (.cells #[.int .i64 1, .int .i64 0] 26))) := ⟨by rw [show checkT xs = (1, 0) from if_pos (by omega)], (Below.refl _ _).alloc (Nat.le_refl _) _⟩
    clear hx HX hk
    generalize xs.length = len at i0 hl hbig
    go_enter Tryd.func9, Tryd.ntmps9
    go_wp2
    exact bodyPost_ret (v := .agg #[.int .i64 1, .int .i64 0]) (by simp [results, Tryd.results9, go_sem]) rfl HF.out
  have HC : Hid (checkT xs = chk (xs.drop 0) 0 ⟨0, 0, false, false⟩) := if_neg (by omega)
  obtain ⟨len, HL⟩ : ∃ len, Hid (len = xs.length) := ⟨_, rfl⟩
  rw [← HL.out] at hl hbig hk ⊢
  clear hx
  have i0 : ¬ ((1000 : Int) < (len : Int)) := by omega
  go_enter Tryd.func9, Tryd.ntmps9
  go_wp2
  go_loopg [4] len (fun g i wr => ∃ (n : Nat) (b f : Int) (s k : Bool), n + g = len ∧ i = .int .i64 n ∧ Hid (wr.heap[w.heap.size]? = some (.cells #[.int .i64 0, .int .i64 0] 26 (0, 0)) ∧ wr.heap[w.heap.size + 1]? = some (.cells #[.int .i64 b, .int .i64 f, .bool s, .bool k] 44 (0, 0)) ∧ RnOk ⟨b, f, s, k⟩ ∧ checkT xs = chk (xs.drop n) n ⟨b, f, s, k⟩ ∧ Below w.heap.size w wr))
  case atStart =>
    have h2 := rows2 w (.cells #[.int .i64 0, .int .i64 0] 26) (.cells #[.int .i64 0, .int .i64 0, .bool false, .bool false] 44)
    exact ⟨0, 0, 0, false, false, by omega, rfl, h2.1, h2.2, rn_zero, HC.out, two_below _ _⟩
  case round =>
    clear HC
    obtain ⟨n, b, f, s, k, hn, rfl, HS⟩ := hrel
    by_cases hlt : n < len
    · have i1 : (n : Int) < (len : Int) := by omega
      have i3 : (0 : Int) ≤ (n : Int) := by omega
      obtain ⟨x, hxn⟩ : ∃ x, xs[n]? = some x := ⟨_, List.getElem?_eq_getElem (by have := HL.out; omega)⟩
      obtain ⟨bk, o, cs, rfl, hlo, hcs, hrg, u, rfl, hR⟩ := HX.out n x hxn
      have hb := HS.out.2.2.2.2
      have hR0 := hR
      obtain ⟨ua, uc, rfl, _, _⟩ := hR
      have hsl := sl_of hR0
      have HSl : Hid (Sl w ua x.one.args) := hsl.2
      obtain ⟨ul, Hul⟩ : ∃ l, Hid (l = x.one.args.length) := ⟨_, rfl⟩
      obtain ⟨c, Hc⟩ : ∃ c, Hid (c = x.code) := ⟨_, rfl⟩
      obtain ⟨op, Hop⟩ : ∃ c, Hid (c = x.one.op) := ⟨_, rfl⟩
      have H1 : Hid (wr.rangeAt bk (o + n * 3) [.int .i64 c, .int .i64 op, .slice ua ul uc]) := by
        rw [Hc.out, Hop.out, Hul.out]
        exact fun i c hi => (Keeps.of_below hb 0) _ _ _ (Nat.zero_le _) (hrg i c hi)
      have HSame : Hid (wrongS ⟨b, f, s, k⟩ (okI c op x.one.args) c = wrongC ⟨b, f, s, k⟩ (okT' x) x.code) := by
        show wrongS ⟨b, f, s, k⟩ (okI c op x.one.args) c = wrongC ⟨b, f, s, k⟩ (okI x.code x.one.op x.one.args) x.code
        rw [Hc.out, Hop.out]
        exact wrong_same HS.out.2.2.1 (fun h => okI_code h)
      have hbnn : 0 ≤ b := HS.out.2.2.1.b0
      have HWr : Hid (∀ W, Below w.heap.size w W → Calls Tryd.prog 24 #[.agg #[.int .i64 b, .int .i64 f, .bool s, .bool k], .agg #[.int .i64 c, .int .i64 op, .slice ua ul uc]] W fun e w' => e = .returned (.int .i64 (wrongC ⟨b, f, s, k⟩ (okT' x) x.code)) ∧ Below W.heap.size W w') := fun W g => by
        rw [← HSame.out]
        exact wrong_s b f s k c op ua x.one.args ul uc Hul.out W (HSl.out.later g) hbnn
      have hwin := wrong_in ⟨b, f, s, k⟩ (okT' x) x.code
      have hbb0 : -2000 ≤ b := by omega
      have hbb1 : b ≤ 2000 := by have h5 := HS.out.2.2.1.b1; simp only at h5; omega
      have hff0 : -2000 ≤ f := by have h5 := HS.out.2.2.1.f0; simp only at h5; omega
      have hff1 : f ≤ 2000 := by have h5 := HS.out.2.2.1.f1; simp only at h5; omega
      have HNx : Hid (∀ W, Calls Tryd.prog 25 #[.agg #[.int .i64 b, .int .i64 f, .bool s, .bool k], .int .i64 c] W fun e w' => e = .returned (.agg #[.int .i64 (nx ⟨b, f, s, k⟩ c).b, .int .i64 (nx ⟨b, f, s, k⟩ c).f, .bool (nx ⟨b, f, s, k⟩ c).s, .bool (nx ⟨b, f, s, k⟩ c).k]) ∧ Below W.heap.size W w') := fun W => next_s b f s k c W hbb0 hbb1 hff0 hff1
      obtain ⟨q, Hq⟩ : ∃ q, Hid (q = wrongC ⟨b, f, s, k⟩ (okT' x) x.code) := ⟨_, rfl⟩
      rw [← Hq.out] at HWr hwin
      have HB : Hid (Below w.heap.size w wr) := hb
      have cE : ∀ d os, Calls Tryd.prog 24 #[.agg #[.int .i64 b, .int .i64 f, .bool s, .bool k], .agg #[.int .i64 c, .int .i64 op, .slice ua ul uc]] (Sort.grow (redrawn wr d) os) fun e w'' => e = .returned (.int .i64 q) ∧ ∃ p : Regrown, w'' = Sort.grow (redrawn wr p.d) p.os :=
        fun d os => Calls.regrown_of (HWr.out _ (HB.out.trans ((below_regrown wr d os).mono HB.out.size)))
      have HRs : Hid (wr.heap[w.heap.size + 1]? = some (.cells #[.int .i64 b, .int .i64 f, .bool s, .bool k] 44 (0, 0))) := HS.out.2.1
      have HR4 : Hid (wr.rangeAt (w.heap.size + 1) 0 [.int .i64 b, .int .i64 f, .bool s, .bool k]) := fun i c hi => by
        rw [Nat.zero_add, cell_of_row _ _ _ _ _ _ HRs.out]
        simpa using hi
      clear hb hrg hcs hlo hR0 hsl
      go_upto_region 7 with fail
      refine wp_region_quiet_below (by kernel_rfl) (by kernel_rfl) ?_
      refine wpQ_load rfl 44 _ rfl _ _ rfl (.agg #[.int .i64 b, .int .i64 f, .bool s, .bool k]) (fun W hW => run_loadVar_mid W (w.heap.size + 1) 0 44 [.int .i64 b, .int .i64 f, .bool s, .bool k] _ (range_regrown HR4.out hW) Tryd.underlying44 rfl (by kernel_rfl)) ?_
      simp only [Act.put, List.setIfInBounds_toArray, List.set_cons_succ, List.set_cons_zero]
      go_big_quiet_step (first | with_reducible exact cE _ _)
      go_big_quiet_step (first | with_reducible exact cE _ _)
      go_big_quiet_step (first | with_reducible exact cE _ _)
      refine wpQ_load rfl 50 _ rfl _ _ rfl (.agg #[.int .i64 c, .int .i64 op, .slice ua ul uc]) (fun W hW => run_loadVar_mid W bk (o + n * 3) 50 [.int .i64 c, .int .i64 op, .slice ua ul uc] _ (range_regrown H1.out hW) Tryd.underlying50 rfl (by kernel_rfl)) ?_
      simp only [Act.put, List.setIfInBounds_toArray, List.set_cons_succ, List.set_cons_zero]
      go_big_quiet_step (first | with_reducible exact cE _ _)
      go_big_quiet_step (first | with_reducible exact cE _ _)
      refine wpQuiet_nil ?_
      intro w7 hw'
      have g7 : Below wr.heap.size wr w7 := by
        obtain ⟨⟨dq, osq⟩, rfl⟩ := hw'
        exact below_regrown wr dq osq
      have HG7 : Hid (w7.heap[w.heap.size]? = some (.cells #[.int .i64 0, .int .i64 0] 26 (0, 0)) ∧ w7.heap[w.heap.size + 1]? = some (.cells #[.int .i64 b, .int .i64 f, .bool s, .bool k] 44 (0, 0)) ∧ Below w.heap.size w w7 ∧ w7.rangeAt bk (o + n * 3) [.int .i64 c, .int .i64 op, .slice ua ul uc]) := ⟨(g7.block _ (Array.getElem?_eq_some_iff.1 HS.out.1).1).trans HS.out.1, (g7.block _ (Array.getElem?_eq_some_iff.1 HS.out.2.1).1).trans HS.out.2.1, HB.out.trans (g7.mono HB.out.size), fun i c hi => (Keeps.of_below g7 0) _ _ _ (Nat.zero_le _) (H1.out i c hi)⟩
      clear hw' cE g7 HB HRs HR4 H1 HWr
      by_cases hq0 : q = 0
      · have HGo : Hid (RnOk (nx ⟨b, f, s, k⟩ c) ∧ checkT xs = chk (xs.drop (n + 1)) (n + 1) (nx ⟨b, f, s, k⟩ c)) := by
          have h0 : wrongC ⟨b, f, s, k⟩ (okT' x) x.code = 0 := Hq.out.symm.trans hq0
          rw [Hc.out]
          exact ⟨rn_next HS.out.2.2.1 (fun h => okI_code h) h0, by rw [HS.out.2.2.2.1]; exact chk_go hxn h0⟩
        subst hq0
        generalize nx ⟨b, f, s, k⟩ c = r2 at HNx HGo
        obtain ⟨nb, nf, ns, nk⟩ := r2
        simp only at HNx
        have cc : w7.cell? ⟨bk, o + n * 3, none⟩ = some (.int .i64 c) := by have := HG7.out.2.2.2 0 _ rfl; simpa using this
        obtain ⟨kr, d0, d1, d2, d3, e0, e1, e2, e3⟩ := st_free (X := w7) (Below.refl _ _) HG7.out.2.1
        have kS := HG7.out.2.1
        clear HS Hq kr
        go_wp2
        go_region_with (first | (go_at_call 25; refine (HNx.out _).mono ?_; rintro e w9 ⟨rfl, g9⟩; obtain ⟨kr, c0, c1, c2, c3, f0, f1, f2, f3⟩ := st_free g9 kS))
        · have q0 : w9.heap[w.heap.size]? = some (.cells #[.int .i64 0, .int .i64 0] 26 (0, 0)) := (g9.block _ (Array.getElem?_eq_some_iff.1 HG7.out.1).1).trans HG7.out.1
          have qb : Below w.heap.size w w9 := HG7.out.2.2.1.drew.trans (g9.mono HG7.out.2.2.1.size)
          have HFh : Hid (((((w9.setCell ⟨w.heap.size + 1, 0, none⟩ (.int .i64 nb)).setCell ⟨w.heap.size + 1, 1, none⟩ (.int .i64 nf)).setCell ⟨w.heap.size + 1, 2, none⟩ (.bool ns)).setCell ⟨w.heap.size + 1, 3, none⟩ (.bool nk)).heap[w.heap.size]? = some (.cells #[.int .i64 0, .int .i64 0] 26 (0, 0)) ∧ ((((w9.setCell ⟨w.heap.size + 1, 0, none⟩ (.int .i64 nb)).setCell ⟨w.heap.size + 1, 1, none⟩ (.int .i64 nf)).setCell ⟨w.heap.size + 1, 2, none⟩ (.bool ns)).setCell ⟨w.heap.size + 1, 3, none⟩ (.bool nk)).heap[w.heap.size + 1]? = some (.cells #[.int .i64 nb, .int .i64 nf, .bool ns, .bool nk] 44 (0, 0)) ∧ RnOk ⟨nb, nf, ns, nk⟩ ∧ checkT xs = chk (xs.drop (n + 1)) (n + 1) ⟨nb, nf, ns, nk⟩ ∧ Below w.heap.size w ((((w9.setCell ⟨w.heap.size + 1, 0, none⟩ (.int .i64 nb)).setCell ⟨w.heap.size + 1, 1, none⟩ (.int .i64 nf)).setCell ⟨w.heap.size + 1, 2, none⟩ (.bool ns)).setCell ⟨w.heap.size + 1, 3, none⟩ (.bool nk))) :=
            ⟨row_other (row_other (row_other (row_other q0 _ _ (by omega) _) _ _ (by omega) _) _ _ (by omega) _) _ _ (by omega) _, row_put (row_put (row_put (row_put kr 0 _) 1 _) 2 _) 3 _, HGo.out.1, HGo.out.2, (((qb.setCell (p := ⟨w.heap.size + 1, 0, none⟩) (Nat.le_succ _) _).setCell (p := ⟨w.heap.size + 1, 1, none⟩) (Nat.le_succ _) _).setCell (p := ⟨w.heap.size + 1, 2, none⟩) (Nat.le_succ _) _).setCell (p := ⟨w.heap.size + 1, 3, none⟩) (Nat.le_succ _) _⟩
          clear q0 qb kr c0 c1 c2 c3 f0 f1 f2 f3 g9 d0 d1 d2 d3 e0 e1 e2 e3 cc kS
          go_wp2
          go_roundg (gk - 1)
          case measure => omega
          case rel => exact ⟨n + 1, nb, nf, ns, nk, by omega, by simp, HFh⟩
        · have q0 : w9.heap[w.heap.size]? = some (.cells #[.int .i64 0, .int .i64 0] 26 (0, 0)) := (g9.block _ (Array.getElem?_eq_some_iff.1 HG7.out.1).1).trans HG7.out.1
          have qb : Below w.heap.size w w9 := HG7.out.2.2.1.drew.trans (g9.mono HG7.out.2.2.1.size)
          have HFh : Hid (((((w9.setCell ⟨w.heap.size + 1, 0, none⟩ (.int .i64 nb)).setCell ⟨w.heap.size + 1, 1, none⟩ (.int .i64 nf)).setCell ⟨w.heap.size + 1, 2, none⟩ (.bool ns)).setCell ⟨w.heap.size + 1, 3, none⟩ (.bool nk)).heap[w.heap.size]? = some (.cells #[.int .i64 0, .int .i64 0] 26 (0, 0)) ∧ ((((w9.setCell ⟨w.heap.size + 1, 0, none⟩ (.int .i64 nb)).setCell ⟨w.heap.size + 1, 1, none⟩ (.int .i64 nf)).setCell ⟨w.heap.size + 1, 2, none⟩ (.bool ns)).setCell ⟨w.heap.size + 1, 3, none⟩ (.bool nk)).heap[w.heap.size + 1]? = some (.cells #[.int .i64 nb, .int .i64 nf, .bool ns, .bool nk] 44 (0, 0)) ∧ RnOk ⟨nb, nf, ns, nk⟩ ∧ checkT xs = chk (xs.drop (n + 1)) (n + 1) ⟨nb, nf, ns, nk⟩ ∧ Below w.heap.size w ((((w9.setCell ⟨w.heap.size + 1, 0, none⟩ (.int .i64 nb)).setCell ⟨w.heap.size + 1, 1, none⟩ (.int .i64 nf)).setCell ⟨w.heap.size + 1, 2, none⟩ (.bool ns)).setCell ⟨w.heap.size + 1, 3, none⟩ (.bool nk))) :=
            ⟨row_other (row_other (row_other (row_other q0 _ _ (by omega) _) _ _ (by omega) _) _ _ (by omega) _) _ _ (by omega) _, row_put (row_put (row_put (row_put kr 0 _) 1 _) 2 _) 3 _, HGo.out.1, HGo.out.2, (((qb.setCell (p := ⟨w.heap.size + 1, 0, none⟩) (Nat.le_succ _) _).setCell (p := ⟨w.heap.size + 1, 1, none⟩) (Nat.le_succ _) _).setCell (p := ⟨w.heap.size + 1, 2, none⟩) (Nat.le_succ _) _).setCell (p := ⟨w.heap.size + 1, 3, none⟩) (Nat.le_succ _) _⟩
          clear q0 qb kr c0 c1 c2 c3 f0 f1 f2 f3 g9 d0 d1 d2 d3 e0 e1 e2 e3 cc kS
          go_wp2
          go_roundg (gk - 1)
          case measure => omega
          case rel => exact ⟨n + 1, nb, nf, ns, nk, by omega, by simp, HFh⟩
      · have hqp : (0 : Int) < q := by omega
        have HF : Hid (CheckR xs w (.returned (.agg #[.int .i64 q, .int .i64 n])) (w7.setRow w.heap.size #[.int .i64 q, .int .i64 n])) := by
          refine ⟨?_, below_setRow HG7.out.2.2.1 (Nat.le_refl _) _⟩
          rw [HS.out.2.2.2.1, chk_bad hxn (by rw [← Hq.out]; exact hq0), ← Hq.out]
        have HST : Hid ((storeVar 26 ⟨w.heap.size, 0, none⟩ (.agg #[.int .i64 q, .int .i64 n])).run Tryd.prog w7 = .ok () (w7.setRow w.heap.size #[.int .i64 q, .int .i64 n])) := store_all HG7.out.1 26 _ rfl (by kernel_rfl) (all_one [.int .i64 q, .int .i64 n] (by intro d hd; simp at hd; rcases hd with rfl | rfl <;> rfl))
        have HR : Hid ((w7.setRow w.heap.size #[.int .i64 q, .int .i64 n]).heap[w.heap.size]? = some (.cells #[.int .i64 q, .int .i64 n] 26 (0, 0))) := row_set HG7.out.1 _
        clear HS Hq hq0 HG7
        go_wp2_with (first | (refine wpL_store rfl 26 _ _ rfl _ _ rfl _ rfl _ HST.out ?_) | (refine ret_row rfl rfl HR.out Tryd.underlying26 rfl (by kernel_rfl) rfl ?_) | fail)
        exact HF.out
    · have i1 : ¬ ((n : Int) < (len : Int)) := by omega
      have hE := HS.out.2.2.2.1
      rw [chk_end (by rw [← HL.out]; omega)] at hE
      have hnl : n = len := by omega
      have cb : wr.cell? ⟨w.heap.size + 1, 0, none⟩ = some (.int .i64 b) := (cell_of_row _ _ _ _ _ _ HS.out.2.1).trans rfl
      have hbn := HS.out.2.2.1.b0
      simp only at hbn hE
      by_cases hb0 : b = 0
      · subst hb0
        have HF : Hid (CheckR xs w (.returned (.agg #[.int .i64 0, .int .i64 0])) (wr.setRow w.heap.size #[.int .i64 0, .int .i64 0])) := ⟨by rw [hE, if_pos rfl], below_setRow HS.out.2.2.2.2 (Nat.le_refl _) _⟩
        have HST : Hid ((storeVar 26 ⟨w.heap.size, 0, none⟩ (.agg #[.int .i64 0, .int .i64 0])).run Tryd.prog wr = .ok () (wr.setRow w.heap.size #[.int .i64 0, .int .i64 0])) := store_all HS.out.1 26 _ rfl (by kernel_rfl) (all_one [.int .i64 0, .int .i64 0] (by intro d hd; simp at hd; rcases hd with rfl | rfl <;> rfl))
        have HR : Hid ((wr.setRow w.heap.size #[.int .i64 0, .int .i64 0]).heap[w.heap.size]? = some (.cells #[.int .i64 0, .int .i64 0] 26 (0, 0))) := row_set HS.out.1 _
        clear hE HS hnl hbn
        go_wp2_with (first | (refine wpL_store rfl 26 _ _ rfl _ _ rfl _ rfl _ HST.out ?_) | (refine ret_row rfl rfl HR.out Tryd.underlying26 rfl (by kernel_rfl) rfl ?_) | fail)
        exact HF.out
      · have hbp : (0 : Int) < b := by omega
        have HF : Hid (CheckR xs w (.returned (.agg #[.int .i64 9, .int .i64 len])) (wr.setRow w.heap.size #[.int .i64 9, .int .i64 len])) := ⟨by rw [hE, if_neg hb0, hnl], below_setRow HS.out.2.2.2.2 (Nat.le_refl _) _⟩
        have HST : Hid ((storeVar 26 ⟨w.heap.size, 0, none⟩ (.agg #[.int .i64 9, .int .i64 len])).run Tryd.prog wr = .ok () (wr.setRow w.heap.size #[.int .i64 9, .int .i64 len])) := store_all HS.out.1 26 _ rfl (by kernel_rfl) (all_one [.int .i64 9, .int .i64 len] (by intro d hd; simp at hd; rcases hd with rfl | rfl <;> rfl))
        have HR : Hid ((wr.setRow w.heap.size #[.int .i64 9, .int .i64 len]).heap[w.heap.size]? = some (.cells #[.int .i64 9, .int .i64 len] 26 (0, 0))) := row_set HS.out.1 _
        clear hE HS hnl hbn hb0
        go_wp2_with (first | (refine wpL_store rfl 26 _ _ rfl _ _ rfl _ rfl _ HST.out ?_) | (refine ret_row rfl rfl HR.out Tryd.underlying26 rfl (by kernel_rfl) rfl ?_) | fail)
        exact HF.out

set_option maxHeartbeats 2000000 in
theorem eq_fault (x0 x1 y0 y1 : Int) (w : World) : Calls Tryd.prog 13 #[.agg #[.int .i64 x0, .int .i64 x1], .agg #[.int .i64 y0, .int .i64 y1]] w fun r w' => r = .returned (.bool (decide (x0 = y0) && decide (x1 = y1))) ∧ Below w.heap.size w w' := by
  have b0 : ∀ A B, Below w.heap.size w ((w.alloc A).alloc B) := fun A B => ((Below.refl _ _).alloc (Nat.le_refl _) _).alloc (by simp) _
  by_cases h0 : x0 = y0
  · subst h0
    by_cases h1 : x1 = y1
    · subst h1
      rw [show (decide (x0 = x0) && decide (x1 = x1)) = true by simp]
      go_enter Tryd.func13, Tryd.ntmps13
      go_wp2
      go_ret
      exact ⟨rfl, b0 _ _⟩
    · have n1 : (x1 != y1) = true := by simp [h1]
      rw [show (decide (x0 = x0) && decide (x1 = y1)) = false by simp [h1]]
      go_enter Tryd.func13, Tryd.ntmps13
      go_wp2
      go_ret
      exact ⟨rfl, b0 _ _⟩
  · have n1 : (x0 != y0) = true := by simp [h0]
    rw [show (decide (x0 = y0) && decide (x1 = y1)) = false by simp [h0]]
    go_enter Tryd.func13, Tryd.ntmps13
    go_wp2
    go_ret
    exact ⟨rfl, b0 _ _⟩

set_option maxRecDepth 10000 in
set_option maxHeartbeats 4000000 in
theorem law_check (v : Value) (w : World) (ha : ∃ xs, InstsIs w 0 v xs) (hT : KT w) (hL : LT w) :
    Calls Tryd.prog 5 #[v] w fun e w' => e = .returned (.bool true) ∧ Below w.heap.size w w' := by
  obtain ⟨xs, hx⟩ := ha
  have HX : Hid (InstsIs w 0 v xs) := hx
  clear hx
  have LX : Hid (∀ W, Below w.heap.size w W → InstsIs W 0 v xs) := fun W g => instsIs_move (Keeps.of_below g 0) (Nat.le_refl _) HX.out
  have b0 : Below w.heap.size w w := Below.refl _ _
  obtain ⟨p, Hp⟩ : ∃ p, Hid (p = xs.length + (xs.map wI).sum) := ⟨_, rfl⟩
  go_enter Tryd.func5, Tryd.ntmps5
  go_wp2_with fail
  refine (sz_insts 1048576 (by omega) (by omega) v xs w 0 HX.out).mono ?_
  rintro e w1 ⟨rfl, g1⟩
  rw [← Hp.out]
  have b1 : Below w.heap.size w w1 := g1
  clear g1
  by_cases hp : (p : Int) ≤ 1048576
  case neg =>
    rw [szR_no hp]
    go_wp2
    go_ret
    exact ⟨rfl, b1⟩
  rw [szR_yes hp]
  have i1 : ¬ ((1048576 : Int) - p < 0) := by omega
  have hlen : xs.length ≤ 1048576 := by have := Hp.out; omega
  have HTX : Hid (∀ W, Below w.heap.size w W → Calls Tryd.prog 12 #[v] W fun r w' => ∃ v', r = .returned v' ∧ InstsIs w' W.heap.size v' xs ∧ Below W.heap.size W w') := fun W g => to_insts v xs W 0 (LX.out W g) (by have := Hp.out; omega)
  have HPS : Hid (∀ W v lo, InstsIs W lo v xs → Calls Tryd.prog 9 #[v] W fun e w' => CheckR xs W e w') := fun W v lo h => check_s v xs W lo h hlen
  have HPI : Hid (∀ W v lo, Below w.heap.size w W → InstsIs W lo v xs → Calls Tryd.prog 8 #[v] W fun e w' => CheckR xs W e w') := fun W v lo g h => check_i v xs W lo h hlen (hT.later g) (hL.later g)
  clear LX HX Hp hlen hT hL
  go_wp2_with fail
  refine (HTX.out _ b1).mono ?_
  rintro e w3 ⟨t1, rfl, k1, g3⟩
  have b3 := b1.trans (g3.mono b1.size)
  have K1 : Hid (InstsIs w3 0 t1 xs) := instsIs_move (Keeps.refl _ _) (Nat.zero_le _) k1
  clear g3 k1 b1
  go_wp2_with fail
  refine (HPS.out _ _ _ K1.out).mono ?_
  rintro e w4 ⟨rfl, g4⟩
  obtain ⟨B, HB⟩ : ∃ q, Hid (q = (checkT xs).1) := ⟨_, rfl⟩
  obtain ⟨F, HF⟩ : ∃ q, Hid (q = (checkT xs).2) := ⟨_, rfl⟩
  rw [← HB.out, ← HF.out]
  have b4 := b3.trans (g4.mono b3.size)
  have b5 : Below w.heap.size w (w4.alloc (.cells #[.int .i64 B, .int .i64 F] 26)) := b4.alloc b4.size _
  have c4 : (w4.alloc (.cells #[.int .i64 B, .int .i64 F] 26)).heap[w4.heap.size]? = some (.cells #[.int .i64 B, .int .i64 F] 26 (0, 0)) := heap_alloc_last w4 _
  have HC4 : Hid ((w4.alloc (.cells #[.int .i64 B, .int .i64 F] 26)).heap[w4.heap.size]? = some (.cells #[.int .i64 B, .int .i64 F] 26 (0, 0))) := c4
  clear g4 K1 b3 b4 c4
  go_wp2_with fail
  refine (HTX.out _ b5).mono ?_
  rintro e w6 ⟨x0, rfl, k6, g6⟩
  have b6 := b5.trans (g6.mono b5.size)
  have X6 : Hid (InstsIs w6 0 x0 xs) := instsIs_move (Keeps.refl _ _) (Nat.zero_le _) k6
  have c6 : w6.heap[w4.heap.size]? = some (.cells #[.int .i64 B, .int .i64 F] 26 (0, 0)) := (g6.block _ (Array.getElem?_eq_some_iff.1 HC4.out).1).trans HC4.out
  have HC6 : Hid (w6.heap[w4.heap.size]? = some (.cells #[.int .i64 B, .int .i64 F] 26 (0, 0))) := c6
  clear g6 k6 b5 HC4 c6
  go_wp2_with fail
  refine (HPI.out _ _ _ b6 X6.out).mono ?_
  rintro e w7 ⟨rfl, g7⟩
  rw [← HB.out, ← HF.out]
  have b7 := b6.trans (g7.mono b6.size)
  have X7 : Hid (InstsIs w7 0 x0 xs) := instsIs_move (Keeps.of_below g7 0) (Nat.zero_le _) X6.out
  have c7 : w7.heap[w4.heap.size]? = some (.cells #[.int .i64 B, .int .i64 F] 26 (0, 0)) := (g7.block _ (Array.getElem?_eq_some_iff.1 HC6.out).1).trans HC6.out
  have b8 : Below w.heap.size w (w7.alloc (.cells #[.int .i64 B, .int .i64 F] 26)) := b7.alloc b7.size _
  have c8 : (w7.alloc (.cells #[.int .i64 B, .int .i64 F] 26)).heap[w4.heap.size]? = some (.cells #[.int .i64 B, .int .i64 F] 26 (0, 0)) := (heap_alloc_old _ _ (h := (Array.getElem?_eq_some_iff.1 c7).1)).trans c7
  have c9 : (w7.alloc (.cells #[.int .i64 B, .int .i64 F] 26)).heap[w7.heap.size]? = some (.cells #[.int .i64 B, .int .i64 F] 26 (0, 0)) := heap_alloc_last w7 _
  have HL1 : Hid ((loadVar 26 ⟨w4.heap.size, 0, none⟩).run Tryd.prog (w7.alloc (.cells #[.int .i64 B, .int .i64 F] 26)) = .ok (.agg #[.int .i64 B, .int .i64 F]) (w7.alloc (.cells #[.int .i64 B, .int .i64 F] 26))) := load_all c8 _ _ Tryd.underlying26 rfl (by kernel_rfl)
  have HL2 : Hid ((loadVar 26 ⟨w7.heap.size, 0, none⟩).run Tryd.prog (w7.alloc (.cells #[.int .i64 B, .int .i64 F] 26)) = .ok (.agg #[.int .i64 B, .int .i64 F]) (w7.alloc (.cells #[.int .i64 B, .int .i64 F] 26))) := load_all c9 _ _ Tryd.underlying26 rfl (by kernel_rfl)
  have X8 : Hid (InstsIs (w7.alloc (.cells #[.int .i64 B, .int .i64 F] 26)) 0 x0 xs) := instsIs_move (Keeps.of_below ((Below.refl _ _).alloc (Nat.le_refl _) _) 0) (Nat.zero_le _) X7.out
  clear g7 b6 b7 X6 X7 HC6 c7 c8 c9
  go_wp2_with (first | (refine wpL_load rfl 26 _ rfl _ _ rfl _ HL2.out ?_) | (refine wpL_load rfl 26 _ rfl _ _ rfl _ HL1.out ?_) | fail)
  refine (eq_fault B F B F _).mono ?_
  rintro e w9 ⟨rfl, g9⟩
  rw [show (decide (B = B) && decide (F = F)) = true by simp]
  have b9 := b8.trans (g9.mono b8.size)
  have X9 : Hid (InstsIs w9 0 x0 xs) := instsIs_move (Keeps.of_below g9 0) (Nat.zero_le _) X8.out
  clear g9 b8 X8 HL1 HL2
  go_wp2_with fail
  refine (HTX.out _ b9).mono ?_
  rintro e wa ⟨x2, rfl, ka, ga⟩
  have ba := b9.trans (ga.mono b9.size)
  have Xa : Hid (InstsIs wa 0 x0 xs) := instsIs_move (Keeps.of_below ga 0) (Nat.zero_le _) X9.out
  have Za : Hid (InstsIs wa 0 x2 xs) := instsIs_move (Keeps.refl _ _) (Nat.zero_le _) ka
  clear ga b9 X9 ka
  go_wp2_with fail
  refine (eq_insts x0 x2 xs xs wa 0 0 Xa.out Za.out).mono ?_
  rintro e wb ⟨rfl, gb⟩
  rw [eqB_refl]
  have bb := ba.trans (gb.mono ba.size)
  clear gb ba Xa Za
  go_wp2
  go_ret
  exact ⟨rfl, bb⟩
theorem walk_check (v : Value) (w : World) (ha : ∃ xs, InstsIs w 0 v xs) (hL : LT w) (hT : KT w) :
    Calls Tryd.prog 5 #[v] w fun e w' => e = .returned (.bool true) ∧ Below w.heap.size w w' := law_check v w ha hT hL
end Go.Proofs.YtcmmiamnbefefaaDoor
