/- A run over a list: impl.sureWalk. -/
import Derived.Test.YthjbgjfihfkpcaaDoorBaM
namespace Go.Proofs.YthjbgjfihfkpcaaDoor
open Go.RowKit
set_option linter.unusedVariables false

/-- What sureWalk leaves behind. -/
def WalkR (xs : List InstT) (w : World) (e : Ending) (w' : World) : Prop :=
  (checkT xs = (0, 0) ∧ e = .returned (.tuple #[]) ∧ Below w.heap.size w w') ∨
  ∃ c a : Int, c ≠ 0 ∧ checkT xs = (c, a) ∧ e = .panicked [{ v := .iface 28 (.agg #[.int .i64 c, .int .i64 a]), recovered := false }] ∧ Below w.heap.size w w'

set_option maxRecDepth 10000 in
set_option maxHeartbeats 2000000 in
theorem walk_many (v : Value) (xs : List InstT) (w : World) (lo : Nat) (hv : InstsIs w lo v xs) (hbig : xs.length ≤ 1048576) (hk : 1000 < xs.length) :
    Calls Tryd.prog 14 #[v] w fun e w' => WalkR xs w e w' := by
  obtain ⟨a, cap, rfl, hl, hx⟩ := hv
  have i0 : (1000 : Int) < (xs.length : Int) := by omega
  have HF : Hid (WalkR xs w (.panicked [{ v := .iface 28 (.agg #[.int .i64 1, .int .i64 0]), recovered := false }]) w) := .inr ⟨1, 0, by omega, if_pos hk, rfl, Below.refl _ _⟩
  clear hx hk
  generalize xs.length = len at i0 hl hbig
  go_enter Tryd.func14, Tryd.ntmps14
  go_wp2
  exact ⟨rfl, HF.out⟩

set_option maxRecDepth 10000 in
set_option maxHeartbeats 8000000 in
theorem walk_i (v : Value) (xs : List InstT) (w : World) (lo : Nat) (hv : InstsIs w lo v xs) (hbig : xs.length ≤ 1000) (hT : KT w) (hL : LT w) :
    Calls Tryd.prog 14 #[v] w fun e w' => WalkR xs w e w' := by
  obtain ⟨a, cap, rfl, hl, hx⟩ := hv
  have HX : Hid (∀ j x, xs[j]? = some x → ∃ b o cs, a = some ⟨b, o, none⟩ ∧ lo ≤ b ∧ cs.length = 3 ∧ w.rangeAt b (o + j * 3) cs ∧ InstIs w lo x cs) := hx
  have HC : Hid (checkT xs = chk (xs.drop 0) 0 ⟨0, 0, false, false⟩) := if_neg (by omega)
  have HTL : Hid (KT w ∧ LT w) := ⟨hT, hL⟩
  obtain ⟨len, HL⟩ : ∃ len, Hid (len = xs.length) := ⟨_, rfl⟩
  rw [← HL.out] at hl hbig ⊢
  clear hx hT hL
  have i0 : ¬ ((1000 : Int) < (len : Int)) := by omega
  have HRu : Hid (Calls Tryd.prog 27 #[] w fun e w' => e = .returned (.slice (some ⟨w.heap.size, 0, none⟩) 7 7) ∧ w' = w.alloc (.cells rulesV 64)) := rules_i w
  obtain ⟨RV, HRV⟩ : ∃ q, Hid (q = rulesV) := ⟨_, rfl⟩
  rw [← HRV.out] at HRu
  go_enter Tryd.func14, Tryd.ntmps14
  go_wp2_with fail
  refine HRu.out.mono ?_
  rintro e w0 ⟨rfl, rfl⟩
  go_wp2
  go_loopg [17] len (fun g i wr => ∃ (n : Nat) (b f : Int) (s k : Bool), n + g = len ∧ i = .int .i64 n ∧ Hid (wr.heap[w.heap.size]? = some (.cells RV 64 (0, 0)) ∧ wr.heap[w.heap.size + 1]? = some (.cells #[.int .i64 b, .int .i64 f, .bool s, .bool k] 59 (0, 0)) ∧ RnOk ⟨b, f, s, k⟩ ∧ checkT xs = chk (xs.drop n) n ⟨b, f, s, k⟩ ∧ Below w.heap.size w wr))
  case atStart =>
    have h2 := rows2 w (.cells RV 64) (.cells #[.int .i64 0, .int .i64 0, .bool false, .bool false] 59)
    exact ⟨0, 0, 0, false, false, by omega, rfl, h2.1, h2.2, rn_zero, HC.out, two_below _ _⟩
  case round =>
    clear HC
    obtain ⟨n, b, f, s, k, hn, rfl, HS⟩ := hrel
    by_cases hlt : n < len
    · have i1 : (n : Int) < (len : Int) := by omega
      have i3 : (0 : Int) ≤ (n : Int) := by omega
      obtain ⟨x, hxn⟩ : ∃ x, xs[n]? = some x := ⟨_, List.getElem?_eq_getElem (by have := HL.out; omega)⟩
      obtain ⟨bk, o, cs, rfl, hlo, hcs, hrg, u, rfl, hR⟩ := HX.out n x hxn
      have hb := HS.out.2.2.2.2
      have HLd : Hid ((loadVar 36 ⟨bk, o + n * 3, none⟩).run Tryd.prog wr = .ok (.agg #[.int .i64 x.code, .int .i64 x.one.op, u]) wr) := run_loadVar_mid wr bk (o + n * 3) 36 [.int .i64 x.code, .int .i64 x.one.op, u] _ (fun i c hi => (Keeps.of_below hb 0) _ _ _ (Nat.zero_le _) (hrg i c hi)) Tryd.underlying36 rfl (by rw [hcs]; kernel_rfl)
      have hR0 := hR
      obtain ⟨ua, uc, rfl, _, _⟩ := hR
      have hsl := sl_of hR0
      have HSl : Hid (Sl w ua x.one.args) := hsl.2
      obtain ⟨ul, Hul⟩ : ∃ l, Hid (l = x.one.args.length) := ⟨_, rfl⟩
      rw [← Hul.out] at HLd
      obtain ⟨c, Hc⟩ : ∃ c, Hid (c = x.code) := ⟨_, rfl⟩
      obtain ⟨op, Hop⟩ : ∃ c, Hid (c = x.one.op) := ⟨_, rfl⟩
      rw [← Hc.out, ← Hop.out] at HLd
      have hBA : Below w.heap.size w (wr.alloc (.cells #[.int .i64 c, .int .i64 op, .slice ua ul uc] 36)) := hb.alloc hb.size _
      have HK : Hid ((wr.alloc (.cells #[.int .i64 c, .int .i64 op, .slice ua ul uc] 36)).heap[w.heap.size]? = some (.cells RV 64 (0, 0)) ∧ (wr.alloc (.cells #[.int .i64 c, .int .i64 op, .slice ua ul uc] 36)).heap[w.heap.size + 1]? = some (.cells #[.int .i64 b, .int .i64 f, .bool s, .bool k] 59 (0, 0)) ∧ (wr.alloc (.cells #[.int .i64 c, .int .i64 op, .slice ua ul uc] 36)).heap[wr.heap.size]? = some (.cells #[.int .i64 c, .int .i64 op, .slice ua ul uc] 36 (0, 0)) ∧ Below w.heap.size w (wr.alloc (.cells #[.int .i64 c, .int .i64 op, .slice ua ul uc] 36))) := ⟨(heap_alloc_old _ _ (h := (Array.getElem?_eq_some_iff.1 HS.out.1).1)).trans HS.out.1, (heap_alloc_old _ _ (h := (Array.getElem?_eq_some_iff.1 HS.out.2.1).1)).trans HS.out.2.1, heap_alloc_last wr _, hBA⟩
      have hsz : w.heap.size + 1 < wr.heap.size := (Array.getElem?_eq_some_iff.1 HS.out.2.1).1
      have HBad : Hid (∀ (j : Nat) (w' : World), j < 7 → (∀ i, i < j → brk ⟨b, f, s, k⟩ (okT' x) c i = false) → brk ⟨b, f, s, k⟩ (okT' x) c j = true → Below w.heap.size w w' → WalkR xs w (.panicked [{ v := .iface 28 (.agg #[.int .i64 ((j : Int) + 2), .int .i64 (n : Int)]), recovered := false }]) w') := fun j w' hj h1 h2 h3 => by
        have h4 := wrong_at hj h1 h2
        rw [Hc.out] at h4
        exact .inr ⟨(j : Int) + 2, n, by omega, by rw [HS.out.2.2.2.1, chk_bad hxn (by omega), h4], rfl, h3⟩
      have HGo : Hid ((∀ i, i < 7 → brk ⟨b, f, s, k⟩ (okT' x) c i = false) → RnOk (nx ⟨b, f, s, k⟩ c) ∧ checkT xs = chk (xs.drop (n + 1)) (n + 1) (nx ⟨b, f, s, k⟩ c) ∧ (nx ⟨b, f, s, k⟩ c).b = bhB b c ∧ (nx ⟨b, f, s, k⟩ c).f = bhF f c ∧ (nx ⟨b, f, s, k⟩ c).s = (!decide (c = 11) && (s || decide (c = 10) || decide (c = 7))) ∧ (nx ⟨b, f, s, k⟩ c).k = (!decide (c = 11) && decide (c = 10))) := fun h => by
        have h0 := wrong_none h
        refine ⟨rn_next HS.out.2.2.1 (fun ho => by rw [Hc.out]; exact okI_code ho) h0, ?_, nx_i HS.out.2.2.1 h0⟩
        rw [HS.out.2.2.2.1, Hc.out]
        exact chk_go hxn (by rw [← Hc.out]; exact h0)
      have HOk : Hid (okI c op x.one.args = okT' x) := by show okI c op x.one.args = okI x.code x.one.op x.one.args; rw [Hc.out, Hop.out]
      have hbb0 : -2000 ≤ b := by have h5 := HS.out.2.2.1.b0; simp only at h5; omega
      have hbb1 : b ≤ 2000 := by have h5 := HS.out.2.2.1.b1; simp only at h5; omega
      have hff0 : -2000 ≤ f := by have h5 := HS.out.2.2.1.f0; simp only at h5; omega
      have hff1 : f ≤ 2000 := by have h5 := HS.out.2.2.1.f1; simp only at h5; omega
      have HOn : Hid (∀ W, Calls Tryd.prog 28 #[.agg #[.int .i64 b, .int .i64 f, .bool s, .bool k], .int .i64 c] W fun e w' => e = .returned (.agg #[.int .i64 (bhB b c), .int .i64 (bhF f c), .bool (!decide (c = 11) && (s || decide (c = 10) || decide (c = 7))), .bool (!decide (c = 11) && decide (c = 10))]) ∧ Below W.heap.size W w') := fun W => onward_i b f s k c W hbb0 hbb1 hff0 hff1
      have HU0 : Hid (∀ W, Below w.heap.size w W → Calls Tryd.prog 40 #[.agg #[.int .i64 b, .int .i64 f, .bool s, .bool k], .agg #[.int .i64 c, .int .i64 op, .slice ua ul uc]] W fun e w' => e = .returned (.bool (brk ⟨b, f, s, k⟩ (okT' x) c 0)) ∧ Below W.heap.size W w') := fun W g => by rw [← HOk.out]; exact rule0 ⟨b, f, s, k⟩ c op ua x.one.args ul uc Hul.out W (HTL.out.1.later g) (HTL.out.2.later g) (HSl.out.later g)
      have HU1 : Hid (∀ W, Below w.heap.size w W → Calls Tryd.prog 41 #[.agg #[.int .i64 b, .int .i64 f, .bool s, .bool k], .agg #[.int .i64 c, .int .i64 op, .slice ua ul uc]] W fun e w' => e = .returned (.bool (brk ⟨b, f, s, k⟩ (okT' x) c 1)) ∧ Below W.heap.size W w') := fun W g => by rw [← HOk.out]; exact rule1 ⟨b, f, s, k⟩ c op ua x.one.args ul uc Hul.out W (HTL.out.1.later g) (HTL.out.2.later g) (HSl.out.later g)
      have HU2 : Hid (∀ W, Below w.heap.size w W → Calls Tryd.prog 42 #[.agg #[.int .i64 b, .int .i64 f, .bool s, .bool k], .agg #[.int .i64 c, .int .i64 op, .slice ua ul uc]] W fun e w' => e = .returned (.bool (brk ⟨b, f, s, k⟩ (okT' x) c 2)) ∧ Below W.heap.size W w') := fun W g => by rw [← HOk.out]; exact rule2 ⟨b, f, s, k⟩ c op ua x.one.args ul uc Hul.out W (HTL.out.1.later g) (HTL.out.2.later g) (HSl.out.later g)
      have HU3 : Hid (∀ W, Below w.heap.size w W → Calls Tryd.prog 43 #[.agg #[.int .i64 b, .int .i64 f, .bool s, .bool k], .agg #[.int .i64 c, .int .i64 op, .slice ua ul uc]] W fun e w' => e = .returned (.bool (brk ⟨b, f, s, k⟩ (okT' x) c 3)) ∧ Below W.heap.size W w') := fun W g => by rw [← HOk.out]; exact rule3 ⟨b, f, s, k⟩ c op ua x.one.args ul uc Hul.out W (HTL.out.1.later g) (HTL.out.2.later g) (HSl.out.later g)
      have HU4 : Hid (∀ W, Below w.heap.size w W → Calls Tryd.prog 44 #[.agg #[.int .i64 b, .int .i64 f, .bool s, .bool k], .agg #[.int .i64 c, .int .i64 op, .slice ua ul uc]] W fun e w' => e = .returned (.bool (brk ⟨b, f, s, k⟩ (okT' x) c 4)) ∧ Below W.heap.size W w') := fun W g => by rw [← HOk.out]; exact rule4 ⟨b, f, s, k⟩ c op ua x.one.args ul uc Hul.out W (HTL.out.1.later g) (HTL.out.2.later g) (HSl.out.later g)
      have HU5 : Hid (∀ W, Below w.heap.size w W → Calls Tryd.prog 45 #[.agg #[.int .i64 b, .int .i64 f, .bool s, .bool k], .agg #[.int .i64 c, .int .i64 op, .slice ua ul uc]] W fun e w' => e = .returned (.bool (brk ⟨b, f, s, k⟩ (okT' x) c 5)) ∧ Below W.heap.size W w') := fun W g => by rw [← HOk.out]; exact rule5 ⟨b, f, s, k⟩ c op ua x.one.args ul uc Hul.out W (HTL.out.1.later g) (HTL.out.2.later g) (HSl.out.later g)
      have HU6 : Hid (∀ W, Below w.heap.size w W → Calls Tryd.prog 46 #[.agg #[.int .i64 b, .int .i64 f, .bool s, .bool k], .agg #[.int .i64 c, .int .i64 op, .slice ua ul uc]] W fun e w' => e = .returned (.bool (brk ⟨b, f, s, k⟩ (okT' x) c 6)) ∧ Below W.heap.size W w') := fun W g => by rw [← HOk.out]; exact rule6 ⟨b, f, s, k⟩ c op ua x.one.args ul uc Hul.out W (HTL.out.1.later g) (HTL.out.2.later g) (HSl.out.later g)
      obtain ⟨go, Hgo⟩ : ∃ q, Hid (q = gk) := ⟨_, rfl⟩
      clear hb hrg hcs hlo hR0 hsl hBA HS HX
      obtain ⟨wo, ewo⟩ : ∃ W, W = wr := ⟨_, rfl⟩
      subst ewo
      go_wp2_with (first | (refine wpL_load rfl 36 _ rfl _ _ rfl _ HLd.out ?_) | fail)
      go_loopg [24] 7 (fun gj i wr => ∃ (m : Nat), m + gj = 7 ∧ i = .int .i64 m ∧ Hid (wr.heap[w.heap.size]? = some (.cells RV 64 (0, 0)) ∧ wr.heap[w.heap.size + 1]? = some (.cells #[.int .i64 b, .int .i64 f, .bool s, .bool k] 59 (0, 0)) ∧ wr.heap[wo.heap.size]? = some (.cells #[.int .i64 c, .int .i64 op, .slice ua ul uc] 36 (0, 0)) ∧ Below w.heap.size w wr ∧ ∀ i, i < m → brk ⟨b, f, s, k⟩ (okT' x) c i = false))
      case atStart => exact ⟨0, by omega, rfl, HK.out.1, HK.out.2.1, HK.out.2.2.1, HK.out.2.2.2, fun i hi => by omega⟩
      case round =>
        clear HK HLd
        obtain ⟨m, hm, rfl, HM⟩ := hrel
        obtain rfl | rfl | rfl | rfl | rfl | rfl | rfl | rfl : m = 0 ∨ m = 1 ∨ m = 2 ∨ m = 3 ∨ m = 4 ∨ m = 5 ∨ m = 6 ∨ m = 7 := by omega
        · have HRl : Hid ((loadVar 64 ⟨w.heap.size, 0, none⟩).run Tryd.prog wr = .ok (.agg #[.int .i64 2, .func (.func 40) #[] #[]]) wr) := (load_sub HM.out.1 64 _ 0 2 (by rw [HRV.out]; decide) Tryd.underlying64 rfl (by kernel_rfl)).trans (by rw [HRV.out]; rfl)
          have k1 : (wr.alloc (.cells #[.int .i64 2, .func (.func 40) #[] #[]] 64)).heap[w.heap.size + 1]? = some (.cells #[.int .i64 b, .int .i64 f, .bool s, .bool k] 59 (0, 0)) := (heap_alloc_old _ _ (h := (Array.getElem?_eq_some_iff.1 HM.out.2.1).1)).trans HM.out.2.1
          have k2 : (wr.alloc (.cells #[.int .i64 2, .func (.func 40) #[] #[]] 64)).heap[wo.heap.size]? = some (.cells #[.int .i64 c, .int .i64 op, .slice ua ul uc] 36 (0, 0)) := (heap_alloc_old _ _ (h := (Array.getElem?_eq_some_iff.1 HM.out.2.2.1).1)).trans HM.out.2.2.1
          have HLr : Hid ((loadVar 59 ⟨w.heap.size + 1, 0, none⟩).run Tryd.prog (wr.alloc (.cells #[.int .i64 2, .func (.func 40) #[] #[]] 64)) = .ok (.agg #[.int .i64 b, .int .i64 f, .bool s, .bool k]) (wr.alloc (.cells #[.int .i64 2, .func (.func 40) #[] #[]] 64))) := load_all k1 _ _ Tryd.underlying59 rfl (by kernel_rfl)
          have HLi : Hid ((loadVar 36 ⟨wo.heap.size, 0, none⟩).run Tryd.prog (wr.alloc (.cells #[.int .i64 2, .func (.func 40) #[] #[]] 64)) = .ok (.agg #[.int .i64 c, .int .i64 op, .slice ua ul uc]) (wr.alloc (.cells #[.int .i64 2, .func (.func 40) #[] #[]] 64))) := load_all k2 _ _ Tryd.underlying36 rfl (by kernel_rfl)
          have kb : Below w.heap.size w (wr.alloc (.cells #[.int .i64 2, .func (.func 40) #[] #[]] 64)) := HM.out.2.2.2.1.alloc HM.out.2.2.2.1.size _
          have k3 : (wr.alloc (.cells #[.int .i64 2, .func (.func 40) #[] #[]] 64)).heap[w.heap.size]? = some (.cells RV 64 (0, 0)) := (heap_alloc_old _ _ (h := (Array.getElem?_eq_some_iff.1 HM.out.1).1)).trans HM.out.1
          have HCl : Hid (Calls Tryd.prog 40 #[.agg #[.int .i64 b, .int .i64 f, .bool s, .bool k], .agg #[.int .i64 c, .int .i64 op, .slice ua ul uc]] (wr.alloc (.cells #[.int .i64 2, .func (.func 40) #[] #[]] 64)) fun e w' => e = .returned (.bool (brk ⟨b, f, s, k⟩ (okT' x) c 0)) ∧ Below (wr.alloc (.cells #[.int .i64 2, .func (.func 40) #[] #[]] 64)).heap.size (wr.alloc (.cells #[.int .i64 2, .func (.func 40) #[] #[]] 64)) w') := HU0.out _ kb
          have HKK : Hid ((wr.alloc (.cells #[.int .i64 2, .func (.func 40) #[] #[]] 64)).heap[w.heap.size]? = some (.cells RV 64 (0, 0)) ∧ (wr.alloc (.cells #[.int .i64 2, .func (.func 40) #[] #[]] 64)).heap[w.heap.size + 1]? = some (.cells #[.int .i64 b, .int .i64 f, .bool s, .bool k] 59 (0, 0)) ∧ (wr.alloc (.cells #[.int .i64 2, .func (.func 40) #[] #[]] 64)).heap[wo.heap.size]? = some (.cells #[.int .i64 c, .int .i64 op, .slice ua ul uc] 36 (0, 0)) ∧ Below w.heap.size w (wr.alloc (.cells #[.int .i64 2, .func (.func 40) #[] #[]] 64))) := ⟨k3, k1, k2, kb⟩
          have HP : Hid ((wr.alloc (.cells #[.int .i64 2, .func (.func 40) #[] #[]] 64)).heap[wr.heap.size]? = some (.cells #[.int .i64 2, .func (.func 40) #[] #[]] 64 (0, 0))) := heap_alloc_last wr _
          clear k1 k2 k3 kb
          cases hbr : brk ⟨b, f, s, k⟩ (okT' x) c 0 with
          | true =>
            rw [hbr] at HCl
            have HF : Hid (∀ w', Below w.heap.size w w' → WalkR xs w (.panicked [{ v := .iface 28 (.agg #[.int .i64 2, .int .i64 (n : Int)]), recovered := false }]) w') := fun w' g => HBad.out 0 w' (by omega) (fun i hi => HM.out.2.2.2.2 i (by omega)) hbr g
            clear hbr HM
            go_wp2_with (first | (refine wpL_load rfl 64 _ rfl _ _ rfl _ HRl.out ?_) | (refine wpL_load rfl 59 _ rfl _ _ rfl _ HLr.out ?_) | (refine wpL_load rfl 36 _ rfl _ _ rfl _ HLi.out ?_) | fail)
            refine HCl.out.mono ?_
            rintro e w5 ⟨rfl, g5⟩
            have c0 : w5.cell? ⟨wr.heap.size, 0, none⟩ = some (.int .i64 2) := (cell_of_row _ _ _ _ _ _ ((g5.block _ (by simp)).trans HP.out)).trans rfl
            have HFF := HF.out w5 (HKK.out.2.2.2.trans (g5.mono HKK.out.2.2.2.size))
            have HFh : Hid (WalkR xs w (.panicked [{ v := .iface 28 (.agg #[.int .i64 2, .int .i64 (n : Int)]), recovered := false }]) w5) := HFF
            clear HFF g5 HKK HP HF HRl HLr HLi HCl
            go_wp2
            exact ⟨rfl, HFh.out⟩
          | false =>
            rw [hbr] at HCl
            have HNo : Hid (∀ i, i < 0 + 1 → brk ⟨b, f, s, k⟩ (okT' x) c i = false) := fun i hi => by
              by_cases e : i = 0
              · rw [e]; exact hbr
              · exact HM.out.2.2.2.2 i (by omega)
            clear hbr HM
            go_wp2_with (first | (refine wpL_load rfl 64 _ rfl _ _ rfl _ HRl.out ?_) | (refine wpL_load rfl 59 _ rfl _ _ rfl _ HLr.out ?_) | (refine wpL_load rfl 36 _ rfl _ _ rfl _ HLi.out ?_) | fail)
            refine HCl.out.mono ?_
            rintro e w5 ⟨rfl, g5⟩
            have HFh : Hid (w5.heap[w.heap.size]? = some (.cells RV 64 (0, 0)) ∧ w5.heap[w.heap.size + 1]? = some (.cells #[.int .i64 b, .int .i64 f, .bool s, .bool k] 59 (0, 0)) ∧ w5.heap[wo.heap.size]? = some (.cells #[.int .i64 c, .int .i64 op, .slice ua ul uc] 36 (0, 0)) ∧ Below w.heap.size w w5 ∧ ∀ i, i < 0 + 1 → brk ⟨b, f, s, k⟩ (okT' x) c i = false) := ⟨(g5.block _ (Array.getElem?_eq_some_iff.1 HKK.out.1).1).trans HKK.out.1, (g5.block _ (Array.getElem?_eq_some_iff.1 HKK.out.2.1).1).trans HKK.out.2.1, (g5.block _ (Array.getElem?_eq_some_iff.1 HKK.out.2.2.1).1).trans HKK.out.2.2.1, HKK.out.2.2.2.trans (g5.mono HKK.out.2.2.2.size), HNo.out⟩
            clear g5 HKK HP HRl HLr HLi HCl HNo
            go_wp2
            go_roundg (gk - 1)
            case measure => omega
            case rel => exact ⟨0 + 1, by omega, rfl, HFh⟩
        · have HRl : Hid ((loadVar 64 ⟨w.heap.size, 2, none⟩).run Tryd.prog wr = .ok (.agg #[.int .i64 3, .func (.func 41) #[] #[]]) wr) := (load_sub HM.out.1 64 _ 2 2 (by rw [HRV.out]; decide) Tryd.underlying64 rfl (by kernel_rfl)).trans (by rw [HRV.out]; rfl)
          have k1 : (wr.alloc (.cells #[.int .i64 3, .func (.func 41) #[] #[]] 64)).heap[w.heap.size + 1]? = some (.cells #[.int .i64 b, .int .i64 f, .bool s, .bool k] 59 (0, 0)) := (heap_alloc_old _ _ (h := (Array.getElem?_eq_some_iff.1 HM.out.2.1).1)).trans HM.out.2.1
          have k2 : (wr.alloc (.cells #[.int .i64 3, .func (.func 41) #[] #[]] 64)).heap[wo.heap.size]? = some (.cells #[.int .i64 c, .int .i64 op, .slice ua ul uc] 36 (0, 0)) := (heap_alloc_old _ _ (h := (Array.getElem?_eq_some_iff.1 HM.out.2.2.1).1)).trans HM.out.2.2.1
          have HLr : Hid ((loadVar 59 ⟨w.heap.size + 1, 0, none⟩).run Tryd.prog (wr.alloc (.cells #[.int .i64 3, .func (.func 41) #[] #[]] 64)) = .ok (.agg #[.int .i64 b, .int .i64 f, .bool s, .bool k]) (wr.alloc (.cells #[.int .i64 3, .func (.func 41) #[] #[]] 64))) := load_all k1 _ _ Tryd.underlying59 rfl (by kernel_rfl)
          have HLi : Hid ((loadVar 36 ⟨wo.heap.size, 0, none⟩).run Tryd.prog (wr.alloc (.cells #[.int .i64 3, .func (.func 41) #[] #[]] 64)) = .ok (.agg #[.int .i64 c, .int .i64 op, .slice ua ul uc]) (wr.alloc (.cells #[.int .i64 3, .func (.func 41) #[] #[]] 64))) := load_all k2 _ _ Tryd.underlying36 rfl (by kernel_rfl)
          have kb : Below w.heap.size w (wr.alloc (.cells #[.int .i64 3, .func (.func 41) #[] #[]] 64)) := HM.out.2.2.2.1.alloc HM.out.2.2.2.1.size _
          have k3 : (wr.alloc (.cells #[.int .i64 3, .func (.func 41) #[] #[]] 64)).heap[w.heap.size]? = some (.cells RV 64 (0, 0)) := (heap_alloc_old _ _ (h := (Array.getElem?_eq_some_iff.1 HM.out.1).1)).trans HM.out.1
          have HCl : Hid (Calls Tryd.prog 41 #[.agg #[.int .i64 b, .int .i64 f, .bool s, .bool k], .agg #[.int .i64 c, .int .i64 op, .slice ua ul uc]] (wr.alloc (.cells #[.int .i64 3, .func (.func 41) #[] #[]] 64)) fun e w' => e = .returned (.bool (brk ⟨b, f, s, k⟩ (okT' x) c 1)) ∧ Below (wr.alloc (.cells #[.int .i64 3, .func (.func 41) #[] #[]] 64)).heap.size (wr.alloc (.cells #[.int .i64 3, .func (.func 41) #[] #[]] 64)) w') := HU1.out _ kb
          have HKK : Hid ((wr.alloc (.cells #[.int .i64 3, .func (.func 41) #[] #[]] 64)).heap[w.heap.size]? = some (.cells RV 64 (0, 0)) ∧ (wr.alloc (.cells #[.int .i64 3, .func (.func 41) #[] #[]] 64)).heap[w.heap.size + 1]? = some (.cells #[.int .i64 b, .int .i64 f, .bool s, .bool k] 59 (0, 0)) ∧ (wr.alloc (.cells #[.int .i64 3, .func (.func 41) #[] #[]] 64)).heap[wo.heap.size]? = some (.cells #[.int .i64 c, .int .i64 op, .slice ua ul uc] 36 (0, 0)) ∧ Below w.heap.size w (wr.alloc (.cells #[.int .i64 3, .func (.func 41) #[] #[]] 64))) := ⟨k3, k1, k2, kb⟩
          have HP : Hid ((wr.alloc (.cells #[.int .i64 3, .func (.func 41) #[] #[]] 64)).heap[wr.heap.size]? = some (.cells #[.int .i64 3, .func (.func 41) #[] #[]] 64 (0, 0))) := heap_alloc_last wr _
          clear k1 k2 k3 kb
          cases hbr : brk ⟨b, f, s, k⟩ (okT' x) c 1 with
          | true =>
            rw [hbr] at HCl
            have HF : Hid (∀ w', Below w.heap.size w w' → WalkR xs w (.panicked [{ v := .iface 28 (.agg #[.int .i64 3, .int .i64 (n : Int)]), recovered := false }]) w') := fun w' g => HBad.out 1 w' (by omega) (fun i hi => HM.out.2.2.2.2 i (by omega)) hbr g
            clear hbr HM
            go_wp2_with (first | (refine wpL_load rfl 64 _ rfl _ _ rfl _ HRl.out ?_) | (refine wpL_load rfl 59 _ rfl _ _ rfl _ HLr.out ?_) | (refine wpL_load rfl 36 _ rfl _ _ rfl _ HLi.out ?_) | fail)
            refine HCl.out.mono ?_
            rintro e w5 ⟨rfl, g5⟩
            have c0 : w5.cell? ⟨wr.heap.size, 0, none⟩ = some (.int .i64 3) := (cell_of_row _ _ _ _ _ _ ((g5.block _ (by simp)).trans HP.out)).trans rfl
            have HFF := HF.out w5 (HKK.out.2.2.2.trans (g5.mono HKK.out.2.2.2.size))
            have HFh : Hid (WalkR xs w (.panicked [{ v := .iface 28 (.agg #[.int .i64 3, .int .i64 (n : Int)]), recovered := false }]) w5) := HFF
            clear HFF g5 HKK HP HF HRl HLr HLi HCl
            go_wp2
            exact ⟨rfl, HFh.out⟩
          | false =>
            rw [hbr] at HCl
            have HNo : Hid (∀ i, i < 1 + 1 → brk ⟨b, f, s, k⟩ (okT' x) c i = false) := fun i hi => by
              by_cases e : i = 1
              · rw [e]; exact hbr
              · exact HM.out.2.2.2.2 i (by omega)
            clear hbr HM
            go_wp2_with (first | (refine wpL_load rfl 64 _ rfl _ _ rfl _ HRl.out ?_) | (refine wpL_load rfl 59 _ rfl _ _ rfl _ HLr.out ?_) | (refine wpL_load rfl 36 _ rfl _ _ rfl _ HLi.out ?_) | fail)
            refine HCl.out.mono ?_
            rintro e w5 ⟨rfl, g5⟩
            have HFh : Hid (w5.heap[w.heap.size]? = some (.cells RV 64 (0, 0)) ∧ w5.heap[w.heap.size + 1]? = some (.cells #[.int .i64 b, .int .i64 f, .bool s, .bool k] 59 (0, 0)) ∧ w5.heap[wo.heap.size]? = some (.cells #[.int .i64 c, .int .i64 op, .slice ua ul uc] 36 (0, 0)) ∧ Below w.heap.size w w5 ∧ ∀ i, i < 1 + 1 → brk ⟨b, f, s, k⟩ (okT' x) c i = false) := ⟨(g5.block _ (Array.getElem?_eq_some_iff.1 HKK.out.1).1).trans HKK.out.1, (g5.block _ (Array.getElem?_eq_some_iff.1 HKK.out.2.1).1).trans HKK.out.2.1, (g5.block _ (Array.getElem?_eq_some_iff.1 HKK.out.2.2.1).1).trans HKK.out.2.2.1, HKK.out.2.2.2.trans (g5.mono HKK.out.2.2.2.size), HNo.out⟩
            clear g5 HKK HP HRl HLr HLi HCl HNo
            go_wp2
            go_roundg (gk - 1)
            case measure => omega
            case rel => exact ⟨1 + 1, by omega, rfl, HFh⟩
        · have HRl : Hid ((loadVar 64 ⟨w.heap.size, 4, none⟩).run Tryd.prog wr = .ok (.agg #[.int .i64 4, .func (.func 42) #[] #[]]) wr) := (load_sub HM.out.1 64 _ 4 2 (by rw [HRV.out]; decide) Tryd.underlying64 rfl (by kernel_rfl)).trans (by rw [HRV.out]; rfl)
          have k1 : (wr.alloc (.cells #[.int .i64 4, .func (.func 42) #[] #[]] 64)).heap[w.heap.size + 1]? = some (.cells #[.int .i64 b, .int .i64 f, .bool s, .bool k] 59 (0, 0)) := (heap_alloc_old _ _ (h := (Array.getElem?_eq_some_iff.1 HM.out.2.1).1)).trans HM.out.2.1
          have k2 : (wr.alloc (.cells #[.int .i64 4, .func (.func 42) #[] #[]] 64)).heap[wo.heap.size]? = some (.cells #[.int .i64 c, .int .i64 op, .slice ua ul uc] 36 (0, 0)) := (heap_alloc_old _ _ (h := (Array.getElem?_eq_some_iff.1 HM.out.2.2.1).1)).trans HM.out.2.2.1
          have HLr : Hid ((loadVar 59 ⟨w.heap.size + 1, 0, none⟩).run Tryd.prog (wr.alloc (.cells #[.int .i64 4, .func (.func 42) #[] #[]] 64)) = .ok (.agg #[.int .i64 b, .int .i64 f, .bool s, .bool k]) (wr.alloc (.cells #[.int .i64 4, .func (.func 42) #[] #[]] 64))) := load_all k1 _ _ Tryd.underlying59 rfl (by kernel_rfl)
          have HLi : Hid ((loadVar 36 ⟨wo.heap.size, 0, none⟩).run Tryd.prog (wr.alloc (.cells #[.int .i64 4, .func (.func 42) #[] #[]] 64)) = .ok (.agg #[.int .i64 c, .int .i64 op, .slice ua ul uc]) (wr.alloc (.cells #[.int .i64 4, .func (.func 42) #[] #[]] 64))) := load_all k2 _ _ Tryd.underlying36 rfl (by kernel_rfl)
          have kb : Below w.heap.size w (wr.alloc (.cells #[.int .i64 4, .func (.func 42) #[] #[]] 64)) := HM.out.2.2.2.1.alloc HM.out.2.2.2.1.size _
          have k3 : (wr.alloc (.cells #[.int .i64 4, .func (.func 42) #[] #[]] 64)).heap[w.heap.size]? = some (.cells RV 64 (0, 0)) := (heap_alloc_old _ _ (h := (Array.getElem?_eq_some_iff.1 HM.out.1).1)).trans HM.out.1
          have HCl : Hid (Calls Tryd.prog 42 #[.agg #[.int .i64 b, .int .i64 f, .bool s, .bool k], .agg #[.int .i64 c, .int .i64 op, .slice ua ul uc]] (wr.alloc (.cells #[.int .i64 4, .func (.func 42) #[] #[]] 64)) fun e w' => e = .returned (.bool (brk ⟨b, f, s, k⟩ (okT' x) c 2)) ∧ Below (wr.alloc (.cells #[.int .i64 4, .func (.func 42) #[] #[]] 64)).heap.size (wr.alloc (.cells #[.int .i64 4, .func (.func 42) #[] #[]] 64)) w') := HU2.out _ kb
          have HKK : Hid ((wr.alloc (.cells #[.int .i64 4, .func (.func 42) #[] #[]] 64)).heap[w.heap.size]? = some (.cells RV 64 (0, 0)) ∧ (wr.alloc (.cells #[.int .i64 4, .func (.func 42) #[] #[]] 64)).heap[w.heap.size + 1]? = some (.cells #[.int .i64 b, .int .i64 f, .bool s, .bool k] 59 (0, 0)) ∧ (wr.alloc (.cells #[.int .i64 4, .func (.func 42) #[] #[]] 64)).heap[wo.heap.size]? = some (.cells #[.int .i64 c, .int .i64 op, .slice ua ul uc] 36 (0, 0)) ∧ Below w.heap.size w (wr.alloc (.cells #[.int .i64 4, .func (.func 42) #[] #[]] 64))) := ⟨k3, k1, k2, kb⟩
          have HP : Hid ((wr.alloc (.cells #[.int .i64 4, .func (.func 42) #[] #[]] 64)).heap[wr.heap.size]? = some (.cells #[.int .i64 4, .func (.func 42) #[] #[]] 64 (0, 0))) := heap_alloc_last wr _
          clear k1 k2 k3 kb
          cases hbr : brk ⟨b, f, s, k⟩ (okT' x) c 2 with
          | true =>
            rw [hbr] at HCl
            have HF : Hid (∀ w', Below w.heap.size w w' → WalkR xs w (.panicked [{ v := .iface 28 (.agg #[.int .i64 4, .int .i64 (n : Int)]), recovered := false }]) w') := fun w' g => HBad.out 2 w' (by omega) (fun i hi => HM.out.2.2.2.2 i (by omega)) hbr g
            clear hbr HM
            go_wp2_with (first | (refine wpL_load rfl 64 _ rfl _ _ rfl _ HRl.out ?_) | (refine wpL_load rfl 59 _ rfl _ _ rfl _ HLr.out ?_) | (refine wpL_load rfl 36 _ rfl _ _ rfl _ HLi.out ?_) | fail)
            refine HCl.out.mono ?_
            rintro e w5 ⟨rfl, g5⟩
            have c0 : w5.cell? ⟨wr.heap.size, 0, none⟩ = some (.int .i64 4) := (cell_of_row _ _ _ _ _ _ ((g5.block _ (by simp)).trans HP.out)).trans rfl
            have HFF := HF.out w5 (HKK.out.2.2.2.trans (g5.mono HKK.out.2.2.2.size))
            have HFh : Hid (WalkR xs w (.panicked [{ v := .iface 28 (.agg #[.int .i64 4, .int .i64 (n : Int)]), recovered := false }]) w5) := HFF
            clear HFF g5 HKK HP HF HRl HLr HLi HCl
            go_wp2
            exact ⟨rfl, HFh.out⟩
          | false =>
            rw [hbr] at HCl
            have HNo : Hid (∀ i, i < 2 + 1 → brk ⟨b, f, s, k⟩ (okT' x) c i = false) := fun i hi => by
              by_cases e : i = 2
              · rw [e]; exact hbr
              · exact HM.out.2.2.2.2 i (by omega)
            clear hbr HM
            go_wp2_with (first | (refine wpL_load rfl 64 _ rfl _ _ rfl _ HRl.out ?_) | (refine wpL_load rfl 59 _ rfl _ _ rfl _ HLr.out ?_) | (refine wpL_load rfl 36 _ rfl _ _ rfl _ HLi.out ?_) | fail)
            refine HCl.out.mono ?_
            rintro e w5 ⟨rfl, g5⟩
            have HFh : Hid (w5.heap[w.heap.size]? = some (.cells RV 64 (0, 0)) ∧ w5.heap[w.heap.size + 1]? = some (.cells #[.int .i64 b, .int .i64 f, .bool s, .bool k] 59 (0, 0)) ∧ w5.heap[wo.heap.size]? = some (.cells #[.int .i64 c, .int .i64 op, .slice ua ul uc] 36 (0, 0)) ∧ Below w.heap.size w w5 ∧ ∀ i, i < 2 + 1 → brk ⟨b, f, s, k⟩ (okT' x) c i = false) := ⟨(g5.block _ (Array.getElem?_eq_some_iff.1 HKK.out.1).1).trans HKK.out.1, (g5.block _ (Array.getElem?_eq_some_iff.1 HKK.out.2.1).1).trans HKK.out.2.1, (g5.block _ (Array.getElem?_eq_some_iff.1 HKK.out.2.2.1).1).trans HKK.out.2.2.1, HKK.out.2.2.2.trans (g5.mono HKK.out.2.2.2.size), HNo.out⟩
            clear g5 HKK HP HRl HLr HLi HCl HNo
            go_wp2
            go_roundg (gk - 1)
            case measure => omega
            case rel => exact ⟨2 + 1, by omega, rfl, HFh⟩
        · have HRl : Hid ((loadVar 64 ⟨w.heap.size, 6, none⟩).run Tryd.prog wr = .ok (.agg #[.int .i64 5, .func (.func 43) #[] #[]]) wr) := (load_sub HM.out.1 64 _ 6 2 (by rw [HRV.out]; decide) Tryd.underlying64 rfl (by kernel_rfl)).trans (by rw [HRV.out]; rfl)
          have k1 : (wr.alloc (.cells #[.int .i64 5, .func (.func 43) #[] #[]] 64)).heap[w.heap.size + 1]? = some (.cells #[.int .i64 b, .int .i64 f, .bool s, .bool k] 59 (0, 0)) := (heap_alloc_old _ _ (h := (Array.getElem?_eq_some_iff.1 HM.out.2.1).1)).trans HM.out.2.1
          have k2 : (wr.alloc (.cells #[.int .i64 5, .func (.func 43) #[] #[]] 64)).heap[wo.heap.size]? = some (.cells #[.int .i64 c, .int .i64 op, .slice ua ul uc] 36 (0, 0)) := (heap_alloc_old _ _ (h := (Array.getElem?_eq_some_iff.1 HM.out.2.2.1).1)).trans HM.out.2.2.1
          have HLr : Hid ((loadVar 59 ⟨w.heap.size + 1, 0, none⟩).run Tryd.prog (wr.alloc (.cells #[.int .i64 5, .func (.func 43) #[] #[]] 64)) = .ok (.agg #[.int .i64 b, .int .i64 f, .bool s, .bool k]) (wr.alloc (.cells #[.int .i64 5, .func (.func 43) #[] #[]] 64))) := load_all k1 _ _ Tryd.underlying59 rfl (by kernel_rfl)
          have HLi : Hid ((loadVar 36 ⟨wo.heap.size, 0, none⟩).run Tryd.prog (wr.alloc (.cells #[.int .i64 5, .func (.func 43) #[] #[]] 64)) = .ok (.agg #[.int .i64 c, .int .i64 op, .slice ua ul uc]) (wr.alloc (.cells #[.int .i64 5, .func (.func 43) #[] #[]] 64))) := load_all k2 _ _ Tryd.underlying36 rfl (by kernel_rfl)
          have kb : Below w.heap.size w (wr.alloc (.cells #[.int .i64 5, .func (.func 43) #[] #[]] 64)) := HM.out.2.2.2.1.alloc HM.out.2.2.2.1.size _
          have k3 : (wr.alloc (.cells #[.int .i64 5, .func (.func 43) #[] #[]] 64)).heap[w.heap.size]? = some (.cells RV 64 (0, 0)) := (heap_alloc_old _ _ (h := (Array.getElem?_eq_some_iff.1 HM.out.1).1)).trans HM.out.1
          have HCl : Hid (Calls Tryd.prog 43 #[.agg #[.int .i64 b, .int .i64 f, .bool s, .bool k], .agg #[.int .i64 c, .int .i64 op, .slice ua ul uc]] (wr.alloc (.cells #[.int .i64 5, .func (.func 43) #[] #[]] 64)) fun e w' => e = .returned (.bool (brk ⟨b, f, s, k⟩ (okT' x) c 3)) ∧ Below (wr.alloc (.cells #[.int .i64 5, .func (.func 43) #[] #[]] 64)).heap.size (wr.alloc (.cells #[.int .i64 5, .func (.func 43) #[] #[]] 64)) w') := HU3.out _ kb
          have HKK : Hid ((wr.alloc (.cells #[.int .i64 5, .func (.func 43) #[] #[]] 64)).heap[w.heap.size]? = some (.cells RV 64 (0, 0)) ∧ (wr.alloc (.cells #[.int .i64 5, .func (.func 43) #[] #[]] 64)).heap[w.heap.size + 1]? = some (.cells #[.int .i64 b, .int .i64 f, .bool s, .bool k] 59 (0, 0)) ∧ (wr.alloc (.cells #[.int .i64 5, .func (.func 43) #[] #[]] 64)).heap[wo.heap.size]? = some (.cells #[.int .i64 c, .int .i64 op, .slice ua ul uc] 36 (0, 0)) ∧ Below w.heap.size w (wr.alloc (.cells #[.int .i64 5, .func (.func 43) #[] #[]] 64))) := ⟨k3, k1, k2, kb⟩
          have HP : Hid ((wr.alloc (.cells #[.int .i64 5, .func (.func 43) #[] #[]] 64)).heap[wr.heap.size]? = some (.cells #[.int .i64 5, .func (.func 43) #[] #[]] 64 (0, 0))) := heap_alloc_last wr _
          clear k1 k2 k3 kb
          cases hbr : brk ⟨b, f, s, k⟩ (okT' x) c 3 with
          | true =>
            rw [hbr] at HCl
            have HF : Hid (∀ w', Below w.heap.size w w' → WalkR xs w (.panicked [{ v := .iface 28 (.agg #[.int .i64 5, .int .i64 (n : Int)]), recovered := false }]) w') := fun w' g => HBad.out 3 w' (by omega) (fun i hi => HM.out.2.2.2.2 i (by omega)) hbr g
            clear hbr HM
            go_wp2_with (first | (refine wpL_load rfl 64 _ rfl _ _ rfl _ HRl.out ?_) | (refine wpL_load rfl 59 _ rfl _ _ rfl _ HLr.out ?_) | (refine wpL_load rfl 36 _ rfl _ _ rfl _ HLi.out ?_) | fail)
            refine HCl.out.mono ?_
            rintro e w5 ⟨rfl, g5⟩
            have c0 : w5.cell? ⟨wr.heap.size, 0, none⟩ = some (.int .i64 5) := (cell_of_row _ _ _ _ _ _ ((g5.block _ (by simp)).trans HP.out)).trans rfl
            have HFF := HF.out w5 (HKK.out.2.2.2.trans (g5.mono HKK.out.2.2.2.size))
            have HFh : Hid (WalkR xs w (.panicked [{ v := .iface 28 (.agg #[.int .i64 5, .int .i64 (n : Int)]), recovered := false }]) w5) := HFF
            clear HFF g5 HKK HP HF HRl HLr HLi HCl
            go_wp2
            exact ⟨rfl, HFh.out⟩
          | false =>
            rw [hbr] at HCl
            have HNo : Hid (∀ i, i < 3 + 1 → brk ⟨b, f, s, k⟩ (okT' x) c i = false) := fun i hi => by
              by_cases e : i = 3
              · rw [e]; exact hbr
              · exact HM.out.2.2.2.2 i (by omega)
            clear hbr HM
            go_wp2_with (first | (refine wpL_load rfl 64 _ rfl _ _ rfl _ HRl.out ?_) | (refine wpL_load rfl 59 _ rfl _ _ rfl _ HLr.out ?_) | (refine wpL_load rfl 36 _ rfl _ _ rfl _ HLi.out ?_) | fail)
            refine HCl.out.mono ?_
            rintro e w5 ⟨rfl, g5⟩
            have HFh : Hid (w5.heap[w.heap.size]? = some (.cells RV 64 (0, 0)) ∧ w5.heap[w.heap.size + 1]? = some (.cells #[.int .i64 b, .int .i64 f, .bool s, .bool k] 59 (0, 0)) ∧ w5.heap[wo.heap.size]? = some (.cells #[.int .i64 c, .int .i64 op, .slice ua ul uc] 36 (0, 0)) ∧ Below w.heap.size w w5 ∧ ∀ i, i < 3 + 1 → brk ⟨b, f, s, k⟩ (okT' x) c i = false) := ⟨(g5.block _ (Array.getElem?_eq_some_iff.1 HKK.out.1).1).trans HKK.out.1, (g5.block _ (Array.getElem?_eq_some_iff.1 HKK.out.2.1).1).trans HKK.out.2.1, (g5.block _ (Array.getElem?_eq_some_iff.1 HKK.out.2.2.1).1).trans HKK.out.2.2.1, HKK.out.2.2.2.trans (g5.mono HKK.out.2.2.2.size), HNo.out⟩
            clear g5 HKK HP HRl HLr HLi HCl HNo
            go_wp2
            go_roundg (gk - 1)
            case measure => omega
            case rel => exact ⟨3 + 1, by omega, rfl, HFh⟩
        · have HRl : Hid ((loadVar 64 ⟨w.heap.size, 8, none⟩).run Tryd.prog wr = .ok (.agg #[.int .i64 6, .func (.func 44) #[] #[]]) wr) := (load_sub HM.out.1 64 _ 8 2 (by rw [HRV.out]; decide) Tryd.underlying64 rfl (by kernel_rfl)).trans (by rw [HRV.out]; rfl)
          have k1 : (wr.alloc (.cells #[.int .i64 6, .func (.func 44) #[] #[]] 64)).heap[w.heap.size + 1]? = some (.cells #[.int .i64 b, .int .i64 f, .bool s, .bool k] 59 (0, 0)) := (heap_alloc_old _ _ (h := (Array.getElem?_eq_some_iff.1 HM.out.2.1).1)).trans HM.out.2.1
          have k2 : (wr.alloc (.cells #[.int .i64 6, .func (.func 44) #[] #[]] 64)).heap[wo.heap.size]? = some (.cells #[.int .i64 c, .int .i64 op, .slice ua ul uc] 36 (0, 0)) := (heap_alloc_old _ _ (h := (Array.getElem?_eq_some_iff.1 HM.out.2.2.1).1)).trans HM.out.2.2.1
          have HLr : Hid ((loadVar 59 ⟨w.heap.size + 1, 0, none⟩).run Tryd.prog (wr.alloc (.cells #[.int .i64 6, .func (.func 44) #[] #[]] 64)) = .ok (.agg #[.int .i64 b, .int .i64 f, .bool s, .bool k]) (wr.alloc (.cells #[.int .i64 6, .func (.func 44) #[] #[]] 64))) := load_all k1 _ _ Tryd.underlying59 rfl (by kernel_rfl)
          have HLi : Hid ((loadVar 36 ⟨wo.heap.size, 0, none⟩).run Tryd.prog (wr.alloc (.cells #[.int .i64 6, .func (.func 44) #[] #[]] 64)) = .ok (.agg #[.int .i64 c, .int .i64 op, .slice ua ul uc]) (wr.alloc (.cells #[.int .i64 6, .func (.func 44) #[] #[]] 64))) := load_all k2 _ _ Tryd.underlying36 rfl (by kernel_rfl)
          have kb : Below w.heap.size w (wr.alloc (.cells #[.int .i64 6, .func (.func 44) #[] #[]] 64)) := HM.out.2.2.2.1.alloc HM.out.2.2.2.1.size _
          have k3 : (wr.alloc (.cells #[.int .i64 6, .func (.func 44) #[] #[]] 64)).heap[w.heap.size]? = some (.cells RV 64 (0, 0)) := (heap_alloc_old _ _ (h := (Array.getElem?_eq_some_iff.1 HM.out.1).1)).trans HM.out.1
          have HCl : Hid (Calls Tryd.prog 44 #[.agg #[.int .i64 b, .int .i64 f, .bool s, .bool k], .agg #[.int .i64 c, .int .i64 op, .slice ua ul uc]] (wr.alloc (.cells #[.int .i64 6, .func (.func 44) #[] #[]] 64)) fun e w' => e = .returned (.bool (brk ⟨b, f, s, k⟩ (okT' x) c 4)) ∧ Below (wr.alloc (.cells #[.int .i64 6, .func (.func 44) #[] #[]] 64)).heap.size (wr.alloc (.cells #[.int .i64 6, .func (.func 44) #[] #[]] 64)) w') := HU4.out _ kb
          have HKK : Hid ((wr.alloc (.cells #[.int .i64 6, .func (.func 44) #[] #[]] 64)).heap[w.heap.size]? = some (.cells RV 64 (0, 0)) ∧ (wr.alloc (.cells #[.int .i64 6, .func (.func 44) #[] #[]] 64)).heap[w.heap.size + 1]? = some (.cells #[.int .i64 b, .int .i64 f, .bool s, .bool k] 59 (0, 0)) ∧ (wr.alloc (.cells #[.int .i64 6, .func (.func 44) #[] #[]] 64)).heap[wo.heap.size]? = some (.cells #[.int .i64 c, .int .i64 op, .slice ua ul uc] 36 (0, 0)) ∧ Below w.heap.size w (wr.alloc (.cells #[.int .i64 6, .func (.func 44) #[] #[]] 64))) := ⟨k3, k1, k2, kb⟩
          have HP : Hid ((wr.alloc (.cells #[.int .i64 6, .func (.func 44) #[] #[]] 64)).heap[wr.heap.size]? = some (.cells #[.int .i64 6, .func (.func 44) #[] #[]] 64 (0, 0))) := heap_alloc_last wr _
          clear k1 k2 k3 kb
          cases hbr : brk ⟨b, f, s, k⟩ (okT' x) c 4 with
          | true =>
            rw [hbr] at HCl
            have HF : Hid (∀ w', Below w.heap.size w w' → WalkR xs w (.panicked [{ v := .iface 28 (.agg #[.int .i64 6, .int .i64 (n : Int)]), recovered := false }]) w') := fun w' g => HBad.out 4 w' (by omega) (fun i hi => HM.out.2.2.2.2 i (by omega)) hbr g
            clear hbr HM
            go_wp2_with (first | (refine wpL_load rfl 64 _ rfl _ _ rfl _ HRl.out ?_) | (refine wpL_load rfl 59 _ rfl _ _ rfl _ HLr.out ?_) | (refine wpL_load rfl 36 _ rfl _ _ rfl _ HLi.out ?_) | fail)
            refine HCl.out.mono ?_
            rintro e w5 ⟨rfl, g5⟩
            have c0 : w5.cell? ⟨wr.heap.size, 0, none⟩ = some (.int .i64 6) := (cell_of_row _ _ _ _ _ _ ((g5.block _ (by simp)).trans HP.out)).trans rfl
            have HFF := HF.out w5 (HKK.out.2.2.2.trans (g5.mono HKK.out.2.2.2.size))
            have HFh : Hid (WalkR xs w (.panicked [{ v := .iface 28 (.agg #[.int .i64 6, .int .i64 (n : Int)]), recovered := false }]) w5) := HFF
            clear HFF g5 HKK HP HF HRl HLr HLi HCl
            go_wp2
            exact ⟨rfl, HFh.out⟩
          | false =>
            rw [hbr] at HCl
            have HNo : Hid (∀ i, i < 4 + 1 → brk ⟨b, f, s, k⟩ (okT' x) c i = false) := fun i hi => by
              by_cases e : i = 4
              · rw [e]; exact hbr
              · exact HM.out.2.2.2.2 i (by omega)
            clear hbr HM
            go_wp2_with (first | (refine wpL_load rfl 64 _ rfl _ _ rfl _ HRl.out ?_) | (refine wpL_load rfl 59 _ rfl _ _ rfl _ HLr.out ?_) | (refine wpL_load rfl 36 _ rfl _ _ rfl _ HLi.out ?_) | fail)
            refine HCl.out.mono ?_
            rintro e w5 ⟨rfl, g5⟩
            have HFh : Hid (w5.heap[w.heap.size]? = some (.cells RV 64 (0, 0)) ∧ w5.heap[w.heap.size + 1]? = some (.cells #[.int .i64 b, .int .i64 f, .bool s, .bool k] 59 (0, 0)) ∧ w5.heap[wo.heap.size]? = some (.cells #[.int .i64 c, .int .i64 op, .slice ua ul uc] 36 (0, 0)) ∧ Below w.heap.size w w5 ∧ ∀ i, i < 4 + 1 → brk ⟨b, f, s, k⟩ (okT' x) c i = false) := ⟨(g5.block _ (Array.getElem?_eq_some_iff.1 HKK.out.1).1).trans HKK.out.1, (g5.block _ (Array.getElem?_eq_some_iff.1 HKK.out.2.1).1).trans HKK.out.2.1, (g5.block _ (Array.getElem?_eq_some_iff.1 HKK.out.2.2.1).1).trans HKK.out.2.2.1, HKK.out.2.2.2.trans (g5.mono HKK.out.2.2.2.size), HNo.out⟩
            clear g5 HKK HP HRl HLr HLi HCl HNo
            go_wp2
            go_roundg (gk - 1)
            case measure => omega
            case rel => exact ⟨4 + 1, by omega, rfl, HFh⟩
        · have HRl : Hid ((loadVar 64 ⟨w.heap.size, 10, none⟩).run Tryd.prog wr = .ok (.agg #[.int .i64 7, .func (.func 45) #[] #[]]) wr) := (load_sub HM.out.1 64 _ 10 2 (by rw [HRV.out]; decide) Tryd.underlying64 rfl (by kernel_rfl)).trans (by rw [HRV.out]; rfl)
          have k1 : (wr.alloc (.cells #[.int .i64 7, .func (.func 45) #[] #[]] 64)).heap[w.heap.size + 1]? = some (.cells #[.int .i64 b, .int .i64 f, .bool s, .bool k] 59 (0, 0)) := (heap_alloc_old _ _ (h := (Array.getElem?_eq_some_iff.1 HM.out.2.1).1)).trans HM.out.2.1
          have k2 : (wr.alloc (.cells #[.int .i64 7, .func (.func 45) #[] #[]] 64)).heap[wo.heap.size]? = some (.cells #[.int .i64 c, .int .i64 op, .slice ua ul uc] 36 (0, 0)) := (heap_alloc_old _ _ (h := (Array.getElem?_eq_some_iff.1 HM.out.2.2.1).1)).trans HM.out.2.2.1
          have HLr : Hid ((loadVar 59 ⟨w.heap.size + 1, 0, none⟩).run Tryd.prog (wr.alloc (.cells #[.int .i64 7, .func (.func 45) #[] #[]] 64)) = .ok (.agg #[.int .i64 b, .int .i64 f, .bool s, .bool k]) (wr.alloc (.cells #[.int .i64 7, .func (.func 45) #[] #[]] 64))) := load_all k1 _ _ Tryd.underlying59 rfl (by kernel_rfl)
          have HLi : Hid ((loadVar 36 ⟨wo.heap.size, 0, none⟩).run Tryd.prog (wr.alloc (.cells #[.int .i64 7, .func (.func 45) #[] #[]] 64)) = .ok (.agg #[.int .i64 c, .int .i64 op, .slice ua ul uc]) (wr.alloc (.cells #[.int .i64 7, .func (.func 45) #[] #[]] 64))) := load_all k2 _ _ Tryd.underlying36 rfl (by kernel_rfl)
          have kb : Below w.heap.size w (wr.alloc (.cells #[.int .i64 7, .func (.func 45) #[] #[]] 64)) := HM.out.2.2.2.1.alloc HM.out.2.2.2.1.size _
          have k3 : (wr.alloc (.cells #[.int .i64 7, .func (.func 45) #[] #[]] 64)).heap[w.heap.size]? = some (.cells RV 64 (0, 0)) := (heap_alloc_old _ _ (h := (Array.getElem?_eq_some_iff.1 HM.out.1).1)).trans HM.out.1
          have HCl : Hid (Calls Tryd.prog 45 #[.agg #[.int .i64 b, .int .i64 f, .bool s, .bool k], .agg #[.int .i64 c, .int .i64 op, .slice ua ul uc]] (wr.alloc (.cells #[.int .i64 7, .func (.func 45) #[] #[]] 64)) fun e w' => e = .returned (.bool (brk ⟨b, f, s, k⟩ (okT' x) c 5)) ∧ Below (wr.alloc (.cells #[.int .i64 7, .func (.func 45) #[] #[]] 64)).heap.size (wr.alloc (.cells #[.int .i64 7, .func (.func 45) #[] #[]] 64)) w') := HU5.out _ kb
          have HKK : Hid ((wr.alloc (.cells #[.int .i64 7, .func (.func 45) #[] #[]] 64)).heap[w.heap.size]? = some (.cells RV 64 (0, 0)) ∧ (wr.alloc (.cells #[.int .i64 7, .func (.func 45) #[] #[]] 64)).heap[w.heap.size + 1]? = some (.cells #[.int .i64 b, .int .i64 f, .bool s, .bool k] 59 (0, 0)) ∧ (wr.alloc (.cells #[.int .i64 7, .func (.func 45) #[] #[]] 64)).heap[wo.heap.size]? = some (.cells #[.int .i64 c, .int .i64 op, .slice ua ul uc] 36 (0, 0)) ∧ Below w.heap.size w (wr.alloc (.cells #[.int .i64 7, .func (.func 45) #[] #[]] 64))) := ⟨k3, k1, k2, kb⟩
          have HP : Hid ((wr.alloc (.cells #[.int .i64 7, .func (.func 45) #[] #[]] 64)).heap[wr.heap.size]? = some (.cells #[.int .i64 7, .func (.func 45) #[] #[]] 64 (0, 0))) := heap_alloc_last wr _
          clear k1 k2 k3 kb
          cases hbr : brk ⟨b, f, s, k⟩ (okT' x) c 5 with
          | true =>
            rw [hbr] at HCl
            have HF : Hid (∀ w', Below w.heap.size w w' → WalkR xs w (.panicked [{ v := .iface 28 (.agg #[.int .i64 7, .int .i64 (n : Int)]), recovered := false }]) w') := fun w' g => HBad.out 5 w' (by omega) (fun i hi => HM.out.2.2.2.2 i (by omega)) hbr g
            clear hbr HM
            go_wp2_with (first | (refine wpL_load rfl 64 _ rfl _ _ rfl _ HRl.out ?_) | (refine wpL_load rfl 59 _ rfl _ _ rfl _ HLr.out ?_) | (refine wpL_load rfl 36 _ rfl _ _ rfl _ HLi.out ?_) | fail)
            refine HCl.out.mono ?_
            rintro e w5 ⟨rfl, g5⟩
            have c0 : w5.cell? ⟨wr.heap.size, 0, none⟩ = some (.int .i64 7) := (cell_of_row _ _ _ _ _ _ ((g5.block _ (by simp)).trans HP.out)).trans rfl
            have HFF := HF.out w5 (HKK.out.2.2.2.trans (g5.mono HKK.out.2.2.2.size))
            have HFh : Hid (WalkR xs w (.panicked [{ v := .iface 28 (.agg #[.int .i64 7, .int .i64 (n : Int)]), recovered := false }]) w5) := HFF
            clear HFF g5 HKK HP HF HRl HLr HLi HCl
            go_wp2
            exact ⟨rfl, HFh.out⟩
          | false =>
            rw [hbr] at HCl
            have HNo : Hid (∀ i, i < 5 + 1 → brk ⟨b, f, s, k⟩ (okT' x) c i = false) := fun i hi => by
              by_cases e : i = 5
              · rw [e]; exact hbr
              · exact HM.out.2.2.2.2 i (by omega)
            clear hbr HM
            go_wp2_with (first | (refine wpL_load rfl 64 _ rfl _ _ rfl _ HRl.out ?_) | (refine wpL_load rfl 59 _ rfl _ _ rfl _ HLr.out ?_) | (refine wpL_load rfl 36 _ rfl _ _ rfl _ HLi.out ?_) | fail)
            refine HCl.out.mono ?_
            rintro e w5 ⟨rfl, g5⟩
            have HFh : Hid (w5.heap[w.heap.size]? = some (.cells RV 64 (0, 0)) ∧ w5.heap[w.heap.size + 1]? = some (.cells #[.int .i64 b, .int .i64 f, .bool s, .bool k] 59 (0, 0)) ∧ w5.heap[wo.heap.size]? = some (.cells #[.int .i64 c, .int .i64 op, .slice ua ul uc] 36 (0, 0)) ∧ Below w.heap.size w w5 ∧ ∀ i, i < 5 + 1 → brk ⟨b, f, s, k⟩ (okT' x) c i = false) := ⟨(g5.block _ (Array.getElem?_eq_some_iff.1 HKK.out.1).1).trans HKK.out.1, (g5.block _ (Array.getElem?_eq_some_iff.1 HKK.out.2.1).1).trans HKK.out.2.1, (g5.block _ (Array.getElem?_eq_some_iff.1 HKK.out.2.2.1).1).trans HKK.out.2.2.1, HKK.out.2.2.2.trans (g5.mono HKK.out.2.2.2.size), HNo.out⟩
            clear g5 HKK HP HRl HLr HLi HCl HNo
            go_wp2
            go_roundg (gk - 1)
            case measure => omega
            case rel => exact ⟨5 + 1, by omega, rfl, HFh⟩
        · have HRl : Hid ((loadVar 64 ⟨w.heap.size, 12, none⟩).run Tryd.prog wr = .ok (.agg #[.int .i64 8, .func (.func 46) #[] #[]]) wr) := (load_sub HM.out.1 64 _ 12 2 (by rw [HRV.out]; decide) Tryd.underlying64 rfl (by kernel_rfl)).trans (by rw [HRV.out]; rfl)
          have k1 : (wr.alloc (.cells #[.int .i64 8, .func (.func 46) #[] #[]] 64)).heap[w.heap.size + 1]? = some (.cells #[.int .i64 b, .int .i64 f, .bool s, .bool k] 59 (0, 0)) := (heap_alloc_old _ _ (h := (Array.getElem?_eq_some_iff.1 HM.out.2.1).1)).trans HM.out.2.1
          have k2 : (wr.alloc (.cells #[.int .i64 8, .func (.func 46) #[] #[]] 64)).heap[wo.heap.size]? = some (.cells #[.int .i64 c, .int .i64 op, .slice ua ul uc] 36 (0, 0)) := (heap_alloc_old _ _ (h := (Array.getElem?_eq_some_iff.1 HM.out.2.2.1).1)).trans HM.out.2.2.1
          have HLr : Hid ((loadVar 59 ⟨w.heap.size + 1, 0, none⟩).run Tryd.prog (wr.alloc (.cells #[.int .i64 8, .func (.func 46) #[] #[]] 64)) = .ok (.agg #[.int .i64 b, .int .i64 f, .bool s, .bool k]) (wr.alloc (.cells #[.int .i64 8, .func (.func 46) #[] #[]] 64))) := load_all k1 _ _ Tryd.underlying59 rfl (by kernel_rfl)
          have HLi : Hid ((loadVar 36 ⟨wo.heap.size, 0, none⟩).run Tryd.prog (wr.alloc (.cells #[.int .i64 8, .func (.func 46) #[] #[]] 64)) = .ok (.agg #[.int .i64 c, .int .i64 op, .slice ua ul uc]) (wr.alloc (.cells #[.int .i64 8, .func (.func 46) #[] #[]] 64))) := load_all k2 _ _ Tryd.underlying36 rfl (by kernel_rfl)
          have kb : Below w.heap.size w (wr.alloc (.cells #[.int .i64 8, .func (.func 46) #[] #[]] 64)) := HM.out.2.2.2.1.alloc HM.out.2.2.2.1.size _
          have k3 : (wr.alloc (.cells #[.int .i64 8, .func (.func 46) #[] #[]] 64)).heap[w.heap.size]? = some (.cells RV 64 (0, 0)) := (heap_alloc_old _ _ (h := (Array.getElem?_eq_some_iff.1 HM.out.1).1)).trans HM.out.1
          have HCl : Hid (Calls Tryd.prog 46 #[.agg #[.int .i64 b, .int .i64 f, .bool s, .bool k], .agg #[.int .i64 c, .int .i64 op, .slice ua ul uc]] (wr.alloc (.cells #[.int .i64 8, .func (.func 46) #[] #[]] 64)) fun e w' => e = .returned (.bool (brk ⟨b, f, s, k⟩ (okT' x) c 6)) ∧ Below (wr.alloc (.cells #[.int .i64 8, .func (.func 46) #[] #[]] 64)).heap.size (wr.alloc (.cells #[.int .i64 8, .func (.func 46) #[] #[]] 64)) w') := HU6.out _ kb
          have HKK : Hid ((wr.alloc (.cells #[.int .i64 8, .func (.func 46) #[] #[]] 64)).heap[w.heap.size]? = some (.cells RV 64 (0, 0)) ∧ (wr.alloc (.cells #[.int .i64 8, .func (.func 46) #[] #[]] 64)).heap[w.heap.size + 1]? = some (.cells #[.int .i64 b, .int .i64 f, .bool s, .bool k] 59 (0, 0)) ∧ (wr.alloc (.cells #[.int .i64 8, .func (.func 46) #[] #[]] 64)).heap[wo.heap.size]? = some (.cells #[.int .i64 c, .int .i64 op, .slice ua ul uc] 36 (0, 0)) ∧ Below w.heap.size w (wr.alloc (.cells #[.int .i64 8, .func (.func 46) #[] #[]] 64))) := ⟨k3, k1, k2, kb⟩
          have HP : Hid ((wr.alloc (.cells #[.int .i64 8, .func (.func 46) #[] #[]] 64)).heap[wr.heap.size]? = some (.cells #[.int .i64 8, .func (.func 46) #[] #[]] 64 (0, 0))) := heap_alloc_last wr _
          clear k1 k2 k3 kb
          cases hbr : brk ⟨b, f, s, k⟩ (okT' x) c 6 with
          | true =>
            rw [hbr] at HCl
            have HF : Hid (∀ w', Below w.heap.size w w' → WalkR xs w (.panicked [{ v := .iface 28 (.agg #[.int .i64 8, .int .i64 (n : Int)]), recovered := false }]) w') := fun w' g => HBad.out 6 w' (by omega) (fun i hi => HM.out.2.2.2.2 i (by omega)) hbr g
            clear hbr HM
            go_wp2_with (first | (refine wpL_load rfl 64 _ rfl _ _ rfl _ HRl.out ?_) | (refine wpL_load rfl 59 _ rfl _ _ rfl _ HLr.out ?_) | (refine wpL_load rfl 36 _ rfl _ _ rfl _ HLi.out ?_) | fail)
            refine HCl.out.mono ?_
            rintro e w5 ⟨rfl, g5⟩
            have c0 : w5.cell? ⟨wr.heap.size, 0, none⟩ = some (.int .i64 8) := (cell_of_row _ _ _ _ _ _ ((g5.block _ (by simp)).trans HP.out)).trans rfl
            have HFF := HF.out w5 (HKK.out.2.2.2.trans (g5.mono HKK.out.2.2.2.size))
            have HFh : Hid (WalkR xs w (.panicked [{ v := .iface 28 (.agg #[.int .i64 8, .int .i64 (n : Int)]), recovered := false }]) w5) := HFF
            clear HFF g5 HKK HP HF HRl HLr HLi HCl
            go_wp2
            exact ⟨rfl, HFh.out⟩
          | false =>
            rw [hbr] at HCl
            have HNo : Hid (∀ i, i < 6 + 1 → brk ⟨b, f, s, k⟩ (okT' x) c i = false) := fun i hi => by
              by_cases e : i = 6
              · rw [e]; exact hbr
              · exact HM.out.2.2.2.2 i (by omega)
            clear hbr HM
            go_wp2_with (first | (refine wpL_load rfl 64 _ rfl _ _ rfl _ HRl.out ?_) | (refine wpL_load rfl 59 _ rfl _ _ rfl _ HLr.out ?_) | (refine wpL_load rfl 36 _ rfl _ _ rfl _ HLi.out ?_) | fail)
            refine HCl.out.mono ?_
            rintro e w5 ⟨rfl, g5⟩
            have HFh : Hid (w5.heap[w.heap.size]? = some (.cells RV 64 (0, 0)) ∧ w5.heap[w.heap.size + 1]? = some (.cells #[.int .i64 b, .int .i64 f, .bool s, .bool k] 59 (0, 0)) ∧ w5.heap[wo.heap.size]? = some (.cells #[.int .i64 c, .int .i64 op, .slice ua ul uc] 36 (0, 0)) ∧ Below w.heap.size w w5 ∧ ∀ i, i < 6 + 1 → brk ⟨b, f, s, k⟩ (okT' x) c i = false) := ⟨(g5.block _ (Array.getElem?_eq_some_iff.1 HKK.out.1).1).trans HKK.out.1, (g5.block _ (Array.getElem?_eq_some_iff.1 HKK.out.2.1).1).trans HKK.out.2.1, (g5.block _ (Array.getElem?_eq_some_iff.1 HKK.out.2.2.1).1).trans HKK.out.2.2.1, HKK.out.2.2.2.trans (g5.mono HKK.out.2.2.2.size), HNo.out⟩
            clear g5 HKK HP HRl HLr HLi HCl HNo
            go_wp2
            go_roundg (gk - 1)
            case measure => omega
            case rel => exact ⟨6 + 1, by omega, rfl, HFh⟩
        · have HG := HGo.out HM.out.2.2.2.2
          obtain ⟨nb, Hnb⟩ : ∃ q, Hid (q = bhB b c) := ⟨_, rfl⟩
          obtain ⟨nf, Hnf⟩ : ∃ q, Hid (q = bhF f c) := ⟨_, rfl⟩
          obtain ⟨ns, Hns⟩ : ∃ q, Hid (q = (!decide (c = 11) && (s || decide (c = 10) || decide (c = 7)))) := ⟨_, rfl⟩
          obtain ⟨nk, Hnk⟩ : ∃ q, Hid (q = (!decide (c = 11) && decide (c = 10))) := ⟨_, rfl⟩
          rw [← Hnb.out, ← Hnf.out, ← Hns.out, ← Hnk.out] at HOn HG
          have HGG : Hid (RnOk ⟨nb, nf, ns, nk⟩ ∧ checkT xs = chk (xs.drop (n + 1)) (n + 1) ⟨nb, nf, ns, nk⟩) := by
            have e : nx ⟨b, f, s, k⟩ c = ⟨nb, nf, ns, nk⟩ := by
              obtain ⟨_, _, h3, h4, h5, h6⟩ := HG
              rw [← h3, ← h4, ← h5, ← h6]
            rw [← e]
            exact ⟨HG.1, HG.2.1⟩
          have HLr : Hid ((loadVar 59 ⟨w.heap.size + 1, 0, none⟩).run Tryd.prog wr = .ok (.agg #[.int .i64 b, .int .i64 f, .bool s, .bool k]) wr) := load_all HM.out.2.1 _ _ Tryd.underlying59 rfl (by kernel_rfl)
          have cc : wr.cell? ⟨wo.heap.size, 0, none⟩ = some (.int .i64 c) := (cell_of_row _ _ _ _ _ _ HM.out.2.2.1).trans rfl
          have HKK : Hid (wr.heap[w.heap.size]? = some (.cells RV 64 (0, 0)) ∧ wr.heap[w.heap.size + 1]? = some (.cells #[.int .i64 b, .int .i64 f, .bool s, .bool k] 59 (0, 0)) ∧ Below w.heap.size w wr) := ⟨HM.out.1, HM.out.2.1, HM.out.2.2.2.1⟩
          clear HG HGo HBad HM HOk
          go_wp2_with (first | (refine wpL_load rfl 59 _ rfl _ _ rfl _ HLr.out ?_) | fail)
          refine (HOn.out _).mono ?_
          rintro e w5 ⟨rfl, g5⟩
          have q1 : w5.heap[w.heap.size + 1]? = some (.cells #[.int .i64 b, .int .i64 f, .bool s, .bool k] 59 (0, 0)) := (g5.block _ (Array.getElem?_eq_some_iff.1 HKK.out.2.1).1).trans HKK.out.2.1
          have q0 : w5.heap[w.heap.size]? = some (.cells RV 64 (0, 0)) := (g5.block _ (Array.getElem?_eq_some_iff.1 HKK.out.1).1).trans HKK.out.1
          have qb : Below w.heap.size w w5 := HKK.out.2.2.trans (g5.mono HKK.out.2.2.size)
          have HST : Hid ((storeVar 59 ⟨w.heap.size + 1, 0, none⟩ (.agg #[.int .i64 nb, .int .i64 nf, .bool ns, .bool nk])).run Tryd.prog w5 = .ok () (w5.setRow (w.heap.size + 1) #[.int .i64 nb, .int .i64 nf, .bool ns, .bool nk])) := store_all q1 59 _ rfl (by kernel_rfl) (all_one [.int .i64 nb, .int .i64 nf, .bool ns, .bool nk] (one4 nb nf ns nk))
          have HFh : Hid ((w5.setRow (w.heap.size + 1) #[.int .i64 nb, .int .i64 nf, .bool ns, .bool nk]).heap[w.heap.size]? = some (.cells RV 64 (0, 0)) ∧ (w5.setRow (w.heap.size + 1) #[.int .i64 nb, .int .i64 nf, .bool ns, .bool nk]).heap[w.heap.size + 1]? = some (.cells #[.int .i64 nb, .int .i64 nf, .bool ns, .bool nk] 59 (0, 0)) ∧ RnOk ⟨nb, nf, ns, nk⟩ ∧ checkT xs = chk (xs.drop (n + 1)) (n + 1) ⟨nb, nf, ns, nk⟩ ∧ Below w.heap.size w (w5.setRow (w.heap.size + 1) #[.int .i64 nb, .int .i64 nf, .bool ns, .bool nk])) := ⟨row_beside q0 _ (by omega) _, row_set q1 _, HGG.out.1, HGG.out.2, below_setRow qb (by omega) _⟩
          obtain ⟨w6, Hw6⟩ : ∃ W, Hid (W = w5.setRow (w.heap.size + 1) #[.int .i64 nb, .int .i64 nf, .bool ns, .bool nk]) := ⟨_, rfl⟩
          rw [← Hw6.out] at HST HFh
          clear Hw6 q0 q1 qb g5 HKK HLr cc HGG
          go_wp2_with (first | (refine wpL_store rfl 59 _ _ rfl _ _ rfl _ rfl _ HST.out ?_) | fail)
          go_roundg (go - 1)
          case measure => have := Hgo.out; omega
          case rel => exact ⟨n + 1, nb, nf, ns, nk, by have := Hgo.out; omega, by simp, HFh⟩
    · have i1 : ¬ ((n : Int) < (len : Int)) := by omega
      have HLr : Hid ((loadVar 59 ⟨w.heap.size + 1, 0, none⟩).run Tryd.prog wr = .ok (.agg #[.int .i64 b, .int .i64 f, .bool s, .bool k]) wr) := load_all HS.out.2.1 _ _ Tryd.underlying59 rfl (by kernel_rfl)
      have hE := HS.out.2.2.2.1
      rw [chk_end (by rw [← HL.out]; omega)] at hE
      have hnl : n = len := by omega
      by_cases hb0 : b = 0
      · have hz := HS.out.2.2.1.z hb0
        simp only at hz
        obtain ⟨rfl, rfl, rfl⟩ := hz
        subst hb0
        have HF : Hid (WalkR xs w (.returned (.tuple #[])) wr) := .inl ⟨by rw [hE, if_pos rfl], rfl, HS.out.2.2.2.2⟩
        clear hE hnl HS
        go_wp2_with (first | (refine wpL_load rfl 59 _ rfl _ _ rfl _ HLr.out ?_) | fail)
        go_end0
        exact HF.out
      · have HF : Hid (WalkR xs w (.panicked [{ v := .iface 28 (.agg #[.int .i64 9, .int .i64 (len : Int)]), recovered := false }]) wr) := .inr ⟨9, len, by omega, by rw [hE, if_neg hb0, hnl], rfl, HS.out.2.2.2.2⟩
        clear hE hnl HS
        have hb1 : (b == 0) = false := by simp [hb0]
        go_wp2_with (first | (refine wpL_load rfl 59 _ rfl _ _ rfl _ HLr.out ?_) | fail)
        exact ⟨rfl, HF.out⟩
end Go.Proofs.YthjbgjfihfkpcaaDoor
