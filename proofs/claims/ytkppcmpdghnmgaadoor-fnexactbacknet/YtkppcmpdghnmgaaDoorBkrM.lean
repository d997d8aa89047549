/- What the law FnExactBackNet asks of lists and nets: copies, marks. -/
import Derived.Test.YtkppcmpdghnmgaaDoorBkpM
import Derived.Test.YtkppcmpdghnmgaaDoorTmaM
import Derived.Test.YtkppcmpdghnmgaaDoorGeM
namespace Go.Proofs.YtkppcmpdghnmgaaDoor
open Go.RowKit
set_option linter.unusedVariables false

set_option maxRecDepth 10000 in
set_option maxHeartbeats 2000000 in
theorem to_insts_rowQ (v : Value) (xs : List InstT) (w : World) (lo : Nat) (hv : RowIs w lo 3 (InstIs w lo) v xs) (hbig : xs.length ≤ 1048576)
    (HC : Hid (∀ x cs, x ∈ xs → ∀ (W : World), (InstIs W lo) x cs → Calls Tryd.prog 18 #[.agg cs.toArray] W fun r w' => ∃ ds : List Value, r = .returned (.agg ds.toArray) ∧ ds.length = 3 ∧ (∀ d ∈ ds, d.oneCell' = true) ∧ (InstIs w' W.heap.size) x ds ∧ BP W.heap.size W w'))
    (HM : Hid (∀ x cs (l l' : Nat) (W W' : World), Keeps l W W' → l' ≤ l → (InstIs W l) x cs → (InstIs W' l') x cs)) :
    Calls Tryd.prog 6 #[v] w fun r w' => ∃ v', r = .returned v' ∧ RowIs w' w.heap.size 3 (InstIs w' w.heap.size) v' xs ∧ BP w.heap.size w w' ∧ ∃ a, v' = .slice a xs.length xs.length := by
  obtain ⟨a, cap, rfl, hl, hx⟩ := hv
  have HX : Hid (∀ j x, xs[j]? = some x → ∃ b o cs, a = some ⟨b, o, none⟩ ∧ lo ≤ b ∧ cs.length = 3 ∧ w.rangeAt b (o + j * 3) cs ∧ (InstIs w lo) x cs) := hx
  have hmk := make_Inst xs.length hbig
  obtain ⟨len, HL⟩ : ∃ len, Hid (len = xs.length) := ⟨_, rfl⟩
  rw [← HL.out] at hl hmk hbig ⊢
  clear hx
  go_enter Tryd.func6, Tryd.ntmps6
  go_wp2
  go_loopg [4] len (fun g i wr => ∃ n : Nat, n + g = len ∧ i = .int .i64 n ∧ BP w.heap.size w wr ∧ ∃ C : Array Value, wr.heap[w.heap.size]? = some (.cells C 46 (0, 0)) ∧ C.size = len * 3 ∧ Hid (∀ j x, j < n → xs[j]? = some x → ∃ ds : List Value, ds.length = 3 ∧ (∀ i d, ds[i]? = some d → C[j * 3 + i]? = some d) ∧ (InstIs wr (w.heap.size + 1)) x ds))
  case atStart => exact ⟨0, by omega, rfl, (BP.refl _ _).alloc (Nat.le_refl _) _, _, heap_alloc_last w _, size_madeCells _ _, fun j x hj => by omega⟩
  case round =>
    obtain ⟨n, hn, rfl, hb, C, hC, hs, HS⟩ := hrel
    by_cases hlt : n < len
    · have i1 : (n : Int) < (len : Int) := by omega
      have i3 : (0 : Int) ≤ (n : Int) := by omega
      obtain ⟨x, hxn⟩ : ∃ x, xs[n]? = some x := ⟨_, List.getElem?_eq_getElem (by have := HL.out; omega)⟩
      obtain ⟨b, o, cs, rfl, hlo, hcs, hrg, hR⟩ := HX.out n x hxn
      have HB : Hid (BP w.heap.size w wr) := hb
      have HCr : Hid (wr.heap[w.heap.size]? = some (.cells C 46 (0, 0))) := hC
      have HLd : Hid ((loadVar 44 ⟨b, o + n * 3, none⟩).run Tryd.prog wr = .ok (.agg cs.toArray) wr) := run_loadVar_mid wr b (o + n * 3) 44 cs _ (fun i c hi => (Keeps.of_bp (B := 0) hb 0) _ _ _ (Nat.zero_le _) (hrg i c hi)) Tryd.underlying44 rfl (by rw [hcs]; kernel_rfl)
      have HCx : Hid (Calls Tryd.prog 18 #[.agg cs.toArray] wr fun r w' => ∃ ds : List Value, r = .returned (.agg ds.toArray) ∧ ds.length = 3 ∧ (∀ d ∈ ds, d.oneCell' = true) ∧ (InstIs w' wr.heap.size) x ds ∧ BP wr.heap.size wr w') := HC.out x cs (List.mem_of_getElem? hxn) wr (HM.out x cs lo lo w wr (Keeps.of_bp (B := 0) hb lo) (Nat.le_refl _) hR)
      have Bl : w.heap.size < wr.heap.size := (Array.getElem?_eq_some_iff.1 hC).1
      clear hb hrg hcs hR hlo hC
      go_wp2_with (first | (refine wpL_load rfl 44 _ rfl _ _ rfl _ HLd.out ?_) | fail)
      refine HCx.out.mono ?_
      rintro r w1 ⟨ds, rfl, hds, hone, hRd, g1⟩
      have hC1 : w1.heap[w.heap.size]? = some (.cells C 46 (0, 0)) := (g1.block _ Bl).trans HCr.out
      have b1 : BP w.heap.size w w1 := HB.out.trans (g1.mono HB.out.size)
      have HST : Hid ((storeVar 46 ⟨w.heap.size, n * 3, none⟩ (.agg ds.toArray)).run Tryd.prog w1 = .ok () (w1.setRow w.heap.size (putAt C (n * 3) ds))) := by
        have h1 : n * 3 + 3 ≤ len * 3 := by omega
        have := store_sub (P := Tryd.prog) hC1 46 (n * 3) ds.toArray (by simp [hds]; omega) (by rw [List.size_toArray, hds]; kernel_rfl) (by simp; exact hone)
        show _ = _
        simpa using this
      clear HCx HLd
      go_wp2_with (first | (refine wpL_store rfl 46 _ _ rfl _ _ rfl _ rfl _ HST.out ?_) | fail)
      go_roundg (gk - 1)
      case measure => omega
      case rel =>
        refine ⟨n + 1, by omega, by simp, bp_row b1 (Nat.le_refl _) hC1 _, _, row_set hC1 _, by rw [putAt_size]; exact hs, ?_⟩
        intro j x' hj hx'
        by_cases hjn : j = n
        · subst hjn
          obtain rfl := Option.some.inj (hxn.symm.trans hx')
          refine ⟨ds, hds, fun i d hd => ?_, HM.out _ _ wr.heap.size (w.heap.size + 1) w1 (w1.setRow w.heap.size (putAt C (j * 3) ds)) (keeps_row (by omega)) (by omega) hRd⟩
          have hi : i < 3 := by have := (List.getElem?_eq_some_iff.1 hd).1; omega
          rw [putAt_get _ _ _ (by omega), if_pos (by omega), Nat.add_sub_cancel_left]; exact hd
        · obtain ⟨es, he, hce, hRe⟩ := HS.out j x' (by omega) hx'
          refine ⟨es, he, fun i d hd => ?_, HM.out _ _ (w.heap.size + 1) (w.heap.size + 1) wr (w1.setRow w.heap.size (putAt C (n * 3) ds)) ((Keeps.of_bp (B := 0) g1 _).trans (keeps_row (by omega))) (Nat.le_refl _) hRe⟩
          have hi : i < 3 := by have := (List.getElem?_eq_some_iff.1 hd).1; omega
          rw [putAt_get _ _ _ (by omega), if_neg (by omega)]; exact hce i d hd
    · have i1 : ¬ ((n : Int) < (len : Int)) := by omega
      go_wp2
      go_ret
      refine ⟨_, rfl, ⟨some ⟨w.heap.size, 0, none⟩, len, by rw [← HL.out]; rfl, by rw [← HL.out]; omega, fun j x hj => ?_⟩, hb, some ⟨w.heap.size, 0, none⟩, rfl⟩
      have hjl : j < n := by have := (List.getElem?_eq_some_iff.1 hj).1; have := HL.out; omega
      obtain ⟨ds, hds, hcd, hRd⟩ := HS.out j x hjl hj
      refine ⟨w.heap.size, 0, ds, rfl, Nat.le_refl _, hds, fun i d hd => ?_, HM.out _ _ (w.heap.size + 1) w.heap.size wr wr (Keeps.refl _ _) (by omega) hRd⟩
      rw [Nat.zero_add, cell_of_row _ _ _ _ _ _ hC]; exact hcd i d hd

theorem to_instsQ (v : Value) (xs : List InstT) (w : World) (lo : Nat) (hv : InstsIs w lo v xs) (hbig : xs.length + (xs.map wI).sum ≤ 1048576) :
    Calls Tryd.prog 6 #[v] w fun r w' => ∃ v', r = .returned v' ∧ InstsIs w' w.heap.size v' xs ∧ BP w.heap.size w w' ∧ ∃ a, v' = .slice a xs.length xs.length :=
  to_insts_rowQ v xs w lo hv (by omega) (fun x cs hx W h => to_instP x cs W lo h (by have := sum_mem wI xs x hx; omega)) (fun x cs l l' W W' k hl h => h.move k hl)

theorem own_same {W W' : World} {base : Nat} {e : TypeId} {size : Nat} {v : Value} {n : Nat} {xs : List Value} (h : W.ownsRow base e size v n xs) (hb : ∀ g, v.ownBlock = some g → W'.heap[g]? = W.heap[g]?) : W'.ownsRow base e size v n xs := by
  refine ⟨h.1, ?_⟩
  rcases h.2 with h | ⟨g1, cap, cur, rfl, e2, e3, e4⟩
  · exact .inl h
  · exact .inr ⟨g1, cap, cur, rfl, e2, (hb g1 rfl).trans e3, e4⟩

theorem RowOwn.same {α : Type} {W W' : World} {base e z : Nat} {R R' : List Nat → α → List Value → Prop} {F : List Nat} {v : Value} {xs : List α} (h : RowOwn W base e z R F v xs) (hb : ∀ g ∈ F, W'.heap[g]? = W.heap[g]?) (hR : ∀ f x c, (∀ g ∈ f, W'.heap[g]? = W.heap[g]?) → R f x c → R' f x c) : RowOwn W' base e z R' F v xs := by
  obtain ⟨cs, F', h1, h2, rfl⟩ := h
  exact ⟨cs, F', h1.move fun f x c hf => hR f x c fun g hg => hb g (List.mem_append_right _ (hf hg)), own_same h2 fun g hg => hb g (List.mem_append_left _ (by rw [hg]; simp)), rfl⟩
theorem NetOwn.same {W W' : World} {base : Nat} : ∀ (n : Nat) (F : List Nat) (t : NetT) (c : List Value), NetOwn W base n F t c → (∀ g ∈ F, W'.heap[g]? = W.heap[g]?) → NetOwn W' base n F t c
  | 0, _, _, _, h, _ => h.elim
  | n + 1, F, .mk k e kids, c, h, hb => by
    obtain ⟨v, v', F1, F2, hc, rfl, h1, h2⟩ := h
    exact ⟨v, v', F1, F2, hc, rfl, RowOwn.same h1 (fun g hg => hb g (List.mem_append_left _ hg)) (fun _ _ _ _ h => h), RowOwn.same h2 (fun g hg => hb g (List.mem_append_right _ hg)) fun f x c hf h => NetOwn.same n f x c h hf⟩

set_option maxHeartbeats 1000000 in
theorem mark_el (op : Int) (v : Value) (hv1 : v.oneCell' = true) (K K' : Int) (w : World) (T : World → Prop) (H : Hid (Calls Tryd.prog 26 #[v, .int .i64 K] (w.alloc (.cells #[.int .i64 op, v] 26)) fun e w' => e = .returned (.int .i64 K') ∧ T w')) :
    Calls Tryd.prog 27 #[.agg #[.int .i64 op, v], .int .i64 K] w fun e w' => e = .returned (.int .i64 K') ∧ T w' := by
  go_enter Tryd.func27, Tryd.ntmps27
  go_wp2_with fail
  refine H.out.mono ?_
  rintro e w1 ⟨rfl, h1⟩
  have H1 : Hid (T w1) := h1
  clear h1
  go_wp2
  go_ret
  exact ⟨rfl, H1.out⟩
set_option maxHeartbeats 1000000 in
theorem held_el (op : Int) (v : Value) (hv1 : v.oneCell' = true) (K K' : Int) (hK : ¬ K' < 0) (w : World) (T : World → Prop) (H : Hid (Calls Tryd.prog 47 #[v, .int .i64 K] (w.alloc (.cells #[.int .i64 op, v] 26)) fun e w' => e = .returned (.int .i64 K') ∧ T w')) :
    Calls Tryd.prog 29 #[.agg #[.int .i64 op, v], .int .i64 K] w fun e w' => e = .returned (.int .i64 K') ∧ T w' := by
  go_enter Tryd.func29, Tryd.ntmps29
  go_wp2_with fail
  refine H.out.mono ?_
  rintro e w1 ⟨rfl, h1⟩
  have H1 : Hid (T w1) := h1
  clear h1
  go_wp2
  go_ret
  exact ⟨rfl, H1.out⟩

set_option maxRecDepth 10000 in
set_option maxHeartbeats 4000000 in
/-- Marks of a net of one's own, put and looked for. -/
theorem mark_net (n lo hi : Nat) (F : List Nat) (t : NetT) (k op : Int) (a1 : Option Addr) (l1 c1 : Nat) (a2 : Option Addr) (l2 c2 : Nat) (w : World) (h : NetOwn w lo (n + 1) F t [.int .i64 k, .int .i64 op, .slice a1 l1 c1, .slice a2 l2 c2]) (hnd : F.Nodup) (hhi : ∀ b ∈ F, b < hi) (hhw : hi ≤ w.heap.size) (hbig : tN (n + 1) t ≤ 4000000) :
    ∃ (K : Int) (Q : World → Prop), 1 ≤ K ∧ Calls Tryd.prog 11 #[.agg #[.int .i64 k, .int .i64 op, .slice a1 l1 c1, .slice a2 l2 c2], .int .i64 1] w (fun e w' => e = .returned (.int .i64 K) ∧ Q w' ∧ WMk lo hi w w') ∧
      (∀ W, Q W → Calls Tryd.prog 12 #[.agg #[.int .i64 k, .int .i64 op, .slice a1 l1 c1, .slice a2 l2 c2], .int .i64 1] W fun e w' => e = .returned (.int .i64 K) ∧ Q w' ∧ Below W.heap.size W w') ∧ ∀ W W', Q W → Below W.heap.size W W' → Q W' := by
  have gA : Below w.heap.size w (w.alloc (.cells #[.int .i64 k, .int .i64 op, .slice a1 l1 c1, .slice a2 l2 c2] 29)) := (Below.refl _ _).alloc (Nat.le_refl _) _
  have h := h.later (Nat.le_refl _) gA
  have hlt := NetOwn.lt _ _ _ _ h
  obtain ⟨k0, e, kids⟩ := t
  obtain ⟨v, v', F1, F2, ec, rfl, hA, hK⟩ := h
  simp only [List.cons.injEq, Value.int.injEq, true_and, and_true] at ec
  obtain ⟨rfl, rfl, rfl, rfl⟩ := ec
  have hn := List.nodup_append.1 hnd
  obtain ⟨L, e1, e2, e3, e4, e5, e6⟩ := Lst.app (args_lst hA) (row_addr (fun b o x => mov_net _ n b o x) (net_each _ lo n) hK hn.2.1) (mov_args _ _ _) (mov_row _ _ _ (fun b o x => mov_net _ n b o x) _ _) (fun q h1 h2 => hn.2.2 _ h1 _ h2 rfl)
  have hL : L.length ≤ 4000000 := by
    rw [e1]
    have : tN (n + 1) (.mk k e kids) = 1 + (1 + (e.args.length * 3 + (kids.map (tN n)).sum)) := rfl
    omega
  have ok : LOk L lo hi (w.alloc (.cells #[.int .i64 k, .int .i64 e.op, .slice a1 l1 c1, .slice a2 l2 c2] 29)) := ⟨e2, fun q hq => by
    rcases e3 q hq with h | h
    · exact ⟨(hlt _ (List.mem_append_left _ h)).1, hhi _ (List.mem_append_left _ h)⟩
    · exact ⟨(hlt _ (List.mem_append_right _ h)).1, hhi _ (List.mem_append_right _ h)⟩, e4, hL⟩
  rw [Nat.zero_add] at e6
  have hex : e.args.length * 3 + (kids.map (tN n)).sum = L.length := e1.symm
  obtain ⟨A3, HA3⟩ : ∃ q, Hid (q = e.args.length * 3) := ⟨_, rfl⟩
  obtain ⟨T3, HT3⟩ : ∃ q, Hid (q = L.length) := ⟨_, rfl⟩
  refine ⟨1 + (T3 : Int), fun W => MkL L L.length lo hi (w.alloc (.cells #[.int .i64 k, .int .i64 e.op, .slice a1 l1 c1, .slice a2 l2 c2] 29)) W, by omega, ?_, ?_, fun W W' hW g => hW.later g⟩
  · have gB : Below (w.alloc (.cells #[.int .i64 k, .int .i64 e.op, .slice a1 l1 c1, .slice a2 l2 c2] 29)).heap.size (w.alloc (.cells #[.int .i64 k, .int .i64 e.op, .slice a1 l1 c1, .slice a2 l2 c2] 29)) ((w.alloc (.cells #[.int .i64 k, .int .i64 e.op, .slice a1 l1 c1, .slice a2 l2 c2] 29)).alloc (.cells #[.int .i64 e.op, .slice a1 l1 c1] 26)) := (Below.refl _ _).alloc (Nat.le_refl _) _
    have H1 : Hid (Calls Tryd.prog 27 #[.agg #[.int .i64 e.op, .slice a1 l1 c1], .int .i64 1] (w.alloc (.cells #[.int .i64 k, .int .i64 e.op, .slice a1 l1 c1, .slice a2 l2 c2] 29)) fun r w' => r = .returned (.int .i64 (1 + (A3 : Int))) ∧ MkL L A3 lo hi (w.alloc (.cells #[.int .i64 k, .int .i64 e.op, .slice a1 l1 c1, .slice a2 l2 c2] 29)) w') := by
      have := mark_el e.op (.slice a1 l1 c1) rfl 1 _ (w.alloc (.cells #[.int .i64 k, .int .i64 e.op, .slice a1 l1 c1, .slice a2 l2 c2] 29)) _ (mark_a L 0 lo hi e.args.length _ (w.alloc (.cells #[.int .i64 k, .int .i64 e.op, .slice a1 l1 c1, .slice a2 l2 c2] 29)) _ ok e5 (by omega) ((MkL.none (WMk.refl _ _ _)).later gB) 1 (by simp))
      rw [Nat.zero_add, ← HA3.out] at this
      exact this
    have H2 : Hid (∀ W, MkL L A3 lo hi (w.alloc (.cells #[.int .i64 k, .int .i64 e.op, .slice a1 l1 c1, .slice a2 l2 c2] 29)) W → Calls Tryd.prog 28 #[.slice a2 l2 c2, .int .i64 (1 + (A3 : Int))] W fun r w' => r = .returned (.int .i64 (1 + (T3 : Int))) ∧ MkL L L.length lo hi (w.alloc (.cells #[.int .i64 k, .int .i64 e.op, .slice a1 l1 c1, .slice a2 l2 c2] 29)) w') := fun W hW => by
      have := mark_n L lo hi (w.alloc (.cells #[.int .i64 k, .int .i64 e.op, .slice a1 l1 c1, .slice a2 l2 c2] 29)) ok n A3 (.slice a2 l2 c2) kids W (1 + (A3 : Int)) (by rw [HA3.out]; exact e6) (by rw [HA3.out]; omega) hW rfl
      rw [HA3.out, hex, ← HT3.out, ← HA3.out] at this
      rw [HT3.out] at this
      rw [HT3.out]
      exact this
    have HC : Hid (∀ p W, MkL L p lo hi (w.alloc (.cells #[.int .i64 k, .int .i64 e.op, .slice a1 l1 c1, .slice a2 l2 c2] 29)) W → W.cell? ⟨w.heap.size, 3, none⟩ = some (.slice a2 l2 c2)) := fun p W hW => by
      have r := (hW.wm.out w.heap.size (by simp) (.inr hhw)).trans (heap_alloc_last w (.cells #[.int .i64 k, .int .i64 e.op, .slice a1 l1 c1, .slice a2 l2 c2] 29))
      exact (cell_of_row _ _ _ _ _ _ r).trans rfl
    have HW : Hid (∀ W, MkL L L.length lo hi (w.alloc (.cells #[.int .i64 k, .int .i64 e.op, .slice a1 l1 c1, .slice a2 l2 c2] 29)) W → WMk lo hi w W) := fun W hW => (WMk.of_below lo hi gA).trans hW.wm
    have hA4 : A3 ≤ 4000000 := by rw [HA3.out]; omega
    have hT4 : T3 ≤ 4000000 := by rw [HT3.out]; exact hL
    clear gB ok e1 e2 e3 e4 e5 e6 hL hA hK hlt hn hnd hhi hhw hbig gA hex
    go_enter Tryd.func11, Tryd.ntmps11
    go_wp2_with fail
    refine H1.out.mono ?_
    rintro r w1 ⟨rfl, hM1⟩
    have c3 := HC.out _ _ hM1
    have HC2 : Hid (Calls Tryd.prog 28 #[.slice a2 l2 c2, .int .i64 (1 + (A3 : Int))] w1 fun r w' => r = .returned (.int .i64 (1 + (T3 : Int))) ∧ MkL L L.length lo hi (w.alloc (.cells #[.int .i64 k, .int .i64 e.op, .slice a1 l1 c1, .slice a2 l2 c2] 29)) w') := H2.out w1 hM1
    clear hM1 H1 H2 HC
    go_wp2_with fail
    refine HC2.out.mono ?_
    rintro r w2 ⟨rfl, hM2⟩
    have HF : Hid (MkL L L.length lo hi (w.alloc (.cells #[.int .i64 k, .int .i64 e.op, .slice a1 l1 c1, .slice a2 l2 c2] 29)) w2 ∧ WMk lo hi w w2) := ⟨hM2, HW.out _ hM2⟩
    clear hM2 HC2 HW c3
    go_wp2
    go_ret
    exact ⟨rfl, HF.out.1, HF.out.2⟩
  · intro W hW
    have gB : Below W.heap.size W ((W.alloc (.cells #[.int .i64 k, .int .i64 e.op, .slice a1 l1 c1, .slice a2 l2 c2] 29)).alloc (.cells #[.int .i64 e.op, .slice a1 l1 c1] 26)) := two_below' _ _
    have hMB := hW.later gB
    have H1 : Hid (Calls Tryd.prog 29 #[.agg #[.int .i64 e.op, .slice a1 l1 c1], .int .i64 1] (W.alloc (.cells #[.int .i64 k, .int .i64 e.op, .slice a1 l1 c1, .slice a2 l2 c2] 29)) fun r w' => r = .returned (.int .i64 (1 + (A3 : Int))) ∧ w' = ((W.alloc (.cells #[.int .i64 k, .int .i64 e.op, .slice a1 l1 c1, .slice a2 l2 c2] 29)).alloc (.cells #[.int .i64 e.op, .slice a1 l1 c1] 26))) := by
      have := held_el e.op (.slice a1 l1 c1) rfl 1 _ (by omega) (W.alloc (.cells #[.int .i64 k, .int .i64 e.op, .slice a1 l1 c1, .slice a2 l2 c2] 29)) _ (held_a L 0 lo hi e.args.length _ (w.alloc (.cells #[.int .i64 k, .int .i64 e.op, .slice a1 l1 c1, .slice a2 l2 c2] 29)) _ hL e5 (by omega) hMB 1 (by simp))
      rw [Nat.zero_add, ← HA3.out] at this
      exact this
    have H2 : Hid (Calls Tryd.prog 30 #[.slice a2 l2 c2, .int .i64 (1 + (A3 : Int))] ((W.alloc (.cells #[.int .i64 k, .int .i64 e.op, .slice a1 l1 c1, .slice a2 l2 c2] 29)).alloc (.cells #[.int .i64 e.op, .slice a1 l1 c1] 26)) fun r w' => r = .returned (.int .i64 (1 + (T3 : Int))) ∧ w' = ((W.alloc (.cells #[.int .i64 k, .int .i64 e.op, .slice a1 l1 c1, .slice a2 l2 c2] 29)).alloc (.cells #[.int .i64 e.op, .slice a1 l1 c1] 26))) := by
      have := held_n L lo hi (w.alloc (.cells #[.int .i64 k, .int .i64 e.op, .slice a1 l1 c1, .slice a2 l2 c2] 29)) ok n A3 (.slice a2 l2 c2) kids _ (1 + (A3 : Int)) (by rw [HA3.out]; exact e6) (by rw [HA3.out]; omega) hMB rfl
      rw [HA3.out, hex, ← HT3.out, ← HA3.out] at this
      exact this
    have HF : Hid (MkL L L.length lo hi (w.alloc (.cells #[.int .i64 k, .int .i64 e.op, .slice a1 l1 c1, .slice a2 l2 c2] 29)) ((W.alloc (.cells #[.int .i64 k, .int .i64 e.op, .slice a1 l1 c1, .slice a2 l2 c2] 29)).alloc (.cells #[.int .i64 e.op, .slice a1 l1 c1] 26)) ∧ Below W.heap.size W ((W.alloc (.cells #[.int .i64 k, .int .i64 e.op, .slice a1 l1 c1, .slice a2 l2 c2] 29)).alloc (.cells #[.int .i64 e.op, .slice a1 l1 c1] 26))) := ⟨hMB, gB⟩
    have i1 : ¬ ((1 + (A3 : Int)) < 0) := by omega
    have i2 : ¬ ((1 + (T3 : Int)) < 0) := by omega
    clear gB hMB hW ok e1 e2 e3 e4 e5 e6 hL hA hK hlt hn hnd hhi hhw hbig gA hex
    go_enter Tryd.func12, Tryd.ntmps12
    go_wp2_with fail
    refine H1.out.mono ?_
    rintro r w1 ⟨rfl, rfl⟩
    go_wp2_with fail
    refine H2.out.mono ?_
    rintro r w2 ⟨rfl, rfl⟩
    go_wp2
    go_ret
    exact ⟨rfl, HF.out.1, HF.out.2⟩
end Go.Proofs.YtkppcmpdghnmgaaDoor
/- The law FnExactBackNet. -/
namespace Go.Proofs.YtkppcmpdghnmgaaDoor
open Go.RowKit
set_option linter.unusedVariables false

theorem bk_gs : ∀ (xs : List InstT) (j : Nat) (s s' : List NetT), GS j s → bk xs s = some s' → GS (j + xs.length) s'
  | [], j, s, s', h, hb => by
    have hb : some s = some s' := hb
    cases hb
    exact h
  | x :: xs, j, s, s', h, hb => by
    unfold bk at hb
    by_cases ho : okX x = true
    · rw [if_pos ho] at hb
      cases hs : stp x.code x.one s with
      | none => rw [hs] at hb; simp at hb
      | some s1 =>
        rw [hs] at hb
        have := bk_gs xs (j + 1) s1 s' (h.step ho hs) hb
        rwa [show j + 1 + xs.length = j + (x :: xs).length by simp; omega] at this
    · rw [if_neg ho] at hb; simp at hb
theorem netB_w {xs : List InstT} {t : NetT} (h : netB xs = some t) (m : Nat) : wN m t ≤ 5000 := by
  unfold netB at h
  split at h
  · rename_i hl
    split at h
    · rename_i u hb
      split at h
      · simp at h
        subst h
        have := ((bk_gs xs 0 [] [u] GS.nil hb).one (t := u) (by simp) m).2
        omega
      · simp at h
    · simp at h
  · simp at h
theorem bn_u {xs : List InstT} {W : World} {e : Ending} {w' : World} {m : Nat} {T : NetT} {bb : Bool} (hm : m = xs.length + 1) (hT : T = (netB xs).getD z0T) (hb : bb = (netB xs).isSome) (h : BnR xs W e w') : ∃ (k1 o1 : Int) (p1 : Option Addr) (pl1 pc1 : Nat) (q1 : Option Addr) (ql1 qc1 : Nat) (F : List Nat), e = .returned (.tuple #[.agg #[.int .i64 k1, .int .i64 o1, .slice p1 pl1 pc1, .slice q1 ql1 qc1], .bool bb]) ∧ NetOwn w' W.heap.size (m + 1) F T [.int .i64 k1, .int .i64 o1, .slice p1 pl1 pc1, .slice q1 ql1 qc1] ∧ F.Nodup ∧ Below W.heap.size W w' := by
  unfold BnR at h
  cases hn : netB xs with
  | none =>
    rw [hn] at h hT hb
    obtain ⟨rfl, g⟩ := h
    have hT' : T = z0T := hT
    have hb' : bb = false := hb
    subst hT' hb'
    exact ⟨0, 0, none, 0, 0, none, 0, 0, [], rfl, ⟨_, _, [], [], rfl, rfl, RowOwn.nil _ _ _ _ _, RowOwn.nil _ _ _ _ _⟩, List.nodup_nil, g⟩
  | some t =>
    rw [hn] at h hT hb
    obtain ⟨k1, o1, p1, pl1, pc1, q1, ql1, qc1, F, rfl, h2, h3, h4⟩ := h
    have hT' : T = t := hT
    have hb' : bb = true := hb
    subst hT' hb' hm
    exact ⟨k1, o1, p1, pl1, pc1, q1, ql1, qc1, F, rfl, h2, h3, h4⟩
theorem tN_bd {xs : List InstT} {T : NetT} (hT : T = (netB xs).getD z0T) (m : Nat) : tN m T ≤ 4000000 := by
  have h1 := tN_w m T
  cases hn : netB xs with
  | none =>
    rw [hn] at hT
    have hT' : T = z0T := hT
    subst hT'
    cases m with
    | zero => exact Nat.zero_le _
    | succ m => show 1 + (1 + (0 * 3 + 0)) ≤ _; omega
  | some t =>
    rw [hn] at hT
    have hT' : T = t := hT
    subst hT'
    have := netB_w hn m
    omega

set_option maxRecDepth 10000 in
set_option maxHeartbeats 8000000 in
theorem law_bnet (v : Value) (w : World) (ha : ∃ xs, InstsIs w 0 v xs) (hT : KT w) (hL : LT w) :
    Calls Tryd.prog 3 #[v] w fun e w' => e = .returned (.bool true) ∧ Below w.heap.size w w' := by
  obtain ⟨xs, hx⟩ := ha
  have HX : Hid (InstsIs w 0 v xs) := hx
  clear hx
  have LX : Hid (∀ W, Below w.heap.size w W → InstsIs W 0 v xs) := fun W g => instsIs_move (Keeps.of_below g 0) (Nat.le_refl _) HX.out
  obtain ⟨p, Hp⟩ : ∃ p, Hid (p = xs.length + (xs.map wI).sum) := ⟨_, rfl⟩
  go_enter Tryd.func3, Tryd.ntmps3
  go_wp2_with fail
  refine (sz_insts 1048576 (by omega) (by omega) v xs w 0 HX.out).mono ?_
  rintro e w1 ⟨rfl, g1⟩
  rw [← Hp.out]
  have b1 : Below w.heap.size w w1 := g1
  clear g1
  by_cases hp : (p : Int) ≤ 1048576
  case neg =>
    rw [szR_no hp]
    go_wp2
    go_ret
    exact ⟨rfl, b1⟩
  rw [szR_yes hp]
  have i1 : ¬ ((1048576 : Int) - p < 0) := by omega
  have HBg : Hid (xs.length + (xs.map wI).sum ≤ 1048576) := (by have := Hp.out; omega : xs.length + (xs.map wI).sum ≤ 1048576)
  obtain ⟨m, Hm⟩ : ∃ m, Hid (m = xs.length + 1) := ⟨_, rfl⟩
  obtain ⟨T, HT⟩ : ∃ T, Hid (T = (netB xs).getD z0T) := ⟨_, rfl⟩
  obtain ⟨bb, Hbb⟩ : ∃ b, Hid (b = (netB xs).isSome) := ⟨_, rfl⟩
  have HTX : Hid (∀ W, Below w.heap.size w W → Calls Tryd.prog 6 #[v] W fun r w' => ∃ v', r = .returned v' ∧ InstsIs w' W.heap.size v' xs ∧ BP W.heap.size W w') := fun W g => (to_instsQ v xs W 0 (LX.out W g) HBg.out).mono fun r w' ⟨v', h1, h2, h3, _⟩ => ⟨v', h1, h2, h3⟩
  have HPS : Hid (∀ W v', InstsIs W 0 v' xs → Calls Tryd.prog 5 #[v'] W fun e w' => ∃ (k1 o1 : Int) (p1 : Option Addr) (pl1 pc1 : Nat) (q1 : Option Addr) (ql1 qc1 : Nat) (F : List Nat), e = .returned (.tuple #[.agg #[.int .i64 k1, .int .i64 o1, .slice p1 pl1 pc1, .slice q1 ql1 qc1], .bool bb]) ∧ NetOwn w' W.heap.size (m + 1) F T [.int .i64 k1, .int .i64 o1, .slice p1 pl1 pc1, .slice q1 ql1 qc1] ∧ F.Nodup ∧ Below W.heap.size W w') := fun W v' h => (bnet_s v' xs W 0 h HBg.out).mono fun e w' hh => bn_u Hm.out HT.out Hbb.out hh
  have HPI : Hid (∀ W v' lo, Below w.heap.size w W → InstsIs W lo v' xs → Calls Tryd.prog 7 #[v'] W fun e w' => ∃ (k1 o1 : Int) (p1 : Option Addr) (pl1 pc1 : Nat) (q1 : Option Addr) (ql1 qc1 : Nat) (F : List Nat), e = .returned (.tuple #[.agg #[.int .i64 k1, .int .i64 o1, .slice p1 pl1 pc1, .slice q1 ql1 qc1], .bool bb]) ∧ NetOwn w' W.heap.size (m + 1) F T [.int .i64 k1, .int .i64 o1, .slice p1 pl1 pc1, .slice q1 ql1 qc1] ∧ F.Nodup ∧ Below W.heap.size W w') := fun W v' lo g h => (bnet_i v' xs W lo h HBg.out (hT.later g) (hL.later g)).mono fun e w' hh => bn_u Hm.out HT.out Hbb.out hh
  have HEq : Hid (∀ W b b' F F' k1 o1 p1 pl1 pc1 q1 ql1 qc1 k2 o2 p2 pl2 pc2 q2 ql2 qc2, NetOwn W b (m + 1) F T [.int .i64 k1, .int .i64 o1, .slice p1 pl1 pc1, .slice q1 ql1 qc1] → NetOwn W b' (m + 1) F' T [.int .i64 k2, .int .i64 o2, .slice p2 pl2 pc2, .slice q2 ql2 qc2] → Calls Tryd.prog 8 #[.agg #[.int .i64 k1, .int .i64 o1, .slice p1 pl1 pc1, .slice q1 ql1 qc1], .agg #[.int .i64 k2, .int .i64 o2, .slice p2 pl2 pc2, .slice q2 ql2 qc2]] W fun r w' => r = .returned (.bool true) ∧ Below W.heap.size W w') := fun W b b' F F' k1 o1 p1 pl1 pc1 q1 ql1 qc1 k2 o2 p2 pl2 pc2 q2 ql2 qc2 h h' => by
    have := eq_net (m + 1) (m + 1) T T [.int .i64 k1, .int .i64 o1, .slice p1 pl1 pc1, .slice q1 ql1 qc1] [.int .i64 k2, .int .i64 o2, .slice p2 pl2 pc2, .slice q2 ql2 qc2] W 0 0 (NetOwn.is (Nat.zero_le _) _ _ _ _ h) (NetOwn.is (Nat.zero_le _) _ _ _ _ h')
    rw [eqB_refl] at this
    exact this
  have HMk : Hid (tN (m + 1) T ≤ 4000000) := tN_bd HT.out _
  have ib : (bb != bb) = false := by cases bb <;> rfl
  clear LX HX Hp hT hL HT Hbb Hm
  go_wp2_with fail
  refine (HTX.out _ b1).mono ?_
  rintro e w2 ⟨t1, rfl, k1', g2⟩
  have b2 := b1.trans (g2.bel.mono b1.size)
  have HPS1 : Hid (Calls Tryd.prog 5 #[t1] w2 fun e w' => ∃ (k1 o1 : Int) (p1 : Option Addr) (pl1 pc1 : Nat) (q1 : Option Addr) (ql1 qc1 : Nat) (F : List Nat), e = .returned (.tuple #[.agg #[.int .i64 k1, .int .i64 o1, .slice p1 pl1 pc1, .slice q1 ql1 qc1], .bool bb]) ∧ NetOwn w' w2.heap.size (m + 1) F T [.int .i64 k1, .int .i64 o1, .slice p1 pl1 pc1, .slice q1 ql1 qc1] ∧ F.Nodup ∧ Below w2.heap.size w2 w') := HPS.out w2 t1 (instsIs_move (Keeps.refl _ _) (Nat.zero_le _) k1')
  clear g2 k1' b1 HPS
  go_wp2_with fail
  refine HPS1.out.mono ?_
  rintro e w3 ⟨k1, o1, p1, pl1, pc1, q1, ql1, qc1, Fw, rfl, hw3, hFw, g3⟩
  have b3 := b2.trans (g3.mono b2.size)
  have b3' : Below w.heap.size w (w3.alloc (.cells #[.int .i64 k1, .int .i64 o1, .slice p1 pl1 pc1, .slice q1 ql1 qc1] 29)) := b3.alloc b3.size _
  have HW3 : Hid (NetOwn (w3.alloc (.cells #[.int .i64 k1, .int .i64 o1, .slice p1 pl1 pc1, .slice q1 ql1 qc1] 29)) w2.heap.size (m + 1) Fw T [.int .i64 k1, .int .i64 o1, .slice p1 pl1 pc1, .slice q1 ql1 qc1] ∧ (w3.alloc (.cells #[.int .i64 k1, .int .i64 o1, .slice p1 pl1 pc1, .slice q1 ql1 qc1] 29)).heap[w3.heap.size]? = some (.cells #[.int .i64 k1, .int .i64 o1, .slice p1 pl1 pc1, .slice q1 ql1 qc1] 29 (0, 0)) ∧ (∀ x ∈ Fw, x < w3.heap.size) ∧ (w3.alloc (.cells #[.int .i64 k1, .int .i64 o1, .slice p1 pl1 pc1, .slice q1 ql1 qc1] 29)).heap.size = w3.heap.size + 1) := ⟨hw3.later (Nat.le_refl _) ((Below.refl _ _).alloc (Nat.le_refl _) _), heap_alloc_last w3 _, fun x hx => (NetOwn.lt _ _ _ _ hw3 x hx).2, by simp⟩
  have HVw : Hid (∀ x ∈ Fw, x < w3.heap.size) := HW3.out.2.2.1
  clear g3 hw3 hFw b2 HPS1 b3
  go_wp2_with fail
  refine (HTX.out _ b3').mono ?_
  rintro e w4 ⟨x0, rfl, k4, g4⟩
  have b4 := b3'.trans (g4.bel.mono b3'.size)
  have hs34 : w3.heap.size + 1 ≤ w4.heap.size := by have := g4.size; have := HW3.out.2.2.2; omega
  have X4 : Hid (InstsIs w4 (w3.alloc (.cells #[.int .i64 k1, .int .i64 o1, .slice p1 pl1 pc1, .slice q1 ql1 qc1] 29)).heap.size x0 xs ∧ Plain (w3.alloc (.cells #[.int .i64 k1, .int .i64 o1, .slice p1 pl1 pc1, .slice q1 ql1 qc1] 29)).heap.size w4) := ⟨k4, g4.plain⟩
  have hw4 := (HW3.out.1.later (Nat.le_refl _) g4.bel)
  have hr4 := (g4.bel.block _ (Array.getElem?_eq_some_iff.1 HW3.out.2.1).1).trans HW3.out.2.1
  have H4 : Hid (NetOwn w4 w2.heap.size (m + 1) Fw T [.int .i64 k1, .int .i64 o1, .slice p1 pl1 pc1, .slice q1 ql1 qc1] ∧ w4.heap[w3.heap.size]? = some (.cells #[.int .i64 k1, .int .i64 o1, .slice p1 pl1 pc1, .slice q1 ql1 qc1] 29 (0, 0)) ∧ Below w.heap.size w (w3.alloc (.cells #[.int .i64 k1, .int .i64 o1, .slice p1 pl1 pc1, .slice q1 ql1 qc1] 29))) := ⟨hw4, hr4, b3'⟩
  have HPI1 : Hid (Calls Tryd.prog 7 #[x0] w4 fun e w' => ∃ (k1 o1 : Int) (p1 : Option Addr) (pl1 pc1 : Nat) (q1 : Option Addr) (ql1 qc1 : Nat) (F : List Nat), e = .returned (.tuple #[.agg #[.int .i64 k1, .int .i64 o1, .slice p1 pl1 pc1, .slice q1 ql1 qc1], .bool bb]) ∧ NetOwn w' w4.heap.size (m + 1) F T [.int .i64 k1, .int .i64 o1, .slice p1 pl1 pc1, .slice q1 ql1 qc1] ∧ F.Nodup ∧ Below w4.heap.size w4 w') := HPI.out w4 x0 _ b4 k4
  clear g4 k4 hw4 hr4 b3'
  go_wp2_with fail
  refine HPI1.out.mono ?_
  rintro e w5 ⟨k2, o2, p2, pl2, pc2, q2, ql2, qc2, Fg, rfl, hg5, hFg, g5⟩
  have b5 := b4.trans (g5.mono b4.size)
  have b5' : Below w.heap.size w (w5.alloc (.cells #[.int .i64 k2, .int .i64 o2, .slice p2 pl2 pc2, .slice q2 ql2 qc2] 29)) := b5.alloc b5.size _
  have g45 : Below w4.heap.size w4 (w5.alloc (.cells #[.int .i64 k2, .int .i64 o2, .slice p2 pl2 pc2, .slice q2 ql2 qc2] 29)) := g5.alloc g5.size _
  have HFg : Hid (Fg.Nodup ∧ (∀ x ∈ Fg, w4.heap.size ≤ x ∧ x < w5.heap.size) ∧ w4.heap.size ≤ w5.heap.size) := ⟨hFg, fun x hx => NetOwn.lt _ _ _ _ hg5 x hx, g5.size⟩
  have S5 : Hid ((w5.alloc (.cells #[.int .i64 k2, .int .i64 o2, .slice p2 pl2 pc2, .slice q2 ql2 qc2] 29)).heap[w3.heap.size]? = some (.cells #[.int .i64 k1, .int .i64 o1, .slice p1 pl1 pc1, .slice q1 ql1 qc1] 29 (0, 0)) ∧ NetOwn (w5.alloc (.cells #[.int .i64 k2, .int .i64 o2, .slice p2 pl2 pc2, .slice q2 ql2 qc2] 29)) w2.heap.size (m + 1) Fw T [.int .i64 k1, .int .i64 o1, .slice p1 pl1 pc1, .slice q1 ql1 qc1] ∧ (w5.alloc (.cells #[.int .i64 k2, .int .i64 o2, .slice p2 pl2 pc2, .slice q2 ql2 qc2] 29)).heap[w5.heap.size]? = some (.cells #[.int .i64 k2, .int .i64 o2, .slice p2 pl2 pc2, .slice q2 ql2 qc2] 29 (0, 0)) ∧ NetOwn (w5.alloc (.cells #[.int .i64 k2, .int .i64 o2, .slice p2 pl2 pc2, .slice q2 ql2 qc2] 29)) w4.heap.size (m + 1) Fg T [.int .i64 k2, .int .i64 o2, .slice p2 pl2 pc2, .slice q2 ql2 qc2]) := ⟨(g45.block _ (Array.getElem?_eq_some_iff.1 H4.out.2.1).1).trans H4.out.2.1, H4.out.1.later (Nat.le_refl _) g45, heap_alloc_last w5 _, hg5.later (Nat.le_refl _) ((Below.refl _ _).alloc (Nat.le_refl _) _)⟩
  have HMV : Hid (∀ W W', Below W.heap.size W W' → (W.heap[w3.heap.size]? = some (.cells #[.int .i64 k1, .int .i64 o1, .slice p1 pl1 pc1, .slice q1 ql1 qc1] 29 (0, 0)) ∧ NetOwn W w2.heap.size (m + 1) Fw T [.int .i64 k1, .int .i64 o1, .slice p1 pl1 pc1, .slice q1 ql1 qc1] ∧ W.heap[w5.heap.size]? = some (.cells #[.int .i64 k2, .int .i64 o2, .slice p2 pl2 pc2, .slice q2 ql2 qc2] 29 (0, 0)) ∧ NetOwn W w4.heap.size (m + 1) Fg T [.int .i64 k2, .int .i64 o2, .slice p2 pl2 pc2, .slice q2 ql2 qc2]) → (W'.heap[w3.heap.size]? = some (.cells #[.int .i64 k1, .int .i64 o1, .slice p1 pl1 pc1, .slice q1 ql1 qc1] 29 (0, 0)) ∧ NetOwn W' w2.heap.size (m + 1) Fw T [.int .i64 k1, .int .i64 o1, .slice p1 pl1 pc1, .slice q1 ql1 qc1] ∧ W'.heap[w5.heap.size]? = some (.cells #[.int .i64 k2, .int .i64 o2, .slice p2 pl2 pc2, .slice q2 ql2 qc2] 29 (0, 0)) ∧ NetOwn W' w4.heap.size (m + 1) Fg T [.int .i64 k2, .int .i64 o2, .slice p2 pl2 pc2, .slice q2 ql2 qc2])) := fun W W' g h => ⟨(g.block _ (Array.getElem?_eq_some_iff.1 h.1).1).trans h.1, h.2.1.later (Nat.le_refl _) g, (g.block _ (Array.getElem?_eq_some_iff.1 h.2.2.1).1).trans h.2.2.1, h.2.2.2.later (Nat.le_refl _) g⟩
  have HG5 : Hid (Below w4.heap.size w4 (w5.alloc (.cells #[.int .i64 k2, .int .i64 o2, .slice p2 pl2 pc2, .slice q2 ql2 qc2] 29)) ∧ Below w.heap.size w (w3.alloc (.cells #[.int .i64 k1, .int .i64 o1, .slice p1 pl1 pc1, .slice q1 ql1 qc1] 29))) := ⟨g45, H4.out.2.2⟩
  have HE5 : Hid (Calls Tryd.prog 8 #[.agg #[.int .i64 k2, .int .i64 o2, .slice p2 pl2 pc2, .slice q2 ql2 qc2], .agg #[.int .i64 k1, .int .i64 o1, .slice p1 pl1 pc1, .slice q1 ql1 qc1]] (w5.alloc (.cells #[.int .i64 k2, .int .i64 o2, .slice p2 pl2 pc2, .slice q2 ql2 qc2] 29)) fun r w' => r = .returned (.bool true) ∧ Below (w5.alloc (.cells #[.int .i64 k2, .int .i64 o2, .slice p2 pl2 pc2, .slice q2 ql2 qc2] 29)).heap.size (w5.alloc (.cells #[.int .i64 k2, .int .i64 o2, .slice p2 pl2 pc2, .slice q2 ql2 qc2] 29)) w') := HEq.out _ _ _ _ _ _ _ _ _ _ _ _ _ _ _ _ _ _ _ _ _ S5.out.2.2.2 S5.out.2.1
  have hl5 : w3.heap.size < w5.heap.size := by have := g5.size; omega
  have HR5 : Hid (w5.heap[w3.heap.size]? = some (.cells #[.int .i64 k1, .int .i64 o1, .slice p1 pl1 pc1, .slice q1 ql1 qc1] 29 (0, 0))) := (g5.block _ (Array.getElem?_eq_some_iff.1 H4.out.2.1).1).trans H4.out.2.1
  have y0 : w5.cell? ⟨w3.heap.size, 0, none⟩ = some (.int .i64 k1) := (cell_of_row _ _ _ _ _ _ HR5.out).trans rfl
  have y1 : w5.cell? ⟨w3.heap.size, 1, none⟩ = some (.int .i64 o1) := (cell_of_row _ _ _ _ _ _ HR5.out).trans rfl
  have y2 : w5.cell? ⟨w3.heap.size, 2, none⟩ = some (.slice p1 pl1 pc1) := (cell_of_row _ _ _ _ _ _ HR5.out).trans rfl
  have y3 : w5.cell? ⟨w3.heap.size, 3, none⟩ = some (.slice q1 ql1 qc1) := (cell_of_row _ _ _ _ _ _ HR5.out).trans rfl
  clear g5 hg5 hFg b4 b5 g45 HPI1 H4 HW3
  go_wp2_with fail
  refine HE5.out.mono ?_
  rintro e w6 ⟨rfl, g6⟩
  have b6 := b5'.trans (g6.mono b5'.size)
  have S6 : Hid (w6.heap[w3.heap.size]? = some (.cells #[.int .i64 k1, .int .i64 o1, .slice p1 pl1 pc1, .slice q1 ql1 qc1] 29 (0, 0)) ∧ NetOwn w6 w2.heap.size (m + 1) Fw T [.int .i64 k1, .int .i64 o1, .slice p1 pl1 pc1, .slice q1 ql1 qc1] ∧ w6.heap[w5.heap.size]? = some (.cells #[.int .i64 k2, .int .i64 o2, .slice p2 pl2 pc2, .slice q2 ql2 qc2] 29 (0, 0)) ∧ NetOwn w6 w4.heap.size (m + 1) Fg T [.int .i64 k2, .int .i64 o2, .slice p2 pl2 pc2, .slice q2 ql2 qc2]) := HMV.out _ _ g6 S5.out
  have HG6 : Hid (Below w4.heap.size w4 w6) := HG5.out.1.trans (g6.mono HG5.out.1.size)
  clear g6 b5' HE5 S5 y0 y1 y2 y3
  go_wp2_with fail
  refine (HTX.out _ b6).mono ?_
  rintro e w7 ⟨x2, rfl, k7, g7⟩
  have b7 := b6.trans (g7.bel.mono b6.size)
  have S7 : Hid (w7.heap[w3.heap.size]? = some (.cells #[.int .i64 k1, .int .i64 o1, .slice p1 pl1 pc1, .slice q1 ql1 qc1] 29 (0, 0)) ∧ NetOwn w7 w2.heap.size (m + 1) Fw T [.int .i64 k1, .int .i64 o1, .slice p1 pl1 pc1, .slice q1 ql1 qc1] ∧ w7.heap[w5.heap.size]? = some (.cells #[.int .i64 k2, .int .i64 o2, .slice p2 pl2 pc2, .slice q2 ql2 qc2] 29 (0, 0)) ∧ NetOwn w7 w4.heap.size (m + 1) Fg T [.int .i64 k2, .int .i64 o2, .slice p2 pl2 pc2, .slice q2 ql2 qc2]) := HMV.out _ _ g7.bel S6.out
  have HG7 : Hid (Below w4.heap.size w4 w7) := HG6.out.trans (g7.bel.mono HG6.out.size)
  have X7 : Hid (InstsIs w7 0 x0 xs) := instsIs_move (Keeps.of_below HG7.out 0) (Nat.zero_le _) (instsIs_move (Keeps.refl _ _) (Nat.zero_le _) X4.out.1)
  have Z7 : Hid (InstsIs w7 0 x2 xs) := instsIs_move (Keeps.refl _ _) (Nat.zero_le _) k7
  clear g7 k7 b6 S6 HG6
  go_wp2_with fail
  refine (eq_insts x0 x2 xs xs w7 0 0 X7.out Z7.out).mono ?_
  rintro e w8 ⟨rfl, g8⟩
  rw [eqB_refl]
  have b8 := b7.trans (g8.mono b7.size)
  have S8 : Hid (w8.heap[w3.heap.size]? = some (.cells #[.int .i64 k1, .int .i64 o1, .slice p1 pl1 pc1, .slice q1 ql1 qc1] 29 (0, 0)) ∧ NetOwn w8 w2.heap.size (m + 1) Fw T [.int .i64 k1, .int .i64 o1, .slice p1 pl1 pc1, .slice q1 ql1 qc1] ∧ w8.heap[w5.heap.size]? = some (.cells #[.int .i64 k2, .int .i64 o2, .slice p2 pl2 pc2, .slice q2 ql2 qc2] 29 (0, 0)) ∧ NetOwn w8 w4.heap.size (m + 1) Fg T [.int .i64 k2, .int .i64 o2, .slice p2 pl2 pc2, .slice q2 ql2 qc2]) := HMV.out _ _ g8 S7.out
  have HG8 : Hid (Below w4.heap.size w4 w8) := HG7.out.trans (g8.mono HG7.out.size)
  clear g8 b7 S7 HG7 X7 Z7
  go_wp2_with fail
  refine (mark_insts_w (w3.alloc (.cells #[.int .i64 k1, .int .i64 o1, .slice p1 pl1 pc1, .slice q1 ql1 qc1] 29)).heap.size w4.heap.size x0 xs w4 w8 X4.out.1 X4.out.2 (Nat.le_refl _) (WMk.of_below _ _ HG8.out) HBg.out).mono ?_
  rintro e w9 ⟨K, rfl, hK0, g9⟩
  have i2 : ¬ (K < 0) := by omega
  have i2d : decide (K < 0) = false := by simp; omega
  have hsz3 : (w3.alloc (.cells #[.int .i64 k1, .int .i64 o1, .slice p1 pl1 pc1, .slice q1 ql1 qc1] 29)).heap.size = w3.heap.size + 1 := by simp
  have b9 : Below w.heap.size w w9 := WMk.below b8 g9 HG5.out.2.size b8.size
  have S9 : Hid (w9.heap[w3.heap.size]? = some (.cells #[.int .i64 k1, .int .i64 o1, .slice p1 pl1 pc1, .slice q1 ql1 qc1] 29 (0, 0)) ∧ NetOwn w9 w2.heap.size (m + 1) Fw T [.int .i64 k1, .int .i64 o1, .slice p1 pl1 pc1, .slice q1 ql1 qc1] ∧ w9.heap[w5.heap.size]? = some (.cells #[.int .i64 k2, .int .i64 o2, .slice p2 pl2 pc2, .slice q2 ql2 qc2] 29 (0, 0)) ∧ NetOwn w9 w4.heap.size (m + 1) Fg T [.int .i64 k2, .int .i64 o2, .slice p2 pl2 pc2, .slice q2 ql2 qc2]) := by
    obtain ⟨q1', q2', q3', q4'⟩ := S8.out
    have hl8 : w4.heap.size ≤ w8.heap.size := HG8.out.size
    refine ⟨(g9.out _ (Array.getElem?_eq_some_iff.1 q1').1 (.inl (by omega))).trans q1', NetOwn.same _ _ _ _ q2' (fun x hx => g9.out x (NetOwn.lt _ _ _ _ q2' x hx).2 (.inl (by have := HVw.out x hx; omega))), (g9.out _ (Array.getElem?_eq_some_iff.1 q3').1 (.inr (by have := HFg.out.2.2; omega))).trans q3', NetOwn.same _ _ _ _ q4' (fun x hx => g9.out x (NetOwn.lt _ _ _ _ q4' x hx).2 (.inr (HFg.out.2.1 x hx).1))⟩
  have HE9 : Hid (Calls Tryd.prog 8 #[.agg #[.int .i64 k2, .int .i64 o2, .slice p2 pl2 pc2, .slice q2 ql2 qc2], .agg #[.int .i64 k1, .int .i64 o1, .slice p1 pl1 pc1, .slice q1 ql1 qc1]] w9 fun r w' => r = .returned (.bool true) ∧ Below w9.heap.size w9 w') := HEq.out _ _ _ _ _ _ _ _ _ _ _ _ _ _ _ _ _ _ _ _ _ S9.out.2.2.2 S9.out.2.1
  have y0 : w9.cell? ⟨w3.heap.size, 0, none⟩ = some (.int .i64 k1) := (cell_of_row _ _ _ _ _ _ S9.out.1).trans rfl
  have y1 : w9.cell? ⟨w3.heap.size, 1, none⟩ = some (.int .i64 o1) := (cell_of_row _ _ _ _ _ _ S9.out.1).trans rfl
  have y2 : w9.cell? ⟨w3.heap.size, 2, none⟩ = some (.slice p1 pl1 pc1) := (cell_of_row _ _ _ _ _ _ S9.out.1).trans rfl
  have y3 : w9.cell? ⟨w3.heap.size, 3, none⟩ = some (.slice q1 ql1 qc1) := (cell_of_row _ _ _ _ _ _ S9.out.1).trans rfl
  have z0 : w9.cell? ⟨w5.heap.size, 0, none⟩ = some (.int .i64 k2) := (cell_of_row _ _ _ _ _ _ S9.out.2.2.1).trans rfl
  have z1 : w9.cell? ⟨w5.heap.size, 1, none⟩ = some (.int .i64 o2) := (cell_of_row _ _ _ _ _ _ S9.out.2.2.1).trans rfl
  have z2 : w9.cell? ⟨w5.heap.size, 2, none⟩ = some (.slice p2 pl2 pc2) := (cell_of_row _ _ _ _ _ _ S9.out.2.2.1).trans rfl
  have z3 : w9.cell? ⟨w5.heap.size, 3, none⟩ = some (.slice q2 ql2 qc2) := (cell_of_row _ _ _ _ _ _ S9.out.2.2.1).trans rfl
  clear g9 b8 S8 HG8 X4
  go_wp2_with fail
  refine HE9.out.mono ?_
  rintro e wa ⟨rfl, ga⟩
  have ba := b9.trans (ga.mono b9.size)
  have Sa : Hid (wa.heap[w3.heap.size]? = some (.cells #[.int .i64 k1, .int .i64 o1, .slice p1 pl1 pc1, .slice q1 ql1 qc1] 29 (0, 0)) ∧ NetOwn wa w2.heap.size (m + 1) Fw T [.int .i64 k1, .int .i64 o1, .slice p1 pl1 pc1, .slice q1 ql1 qc1] ∧ wa.heap[w5.heap.size]? = some (.cells #[.int .i64 k2, .int .i64 o2, .slice p2 pl2 pc2, .slice q2 ql2 qc2] 29 (0, 0)) ∧ NetOwn wa w4.heap.size (m + 1) Fg T [.int .i64 k2, .int .i64 o2, .slice p2 pl2 pc2, .slice q2 ql2 qc2]) := HMV.out _ _ ga S9.out
  have hwa : w5.heap.size < wa.heap.size := (Array.getElem?_eq_some_iff.1 Sa.out.2.2.1).1
  obtain ⟨K2, Q, hK2, hmk, hhd, hql⟩ := mark_net m w4.heap.size w5.heap.size Fg T k2 o2 p2 pl2 pc2 q2 ql2 qc2 wa Sa.out.2.2.2 HFg.out.1 (fun x hx => (HFg.out.2.1 x hx).2) (by omega) HMk.out
  have HMK : Hid (Calls Tryd.prog 11 #[.agg #[.int .i64 k2, .int .i64 o2, .slice p2 pl2 pc2, .slice q2 ql2 qc2], .int .i64 1] wa fun e w' => e = .returned (.int .i64 K2) ∧ Q w' ∧ WMk w4.heap.size w5.heap.size wa w') := hmk
  have HHD : Hid (∀ W, Q W → Calls Tryd.prog 12 #[.agg #[.int .i64 k2, .int .i64 o2, .slice p2 pl2 pc2, .slice q2 ql2 qc2], .int .i64 1] W fun e w' => e = .returned (.int .i64 K2) ∧ Q w' ∧ Below W.heap.size W w') := hhd
  have HQL : Hid (∀ W W', Q W → Below W.heap.size W W' → Q W') := hql
  have HMV2 : Hid (∀ W W', Below W.heap.size W W' → (W.heap[w3.heap.size]? = some (.cells #[.int .i64 k1, .int .i64 o1, .slice p1 pl1 pc1, .slice q1 ql1 qc1] 29 (0, 0)) ∧ NetOwn W w2.heap.size (m + 1) Fw T [.int .i64 k1, .int .i64 o1, .slice p1 pl1 pc1, .slice q1 ql1 qc1] ∧ W.heap[w5.heap.size]? = some (.cells #[.int .i64 k2, .int .i64 o2, .slice p2 pl2 pc2, .slice q2 ql2 qc2] 29 (0, 0)) ∧ Q W) → (W'.heap[w3.heap.size]? = some (.cells #[.int .i64 k1, .int .i64 o1, .slice p1 pl1 pc1, .slice q1 ql1 qc1] 29 (0, 0)) ∧ NetOwn W' w2.heap.size (m + 1) Fw T [.int .i64 k1, .int .i64 o1, .slice p1 pl1 pc1, .slice q1 ql1 qc1] ∧ W'.heap[w5.heap.size]? = some (.cells #[.int .i64 k2, .int .i64 o2, .slice p2 pl2 pc2, .slice q2 ql2 qc2] 29 (0, 0)) ∧ Q W')) := fun W W' g h => ⟨(g.block _ (Array.getElem?_eq_some_iff.1 h.1).1).trans h.1, h.2.1.later (Nat.le_refl _) g, (g.block _ (Array.getElem?_eq_some_iff.1 h.2.2.1).1).trans h.2.2.1, hql _ _ h.2.2.2 g⟩
  have u0 : wa.cell? ⟨w5.heap.size, 0, none⟩ = some (.int .i64 k2) := (cell_of_row _ _ _ _ _ _ Sa.out.2.2.1).trans rfl
  have u1 : wa.cell? ⟨w5.heap.size, 1, none⟩ = some (.int .i64 o2) := (cell_of_row _ _ _ _ _ _ Sa.out.2.2.1).trans rfl
  have u2 : wa.cell? ⟨w5.heap.size, 2, none⟩ = some (.slice p2 pl2 pc2) := (cell_of_row _ _ _ _ _ _ Sa.out.2.2.1).trans rfl
  have u3 : wa.cell? ⟨w5.heap.size, 3, none⟩ = some (.slice q2 ql2 qc2) := (cell_of_row _ _ _ _ _ _ Sa.out.2.2.1).trans rfl
  have i3 : ¬ (K2 < 0) := by omega
  have i4 : (K2 != K2) = false := by simp
  clear ga b9 S9 HE9 hmk hhd hql y0 y1 y2 y3 z0 z1 z2 z3 HMV hwa
  go_wp2_with fail
  refine HMK.out.mono ?_
  rintro e wb ⟨rfl, hQb, gmb⟩
  have bb' : Below w.heap.size w wb := WMk.below ba gmb (by have := HG5.out.1.size; have := HG5.out.2.size; omega) ba.size
  have Sb : Hid (wb.heap[w3.heap.size]? = some (.cells #[.int .i64 k1, .int .i64 o1, .slice p1 pl1 pc1, .slice q1 ql1 qc1] 29 (0, 0)) ∧ NetOwn wb w2.heap.size (m + 1) Fw T [.int .i64 k1, .int .i64 o1, .slice p1 pl1 pc1, .slice q1 ql1 qc1] ∧ wb.heap[w5.heap.size]? = some (.cells #[.int .i64 k2, .int .i64 o2, .slice p2 pl2 pc2, .slice q2 ql2 qc2] 29 (0, 0)) ∧ Q wb) := by
    obtain ⟨q1', q2', q3', q4'⟩ := Sa.out
    refine ⟨(gmb.out _ (Array.getElem?_eq_some_iff.1 q1').1 (.inl (by omega))).trans q1', NetOwn.same _ _ _ _ q2' (fun x hx => gmb.out x (NetOwn.lt _ _ _ _ q2' x hx).2 (.inl (by have := HVw.out x hx; omega))), (gmb.out _ (Array.getElem?_eq_some_iff.1 q3').1 (.inr (Nat.le_refl _))).trans q3', hQb⟩
  have HHb : Hid (Calls Tryd.prog 12 #[.agg #[.int .i64 k2, .int .i64 o2, .slice p2 pl2 pc2, .slice q2 ql2 qc2], .int .i64 1] wb fun e w' => e = .returned (.int .i64 K2) ∧ Q w' ∧ Below wb.heap.size wb w') := HHD.out wb hQb
  have z0 : wb.cell? ⟨w5.heap.size, 0, none⟩ = some (.int .i64 k2) := (cell_of_row _ _ _ _ _ _ Sb.out.2.2.1).trans rfl
  have z1 : wb.cell? ⟨w5.heap.size, 1, none⟩ = some (.int .i64 o2) := (cell_of_row _ _ _ _ _ _ Sb.out.2.2.1).trans rfl
  have z2 : wb.cell? ⟨w5.heap.size, 2, none⟩ = some (.slice p2 pl2 pc2) := (cell_of_row _ _ _ _ _ _ Sb.out.2.2.1).trans rfl
  have z3 : wb.cell? ⟨w5.heap.size, 3, none⟩ = some (.slice q2 ql2 qc2) := (cell_of_row _ _ _ _ _ _ Sb.out.2.2.1).trans rfl
  clear hQb gmb ba Sa HMK u0 u1 u2 u3
  go_wp2_with fail
  refine HHb.out.mono ?_
  rintro e wc ⟨rfl, hQc, gc⟩
  have bc := bb'.trans (gc.mono bb'.size)
  have Sc : Hid (wc.heap[w3.heap.size]? = some (.cells #[.int .i64 k1, .int .i64 o1, .slice p1 pl1 pc1, .slice q1 ql1 qc1] 29 (0, 0)) ∧ NetOwn wc w2.heap.size (m + 1) Fw T [.int .i64 k1, .int .i64 o1, .slice p1 pl1 pc1, .slice q1 ql1 qc1] ∧ wc.heap[w5.heap.size]? = some (.cells #[.int .i64 k2, .int .i64 o2, .slice p2 pl2 pc2, .slice q2 ql2 qc2] 29 (0, 0)) ∧ Q wc) := HMV2.out _ _ gc Sb.out
  clear gc hQc bb' Sb HHb z0 z1 z2 z3
  go_wp2_with fail
  refine (HTX.out _ bc).mono ?_
  rintro e wd ⟨t2, rfl, kd, gd⟩
  have bd := bc.trans (gd.bel.mono bc.size)
  have Sd : Hid (wd.heap[w3.heap.size]? = some (.cells #[.int .i64 k1, .int .i64 o1, .slice p1 pl1 pc1, .slice q1 ql1 qc1] 29 (0, 0)) ∧ NetOwn wd w2.heap.size (m + 1) Fw T [.int .i64 k1, .int .i64 o1, .slice p1 pl1 pc1, .slice q1 ql1 qc1] ∧ wd.heap[w5.heap.size]? = some (.cells #[.int .i64 k2, .int .i64 o2, .slice p2 pl2 pc2, .slice q2 ql2 qc2] 29 (0, 0)) ∧ Q wd) := HMV2.out _ _ gd.bel Sc.out
  have HPd : Hid (Calls Tryd.prog 7 #[t2] wd fun e w' => ∃ (k1 o1 : Int) (p1 : Option Addr) (pl1 pc1 : Nat) (q1 : Option Addr) (ql1 qc1 : Nat) (F : List Nat), e = .returned (.tuple #[.agg #[.int .i64 k1, .int .i64 o1, .slice p1 pl1 pc1, .slice q1 ql1 qc1], .bool bb]) ∧ NetOwn w' wd.heap.size (m + 1) F T [.int .i64 k1, .int .i64 o1, .slice p1 pl1 pc1, .slice q1 ql1 qc1] ∧ F.Nodup ∧ Below wd.heap.size wd w') := HPI.out wd t2 _ bd kd
  clear gd kd bc Sc
  go_wp2_with fail
  refine HPd.out.mono ?_
  rintro e wf ⟨k3, o3, p3, pl3, pc3, q3, ql3, qc3, Fh, rfl, hhf, -, gf⟩
  have bf := bd.trans (gf.mono bd.size)
  have bf' : Below w.heap.size w (wf.alloc (.cells #[.int .i64 k3, .int .i64 o3, .slice p3 pl3 pc3, .slice q3 ql3 qc3] 29)) := bf.alloc bf.size _
  have gdf : Below wd.heap.size wd (wf.alloc (.cells #[.int .i64 k3, .int .i64 o3, .slice p3 pl3 pc3, .slice q3 ql3 qc3] 29)) := gf.alloc gf.size _
  have Sf : Hid ((wf.alloc (.cells #[.int .i64 k3, .int .i64 o3, .slice p3 pl3 pc3, .slice q3 ql3 qc3] 29)).heap[w3.heap.size]? = some (.cells #[.int .i64 k1, .int .i64 o1, .slice p1 pl1 pc1, .slice q1 ql1 qc1] 29 (0, 0)) ∧ NetOwn (wf.alloc (.cells #[.int .i64 k3, .int .i64 o3, .slice p3 pl3 pc3, .slice q3 ql3 qc3] 29)) w2.heap.size (m + 1) Fw T [.int .i64 k1, .int .i64 o1, .slice p1 pl1 pc1, .slice q1 ql1 qc1] ∧ (wf.alloc (.cells #[.int .i64 k3, .int .i64 o3, .slice p3 pl3 pc3, .slice q3 ql3 qc3] 29)).heap[w5.heap.size]? = some (.cells #[.int .i64 k2, .int .i64 o2, .slice p2 pl2 pc2, .slice q2 ql2 qc2] 29 (0, 0)) ∧ Q (wf.alloc (.cells #[.int .i64 k3, .int .i64 o3, .slice p3 pl3 pc3, .slice q3 ql3 qc3] 29))) := HMV2.out _ _ gdf Sd.out
  have Sf0 : Hid (wf.heap[w3.heap.size]? = some (.cells #[.int .i64 k1, .int .i64 o1, .slice p1 pl1 pc1, .slice q1 ql1 qc1] 29 (0, 0)) ∧ NetOwn wf w2.heap.size (m + 1) Fw T [.int .i64 k1, .int .i64 o1, .slice p1 pl1 pc1, .slice q1 ql1 qc1] ∧ wf.heap[w5.heap.size]? = some (.cells #[.int .i64 k2, .int .i64 o2, .slice p2 pl2 pc2, .slice q2 ql2 qc2] 29 (0, 0)) ∧ Q wf) := HMV2.out _ _ gf Sd.out
  have HEf : Hid (Calls Tryd.prog 8 #[.agg #[.int .i64 k3, .int .i64 o3, .slice p3 pl3 pc3, .slice q3 ql3 qc3], .agg #[.int .i64 k1, .int .i64 o1, .slice p1 pl1 pc1, .slice q1 ql1 qc1]] (wf.alloc (.cells #[.int .i64 k3, .int .i64 o3, .slice p3 pl3 pc3, .slice q3 ql3 qc3] 29)) fun r w' => r = .returned (.bool true) ∧ Below (wf.alloc (.cells #[.int .i64 k3, .int .i64 o3, .slice p3 pl3 pc3, .slice q3 ql3 qc3] 29)).heap.size (wf.alloc (.cells #[.int .i64 k3, .int .i64 o3, .slice p3 pl3 pc3, .slice q3 ql3 qc3] 29)) w') := HEq.out _ _ _ _ _ _ _ _ _ _ _ _ _ _ _ _ _ _ _ _ _ (hhf.later (Nat.le_refl _) ((Below.refl _ _).alloc (Nat.le_refl _) _)) Sf.out.2.1
  have hlf : w3.heap.size < wf.heap.size := (Array.getElem?_eq_some_iff.1 Sf0.out.1).1
  have y0 : wf.cell? ⟨w3.heap.size, 0, none⟩ = some (.int .i64 k1) := (cell_of_row _ _ _ _ _ _ Sf0.out.1).trans rfl
  have y1 : wf.cell? ⟨w3.heap.size, 1, none⟩ = some (.int .i64 o1) := (cell_of_row _ _ _ _ _ _ Sf0.out.1).trans rfl
  have y2 : wf.cell? ⟨w3.heap.size, 2, none⟩ = some (.slice p1 pl1 pc1) := (cell_of_row _ _ _ _ _ _ Sf0.out.1).trans rfl
  have y3 : wf.cell? ⟨w3.heap.size, 3, none⟩ = some (.slice q1 ql1 qc1) := (cell_of_row _ _ _ _ _ _ Sf0.out.1).trans rfl
  clear gf hhf bd bf gdf HPd Sd Sf0
  go_wp2_with fail
  refine HEf.out.mono ?_
  rintro e wg ⟨rfl, gg⟩
  have bg := bf'.trans (gg.mono bf'.size)
  have Sg : Hid (wg.heap[w3.heap.size]? = some (.cells #[.int .i64 k1, .int .i64 o1, .slice p1 pl1 pc1, .slice q1 ql1 qc1] 29 (0, 0)) ∧ NetOwn wg w2.heap.size (m + 1) Fw T [.int .i64 k1, .int .i64 o1, .slice p1 pl1 pc1, .slice q1 ql1 qc1] ∧ wg.heap[w5.heap.size]? = some (.cells #[.int .i64 k2, .int .i64 o2, .slice p2 pl2 pc2, .slice q2 ql2 qc2] 29 (0, 0)) ∧ Q wg) := HMV2.out _ _ gg Sf.out
  have HHg : Hid (Calls Tryd.prog 12 #[.agg #[.int .i64 k2, .int .i64 o2, .slice p2 pl2 pc2, .slice q2 ql2 qc2], .int .i64 1] wg fun e w' => e = .returned (.int .i64 K2) ∧ Q w' ∧ Below wg.heap.size wg w') := HHD.out wg Sg.out.2.2.2
  have z0 : wg.cell? ⟨w5.heap.size, 0, none⟩ = some (.int .i64 k2) := (cell_of_row _ _ _ _ _ _ Sg.out.2.2.1).trans rfl
  have z1 : wg.cell? ⟨w5.heap.size, 1, none⟩ = some (.int .i64 o2) := (cell_of_row _ _ _ _ _ _ Sg.out.2.2.1).trans rfl
  have z2 : wg.cell? ⟨w5.heap.size, 2, none⟩ = some (.slice p2 pl2 pc2) := (cell_of_row _ _ _ _ _ _ Sg.out.2.2.1).trans rfl
  have z3 : wg.cell? ⟨w5.heap.size, 3, none⟩ = some (.slice q2 ql2 qc2) := (cell_of_row _ _ _ _ _ _ Sg.out.2.2.1).trans rfl
  clear gg bf' Sf HEf y0 y1 y2 y3
  go_wp2_with fail
  refine HHg.out.mono ?_
  rintro e wh ⟨rfl, -, gh⟩
  have bh := bg.trans (gh.mono bg.size)
  clear gh bg Sg HHg
  go_wp2
  go_ret
  exact ⟨rfl, bh⟩
theorem walk_bnet (v : Value) (w : World) (ha : ∃ xs, InstsIs w 0 v xs) (hL : LT w) (hT : KT w) :
    Calls Tryd.prog 3 #[v] w fun e w' => e = .returned (.bool true) ∧ Below w.heap.size w w' := law_bnet v w ha hT hL
end Go.Proofs.YtkppcmpdghnmgaaDoor
