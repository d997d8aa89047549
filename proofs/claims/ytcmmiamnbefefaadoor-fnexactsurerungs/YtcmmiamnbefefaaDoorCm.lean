/- Lists of lists compared, and the law FnExactSureRungs. -/
import Derived.Test.YtcmmiamnbefefaaDoorCl
namespace Go.Proofs.YtcmmiamnbefefaaDoor
open Go.RowKit
set_option linter.unusedVariables false

set_option maxRecDepth 10000 in
set_option maxHeartbeats 2000000 in
theorem to_insts_rowQ (v : Value) (xs : List InstT) (w : World) (lo : Nat) (hv : RowIs w lo 3 (InstIs w lo) v xs) (hbig : xs.length ≤ 1048576)
    (HC : Hid (∀ x cs, x ∈ xs → ∀ (W : World), (InstIs W lo) x cs → Calls Tryd.prog 29 #[.agg cs.toArray] W fun r w' => ∃ ds : List Value, r = .returned (.agg ds.toArray) ∧ ds.length = 3 ∧ (∀ d ∈ ds, d.oneCell' = true) ∧ (InstIs w' W.heap.size) x ds ∧ BP W.heap.size W w'))
    (HM : Hid (∀ x cs (l l' : Nat) (W W' : World), Keeps l W W' → l' ≤ l → (InstIs W l) x cs → (InstIs W' l') x cs)) :
    Calls Tryd.prog 12 #[v] w fun r w' => ∃ v', r = .returned v' ∧ RowIs w' w.heap.size 3 (InstIs w' w.heap.size) v' xs ∧ BP w.heap.size w w' ∧ ∃ a, v' = .slice a xs.length xs.length := by
  obtain ⟨a, cap, rfl, hl, hx⟩ := hv
  have HX : Hid (∀ j x, xs[j]? = some x → ∃ b o cs, a = some ⟨b, o, none⟩ ∧ lo ≤ b ∧ cs.length = 3 ∧ w.rangeAt b (o + j * 3) cs ∧ (InstIs w lo) x cs) := hx
  have hmk := make_Inst xs.length hbig
  obtain ⟨len, HL⟩ : ∃ len, Hid (len = xs.length) := ⟨_, rfl⟩
  rw [← HL.out] at hl hmk hbig ⊢
  clear hx
  go_enter Tryd.func12, Tryd.ntmps12
  go_wp2
  go_loopg [4] len (fun g i wr => ∃ n : Nat, n + g = len ∧ i = .int .i64 n ∧ BP w.heap.size w wr ∧ ∃ C : Array Value, wr.heap[w.heap.size]? = some (.cells C 50 (0, 0)) ∧ C.size = len * 3 ∧ Hid (∀ j x, j < n → xs[j]? = some x → ∃ ds : List Value, ds.length = 3 ∧ (∀ i d, ds[i]? = some d → C[j * 3 + i]? = some d) ∧ (InstIs wr (w.heap.size + 1)) x ds))
  case atStart => exact ⟨0, by omega, rfl, (BP.refl _ _).alloc (Nat.le_refl _) _, _, heap_alloc_last w _, size_madeCells _ _, fun j x hj => by omega⟩
  case round =>
    obtain ⟨n, hn, rfl, hb, C, hC, hs, HS⟩ := hrel
    by_cases hlt : n < len
    · have i1 : (n : Int) < (len : Int) := by omega
      have i3 : (0 : Int) ≤ (n : Int) := by omega
      obtain ⟨x, hxn⟩ : ∃ x, xs[n]? = some x := ⟨_, List.getElem?_eq_getElem (by have := HL.out; omega)⟩
      obtain ⟨b, o, cs, rfl, hlo, hcs, hrg, hR⟩ := HX.out n x hxn
      have HB : Hid (BP w.heap.size w wr) := hb
      have HCr : Hid (wr.heap[w.heap.size]? = some (.cells C 50 (0, 0))) := hC
      have HLd : Hid ((loadVar 62 ⟨b, o + n * 3, none⟩).run Tryd.prog wr = .ok (.agg cs.toArray) wr) := run_loadVar_mid wr b (o + n * 3) 62 cs _ (fun i c hi => (Keeps.of_bp (B := 0) hb 0) _ _ _ (Nat.zero_le _) (hrg i c hi)) Tryd.underlying62 rfl (by rw [hcs]; kernel_rfl)
      have HCx : Hid (Calls Tryd.prog 29 #[.agg cs.toArray] wr fun r w' => ∃ ds : List Value, r = .returned (.agg ds.toArray) ∧ ds.length = 3 ∧ (∀ d ∈ ds, d.oneCell' = true) ∧ (InstIs w' wr.heap.size) x ds ∧ BP wr.heap.size wr w') := HC.out x cs (List.mem_of_getElem? hxn) wr (HM.out x cs lo lo w wr (Keeps.of_bp (B := 0) hb lo) (Nat.le_refl _) hR)
      have Bl : w.heap.size < wr.heap.size := (Array.getElem?_eq_some_iff.1 hC).1
      clear hb hrg hcs hR hlo hC
      go_wp2_with (first | (refine wpL_load rfl 62 _ rfl _ _ rfl _ HLd.out ?_) | fail)
      refine HCx.out.mono ?_
      rintro r w1 ⟨ds, rfl, hds, hone, hRd, g1⟩
      have hC1 : w1.heap[w.heap.size]? = some (.cells C 50 (0, 0)) := (g1.block _ Bl).trans HCr.out
      have b1 : BP w.heap.size w w1 := HB.out.trans (g1.mono HB.out.size)
      have HST : Hid ((storeVar 50 ⟨w.heap.size, n * 3, none⟩ (.agg ds.toArray)).run Tryd.prog w1 = .ok () (w1.setRow w.heap.size (putAt C (n * 3) ds))) := by
        have h1 : n * 3 + 3 ≤ len * 3 := by omega
        have := store_sub (P := Tryd.prog) hC1 50 (n * 3) ds.toArray (by simp [hds]; omega) (by rw [List.size_toArray, hds]; kernel_rfl) (by simp; exact hone)
        show _ = _
        simpa using this
      clear HCx HLd
      go_wp2_with (first | (refine wpL_store rfl 50 _ _ rfl _ _ rfl _ rfl _ HST.out ?_) | fail)
      go_roundg (gk - 1)
      case measure => omega
      case rel =>
        refine ⟨n + 1, by omega, by simp, bp_row b1 (Nat.le_refl _) hC1 _, _, row_set hC1 _, by rw [putAt_size]; exact hs, ?_⟩
        intro j x' hj hx'
        by_cases hjn : j = n
        · subst hjn
          obtain rfl := Option.some.inj (hxn.symm.trans hx')
          refine ⟨ds, hds, fun i d hd => ?_, HM.out _ _ wr.heap.size (w.heap.size + 1) w1 (w1.setRow w.heap.size (putAt C (j * 3) ds)) (keeps_row (by omega)) (by omega) hRd⟩
          have hi : i < 3 := by have := (List.getElem?_eq_some_iff.1 hd).1; omega
          rw [putAt_get _ _ _ (by omega), if_pos (by omega), Nat.add_sub_cancel_left]; exact hd
        · obtain ⟨es, he, hce, hRe⟩ := HS.out j x' (by omega) hx'
          refine ⟨es, he, fun i d hd => ?_, HM.out _ _ (w.heap.size + 1) (w.heap.size + 1) wr (w1.setRow w.heap.size (putAt C (n * 3) ds)) ((Keeps.of_bp (B := 0) g1 _).trans (keeps_row (by omega))) (Nat.le_refl _) hRe⟩
          have hi : i < 3 := by have := (List.getElem?_eq_some_iff.1 hd).1; omega
          rw [putAt_get _ _ _ (by omega), if_neg (by omega)]; exact hce i d hd
    · have i1 : ¬ ((n : Int) < (len : Int)) := by omega
      go_wp2
      go_ret
      refine ⟨_, rfl, ⟨some ⟨w.heap.size, 0, none⟩, len, by rw [← HL.out]; rfl, by rw [← HL.out]; omega, fun j x hj => ?_⟩, hb, some ⟨w.heap.size, 0, none⟩, rfl⟩
      have hjl : j < n := by have := (List.getElem?_eq_some_iff.1 hj).1; have := HL.out; omega
      obtain ⟨ds, hds, hcd, hRd⟩ := HS.out j x hjl hj
      refine ⟨w.heap.size, 0, ds, rfl, Nat.le_refl _, hds, fun i d hd => ?_, HM.out _ _ (w.heap.size + 1) w.heap.size wr wr (Keeps.refl _ _) (by omega) hRd⟩
      rw [Nat.zero_add, cell_of_row _ _ _ _ _ _ hC]; exact hcd i d hd

theorem to_instsQ (v : Value) (xs : List InstT) (w : World) (lo : Nat) (hv : InstsIs w lo v xs) (hbig : xs.length + (xs.map wI).sum ≤ 1048576) :
    Calls Tryd.prog 12 #[v] w fun r w' => ∃ v', r = .returned v' ∧ InstsIs w' w.heap.size v' xs ∧ BP w.heap.size w w' ∧ ∃ a, v' = .slice a xs.length xs.length :=
  to_insts_rowQ v xs w lo hv (by omega) (fun x cs hx W h => to_instP x cs W lo h (by have := sum_mem wI xs x hx; omega)) (fun x cs l l' W W' k hl h => h.move k hl)

theorem own_same {W W' : World} {base : Nat} {e : TypeId} {size : Nat} {v : Value} {n : Nat} {xs : List Value} (h : W.ownsRow base e size v n xs) (hb : ∀ g, v.ownBlock = some g → W'.heap[g]? = W.heap[g]?) : W'.ownsRow base e size v n xs := by
  refine ⟨h.1, ?_⟩
  rcases h.2 with h | ⟨g1, cap, cur, rfl, e2, e3, e4⟩
  · exact .inl h
  · exact .inr ⟨g1, cap, cur, rfl, e2, (hb g1 rfl).trans e3, e4⟩
theorem row_same {α : Type} {W W' : World} {base e z : Nat} {R R' : List Nat → α → List Value → Prop} {F : List Nat} {v : Value} {xs : List α} (h : RowOwn W base e z R F v xs) (hb : ∀ b ∈ F, W'.heap[b]? = W.heap[b]?) (hR : ∀ f x c, (∀ b ∈ f, W'.heap[b]? = W.heap[b]?) → R f x c → R' f x c) : RowOwn W' base e z R' F v xs := by
  obtain ⟨cs, F', h1, h2, rfl⟩ := h
  exact ⟨cs, F', h1.move fun f x c hf => hR f x c fun b hm => hb b (List.mem_append_right _ (hf hm)), own_same h2 (fun g hg => hb g (by rw [hg]; simp)), rfl⟩
theorem ss_same {W W' : World} {base : Nat} {F : List Nat} {v : Value} {rs : List (List InstT)} (h : SSOwn W base F v rs) (hb : ∀ b ∈ F, W'.heap[b]? = W.heap[b]?) : SSOwn W' base F v rs :=
  row_same h hb fun f x c hf ⟨u, e, k⟩ => ⟨u, e, row_same k hf fun f2 x2 c2 hf2 ⟨u2, e2, k2⟩ => ⟨u2, e2, row_same k2 hf2 fun f3 x3 c3 _ h3 => h3⟩⟩
theorem rg_len : ∀ (xs cur : List InstT) (out : List (List InstT)), (rg xs cur out).length ≤ out.length + xs.length
  | [], cur, out => by simp [rg]
  | x :: xs, cur, out => by
    rw [rg]
    split
    · have := rg_len xs [] (out ++ [cur ++ [x]]); simp at this ⊢; omega
    · have := rg_len xs (cur ++ [x]) out; simp at this ⊢; omega
theorem rg_each : ∀ (xs cur : List InstT) (out : List (List InstT)), ∀ r ∈ rg xs cur out, r ∈ out ∨ r.length ≤ cur.length + xs.length
  | [], cur, out, r, h => by rw [rg] at h; exact .inl h
  | x :: xs, cur, out, r, h => by
    rw [rg] at h
    split at h
    · rcases rg_each xs [] _ r h with h1 | h1
      · rcases List.mem_append.1 h1 with h1 | h1
        · exact .inl h1
        · simp at h1; right; rw [h1]; simp <;> omega
      · right; simp at h1 ⊢; omega
    · rcases rg_each xs _ out r h with h1 | h1
      · exact .inl h1
      · right; simp at h1 ⊢; omega
theorem rg_sum : ∀ (xs cur : List InstT) (out : List (List InstT)), ((rg xs cur out).map tR).sum ≤ (out.map tR).sum + tR cur + tR xs
  | [], cur, out => by simp [rg]; omega
  | x :: xs, cur, out => by
    rw [rg]
    split
    · have := rg_sum xs [] (out ++ [cur ++ [x]]); simp [tR] at this ⊢; omega
    · have := rg_sum xs (cur ++ [x]) out; simp [tR] at this ⊢; omega
theorem tR_le : ∀ (xs : List InstT), tR xs ≤ 3 * (xs.length + (xs.map wI).sum)
  | [] => by simp [tR]
  | x :: xs => by
    have := tR_le xs
    have hw : wI x = x.one.args.length := rfl
    simp [tR, tI] at this ⊢
    omega
theorem rungs_bounds {xs : List InstT} (h : xs.length + (xs.map wI).sum ≤ 1048576) : (rungsT xs).length ≤ 1000 ∧ (∀ r ∈ rungsT xs, r.length ≤ 1000) ∧ ((rungsT xs).map tR).sum ≤ 4000000 := by
  unfold rungsT
  split
  · next hc =>
    have h1 := check_len hc
    have h2 := rg_len xs [] []
    have h3 := rg_sum xs [] []
    have h4 := tR_le xs
    refine ⟨by simp at h2; omega, fun r hr => ?_, by simp [tR] at h3 h4; unfold tR at *; omega⟩
    rcases rg_each xs [] [] r hr with h5 | h5
    · simp at h5
    · simp at h5; omega
  · simp

set_option maxRecDepth 10000 in
set_option maxHeartbeats 4000000 in
theorem eq_ss (v v' : Value) (rs : List (List InstT)) (lo lo' : Nat) (hn : rs.length ≤ 1000) (w : World) (hv : SSIs w lo v rs) (hv' : SSIs w lo' v' rs) :
    Calls Tryd.prog 17 #[v, v'] w fun r w' => r = .returned (.bool true) ∧ Below w.heap.size w w' := by
  obtain ⟨a, cp, rfl, hl, hx⟩ := hv
  obtain ⟨a', cp', rfl, hl', hx'⟩ := hv'
  have HX : Hid (∀ j x, rs[j]? = some x → ∃ b o cs, a = some ⟨b, o, none⟩ ∧ lo ≤ b ∧ cs.length = 1 ∧ w.rangeAt b (o + j * 1) cs ∧ RungIs w lo x cs) := hx
  have HX' : Hid (∀ j x, rs[j]? = some x → ∃ b o cs, a' = some ⟨b, o, none⟩ ∧ lo' ≤ b ∧ cs.length = 1 ∧ w.rangeAt b (o + j * 1) cs ∧ RungIs w lo' x cs) := hx'
  obtain ⟨n, HN⟩ : ∃ n, Hid (n = rs.length) := ⟨_, rfl⟩
  rw [← HN.out] at hn ⊢
  clear hl hl' hx hx'
  go_enter Tryd.func17, Tryd.ntmps17
  go_wp2
  go_loopg [5] n (fun g i wr => ∃ m : Nat, m + g = n ∧ i = .int .i64 m ∧ Hid (Below w.heap.size w wr))
  case atStart => exact ⟨0, by omega, rfl, Below.refl _ _⟩
  case round =>
    obtain ⟨m, hm, rfl, HB⟩ := hrel
    by_cases hlt : m < n
    · have i1 : (m : Int) < (n : Int) := by omega
      have i3 : (0 : Int) ≤ (m : Int) := by omega
      obtain ⟨r, hrn⟩ : ∃ r, rs[m]? = some r := ⟨_, List.getElem?_eq_getElem (by have := HN.out; omega)⟩
      obtain ⟨b, o, cs, rfl, _, hcs, hrg, s, rfl, hI⟩ := HX.out m r hrn
      obtain ⟨b', o', cs', rfl, _, hcs', hrg', s', rfl, hI'⟩ := HX'.out m r hrn
      obtain ⟨sa, sc, rfl, _, _⟩ := id hI
      obtain ⟨sa', sc', rfl, _, _⟩ := id hI'
      have c0 : wr.cell? ⟨b, o + m, none⟩ = some (.slice sa r.length sc) := (Keeps.of_below HB.out 0) _ _ _ (Nat.zero_le _) (by have := hrg 0 _ rfl; simpa using this)
      have c1 : wr.cell? ⟨b', o' + m, none⟩ = some (.slice sa' r.length sc') := (Keeps.of_below HB.out 0) _ _ _ (Nat.zero_le _) (by have := hrg' 0 _ rfl; simpa using this)
      obtain ⟨rl, Hrl⟩ : ∃ l, Hid (l = r.length) := ⟨_, rfl⟩
      have HEq : Hid (∀ W, Below w.heap.size w W → Calls Tryd.prog 14 #[.slice sa rl sc, .slice sa' rl sc'] W fun e w' => e = .returned (.bool true) ∧ Below W.heap.size W w') := fun W g => by
        rw [Hrl.out]
        have := eq_insts (.slice sa r.length sc) (.slice sa' r.length sc') r r W lo lo' (instsIs_move (Keeps.of_below g lo) (Nat.le_refl _) hI) (instsIs_move (Keeps.of_below g lo') (Nat.le_refl _) hI')
        rwa [eqB_refl] at this
      rw [← Hrl.out] at c0 c1
      have cE : ∀ d os, Calls Tryd.prog 14 #[.slice sa rl sc, .slice sa' rl sc'] (Sort.grow (redrawn wr d) os) fun e w'' => e = .returned (.bool true) ∧ ∃ p : Regrown, w'' = Sort.grow (redrawn wr p.d) p.os :=
        fun d os => Calls.regrown_of (HEq.out _ (HB.out.trans ((below_regrown wr d os).mono HB.out.size)))
      have c0r : ∀ d os, (Sort.grow (redrawn wr d) os).cell? ⟨b, o + m, none⟩ = some (.slice sa rl sc) := fun d os => (Keeps.of_below (below_regrown wr d os) 0) _ _ _ (Nat.zero_le _) c0
      have c1r : ∀ d os, (Sort.grow (redrawn wr d) os).cell? ⟨b', o' + m, none⟩ = some (.slice sa' rl sc') := fun d os => (Keeps.of_below (below_regrown wr d os) 0) _ _ _ (Nat.zero_le _) c1
      clear hcs hcs' hrg hrg' hI hI' c0 c1
      go_upto_region 6 with fail
      refine wp_region_quiet_below (by kernel_rfl) (by kernel_rfl) ?_
      repeat (go_big_quiet_step (first | with_reducible exact cE _ _))
      refine wpQuiet_nil ?_
      intro w7 hw'
      have HB7 : Hid (Below w.heap.size w w7) := by
        obtain ⟨⟨dq, osq⟩, rfl⟩ := hw'
        exact HB.out.trans ((below_regrown wr dq osq).mono HB.out.size)
      clear hw' cE c0r c1r
      go_wp2
      go_roundg (gk - 1)
      case measure => omega
      case rel => exact ⟨m + 1, by omega, by simp, HB7⟩
    · have i1 : ¬ ((m : Int) < (n : Int)) := by omega
      go_wp2
      go_ret
      exact ⟨rfl, HB.out⟩
end Go.Proofs.YtcmmiamnbefefaaDoor
