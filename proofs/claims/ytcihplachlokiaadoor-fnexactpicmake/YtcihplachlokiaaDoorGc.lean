/- Ladders copied: the laws' to.. functions. -/
import Derived.Test.YtcihplachlokiaaDoorGb
import Derived.Laws.MakeOwn
namespace Go.Proofs.YtcihplachlokiaaDoor
open Go.RowKit
set_option linter.unusedVariables false

section
variable {P : Program}
theorem store_one {w : World} {g : Nat} {t : TypeId} {C : Array Value} (h : w.heap[g]? = some (.cells C t (0, 0))) (ty : TypeId) (o : Nat) (v : Value) (hn : o < C.size)
    (hi : (P.info? ty).map (·.size) = some 1) (hv : v.cells = #[v]) (h1 : v.oneCell' = true) :
    (storeVar ty ⟨g, o, none⟩ v).run P w = .ok () (w.setRow g (putAt C o [v])) := by
  rw [← setCells_row g t [v] o C w h]
  have ht := there_row h o 1 (by omega)
  have := run_storeCells_cells (P := P) g o [v] 0 w (fun j hj => by simpa using (ht j (by simpa using hj)).1) (fun j hj => by simpa using (ht j (by simpa using hj)).2)
    (fun x hx => by simp at hx; rw [hx]; exact h1)
  cases hq : P.info? ty with
  | none => simp [hq] at hi
  | some i =>
    have hs : 1 = i.size := by simp [hq] at hi; omega
    simp only [Nat.add_zero] at this
    simp [storeVar, sizeOf, typeInfo, hq, hv, ← hs, this]
end

theorem keeps_row {lo : Nat} {W : World} {g : Nat} {D : Array Value} (hg : g < lo) : Keeps lo W (W.setRow g D) := Keeps.setRow W g D hg
theorem below_row {w W : World} (b : Below w.heap.size w W) {g : Nat} (hg : w.heap.size ≤ g) {C : Array Value} {t : TypeId} (h : W.heap[g]? = some (.cells C t (0, 0))) (D : Array Value) : Below w.heap.size w (W.setRow g D) := below_setRow b hg D

set_option maxHeartbeats 1000000 in
theorem to_arg (k n p : Int) (w : World) : Calls Tryd.prog 86 #[.agg #[.int .i64 k, .int .i64 n, .int .i64 p]] w fun e w' => e = .returned (.agg #[.int .i64 k, .int .i64 n, .int .i64 p]) ∧ Below w.heap.size w w' := by
  go_enter Tryd.func86, Tryd.ntmps86
  go_wp2
  refine bodyPost_ret (v := .agg #[.int .i64 k, .int .i64 n, .int .i64 p]) (by simp [results, Tryd.results86, go_sem]) rfl ⟨rfl, ?_⟩
  exact ((((Below.refl _ _).alloc (Nat.le_refl _) _).alloc (by simp) _).alloc (by simp <;> omega) _)


theorem make_DevArg (n : Nat) (hn : n ≤ 1048576) (w : World) :
    (Instr.makeSlice 52 (.int .i64 (n : Int)) (.int .i64 (n : Int))).run Tryd.prog w = .ok (.slice (some ⟨w.heap.size, 0, none⟩) n n) (w.alloc (.cells (madeCells #[.int .i64 0, .int .i64 0, .int .i64 0] (n * 3)) 87)) := by
  have hinfo : (Tryd.prog.info? 87).map (fun i => (i.zero, i.size, i.bytes)) = some (some (.agg #[.int .i64 0, .int .i64 0, .int .i64 0]), 3, 24) := by kernel_rfl
  obtain ⟨i, hi, hzz⟩ := Option.map_eq_some_iff.1 hinfo
  simp only [Prod.mk.injEq] at hzz
  obtain ⟨hz, hs, hb⟩ := hzz
  have hr := run_make (P := Tryd.prog) w 52 87 i _ Tryd.underlying52 hi hz .i64 .i64 n n (by omega) (Int.le_refl _) (by rw [hb]; omega) (by omega)
  simp only [Int.toNat_natCast, hs] at hr
  exact hr

set_option maxRecDepth 10000 in
set_option maxHeartbeats 2000000 in
theorem to_args_row (v : Value) (xs : List ArgT) (w : World) (lo : Nat) (hv : RowIs w lo 3 (ArgIs) v xs) (hbig : xs.length ≤ 1048576)
    (HC : Hid (∀ x cs, x ∈ xs → ∀ (W : World), (ArgIs) x cs → Calls Tryd.prog 86 #[.agg cs.toArray] W fun r w' => ∃ ds : List Value, r = .returned (.agg ds.toArray) ∧ ds.length = 3 ∧ (∀ d ∈ ds, d.oneCell' = true) ∧ (ArgIs) x ds ∧ Below W.heap.size W w'))
    (HM : Hid (∀ x cs (l l' : Nat) (W W' : World), Keeps l W W' → l' ≤ l → (ArgIs) x cs → (ArgIs) x cs)) :
    Calls Tryd.prog 73 #[v] w fun r w' => ∃ v', r = .returned v' ∧ RowIs w' w.heap.size 3 (ArgIs) v' xs ∧ Below w.heap.size w w' := by
  obtain ⟨a, cap, rfl, hl, hx⟩ := hv
  have HX : Hid (∀ j x, xs[j]? = some x → ∃ b o cs, a = some ⟨b, o, none⟩ ∧ lo ≤ b ∧ cs.length = 3 ∧ w.rangeAt b (o + j * 3) cs ∧ (ArgIs) x cs) := hx
  have hmk := make_DevArg xs.length hbig
  obtain ⟨len, HL⟩ : ∃ len, Hid (len = xs.length) := ⟨_, rfl⟩
  rw [← HL.out] at hl hmk hbig ⊢
  clear hx
  go_enter Tryd.func73, Tryd.ntmps73
  go_wp2
  go_loopg [4] len (fun g i wr => ∃ n : Nat, n + g = len ∧ i = .int .i64 n ∧ Below w.heap.size w wr ∧ ∃ C : Array Value, wr.heap[w.heap.size]? = some (.cells C 87 (0, 0)) ∧ C.size = len * 3 ∧ Hid (∀ j x, j < n → xs[j]? = some x → ∃ ds : List Value, ds.length = 3 ∧ (∀ i d, ds[i]? = some d → C[j * 3 + i]? = some d) ∧ (ArgIs) x ds))
  case atStart => exact ⟨0, by omega, rfl, (Below.refl _ _).alloc (Nat.le_refl _) _, _, heap_alloc_last w _, size_madeCells _ _, fun j x hj => by omega⟩
  case round =>
    obtain ⟨n, hn, rfl, hb, C, hC, hs, HS⟩ := hrel
    by_cases hlt : n < len
    · have i1 : (n : Int) < (len : Int) := by omega
      have i3 : (0 : Int) ≤ (n : Int) := by omega
      obtain ⟨x, hxn⟩ : ∃ x, xs[n]? = some x := ⟨_, List.getElem?_eq_getElem (by have := HL.out; omega)⟩
      obtain ⟨b, o, cs, rfl, hlo, hcs, hrg, hR⟩ := HX.out n x hxn
      have HB : Hid (Below w.heap.size w wr) := hb
      have HCr : Hid (wr.heap[w.heap.size]? = some (.cells C 87 (0, 0))) := hC
      have HLd : Hid ((loadVar 119 ⟨b, o + n * 3, none⟩).run Tryd.prog wr = .ok (.agg cs.toArray) wr) := run_loadVar_mid wr b (o + n * 3) 119 cs _ (fun i c hi => (Keeps.of_below hb 0) _ _ _ (Nat.zero_le _) (hrg i c hi)) Tryd.underlying119 rfl (by rw [hcs]; kernel_rfl)
      have HCx : Hid (Calls Tryd.prog 86 #[.agg cs.toArray] wr fun r w' => ∃ ds : List Value, r = .returned (.agg ds.toArray) ∧ ds.length = 3 ∧ (∀ d ∈ ds, d.oneCell' = true) ∧ (ArgIs) x ds ∧ Below wr.heap.size wr w') := HC.out x cs (List.mem_of_getElem? hxn) wr (HM.out x cs lo lo w wr (Keeps.of_below hb lo) (Nat.le_refl _) hR)
      have Bl : w.heap.size < wr.heap.size := (Array.getElem?_eq_some_iff.1 hC).1
      clear hb hrg hcs hR hlo hC
      go_wp2_with (first | (refine wpL_load rfl 119 _ rfl _ _ rfl _ HLd.out ?_) | fail)
      refine HCx.out.mono ?_
      rintro r w1 ⟨ds, rfl, hds, hone, hRd, g1⟩
      have hC1 : w1.heap[w.heap.size]? = some (.cells C 87 (0, 0)) := (g1.block _ Bl).trans HCr.out
      have b1 : Below w.heap.size w w1 := HB.out.trans (g1.mono HB.out.size)
      have HST : Hid ((storeVar 87 ⟨w.heap.size, n * 3, none⟩ (.agg ds.toArray)).run Tryd.prog w1 = .ok () (w1.setRow w.heap.size (putAt C (n * 3) ds))) := by
        have h1 : n * 3 + 3 ≤ len * 3 := by omega
        have := store_sub (P := Tryd.prog) hC1 87 (n * 3) ds.toArray (by simp [hds]; omega) (by rw [List.size_toArray, hds]; kernel_rfl) (by simp; exact hone)
        show _ = _
        simpa using this
      clear HCx HLd
      go_wp2_with (first | (refine wpL_store rfl 87 _ _ rfl _ _ rfl _ rfl _ HST.out ?_) | fail)
      go_roundg (gk - 1)
      case measure => omega
      case rel =>
        refine ⟨n + 1, by omega, by simp, below_row b1 (Nat.le_refl _) hC1 _, _, row_set hC1 _, by rw [putAt_size]; exact hs, ?_⟩
        intro j x' hj hx'
        by_cases hjn : j = n
        · subst hjn
          obtain rfl := Option.some.inj (hxn.symm.trans hx')
          refine ⟨ds, hds, fun i d hd => ?_, HM.out _ _ wr.heap.size (w.heap.size + 1) w1 (w1.setRow w.heap.size (putAt C (j * 3) ds)) (keeps_row (by omega)) (by omega) hRd⟩
          have hi : i < 3 := by have := (List.getElem?_eq_some_iff.1 hd).1; omega
          rw [putAt_get _ _ _ (by omega), if_pos (by omega), Nat.add_sub_cancel_left]; exact hd
        · obtain ⟨es, he, hce, hRe⟩ := HS.out j x' (by omega) hx'
          refine ⟨es, he, fun i d hd => ?_, HM.out _ _ (w.heap.size + 1) (w.heap.size + 1) wr (w1.setRow w.heap.size (putAt C (n * 3) ds)) ((Keeps.of_below g1 _).trans (keeps_row (by omega))) (Nat.le_refl _) hRe⟩
          have hi : i < 3 := by have := (List.getElem?_eq_some_iff.1 hd).1; omega
          rw [putAt_get _ _ _ (by omega), if_neg (by omega)]; exact hce i d hd
    · have i1 : ¬ ((n : Int) < (len : Int)) := by omega
      go_wp2
      go_ret
      refine ⟨_, rfl, ⟨some ⟨w.heap.size, 0, none⟩, len, by rw [← HL.out]; rfl, by rw [← HL.out]; omega, fun j x hj => ?_⟩, hb⟩
      have hjl : j < n := by have := (List.getElem?_eq_some_iff.1 hj).1; have := HL.out; omega
      obtain ⟨ds, hds, hcd, hRd⟩ := HS.out j x hjl hj
      refine ⟨w.heap.size, 0, ds, rfl, Nat.le_refl _, hds, fun i d hd => ?_, HM.out _ _ (w.heap.size + 1) w.heap.size wr wr (Keeps.refl _ _) (by omega) hRd⟩
      rw [Nat.zero_add, cell_of_row _ _ _ _ _ _ hC]; exact hcd i d hd


theorem to_args (v : Value) (xs : List ArgT) (w : World) (lo : Nat) (hv : ArgsIs w lo v xs) (hbig : xs.length ≤ 1048576) :
    Calls Tryd.prog 73 #[v] w fun r w' => ∃ v', r = .returned v' ∧ ArgsIs w' w.heap.size v' xs ∧ Below w.heap.size w w' :=
  to_args_row v xs w lo hv hbig (fun x cs _ W h => by
    rw [show cs = _ from h]
    exact (to_arg _ _ _ W).mono fun e w' ⟨h1, h2⟩ => ⟨_, h1, rfl, by intro d hd; simp at hd; rcases hd with rfl | rfl | rfl <;> rfl, rfl, h2⟩) (fun x cs l l' W W' _ _ h => h)

theorem all_one (ds : List Value) (h : ∀ d ∈ ds, d.oneCell' = true) : ds.toArray.all (·.oneCell') = true := by simp; exact h
theorem slice_one {α : Type} {W : World} {lo z : Nat} {R : α → List Value → Prop} {v : Value} {xs : List α} (h : RowIs W lo z R v xs) : v.cells = #[v] := by
  obtain ⟨a, cap, rfl, _⟩ := h; rfl

set_option maxRecDepth 10000 in
set_option maxHeartbeats 2000000 in
theorem to_elem (e : ElemT) (cs : List Value) (w : World) (lo : Nat) (hv : ElemIs w lo e cs) (hbig : wE e ≤ 1048576) :
    Calls Tryd.prog 58 #[.agg cs.toArray] w fun r w' => ∃ ds : List Value, r = .returned (.agg ds.toArray) ∧ ds.length = 2 ∧ (∀ d ∈ ds, d.oneCell' = true) ∧ ElemIs w' w.heap.size e ds ∧ Below w.heap.size w w' := by
  obtain ⟨v, rfl, hr⟩ := hv
  have s1 := hr.one
  obtain ⟨op, Hop⟩ : ∃ op, Hid (op = e.op) := ⟨_, rfl⟩
  have HA : Hid (∀ W, Below w.heap.size w W → Calls Tryd.prog 73 #[v] W fun r w' => ∃ v', r = .returned v' ∧ ArgsIs w' W.heap.size v' e.args ∧ Below W.heap.size W w') := fun W g => to_args v e.args W lo (argsIs_move (Keeps.of_below g lo) (Nat.le_refl _) hr) hbig
  rw [← Hop.out]
  clear hr hbig
  go_enter Tryd.func58, Tryd.ntmps58
  go_wp2_with fail
  have b0 : Below w.heap.size w (((w.alloc (.cells #[.int .i64 op, v] 66)).alloc (.cells #[.int .i64 0, .slice none 0 0] 54)).alloc (.cells #[.int .i64 op, .slice none 0 0] 54)) := (((Below.refl _ _).alloc (Nat.le_refl _) _).alloc (by simp) _).alloc (by simp <;> omega) _
  have hk := rows3 w (.cells #[.int .i64 op, v] 66) (.cells #[.int .i64 0, .slice none 0 0] 54) (.cells #[.int .i64 op, .slice none 0 0] 54)
  have hz : (((w.alloc (.cells #[.int .i64 op, v] 66)).alloc (.cells #[.int .i64 0, .slice none 0 0] 54)).alloc (.cells #[.int .i64 op, .slice none 0 0] 54)).heap.size = w.heap.size + 1 + 1 + 1 := by simp
  generalize (((w.alloc (.cells #[.int .i64 op, v] 66)).alloc (.cells #[.int .i64 0, .slice none 0 0] 54)).alloc (.cells #[.int .i64 op, .slice none 0 0] 54)) = W0 at b0 hk hz ⊢
  refine (HA.out W0 b0).mono ?_
  rintro r w1 ⟨v1, rfl, hv1, g1⟩
  have c1 := (g1.block _ (by omega)).trans hk.2.1
  have c2 := (g1.block _ (by omega)).trans hk.2.2
  have b1 := b0.trans (g1.mono b0.size)
  have HST : Hid ((storeVar 52 ⟨w.heap.size + 1 + 1, 1, none⟩ v1).run Tryd.prog w1 = .ok () (w1.setRow (w.heap.size + 1 + 1) #[.int .i64 op, v1])) := store_one (P := Tryd.prog) c2 52 1 v1 (by simp) (by kernel_rfl) (slice_one hv1) hv1.one
  have s2 := hv1.one
  have HO : Hid (∀ d ∈ [Value.int .i64 op, v1], d.oneCell' = true) := by
    intro d hd
    simp at hd
    rcases hd with rfl | rfl
    · rfl
    · exact s2
  obtain ⟨W2, HW2⟩ : ∃ W, Hid (W = w1.setRow (w.heap.size + 1 + 1) #[.int .i64 op, v1]) := ⟨_, rfl⟩
  have d1 : W2.heap[w.heap.size + 1]? = some (.cells #[.int .i64 0, .slice none 0 0] 54 (0, 0)) := by rw [HW2.out]; exact row_beside c1 _ (by omega) _
  have d2 : W2.heap[w.heap.size + 1 + 1]? = some (.cells #[.int .i64 op, v1] 54 (0, 0)) := by rw [HW2.out]; exact row_set c2 _
  have b2 : Below w.heap.size w W2 := by rw [HW2.out]; exact below_setRow b1 (by omega) _
  have k2 : ArgsIs W2 (w.heap.size + 1 + 1 + 1) v1 e.args := by rw [HW2.out]; exact argsIs_move (keeps_row (by omega)) (by omega) hv1
  have HLD : Hid ((loadVar 54 ⟨w.heap.size + 1 + 1, 0, none⟩).run Tryd.prog W2 = .ok (.agg #[.int .i64 op, v1]) W2) := load_all d2 _ _ Tryd.underlying54 rfl (by kernel_rfl)
  have HS2 : Hid ((storeVar 54 ⟨w.heap.size + 1, 0, none⟩ (.agg #[.int .i64 op, v1])).run Tryd.prog W2 = .ok () (W2.setRow (w.heap.size + 1) #[.int .i64 op, v1])) := store_all d1 54 _ rfl (by kernel_rfl) (all_one [.int .i64 op, v1] HO.out)
  have HR : Hid ((W2.setRow (w.heap.size + 1) #[.int .i64 op, v1]).heap[w.heap.size + 1]? = some (.cells #[.int .i64 op, v1] 54 (0, 0))) := row_set d1 _
  have HB : Hid (Below w.heap.size w (W2.setRow (w.heap.size + 1) #[.int .i64 op, v1])) := below_setRow b2 (by omega) _
  have HK : Hid (ArgsIs (W2.setRow (w.heap.size + 1) #[.int .i64 op, v1]) w.heap.size v1 e.args) := argsIs_move (keeps_row (by omega)) (by omega) k2
  rw [← HW2.out] at HST
  clear HW2 g1 b0 hk hz c1 c2 b1 hv1 k2 d1 d2 b2 HA
  go_wp2_with (first | (refine wpL_store rfl 52 _ _ rfl _ _ rfl _ rfl _ HST.out ?_) | (refine wpL_load rfl 54 _ rfl _ _ rfl _ HLD.out ?_) | (refine wpL_store rfl 54 _ _ rfl _ _ rfl _ rfl _ HS2.out ?_) | (refine ret_row rfl rfl HR.out Tryd.underlying54 rfl (by kernel_rfl) rfl ?_) | fail)
  exact ⟨[.int .i64 op, v1], rfl, rfl, HO.out, ⟨v1, by rw [Hop.out], HK.out⟩, HB.out⟩

end Go.Proofs.YtcihplachlokiaaDoor
