/- How much there is in a ladder: the laws' sz.. functions. -/
import Derived.Test.YtcihplachlokiaaDoorGa
import Derived.Test.YtcihplachlokiaaDoorMa
import Derived.Deep.LoopGhost
import Derived.Laws.MakeOwn
import Derived.Laws.AppendOwn
import Derived.Laws.OwnMore
namespace Go.Proofs.YtcihplachlokiaaDoor
open Go.RowKit
set_option linter.unusedVariables false

def szR (left : Int) (w : Nat) : Int := if (w : Int) ≤ left then left - w else -1
theorem szR_yes {left : Int} {w : Nat} (h : (w : Int) ≤ left) : szR left w = left - w := if_pos h
theorem szR_no {left : Int} {w : Nat} (h : ¬ (w : Int) ≤ left) : szR left w = -1 := if_neg h

set_option maxHeartbeats 1000000 in
theorem sz_args (left : Int) (h0 : 0 ≤ left) (h1 : left ≤ 1048576) (v : Value) (xs : List ArgT) (w : World) (lo : Nat) (hv : ArgsIs w lo v xs) :
    Calls Tryd.prog 72 #[v, .int .i64 left] w fun e w' => e = .returned (.int .i64 (szR left xs.length)) ∧ Below w.heap.size w w' := by
  obtain ⟨a, cap, rfl, hl, _⟩ := hv
  generalize xs.length = len at hl ⊢
  by_cases h : (len : Int) ≤ left
  · rw [szR_yes h]
    have i1 : ¬ (left - (len : Int) < 0) := by omega
    go_enter Tryd.func72, Tryd.ntmps72
    go_wp2
    go_ret
    exact ⟨rfl, Below.refl _ _⟩
  · rw [szR_no h]
    have i1 : left - (len : Int) < 0 := by omega
    go_enter Tryd.func72, Tryd.ntmps72
    go_wp2
    go_ret
    exact ⟨rfl, Below.refl _ _⟩

set_option maxHeartbeats 1000000 in
theorem sz_elem (left : Int) (h0 : 0 ≤ left) (h1 : left ≤ 1048576) (e : ElemT) (cs : List Value) (w : World) (lo : Nat) (hv : ElemIs w lo e cs) :
    Calls Tryd.prog 55 #[.agg cs.toArray, .int .i64 left] w fun r w' => r = .returned (.int .i64 (szR left (wE e))) ∧ Below w.heap.size w w' := by
  obtain ⟨v, rfl, hr⟩ := hv
  have hr' := hr
  obtain ⟨a, cap, rfl, hl, _⟩ := hr'
  have HA : Hid (∀ W, ArgsIs W lo (.slice a e.args.length cap) e.args → Calls Tryd.prog 72 #[.slice a e.args.length cap, .int .i64 left] W fun r w' => r = .returned (.int .i64 (szR left (wE e))) ∧ Below W.heap.size W w') := fun W h => sz_args left h0 h1 _ _ W lo h
  have HR : Hid (ArgsIs w lo (.slice a e.args.length cap) e.args) := hr
  have HK : Hid (0 ≤ szR left (wE e) ∨ szR left (wE e) = -1) := by
    by_cases h : ((wE e : Nat) : Int) ≤ left
    · left; rw [szR_yes h]; omega
    · right; exact szR_no h
  generalize e.args.length = len at HA HR hl ⊢
  generalize szR left (wE e) = R at HA HK ⊢
  clear hr
  go_enter Tryd.func55, Tryd.ntmps55
  go_wp2_with fail
  refine (HA.out _ (argsIs_move (Keeps.alloc _ _) (Nat.le_refl _) HR.out)).mono ?_
  rintro r w1 ⟨rfl, g1⟩
  have b1 : Below w.heap.size w w1 := ((Below.refl _ _).alloc (Nat.le_refl _) _).trans (g1.mono (by simp))
  clear g1
  rcases HK.out with h | rfl
  · have i1 : ¬ (R < 0) := by omega
    go_wp2
    go_ret
    exact ⟨rfl, b1⟩
  · go_wp2
    go_ret
    exact ⟨rfl, b1⟩


theorem szR_two {l : Int} (p q : Nat) (hp : (p : Int) ≤ l) : szR (l - p) q = szR l (p + q) := by
  unfold szR
  by_cases h : (q : Int) ≤ l - p
  · rw [if_pos h, if_pos (by omega)]; omega
  · rw [if_neg h, if_neg (by omega)]
theorem szR_cases (l : Int) (p : Nat) : (0 ≤ szR l p ∨ szR l p = -1) := by
  by_cases h : (p : Int) ≤ l
  · left; rw [szR_yes h]; omega
  · right; exact szR_no h

theorem RowIs.one {α : Type} {W : World} {lo z : Nat} {R : α → List Value → Prop} {v : Value} {xs : List α} (h : RowIs W lo z R v xs) : v.oneCell' = true := by
  obtain ⟨a, cap, rfl, _⟩ := h; rfl

theorem NetIs.cells {W : World} {lo : Nat} : ∀ {m : Nat} {t : NetT} {cs : List Value}, NetIs W lo m t cs → ∃ n0 n1 n2 n3, cs = [n0, n1, n2, n3] ∧ n0.oneCell' = true ∧ n1.oneCell' = true ∧ n2.oneCell' = true ∧ n3.oneCell' = true
  | 0, _, _, h => h.elim
  | m + 1, .mk k e kids, cs, h => by
    obtain ⟨v, v', rfl, ha, hk⟩ := h
    exact ⟨_, _, _, _, rfl, rfl, rfl, ha.one, hk.one⟩

end Go.Proofs.YtcihplachlokiaaDoor
/- Ladders copied: the laws' to.. functions. -/
namespace Go.Proofs.YtcihplachlokiaaDoor
open Go.RowKit
set_option linter.unusedVariables false

section
variable {P : Program}
theorem store_one {w : World} {g : Nat} {t : TypeId} {C : Array Value} (h : w.heap[g]? = some (.cells C t (0, 0))) (ty : TypeId) (o : Nat) (v : Value) (hn : o < C.size)
    (hi : (P.info? ty).map (·.size) = some 1) (hv : v.cells = #[v]) (h1 : v.oneCell' = true) :
    (storeVar ty ⟨g, o, none⟩ v).run P w = .ok () (w.setRow g (putAt C o [v])) := by
  rw [← setCells_row g t [v] o C w h]
  have ht := there_row h o 1 (by omega)
  have := run_storeCells_cells (P := P) g o [v] 0 w (fun j hj => by simpa using (ht j (by simpa using hj)).1) (fun j hj => by simpa using (ht j (by simpa using hj)).2)
    (fun x hx => by simp at hx; rw [hx]; exact h1)
  cases hq : P.info? ty with
  | none => simp [hq] at hi
  | some i =>
    have hs : 1 = i.size := by simp [hq] at hi; omega
    simp only [Nat.add_zero] at this
    simp [storeVar, sizeOf, typeInfo, hq, hv, ← hs, this]
end

theorem keeps_row {lo : Nat} {W : World} {g : Nat} {D : Array Value} (hg : g < lo) : Keeps lo W (W.setRow g D) := Keeps.setRow W g D hg
theorem below_row {w W : World} (b : Below w.heap.size w W) {g : Nat} (hg : w.heap.size ≤ g) {C : Array Value} {t : TypeId} (h : W.heap[g]? = some (.cells C t (0, 0))) (D : Array Value) : Below w.heap.size w (W.setRow g D) := below_setRow b hg D

set_option maxHeartbeats 1000000 in
theorem to_arg (k n p : Int) (w : World) : Calls Tryd.prog 86 #[.agg #[.int .i64 k, .int .i64 n, .int .i64 p]] w fun e w' => e = .returned (.agg #[.int .i64 k, .int .i64 n, .int .i64 p]) ∧ Below w.heap.size w w' := by
  go_enter Tryd.func86, Tryd.ntmps86
  go_wp2
  refine bodyPost_ret (v := .agg #[.int .i64 k, .int .i64 n, .int .i64 p]) (by simp [results, Tryd.results86, go_sem]) rfl ⟨rfl, ?_⟩
  exact ((((Below.refl _ _).alloc (Nat.le_refl _) _).alloc (by simp) _).alloc (by simp <;> omega) _)


theorem make_DevArg (n : Nat) (hn : n ≤ 1048576) (w : World) :
    (Instr.makeSlice 52 (.int .i64 (n : Int)) (.int .i64 (n : Int))).run Tryd.prog w = .ok (.slice (some ⟨w.heap.size, 0, none⟩) n n) (w.alloc (.cells (madeCells #[.int .i64 0, .int .i64 0, .int .i64 0] (n * 3)) 87)) := by
  have hinfo : (Tryd.prog.info? 87).map (fun i => (i.zero, i.size, i.bytes)) = some (some (.agg #[.int .i64 0, .int .i64 0, .int .i64 0]), 3, 24) := by kernel_rfl
  obtain ⟨i, hi, hzz⟩ := Option.map_eq_some_iff.1 hinfo
  simp only [Prod.mk.injEq] at hzz
  obtain ⟨hz, hs, hb⟩ := hzz
  have hr := run_make (P := Tryd.prog) w 52 87 i _ Tryd.underlying52 hi hz .i64 .i64 n n (by omega) (Int.le_refl _) (by rw [hb]; omega) (by omega)
  simp only [Int.toNat_natCast, hs] at hr
  exact hr

set_option maxRecDepth 10000 in
set_option maxHeartbeats 2000000 in
theorem to_args_row (v : Value) (xs : List ArgT) (w : World) (lo : Nat) (hv : RowIs w lo 3 (ArgIs) v xs) (hbig : xs.length ≤ 1048576)
    (HC : Hid (∀ x cs, x ∈ xs → ∀ (W : World), (ArgIs) x cs → Calls Tryd.prog 86 #[.agg cs.toArray] W fun r w' => ∃ ds : List Value, r = .returned (.agg ds.toArray) ∧ ds.length = 3 ∧ (∀ d ∈ ds, d.oneCell' = true) ∧ (ArgIs) x ds ∧ Below W.heap.size W w'))
    (HM : Hid (∀ x cs (l l' : Nat) (W W' : World), Keeps l W W' → l' ≤ l → (ArgIs) x cs → (ArgIs) x cs)) :
    Calls Tryd.prog 73 #[v] w fun r w' => ∃ v', r = .returned v' ∧ RowIs w' w.heap.size 3 (ArgIs) v' xs ∧ Below w.heap.size w w' := by
  obtain ⟨a, cap, rfl, hl, hx⟩ := hv
  have HX : Hid (∀ j x, xs[j]? = some x → ∃ b o cs, a = some ⟨b, o, none⟩ ∧ lo ≤ b ∧ cs.length = 3 ∧ w.rangeAt b (o + j * 3) cs ∧ (ArgIs) x cs) := hx
  have hmk := make_DevArg xs.length hbig
  obtain ⟨len, HL⟩ : ∃ len, Hid (len = xs.length) := ⟨_, rfl⟩
  rw [← HL.out] at hl hmk hbig ⊢
  clear hx
  go_enter Tryd.func73, Tryd.ntmps73
  go_wp2
  go_loopg [4] len (fun g i wr => ∃ n : Nat, n + g = len ∧ i = .int .i64 n ∧ Below w.heap.size w wr ∧ ∃ C : Array Value, wr.heap[w.heap.size]? = some (.cells C 87 (0, 0)) ∧ C.size = len * 3 ∧ Hid (∀ j x, j < n → xs[j]? = some x → ∃ ds : List Value, ds.length = 3 ∧ (∀ i d, ds[i]? = some d → C[j * 3 + i]? = some d) ∧ (ArgIs) x ds))
  case atStart => exact ⟨0, by omega, rfl, (Below.refl _ _).alloc (Nat.le_refl _) _, _, heap_alloc_last w _, size_madeCells _ _, fun j x hj => by omega⟩
  case round =>
    obtain ⟨n, hn, rfl, hb, C, hC, hs, HS⟩ := hrel
    by_cases hlt : n < len
    · have i1 : (n : Int) < (len : Int) := by omega
      have i3 : (0 : Int) ≤ (n : Int) := by omega
      obtain ⟨x, hxn⟩ : ∃ x, xs[n]? = some x := ⟨_, List.getElem?_eq_getElem (by have := HL.out; omega)⟩
      obtain ⟨b, o, cs, rfl, hlo, hcs, hrg, hR⟩ := HX.out n x hxn
      have HB : Hid (Below w.heap.size w wr) := hb
      have HCr : Hid (wr.heap[w.heap.size]? = some (.cells C 87 (0, 0))) := hC
      have HLd : Hid ((loadVar 119 ⟨b, o + n * 3, none⟩).run Tryd.prog wr = .ok (.agg cs.toArray) wr) := run_loadVar_mid wr b (o + n * 3) 119 cs _ (fun i c hi => (Keeps.of_below hb 0) _ _ _ (Nat.zero_le _) (hrg i c hi)) Tryd.underlying119 rfl (by rw [hcs]; kernel_rfl)
      have HCx : Hid (Calls Tryd.prog 86 #[.agg cs.toArray] wr fun r w' => ∃ ds : List Value, r = .returned (.agg ds.toArray) ∧ ds.length = 3 ∧ (∀ d ∈ ds, d.oneCell' = true) ∧ (ArgIs) x ds ∧ Below wr.heap.size wr w') := HC.out x cs (List.mem_of_getElem? hxn) wr (HM.out x cs lo lo w wr (Keeps.of_below hb lo) (Nat.le_refl _) hR)
      have Bl : w.heap.size < wr.heap.size := (Array.getElem?_eq_some_iff.1 hC).1
      clear hb hrg hcs hR hlo hC
      go_wp2_with (first | (refine wpL_load rfl 119 _ rfl _ _ rfl _ HLd.out ?_) | fail)
      refine HCx.out.mono ?_
      rintro r w1 ⟨ds, rfl, hds, hone, hRd, g1⟩
      have hC1 : w1.heap[w.heap.size]? = some (.cells C 87 (0, 0)) := (g1.block _ Bl).trans HCr.out
      have b1 : Below w.heap.size w w1 := HB.out.trans (g1.mono HB.out.size)
      have HST : Hid ((storeVar 87 ⟨w.heap.size, n * 3, none⟩ (.agg ds.toArray)).run Tryd.prog w1 = .ok () (w1.setRow w.heap.size (putAt C (n * 3) ds))) := by
        have h1 : n * 3 + 3 ≤ len * 3 := by omega
        have := store_sub (P := Tryd.prog) hC1 87 (n * 3) ds.toArray (by simp [hds]; omega) (by rw [List.size_toArray, hds]; kernel_rfl) (by simp; exact hone)
        show _ = _
        simpa using this
      clear HCx HLd
      go_wp2_with (first | (refine wpL_store rfl 87 _ _ rfl _ _ rfl _ rfl _ HST.out ?_) | fail)
      go_roundg (gk - 1)
      case measure => omega
      case rel =>
        refine ⟨n + 1, by omega, by simp, below_row b1 (Nat.le_refl _) hC1 _, _, row_set hC1 _, by rw [putAt_size]; exact hs, ?_⟩
        intro j x' hj hx'
        by_cases hjn : j = n
        · subst hjn
          obtain rfl := Option.some.inj (hxn.symm.trans hx')
          refine ⟨ds, hds, fun i d hd => ?_, HM.out _ _ wr.heap.size (w.heap.size + 1) w1 (w1.setRow w.heap.size (putAt C (j * 3) ds)) (keeps_row (by omega)) (by omega) hRd⟩
          have hi : i < 3 := by have := (List.getElem?_eq_some_iff.1 hd).1; omega
          rw [putAt_get _ _ _ (by omega), if_pos (by omega), Nat.add_sub_cancel_left]; exact hd
        · obtain ⟨es, he, hce, hRe⟩ := HS.out j x' (by omega) hx'
          refine ⟨es, he, fun i d hd => ?_, HM.out _ _ (w.heap.size + 1) (w.heap.size + 1) wr (w1.setRow w.heap.size (putAt C (n * 3) ds)) ((Keeps.of_below g1 _).trans (keeps_row (by omega))) (Nat.le_refl _) hRe⟩
          have hi : i < 3 := by have := (List.getElem?_eq_some_iff.1 hd).1; omega
          rw [putAt_get _ _ _ (by omega), if_neg (by omega)]; exact hce i d hd
    · have i1 : ¬ ((n : Int) < (len : Int)) := by omega
      go_wp2
      go_ret
      refine ⟨_, rfl, ⟨some ⟨w.heap.size, 0, none⟩, len, by rw [← HL.out]; rfl, by rw [← HL.out]; omega, fun j x hj => ?_⟩, hb⟩
      have hjl : j < n := by have := (List.getElem?_eq_some_iff.1 hj).1; have := HL.out; omega
      obtain ⟨ds, hds, hcd, hRd⟩ := HS.out j x hjl hj
      refine ⟨w.heap.size, 0, ds, rfl, Nat.le_refl _, hds, fun i d hd => ?_, HM.out _ _ (w.heap.size + 1) w.heap.size wr wr (Keeps.refl _ _) (by omega) hRd⟩
      rw [Nat.zero_add, cell_of_row _ _ _ _ _ _ hC]; exact hcd i d hd


theorem to_args (v : Value) (xs : List ArgT) (w : World) (lo : Nat) (hv : ArgsIs w lo v xs) (hbig : xs.length ≤ 1048576) :
    Calls Tryd.prog 73 #[v] w fun r w' => ∃ v', r = .returned v' ∧ ArgsIs w' w.heap.size v' xs ∧ Below w.heap.size w w' :=
  to_args_row v xs w lo hv hbig (fun x cs _ W h => by
    rw [show cs = _ from h]
    exact (to_arg _ _ _ W).mono fun e w' ⟨h1, h2⟩ => ⟨_, h1, rfl, by intro d hd; simp at hd; rcases hd with rfl | rfl | rfl <;> rfl, rfl, h2⟩) (fun x cs l l' W W' _ _ h => h)

theorem all_one (ds : List Value) (h : ∀ d ∈ ds, d.oneCell' = true) : ds.toArray.all (·.oneCell') = true := by simp; exact h
theorem slice_one {α : Type} {W : World} {lo z : Nat} {R : α → List Value → Prop} {v : Value} {xs : List α} (h : RowIs W lo z R v xs) : v.cells = #[v] := by
  obtain ⟨a, cap, rfl, _⟩ := h; rfl

set_option maxRecDepth 10000 in
set_option maxHeartbeats 2000000 in
theorem to_elem (e : ElemT) (cs : List Value) (w : World) (lo : Nat) (hv : ElemIs w lo e cs) (hbig : wE e ≤ 1048576) :
    Calls Tryd.prog 58 #[.agg cs.toArray] w fun r w' => ∃ ds : List Value, r = .returned (.agg ds.toArray) ∧ ds.length = 2 ∧ (∀ d ∈ ds, d.oneCell' = true) ∧ ElemIs w' w.heap.size e ds ∧ Below w.heap.size w w' := by
  obtain ⟨v, rfl, hr⟩ := hv
  have s1 := hr.one
  obtain ⟨op, Hop⟩ : ∃ op, Hid (op = e.op) := ⟨_, rfl⟩
  have HA : Hid (∀ W, Below w.heap.size w W → Calls Tryd.prog 73 #[v] W fun r w' => ∃ v', r = .returned v' ∧ ArgsIs w' W.heap.size v' e.args ∧ Below W.heap.size W w') := fun W g => to_args v e.args W lo (argsIs_move (Keeps.of_below g lo) (Nat.le_refl _) hr) hbig
  rw [← Hop.out]
  clear hr hbig
  go_enter Tryd.func58, Tryd.ntmps58
  go_wp2_with fail
  have b0 : Below w.heap.size w (((w.alloc (.cells #[.int .i64 op, v] 66)).alloc (.cells #[.int .i64 0, .slice none 0 0] 54)).alloc (.cells #[.int .i64 op, .slice none 0 0] 54)) := (((Below.refl _ _).alloc (Nat.le_refl _) _).alloc (by simp) _).alloc (by simp <;> omega) _
  have hk := rows3 w (.cells #[.int .i64 op, v] 66) (.cells #[.int .i64 0, .slice none 0 0] 54) (.cells #[.int .i64 op, .slice none 0 0] 54)
  have hz : (((w.alloc (.cells #[.int .i64 op, v] 66)).alloc (.cells #[.int .i64 0, .slice none 0 0] 54)).alloc (.cells #[.int .i64 op, .slice none 0 0] 54)).heap.size = w.heap.size + 1 + 1 + 1 := by simp
  generalize (((w.alloc (.cells #[.int .i64 op, v] 66)).alloc (.cells #[.int .i64 0, .slice none 0 0] 54)).alloc (.cells #[.int .i64 op, .slice none 0 0] 54)) = W0 at b0 hk hz ⊢
  refine (HA.out W0 b0).mono ?_
  rintro r w1 ⟨v1, rfl, hv1, g1⟩
  have c1 := (g1.block _ (by omega)).trans hk.2.1
  have c2 := (g1.block _ (by omega)).trans hk.2.2
  have b1 := b0.trans (g1.mono b0.size)
  have HST : Hid ((storeVar 52 ⟨w.heap.size + 1 + 1, 1, none⟩ v1).run Tryd.prog w1 = .ok () (w1.setRow (w.heap.size + 1 + 1) #[.int .i64 op, v1])) := store_one (P := Tryd.prog) c2 52 1 v1 (by simp) (by kernel_rfl) (slice_one hv1) hv1.one
  have s2 := hv1.one
  have HO : Hid (∀ d ∈ [Value.int .i64 op, v1], d.oneCell' = true) := by
    intro d hd
    simp at hd
    rcases hd with rfl | rfl
    · rfl
    · exact s2
  obtain ⟨W2, HW2⟩ : ∃ W, Hid (W = w1.setRow (w.heap.size + 1 + 1) #[.int .i64 op, v1]) := ⟨_, rfl⟩
  have d1 : W2.heap[w.heap.size + 1]? = some (.cells #[.int .i64 0, .slice none 0 0] 54 (0, 0)) := by rw [HW2.out]; exact row_beside c1 _ (by omega) _
  have d2 : W2.heap[w.heap.size + 1 + 1]? = some (.cells #[.int .i64 op, v1] 54 (0, 0)) := by rw [HW2.out]; exact row_set c2 _
  have b2 : Below w.heap.size w W2 := by rw [HW2.out]; exact below_setRow b1 (by omega) _
  have k2 : ArgsIs W2 (w.heap.size + 1 + 1 + 1) v1 e.args := by rw [HW2.out]; exact argsIs_move (keeps_row (by omega)) (by omega) hv1
  have HLD : Hid ((loadVar 54 ⟨w.heap.size + 1 + 1, 0, none⟩).run Tryd.prog W2 = .ok (.agg #[.int .i64 op, v1]) W2) := load_all d2 _ _ Tryd.underlying54 rfl (by kernel_rfl)
  have HS2 : Hid ((storeVar 54 ⟨w.heap.size + 1, 0, none⟩ (.agg #[.int .i64 op, v1])).run Tryd.prog W2 = .ok () (W2.setRow (w.heap.size + 1) #[.int .i64 op, v1])) := store_all d1 54 _ rfl (by kernel_rfl) (all_one [.int .i64 op, v1] HO.out)
  have HR : Hid ((W2.setRow (w.heap.size + 1) #[.int .i64 op, v1]).heap[w.heap.size + 1]? = some (.cells #[.int .i64 op, v1] 54 (0, 0))) := row_set d1 _
  have HB : Hid (Below w.heap.size w (W2.setRow (w.heap.size + 1) #[.int .i64 op, v1])) := below_setRow b2 (by omega) _
  have HK : Hid (ArgsIs (W2.setRow (w.heap.size + 1) #[.int .i64 op, v1]) w.heap.size v1 e.args) := argsIs_move (keeps_row (by omega)) (by omega) k2
  rw [← HW2.out] at HST
  clear HW2 g1 b0 hk hz c1 c2 b1 hv1 k2 d1 d2 b2 HA
  go_wp2_with (first | (refine wpL_store rfl 52 _ _ rfl _ _ rfl _ rfl _ HST.out ?_) | (refine wpL_load rfl 54 _ rfl _ _ rfl _ HLD.out ?_) | (refine wpL_store rfl 54 _ _ rfl _ _ rfl _ rfl _ HS2.out ?_) | (refine ret_row rfl rfl HR.out Tryd.underlying54 rfl (by kernel_rfl) rfl ?_) | fail)
  exact ⟨[.int .i64 op, v1], rfl, rfl, HO.out, ⟨v1, by rw [Hop.out], HK.out⟩, HB.out⟩

end Go.Proofs.YtcihplachlokiaaDoor
/- Ladders copied: toArm, toArmS. -/
namespace Go.Proofs.YtcihplachlokiaaDoor
open Go.RowKit
set_option linter.unusedVariables false

theorem mem6 {a b c d e f : Value} (ha : a.oneCell' = true) (hb : b.oneCell' = true) (hc : c.oneCell' = true) (hd : d.oneCell' = true) (he : e.oneCell' = true) (hf : f.oneCell' = true) : ∀ x ∈ [a, b, c, d, e, f], x.oneCell' = true := by
  intro x hx
  simp at hx
  rcases hx with rfl | rfl | rfl | rfl | rfl | rfl <;> assumption
theorem mem4 {a b c d : Value} (ha : a.oneCell' = true) (hb : b.oneCell' = true) (hc : c.oneCell' = true) (hd : d.oneCell' = true) : ∀ x ∈ [a, b, c, d], x.oneCell' = true := by
  intro x hx
  simp at hx
  rcases hx with rfl | rfl | rfl | rfl <;> assumption

end Go.Proofs.YtcihplachlokiaaDoor
/- Copies of ladders, with their room. -/
namespace Go.Proofs.YtcihplachlokiaaDoor
open Go.RowKit
set_option linter.unusedVariables false

end Go.Proofs.YtcihplachlokiaaDoor
/- Ladders that are owned: each row lies in a block of its own; the footprint is the list of these blocks. -/
namespace Go.Proofs.YtcihplachlokiaaDoor
open Go.RowKit
set_option linter.unusedVariables false

/-- Elements one behind the other, of so many cells each, with the blocks that each of them owns. -/
inductive Each {α : Type} (R : List Nat → α → List Value → Prop) (z : Nat) : List Nat → List α → List Value → Prop
  | nil : Each R z [] [] []
  | add {F : List Nat} {xs : List α} {cs : List Value} {f : List Nat} {x : α} {c : List Value} (h : Each R z F xs cs) (hc : c.length = z) (hr : R f x c) : Each R z (F ++ f) (xs ++ [x]) (cs ++ c)
theorem Each.len {α : Type} {R : List Nat → α → List Value → Prop} {z : Nat} {F : List Nat} {xs : List α} {cs : List Value} (h : Each R z F xs cs) : cs.length = xs.length * z := by
  induction h with
  | nil => simp
  | add h hc hr ih => simp [ih, hc, Nat.add_mul]
theorem Each.move {α : Type} {R R' : List Nat → α → List Value → Prop} {z : Nat} {F : List Nat} {xs : List α} {cs : List Value} (h : Each R z F xs cs) (hR : ∀ f x c, f ⊆ F → R f x c → R' f x c) : Each R' z F xs cs := by
  induction h with
  | nil => exact .nil
  | add h hc hr ih => exact .add (ih fun f x c hf => hR f x c (fun b hb => List.mem_append_left _ (hf hb))) hc (hR _ _ _ (fun b hb => List.mem_append_right _ hb) hr)
theorem Each.at {α : Type} {R : List Nat → α → List Value → Prop} {z : Nat} {F : List Nat} {xs : List α} {cs : List Value} (h : Each R z F xs cs) : ∀ j x, xs[j]? = some x → ∃ f c F1 F2 cs1 cs2, F = F1 ++ f ++ F2 ∧ cs = cs1 ++ c ++ cs2 ∧ cs1.length = j * z ∧ c.length = z ∧ R f x c := by
  induction h with
  | nil => intro j x hx; simp at hx
  | @add F xs cs f y c h hc hr ih =>
    intro j x hx
    rcases Nat.lt_or_ge j xs.length with hj | hj
    · rw [List.getElem?_append_left hj] at hx
      obtain ⟨f', c', F1, F2, cs1, cs2, h1, h2, h3, h4, h5⟩ := ih j x hx
      exact ⟨f', c', F1, F2 ++ f, cs1, cs2 ++ c, by rw [h1]; simp, by rw [h2]; simp, h3, h4, h5⟩
    · rw [List.getElem?_append_right hj] at hx
      have hj0 : j = xs.length := by
        have := (List.getElem?_eq_some_iff.1 hx).1
        simp at this
        omega
      subst hj0
      simp at hx
      subst hx
      exact ⟨f, c, F, [], cs, [], by simp, by simp, h.len, hc, hr⟩
/-- A row of one's own whose elements own what they lead to. -/
def RowOwn {α : Type} (W : World) (base e z : Nat) (R : List Nat → α → List Value → Prop) (F : List Nat) (v : Value) (xs : List α) : Prop :=
  ∃ cs F', Each R z F' xs cs ∧ W.ownsRow base e z v xs.length cs ∧ F = v.ownBlock.toList ++ F'
theorem RowOwn.nil {α : Type} (W : World) (base e z : Nat) (R : List Nat → α → List Value → Prop) : RowOwn W base e z R [] (.slice none 0 0) ([] : List α) :=
  ⟨[], [], .nil, ⟨by simp, .inl ⟨rfl, rfl⟩⟩, rfl⟩
theorem RowOwn.move {α : Type} {W W' : World} {base e z : Nat} {R R' : List Nat → α → List Value → Prop} {F : List Nat} {v : Value} {xs : List α} {row : Option Nat} (h : RowOwn W base e z R F v xs) (hg : W.grownBy W' row) (hr : ∀ b ∈ F, some b ≠ row)
    (hR : ∀ f x c, (∀ b ∈ f, some b ≠ row) → R f x c → R' f x c) : RowOwn W' base e z R' F v xs := by
  obtain ⟨cs, F', h1, h2, rfl⟩ := h
  refine ⟨cs, F', h1.move fun f x c hf => hR f x c fun b hb => hr b (List.mem_append_right _ (hf hb)), h2.kept hg ?_, rfl⟩
  cases hv : v.ownBlock with
  | none => exact .inl rfl
  | some b => exact .inr (hr b (by rw [hv]; simp))
theorem RowOwn.lt {α : Type} {W : World} {base e z : Nat} {R : List Nat → α → List Value → Prop} {F : List Nat} {v : Value} {xs : List α} (h : RowOwn W base e z R F v xs)
    (hR : ∀ f x c, R f x c → ∀ b ∈ f, base ≤ b ∧ b < W.heap.size) : ∀ b ∈ F, base ≤ b ∧ b < W.heap.size := by
  obtain ⟨cs, F', h1, h2, rfl⟩ := h
  intro b hb
  rcases List.mem_append.1 hb with hb | hb
  · exact h2.lt b (by simpa using hb)
  · clear h2
    induction h1 with
    | nil => simp at hb
    | add h hc hr ih =>
      rcases List.mem_append.1 hb with hb | hb
      · exact ih (List.mem_append_right _ hb) hb
      · exact hR _ _ _ hr b hb
def ArgO (f : List Nat) (x : ArgT) (c : List Value) : Prop := f = [] ∧ ArgIs x c
abbrev ArgsOwn (W : World) (base : Nat) (F : List Nat) (v : Value) (xs : List ArgT) : Prop := RowOwn W base 87 3 ArgO F v xs
def ElemOwn (W : World) (base : Nat) (F : List Nat) (e : ElemT) (c : List Value) : Prop := ∃ v, c = [.int .i64 e.op, v] ∧ ArgsOwn W base F v e.args
end Go.Proofs.YtcihplachlokiaaDoor
/- Owned ladders: what stays, what they are, and how a row grows. -/
namespace Go.Proofs.YtcihplachlokiaaDoor
open Go.RowKit
set_option linter.unusedVariables false

theorem ArgsOwn.move {W W' : World} {base : Nat} {F : List Nat} {v : Value} {xs : List ArgT} {row : Option Nat} (h : ArgsOwn W base F v xs) (hg : W.grownBy W' row) (hr : ∀ b ∈ F, some b ≠ row) : ArgsOwn W' base F v xs := RowOwn.move h hg hr fun _ _ _ _ h => h
theorem ElemOwn.move {W W' : World} {base : Nat} {F : List Nat} {e : ElemT} {c : List Value} {row : Option Nat} (h : ElemOwn W base F e c) (hg : W.grownBy W' row) (hr : ∀ b ∈ F, some b ≠ row) : ElemOwn W' base F e c := by
  obtain ⟨v, hc, h1⟩ := h
  exact ⟨v, hc, ArgsOwn.move h1 hg hr⟩
theorem ArgsOwn.lt {W : World} {base : Nat} {F : List Nat} {v : Value} {xs : List ArgT} (h : ArgsOwn W base F v xs) : ∀ b ∈ F, base ≤ b ∧ b < W.heap.size := RowOwn.lt h fun f x c hf b hb => by rw [hf.1] at hb; simp at hb
theorem ElemOwn.lt {W : World} {base : Nat} {F : List Nat} {e : ElemT} {c : List Value} (h : ElemOwn W base F e c) : ∀ b ∈ F, base ≤ b ∧ b < W.heap.size := by
  obtain ⟨v, _, h1⟩ := h
  exact ArgsOwn.lt h1
/-- An owned row is a row. -/
theorem RowOwn.is {α : Type} {W : World} {base e z lo : Nat} {R : List Nat → α → List Value → Prop} {R' : α → List Value → Prop} {F : List Nat} {v : Value} {xs : List α} (h : RowOwn W base e z R F v xs) (hl : lo ≤ base) (hR : ∀ f x c, R f x c → R' x c) : RowIs W lo z R' v xs := by
  obtain ⟨cs, F', h1, h2, rfl⟩ := h
  rcases h2.2 with ⟨rfl, hn⟩ | ⟨g, cap, cur, rfl, hb, hg, hnc, hcm, hsz, hcur⟩
  · have : xs = [] := List.length_eq_zero_iff.1 hn
    subst this
    exact ⟨none, 0, rfl, by simp, fun j x hj => by simp at hj⟩
  · refine ⟨some ⟨g, 0, none⟩, cap, rfl, by unfold maxLen at hcm; omega, fun j x hj => ?_⟩
    obtain ⟨f, c, F1, F2, cs1, cs2, _, e2, e3, e4, hr⟩ := h1.at j x hj
    refine ⟨g, 0, c, rfl, by omega, e4, fun i u hi => ?_, hR f x c hr⟩
    have hc := h2.cells (g := g) rfl (j * z + i) u (by
      rw [e2, List.append_assoc, List.getElem?_append_right (by omega), e3, List.getElem?_append_left (by have := (List.getElem?_eq_some_iff.1 hi).1; omega)]
      rw [show j * z + i - j * z = i by omega]
      exact hi)
    have : (⟨g, 0, none⟩ : Addr).add (j * z + i) = ⟨g, 0 + j * z + i, none⟩ := by simp [Addr.add]; omega
    rw [this] at hc
    exact hc
theorem ArgsOwn.is {W : World} {base lo : Nat} {F : List Nat} {v : Value} {xs : List ArgT} (h : ArgsOwn W base F v xs) (hl : lo ≤ base) : ArgsIs W lo v xs := RowOwn.is h hl fun _ _ _ h => h.2
theorem ElemOwn.is {W : World} {base lo : Nat} {F : List Nat} {e : ElemT} {c : List Value} (h : ElemOwn W base F e c) (hl : lo ≤ base) : ElemIs W lo e c := by
  obtain ⟨v, hc, h1⟩ := h
  exact ⟨v, hc, ArgsOwn.is h1 hl⟩
/-- A row that has grown by one. -/
theorem RowOwn.push {α : Type} {W : World} {base e z g cap : Nat} {R : List Nat → α → List Value → Prop} {F f : List Nat} {xs : List α} {cs c : List Value} {x : α} (h1 : Each R z F xs cs) (hc : c.length = z) (hr : R f x c)
    (ho : W.ownsRow base e z (.slice (some ⟨g, 0, none⟩) (xs.length + 1) cap) (xs.length + 1) (cs ++ c)) : RowOwn W base e z R (g :: (F ++ f)) (.slice (some ⟨g, 0, none⟩) (xs.length + 1) cap) (xs ++ [x]) :=
  ⟨cs ++ c, F ++ f, .add h1 hc hr, by simpa using ho, rfl⟩
end Go.Proofs.YtcihplachlokiaaDoor
