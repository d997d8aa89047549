/- The specification's TreeUses. -/
import Derived.Test.YtocnhfecnhndgaaGu
namespace Go.Proofs.Ytocnhfecnhndgaa
open Go.RowKit
set_option linter.unusedVariables false

theorem usNet_le (a : ArgT) : ∀ (m : Nat) (t : NetT), usP a (pNet m t) ≤ wN m t
  | 0, _ => Nat.zero_le _
  | m + 1, .mk k e kids => by
    have h := sum_le_sum (fun x => usP a (pNet m x)) (wN m) kids (fun x _ => usNet_le a m x)
    rw [← usP_flat] at h
    have h1 := uE_le a e
    show uE a e + usP a (kids.flatMap (pNet m)) ≤ wE e + (kids.length + (kids.map (wN m)).sum)
    omega
theorem us_none (a : ArgT) (m : Nat) (net : NetT) (h : noneT net = true) : usP a (pNet m net) = 0 := by
  cases m with
  | zero => rfl
  | succ m =>
    cases net with
    | mk k e kids =>
      rw [noneT_len] at h
      simp at h
      obtain ⟨⟨⟨_, _⟩, h1⟩, h2⟩ := h
      show uE a e + usP a (kids.flatMap (pNet m)) = 0
      rw [h2]
      unfold uE
      rw [h1]; rfl
theorem us_arm_eq (a : ArgT) (m : Nat) (net : NetT) (coils : List ElemT) (kids : List ArmT) : usP a (pArm (m + 1) (.mk net coils kids)) = usP a (pNet m net) + (coils.map (uE a)).sum + usP a (kids.flatMap (pArm m)) := by
  have e1 : usP a (if noneT net then ([] : List PartT) else pNet m net) = usP a (pNet m net) := by
    cases h : noneT net
    · rfl
    · rw [us_none a m net h]; rfl
  show usP a ((if noneT net then ([] : List PartT) else pNet m net) ++ .inr (.mk net coils kids) :: kids.flatMap (pArm m)) = _
  rw [usP_app, e1, show usP a (.inr (.mk net coils kids) :: kids.flatMap (pArm m)) = (coils.map (uE a)).sum + usP a (kids.flatMap (pArm m)) from rfl]
  omega
theorem usArm_le (a : ArgT) : ∀ (m : Nat) (t : ArmT), usP a (pArm m t) ≤ wA m t
  | 0, _ => Nat.zero_le _
  | m + 1, .mk net coils kids => by
    have h := sum_le_sum (fun x => usP a (pArm m x)) (wA m) kids (fun x _ => usArm_le a m x)
    rw [← usP_flat] at h
    have h1 := usNet_le a m net
    have h2 := sum_le_sum (uE a) wE coils (fun x _ => uE_le _ x)
    rw [us_arm_eq, show wA (m + 1) (ArmT.mk net coils kids) = wN m net + (coils.length + (coils.map wE).sum) + (kids.length + (kids.map (wA m)).sum) from rfl]
    omega


set_option maxRecDepth 10000 in
set_option maxHeartbeats 2000000 in
theorem elemUses_s (k n p : Int) (e : ElemT) (cs : List Value) (w : World) (lo : Nat) (hv : ElemIs w lo e cs) (hbig : wE e ≤ 1048576) :
    Calls Try.prog 37 #[.agg cs.toArray, .agg #[.int .i64 k, .int .i64 n, .int .i64 p]] w fun r w' => r = .returned (.int .i64 (uE (k, n, p) e : Nat)) ∧ Below w.heap.size w w' := by
  obtain ⟨v, rfl, hr⟩ := hv
  obtain ⟨xs, Hxs⟩ : ∃ xs, Hid (xs = e.args) := ⟨_, rfl⟩
  unfold uE
  unfold wE at hbig
  rw [← Hxs.out] at hr hbig ⊢
  generalize e.op = op
  obtain ⟨a, cap, rfl, hl, hx⟩ := hr
  have HX : Hid (∀ j x, xs[j]? = some x → ∃ b o cs, a = some ⟨b, o, none⟩ ∧ lo ≤ b ∧ cs.length = 3 ∧ w.rangeAt b (o + j * 3) cs ∧ ArgIs x cs) := hx
  have HTot : Hid (∀ i, ((xs.take i).map (uA (k, n, p))).sum ≤ xs.length) := fun i => Nat.le_trans (sum_take_le _ _ _) (sum_const_le _ (uA_le _) _)
  obtain ⟨len, HL⟩ : ∃ len, Hid (len = xs.length) := ⟨_, rfl⟩
  rw [← HL.out] at hl hbig HTot ⊢
  have hk := rows2 w (.cells #[.int .i64 op, .slice a len cap] 45) (.cells #[.int .i64 k, .int .i64 n, .int .i64 p] 33)
  have HKb : Hid (((w.alloc (.cells #[.int .i64 op, .slice a len cap] 45)).alloc (.cells #[.int .i64 k, .int .i64 n, .int .i64 p] 33)).heap[w.heap.size]? = some (.cells #[.int .i64 op, .slice a len cap] 45 (0, 0)) ∧ ((w.alloc (.cells #[.int .i64 op, .slice a len cap] 45)).alloc (.cells #[.int .i64 k, .int .i64 n, .int .i64 p] 33)).heap[w.heap.size + 1]? = some (.cells #[.int .i64 k, .int .i64 n, .int .i64 p] 33 (0, 0))) := hk
  clear hx hk
  go_enter Try.func37, Try.ntmps37
  go_wp2
  go_loopg [5, 6] len (fun g s i wr => ∃ c S : Nat, c + g = len ∧ i = .int .i64 c ∧ s = .int .i64 (S : Int) ∧ Hid (S = ((xs.take c).map (uA (k, n, p))).sum) ∧ S ≤ 1048576 ∧ Below w.heap.size w wr ∧ wr.heap[w.heap.size]? = some (.cells #[.int .i64 op, .slice a len cap] 45 (0, 0)) ∧ wr.heap[w.heap.size + 1]? = some (.cells #[.int .i64 k, .int .i64 n, .int .i64 p] 33 (0, 0)))
  case atStart => exact ⟨0, 0, by omega, rfl, rfl, (by simp : (0 : Nat) = ((xs.take 0).map (uA (k, n, p))).sum), by omega, ((Below.refl _ _).alloc (Nat.le_refl _) _).alloc (by simp) _, HKb.out.1, HKb.out.2⟩
  case round =>
    obtain ⟨c, S, hn, rfl, rfl, HS, hS, hb, hk0, hk1⟩ := hrel
    have c0 : wr.cell? ⟨w.heap.size, 1, none⟩ = some (.slice a len cap) := (cell_of_row _ _ _ _ _ _ hk0).trans rfl
    by_cases hlt : c < len
    · have i2 : (c : Int) < (len : Int) := by omega
      have i3 : (0 : Int) ≤ (c : Int) := by omega
      obtain ⟨x, hxn⟩ : ∃ x, xs[c]? = some x := ⟨_, List.getElem?_eq_getElem (by have := HL.out; omega)⟩
      obtain ⟨b, o, cs, rfl, hlo, hcs, hrg, hR⟩ := HX.out c x hxn
      obtain rfl : cs = _ := hR
      have HB : Hid (Below w.heap.size w wr) := hb
      have HK : Hid (wr.heap[w.heap.size]? = some (.cells #[.int .i64 op, .slice (some ⟨b, o, none⟩) len cap] 45 (0, 0)) ∧ wr.heap[w.heap.size + 1]? = some (.cells #[.int .i64 k, .int .i64 n, .int .i64 p] 33 (0, 0))) := ⟨hk0, hk1⟩
      have H1 : Hid (wr.rangeAt b (o + c * 3) [.int .i64 x.1, .int .i64 x.2.1, .int .i64 x.2.2]) := fun i c hi => (Keeps.of_below hb 0) _ _ _ (Nat.zero_le _) (hrg i c hi)
      have HS' : Hid (S + uA (k, n, p) x = ((xs.take (c + 1)).map (uA (k, n, p))).sum) := (by rw [sum_take _ _ _ _ hxn, HS.out] : S + uA (k, n, p) x = ((xs.take (c + 1)).map (uA (k, n, p))).sum)
      have hle : S + uA (k, n, p) x ≤ 1048576 := by rw [HS'.out]; have := HTot.out (c + 1); omega
      obtain ⟨r, hr, hr'⟩ := eqD_arg 9998 x.1 x.2.1 x.2.2 k n p
      have hrq : uA (k, n, p) x = r.toNat := by unfold uA; rw [eqB_iff hr']
      rw [hrq] at HS' hle
      have hS0 : (0 : Int) ≤ (S : Int) := by omega
      have hS1 : (S : Int) ≤ 1048576 := by omega
      have q0 := cell_regrown c0
      clear hr' hrq hb hrg hcs hk0 hk1 HS hlo
      go_upto_region 5 with fail
      refine wp_region_quiet_below (by kernel_rfl) (by kernel_rfl) ?_
      go_big_quiet_step (fail)
      go_big_quiet_step (fail)
      go_big_quiet_step (fail)
      go_big_quiet_step (fail)
      refine wpQ_load rfl 33 _ rfl _ _ rfl (.agg #[.int .i64 x.1, .int .i64 x.2.1, .int .i64 x.2.2]) (fun W hW => run_loadVar_mid W b (o + c * 3) 33 ([.int .i64 x.1, .int .i64 x.2.1, .int .i64 x.2.2]) _ (range_regrown H1.out hW) Try.underlying33 rfl (by kernel_rfl)) ?_
      simp only [Act.put, List.setIfInBounds_toArray, List.set_cons_succ, List.set_cons_zero]
      refine wpQ_load rfl 33 _ rfl _ _ rfl (.agg #[.int .i64 k, .int .i64 n, .int .i64 p]) (fun W hW => load_all (row_regrown HK.out.2 hW) _ _ Try.underlying33 rfl (by kernel_rfl)) ?_
      simp only [Act.put, List.setIfInBounds_toArray, List.set_cons_succ, List.set_cons_zero]
      go_big_quiet_step (fail)
      refine wpQuiet_nil ?_
      intro w7 hw'
      have b7 : Below w.heap.size w w7 := by
        obtain ⟨⟨dq, osq⟩, rfl⟩ := hw'
        exact HB.out.trans ((below_regrown wr dq osq).mono HB.out.size)
      have k7 : Hid (w7.heap[w.heap.size]? = some (.cells #[.int .i64 op, .slice (some ⟨b, o, none⟩) len cap] 45 (0, 0)) ∧ w7.heap[w.heap.size + 1]? = some (.cells #[.int .i64 k, .int .i64 n, .int .i64 p] 33 (0, 0))) := ⟨row_regrown HK.out.1 hw', row_regrown HK.out.2 hw'⟩
      clear hw' q0 c0 hr
      cases r with
      | true =>
        go_wp2
        go_roundg (gk - 1)
        case measure => omega
        case rel => exact ⟨c + 1, S + 1, by omega, by simp, by simp, HS', hle, b7, k7.out.1, k7.out.2⟩
      | false =>
        go_wp2
        go_roundg (gk - 1)
        case measure => omega
        case rel => exact ⟨c + 1, S, by omega, by simp, rfl, HS', hS, b7, k7.out.1, k7.out.2⟩
    · have i2 : ¬ ((c : Int) < (len : Int)) := by omega
      have HSt : Hid (S = (xs.map (uA (k, n, p))).sum) := (by rw [HS.out, List.take_of_length_le (by have := HL.out; omega)] : S = (xs.map (uA (k, n, p))).sum)
      go_wp2
      go_ret
      exact ⟨by rw [← HSt.out]; rfl, hb⟩


set_option maxRecDepth 10000 in
set_option maxHeartbeats 4000000 in
theorem netUses_step (k n p : Int) (m : Nat) (kd op : Int) (v1 : Value) (p1 : v1.oneCell' = true) (A0 : Nat) (v : Value) (xs : List NetT) (w : World) (lo : Nat) (hv : NetsIs w lo m v xs)
    (HE : Hid (∀ W, Below w.heap.size w W → Calls Try.prog 37 #[.agg #[.int .i64 op, v1], .agg #[.int .i64 k, .int .i64 n, .int .i64 p]] W fun r w' => r = .returned (.int .i64 (A0 : Int)) ∧ Below W.heap.size W w'))
    (HC : Hid (∀ x cs, x ∈ xs → ∀ (W : World), NetIs W lo m x cs → Calls Try.prog 36 #[.agg cs.toArray, .agg #[.int .i64 k, .int .i64 n, .int .i64 p]] W fun r w' => r = .returned (.int .i64 (usP (k, n, p) (pNet m x) : Nat)) ∧ Below W.heap.size W w'))
    (hbig : A0 + (xs.map (fun x => usP (k, n, p) (pNet m x))).sum ≤ 4194304) :
    Calls Try.prog 36 #[.agg #[.int .i64 kd, .int .i64 op, v1, v], .agg #[.int .i64 k, .int .i64 n, .int .i64 p]] w fun r w' => r = .returned (.int .i64 ((A0 + (xs.map (fun x => usP (k, n, p) (pNet m x))).sum : Nat) : Int)) ∧ Below w.heap.size w w' := by
  obtain ⟨a, cap, rfl, hl, hx⟩ := hv
  have HX : Hid (∀ j x, xs[j]? = some x → ∃ b o cs, a = some ⟨b, o, none⟩ ∧ lo ≤ b ∧ cs.length = 4 ∧ w.rangeAt b (o + j * 4) cs ∧ NetIs w lo m x cs) := hx
  have HTot : Hid (∀ i, ((xs.take i).map (fun x => usP (k, n, p) (pNet m x))).sum ≤ (xs.map (fun x => usP (k, n, p) (pNet m x))).sum) := fun i => sum_take_le _ _ _
  obtain ⟨len, HL⟩ : ∃ len, Hid (len = xs.length) := ⟨_, rfl⟩
  rw [← HL.out] at hl ⊢
  obtain ⟨RES, HRES⟩ : ∃ r, Hid (r = A0 + (xs.map (fun x => usP (k, n, p) (pNet m x))).sum) := ⟨_, rfl⟩
  rw [← HRES.out]
  have hk := rows2 w (.cells #[.int .i64 kd, .int .i64 op, v1, .slice a len cap] 48) (.cells #[.int .i64 k, .int .i64 n, .int .i64 p] 33)
  have b0 : Below w.heap.size w ((w.alloc (.cells #[.int .i64 kd, .int .i64 op, v1, .slice a len cap] 48)).alloc (.cells #[.int .i64 k, .int .i64 n, .int .i64 p] 33)) := ((Below.refl _ _).alloc (Nat.le_refl _) _).alloc (by simp) _
  have hz : ((w.alloc (.cells #[.int .i64 kd, .int .i64 op, v1, .slice a len cap] 48)).alloc (.cells #[.int .i64 k, .int .i64 n, .int .i64 p] 33)).heap.size = w.heap.size + 1 + 1 := by simp
  have HKb : Hid (((w.alloc (.cells #[.int .i64 kd, .int .i64 op, v1, .slice a len cap] 48)).alloc (.cells #[.int .i64 k, .int .i64 n, .int .i64 p] 33)).heap[w.heap.size]? = some (.cells #[.int .i64 kd, .int .i64 op, v1, .slice a len cap] 48 (0, 0)) ∧ ((w.alloc (.cells #[.int .i64 kd, .int .i64 op, v1, .slice a len cap] 48)).alloc (.cells #[.int .i64 k, .int .i64 n, .int .i64 p] 33)).heap[w.heap.size + 1]? = some (.cells #[.int .i64 k, .int .i64 n, .int .i64 p] 33 (0, 0)) ∧ Below w.heap.size w ((w.alloc (.cells #[.int .i64 kd, .int .i64 op, v1, .slice a len cap] 48)).alloc (.cells #[.int .i64 k, .int .i64 n, .int .i64 p] 33)) ∧ ((w.alloc (.cells #[.int .i64 kd, .int .i64 op, v1, .slice a len cap] 48)).alloc (.cells #[.int .i64 k, .int .i64 n, .int .i64 p] 33)).heap.size = w.heap.size + 1 + 1) := ⟨hk.1, hk.2, b0, hz⟩
  clear hx hk b0 hz
  go_enter Try.func36, Try.ntmps36
  go_wp2_with fail
  refine (HE.out _ HKb.out.2.2.1).mono ?_
  rintro e w0 ⟨rfl, g0⟩
  have kk0 := (g0.block _ (by have := HKb.out.2.2.2; omega)).trans HKb.out.1
  have kk1 := (g0.block _ (by have := HKb.out.2.2.2; omega)).trans HKb.out.2.1
  have bb := HKb.out.2.2.1.trans (g0.mono HKb.out.2.2.1.size)
  clear g0 HKb HE
  go_wp2
  go_loopg [5, 6] len (fun g s i wr => ∃ c S : Nat, c + g = len ∧ i = .int .i64 c ∧ s = .int .i64 ((A0 + S : Nat) : Int) ∧ Hid (S = ((xs.take c).map (fun x => usP (k, n, p) (pNet m x))).sum) ∧ A0 + S ≤ 4194304 ∧ Below w.heap.size w wr ∧ wr.heap[w.heap.size]? = some (.cells #[.int .i64 kd, .int .i64 op, v1, .slice a len cap] 48 (0, 0)) ∧ wr.heap[w.heap.size + 1]? = some (.cells #[.int .i64 k, .int .i64 n, .int .i64 p] 33 (0, 0)))
  case atStart => exact ⟨0, 0, by omega, rfl, by simp, (by simp : (0 : Nat) = ((xs.take 0).map (fun x => usP (k, n, p) (pNet m x))).sum), by omega, bb, kk0, kk1⟩
  case round =>
    obtain ⟨c, S, hn, rfl, rfl, HS, hS, hb, hk0, hk1⟩ := hrel
    have c0 : wr.cell? ⟨w.heap.size, 3, none⟩ = some (.slice a len cap) := (cell_of_row _ _ _ _ _ _ hk0).trans rfl
    by_cases hlt : c < len
    · have i2 : (c : Int) < (len : Int) := by omega
      have i3 : (0 : Int) ≤ (c : Int) := by omega
      obtain ⟨x, hxn⟩ : ∃ x, xs[c]? = some x := ⟨_, List.getElem?_eq_getElem (by have := HL.out; omega)⟩
      obtain ⟨b, o, cs, rfl, hlo, hcs, hrg, hR⟩ := HX.out c x hxn
      have HB : Hid (Below w.heap.size w wr) := hb
      have HK : Hid (wr.heap[w.heap.size]? = some (.cells #[.int .i64 kd, .int .i64 op, v1, .slice (some ⟨b, o, none⟩) len cap] 48 (0, 0)) ∧ wr.heap[w.heap.size + 1]? = some (.cells #[.int .i64 k, .int .i64 n, .int .i64 p] 33 (0, 0))) := ⟨hk0, hk1⟩
      have H1 : Hid (wr.rangeAt b (o + c * 4) cs ∧ cs.length = 4) := ⟨fun i c hi => (Keeps.of_below hb 0) _ _ _ (Nat.zero_le _) (hrg i c hi), hcs⟩
      have HS' : Hid (S + usP (k, n, p) (pNet m x) = ((xs.take (c + 1)).map (fun x => usP (k, n, p) (pNet m x))).sum) := (by rw [sum_take _ _ _ _ hxn, HS.out] : S + usP (k, n, p) (pNet m x) = ((xs.take (c + 1)).map (fun x => usP (k, n, p) (pNet m x))).sum)
      have hle : A0 + (S + usP (k, n, p) (pNet m x)) ≤ 4194304 := by rw [HS'.out]; have := HTot.out (c + 1); omega
      have cE0 : ∀ d os, Calls Try.prog 36 #[.agg cs.toArray, .agg #[.int .i64 k, .int .i64 n, .int .i64 p]] (Sort.grow (redrawn wr d) os) fun e w'' => e = .returned (.int .i64 (usP (k, n, p) (pNet m x) : Nat)) ∧ ∃ p : Regrown, w'' = Sort.grow (redrawn wr p.d) p.os :=
        fun d os => Calls.regrown_of (HC.out x cs (List.mem_of_getElem? hxn) _ (NetIs.move ((Keeps.of_below hb lo).trans (Keeps.of_below (below_regrown wr d os) lo)) (Nat.le_refl _) _ _ (Nat.le_refl _) _ _ hR))
      obtain ⟨q, Hq⟩ : ∃ q, Hid (q = usP (k, n, p) (pNet m x)) := ⟨_, rfl⟩
      rw [← Hq.out] at HS' hle
      have cE : ∀ d os, Calls Try.prog 36 #[.agg cs.toArray, .agg #[.int .i64 k, .int .i64 n, .int .i64 p]] (Sort.grow (redrawn wr d) os) fun e w'' => e = .returned (.int .i64 (q : Int)) ∧ ∃ p : Regrown, w'' = Sort.grow (redrawn wr p.d) p.os := fun d os => by rw [Hq.out]; exact cE0 d os
      have hS0 : (0 : Int) ≤ ((A0 + S : Nat) : Int) + (q : Int) := by omega
      have hS1 : ((A0 + S : Nat) : Int) + (q : Int) ≤ 4194304 := by omega
      have q0 := cell_regrown c0
      clear hb hrg hcs hk0 hk1 HS hlo cE0 hR
      go_upto_region 5 with fail
      refine wp_region_quiet_below (by kernel_rfl) (by kernel_rfl) ?_
      go_big_quiet_step (first | with_reducible exact cE _ _)
      go_big_quiet_step (first | with_reducible exact cE _ _)
      go_big_quiet_step (first | with_reducible exact cE _ _)
      go_big_quiet_step (first | with_reducible exact cE _ _)
      go_big_quiet_step (first | with_reducible exact cE _ _)
      refine wpQ_load rfl 48 _ rfl _ _ rfl (.agg cs.toArray) (fun W hW => run_loadVar_mid W b (o + c * 4) 48 (cs) _ (range_regrown H1.out.1 hW) Try.underlying48 rfl (by rw [H1.out.2]; kernel_rfl)) ?_
      simp only [Act.put, List.setIfInBounds_toArray, List.set_cons_succ, List.set_cons_zero]
      refine wpQ_load rfl 33 _ rfl _ _ rfl (.agg #[.int .i64 k, .int .i64 n, .int .i64 p]) (fun W hW => load_all (row_regrown HK.out.2 hW) _ _ Try.underlying33 rfl (by kernel_rfl)) ?_
      simp only [Act.put, List.setIfInBounds_toArray, List.set_cons_succ, List.set_cons_zero]
      go_big_quiet_step (first | with_reducible exact cE _ _)
      go_big_quiet_step (first | with_reducible exact cE _ _)
      go_big_quiet_step (first | with_reducible exact cE _ _)
      refine wpQuiet_nil ?_
      intro w7 hw'
      have b7 : Below w.heap.size w w7 := by
        obtain ⟨⟨dq, osq⟩, rfl⟩ := hw'
        exact HB.out.trans ((below_regrown wr dq osq).mono HB.out.size)
      have k7 : Hid (w7.heap[w.heap.size]? = some (.cells #[.int .i64 kd, .int .i64 op, v1, .slice (some ⟨b, o, none⟩) len cap] 48 (0, 0)) ∧ w7.heap[w.heap.size + 1]? = some (.cells #[.int .i64 k, .int .i64 n, .int .i64 p] 33 (0, 0))) := ⟨row_regrown HK.out.1 hw', row_regrown HK.out.2 hw'⟩
      clear hw' q0 c0 cE
      go_wp2
      go_roundg (gk - 1)
      case measure => omega
      case rel => exact ⟨c + 1, S + q, by omega, by simp, congrArg (Value.int .i64) (by omega), HS', hle, b7, k7.out.1, k7.out.2⟩
    · have i2 : ¬ ((c : Int) < (len : Int)) := by omega
      have HSt : Hid (S = (xs.map (fun x => usP (k, n, p) (pNet m x))).sum) := (by rw [HS.out, List.take_of_length_le (by have := HL.out; omega)] : S = (xs.map (fun x => usP (k, n, p) (pNet m x))).sum)
      go_wp2
      go_ret
      exact ⟨by rw [HRES.out, ← HSt.out]; exact congrArg (fun z => Ending.returned (Value.int .i64 z)) (by omega), hb⟩

theorem netUses_s (k n p : Int) : ∀ (m : Nat) (t : NetT) (cs : List Value) (w : World) (lo : Nat) (hv : NetIs w lo m t cs) (hbig : wN m t ≤ 1048576),
    Calls Try.prog 36 #[.agg cs.toArray, .agg #[.int .i64 k, .int .i64 n, .int .i64 p]] w fun r w' => r = .returned (.int .i64 (usP (k, n, p) (pNet m t) : Nat)) ∧ Below w.heap.size w w'
  | 0, _, _, _, _, h, _ => h.elim
  | m + 1, .mk kd e kids, cs, w, lo, hv, hbig => by
    obtain ⟨v, v', rfl, ha, hk⟩ := hv
    have e1 : usP (k, n, p) (pNet (m + 1) (.mk kd e kids)) = uE (k, n, p) e + (kids.map fun x => usP (k, n, p) (pNet m x)).sum := by
      rw [← usP_flat]; rfl
    have hle := usNet_le (k, n, p) (m + 1) (.mk kd e kids)
    rw [e1] at hle ⊢
    have hb2 := hbig
    rw [show wN (m + 1) (NetT.mk kd e kids) = wE e + (kids.length + (kids.map (wN m)).sum) from rfl] at hb2
    exact netUses_step k n p m kd e.op v ha.one (uE (k, n, p) e) v' kids w lo hk
      (fun W g => elemUses_s k n p e _ W lo ⟨v, rfl, argsIs_move (Keeps.of_below g lo) (Nat.le_refl _) ha⟩ (by omega))
      (fun x cs hx W h => netUses_s k n p m x cs W lo h (by have := sum_mem (wN m) kids x hx; omega)) (by omega)
end Go.Proofs.Ytocnhfecnhndgaa
