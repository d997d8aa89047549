/- The specification's TreeUses: the rungs. -/
import Derived.Test.YtocnhfecnhndgaaGv
namespace Go.Proofs.Ytocnhfecnhndgaa
open Go.RowKit
set_option linter.unusedVariables false

/-- What is known of a rung in the memory. -/
def ArmU (k n p : Int) (w : World) (lo : Nat) (cs : List Value) (fx : Nat) : Prop :=
  ∃ (n0 n1 n2 n3 : Value) (a3 : Option Addr) (c3 : Nat) (v4 : Value) (coils : List ElemT) (un uk : Nat), cs = [n0, n1, n2, n3, .slice a3 coils.length c3, v4] ∧ v4.oneCell' = true ∧ fx = un + (coils.map (uE (k, n, p))).sum + uk ∧ ElemsIs w lo (.slice a3 coils.length c3) coils ∧ coils.length + (coils.map wE).sum ≤ 1048576 ∧
    (∀ W, Below w.heap.size w W → Calls Try.prog 36 #[.agg #[n0, n1, n2, n3], .agg #[.int .i64 k, .int .i64 n, .int .i64 p]] W fun r w' => r = .returned (.int .i64 (un : Int)) ∧ Below W.heap.size W w') ∧
    (∀ W, Below w.heap.size w W → Calls Try.prog 14 #[v4, .agg #[.int .i64 k, .int .i64 n, .int .i64 p]] W fun r w' => r = .returned (.int .i64 (uk : Int)) ∧ Below W.heap.size W w')

set_option maxRecDepth 10000 in
set_option maxHeartbeats 8000000 in
theorem armsUses_step (k n p : Int) (F : ArmT → Nat) (R : ArmT → List Value → Prop) (v : Value) (xs : List ArmT) (w : World) (lo : Nat) (hv : RowIs w lo 6 R v xs)
    (HU : Hid (∀ x cs, x ∈ xs → R x cs → ArmU k n p w lo cs (F x))) (hbig : (xs.map F).sum ≤ 4194304) :
    Calls Try.prog 14 #[v, .agg #[.int .i64 k, .int .i64 n, .int .i64 p]] w fun r w' => r = .returned (.int .i64 ((xs.map F).sum : Nat)) ∧ Below w.heap.size w w' := by
  obtain ⟨a, cap, rfl, hl, hx⟩ := hv
  have HX : Hid (∀ j x, xs[j]? = some x → ∃ b o cs, a = some ⟨b, o, none⟩ ∧ lo ≤ b ∧ cs.length = 6 ∧ w.rangeAt b (o + j * 6) cs ∧ R x cs) := hx
  have HTot : Hid (∀ i, ((xs.take i).map F).sum ≤ (xs.map F).sum) := fun i => sum_take_le _ _ _
  obtain ⟨len, HL⟩ : ∃ len, Hid (len = xs.length) := ⟨_, rfl⟩
  rw [← HL.out] at hl ⊢
  obtain ⟨RES, HRES⟩ : ∃ r, Hid (r = (xs.map F).sum) := ⟨_, rfl⟩
  rw [← HRES.out] at hbig HTot ⊢
  have HKb : Hid ((w.alloc (.cells #[.int .i64 k, .int .i64 n, .int .i64 p] 33)).heap[w.heap.size]? = some (.cells #[.int .i64 k, .int .i64 n, .int .i64 p] 33 (0, 0))) := heap_alloc_last w _
  clear hx
  go_enter Try.func14, Try.ntmps14
  go_wp2
  go_loopg [5, 6] len (fun g s i wr => ∃ c S : Nat, c + g = len ∧ i = .int .i64 c ∧ s = .int .i64 (S : Int) ∧ Hid (S = ((xs.take c).map F).sum) ∧ S ≤ 4194304 ∧ Below w.heap.size w wr ∧ wr.heap[w.heap.size]? = some (.cells #[.int .i64 k, .int .i64 n, .int .i64 p] 33 (0, 0)))
  case atStart => exact ⟨0, 0, by omega, rfl, rfl, (by simp : (0 : Nat) = ((xs.take 0).map F).sum), by omega, (Below.refl _ _).alloc (Nat.le_refl _) _, HKb.out⟩
  case round =>
    obtain ⟨c, S, hn, rfl, rfl, HS, hS, hb, hk0⟩ := hrel
    obtain ⟨go, hgo⟩ : ∃ go, go = gk := ⟨_, rfl⟩
    by_cases hlt : c < len
    · have i2 : (c : Int) < (len : Int) := by omega
      have i3 : (0 : Int) ≤ (c : Int) := by omega
      obtain ⟨x, hxn⟩ : ∃ x, xs[c]? = some x := ⟨_, List.getElem?_eq_getElem (by have := HL.out; omega)⟩
      obtain ⟨b, o, cs, rfl, hlo, hcs, hrg, hR⟩ := HX.out c x hxn
      obtain ⟨n0, n1, n2, n3, a3, c3, v4, coils, un, uk, rfl, ov4, hF, hco, hcw, hnet, hkids⟩ := HU.out x cs (List.mem_of_getElem? hxn) hR
      have HS' : Hid (S + F x = ((xs.take (c + 1)).map F).sum) := (by rw [sum_take _ _ _ _ hxn, HS.out] : S + F x = ((xs.take (c + 1)).map F).sum)
      have hle : S + F x ≤ 4194304 := by rw [HS'.out]; have := HTot.out (c + 1); omega
      rw [hF] at HS' hle
      have HRG : Hid (w.rangeAt b (o + c * 6) [n0, n1, n2, n3, .slice a3 coils.length c3, v4]) := hrg
      have HB : Hid (Below w.heap.size w wr) := hb
      have HK : Hid (wr.heap[w.heap.size]? = some (.cells #[.int .i64 k, .int .i64 n, .int .i64 p] 33 (0, 0))) := hk0
      have HKids : Hid (∀ W, Below w.heap.size w W → Calls Try.prog 14 #[v4, .agg #[.int .i64 k, .int .i64 n, .int .i64 p]] W fun r w' => r = .returned (.int .i64 (uk : Int)) ∧ Below W.heap.size W w') := hkids
      have H4 : Hid (wr.rangeAt b (o + c * 6) [n0, n1, n2, n3]) := fun i z hi => (Keeps.of_below hb 0) _ _ _ (Nat.zero_le _) (HRG.out i z (by
        have hi4 : i < 4 := (List.getElem?_eq_some_iff.1 hi).1
        rw [show [n0, n1, n2, n3, Value.slice a3 coils.length c3, v4] = [n0, n1, n2, n3] ++ [Value.slice a3 coils.length c3, v4] from rfl, List.getElem?_append_left (by exact hi4)]; exact hi))
      have cN : ∀ d os, Calls Try.prog 36 #[.agg #[n0, n1, n2, n3], .agg #[.int .i64 k, .int .i64 n, .int .i64 p]] (Sort.grow (redrawn wr d) os) fun e w'' => e = .returned (.int .i64 (un : Int)) ∧ ∃ p : Regrown, w'' = Sort.grow (redrawn wr p.d) p.os := fun d os => Calls.regrown_of (hnet _ (HB.out.trans ((below_regrown wr d os).mono HB.out.size)))
      have s0 : (0 : Int) ≤ (S : Int) + (un : Int) := by omega
      have s1 : (S : Int) + (un : Int) ≤ 4194304 := by omega
      clear hb hk0 hrg hnet hkids HS hlo hR hF hcs
      go_upto_region 5 with fail
      refine wp_region_quiet_below (by kernel_rfl) (by kernel_rfl) ?_
      go_big_quiet_step (first | with_reducible exact cN _ _)
      go_big_quiet_step (first | with_reducible exact cN _ _)
      go_big_quiet_step (first | with_reducible exact cN _ _)
      go_big_quiet_step (first | with_reducible exact cN _ _)
      go_big_quiet_step (first | with_reducible exact cN _ _)
      refine wpQ_load rfl 48 _ rfl _ _ rfl (.agg #[n0, n1, n2, n3]) (fun W hW => run_loadVar_mid W b (o + c * 6) 48 ([n0, n1, n2, n3]) _ (range_regrown H4.out hW) Try.underlying48 rfl (by kernel_rfl)) ?_
      simp only [Act.put, List.setIfInBounds_toArray, List.set_cons_succ, List.set_cons_zero]
      refine wpQ_load rfl 33 _ rfl _ _ rfl (.agg #[.int .i64 k, .int .i64 n, .int .i64 p]) (fun W hW => load_all (row_regrown HK.out hW) _ _ Try.underlying33 rfl (by kernel_rfl)) ?_
      simp only [Act.put, List.setIfInBounds_toArray, List.set_cons_succ, List.set_cons_zero]
      go_big_quiet_step (first | with_reducible exact cN _ _)
      go_big_quiet_step (first | with_reducible exact cN _ _)
      go_big_quiet_step (first | with_reducible exact cN _ _)
      refine wpQuiet_nil ?_
      intro w7 hw'
      have Bw7 : Hid (Below w.heap.size w w7) := by
        obtain ⟨⟨dq, osq⟩, rfl⟩ := hw'
        exact HB.out.trans ((below_regrown wr dq osq).mono HB.out.size)
      have Kw7 : Hid (w7.heap[w.heap.size]? = some (.cells #[.int .i64 k, .int .i64 n, .int .i64 p] 33 (0, 0))) := row_regrown HK.out hw'
      clear hw' cN H4 HB HK
      obtain ⟨l3, HL3⟩ : ∃ l3, Hid (l3 = coils.length) := ⟨_, rfl⟩
      have HCo : Hid (ElemsIs w lo (.slice a3 coils.length c3) coils) := hco
      have hl3 : l3 ≤ 1048576 := by have := HL3.out; omega
      have HT3 : Hid (∀ i, ((coils.take i).map (uE (k, n, p))).sum ≤ (coils.map (uE (k, n, p))).sum) := fun i => sum_take_le _ _ _
      obtain ⟨SC, HSC⟩ : ∃ s, Hid (s = (coils.map (uE (k, n, p))).sum) := ⟨_, rfl⟩
      rw [← HSC.out] at HT3 HS' hle
      rw [← HL3.out] at HRG HCo
      have CE : Hid (∀ y ds, y ∈ coils → ∀ W, ElemIs W lo y ds → Calls Try.prog 37 #[.agg ds.toArray, .agg #[.int .i64 k, .int .i64 n, .int .i64 p]] W fun r w' => r = .returned (.int .i64 (uE (k, n, p) y : Nat)) ∧ Below W.heap.size W w') := fun y ds hy W h => elemUses_s k n p y ds W lo h (by have := sum_mem wE coils y hy; omega)
      clear hco hcw
      go_wp2
      go_loopg [5, 7] l3 (fun g s i wr => ∃ d T : Nat, d + g = l3 ∧ i = .int .i64 d ∧ s = .int .i64 ((S + un + T : Nat) : Int) ∧ Hid (T = ((coils.take d).map (uE (k, n, p))).sum) ∧ S + un + T ≤ 4194304 ∧ Hid (Below w.heap.size w wr) ∧ Hid (wr.heap[w.heap.size]? = some (.cells #[.int .i64 k, .int .i64 n, .int .i64 p] 33 (0, 0))))
      case atStart => exact ⟨0, 0, by omega, rfl, by simp, (by simp : (0 : Nat) = ((coils.take 0).map (uE (k, n, p))).sum), by omega, Bw7, Kw7⟩
      case round =>
        obtain ⟨d, T, hd, rfl, rfl, HT, hT, HB, HK⟩ := hrel
        have x4 : wr.cell? ⟨b, o + c * 6 + 4, none⟩ = some (.slice a3 l3 c3) := (Keeps.of_below HB.out 0) _ _ _ (Nat.zero_le _) (HRG.out 4 _ rfl)
        by_cases hdl : d < l3
        · have j2 : (d : Int) < (l3 : Int) := by omega
          have j3 : (0 : Int) ≤ (d : Int) := by omega
          obtain ⟨y, hyn⟩ : ∃ y, coils[d]? = some y := ⟨_, List.getElem?_eq_getElem (by have := HL3.out; omega)⟩
          obtain ⟨a3', c3', hv3, _, hx3⟩ := HCo.out
          simp only [Value.slice.injEq] at hv3
          obtain ⟨ea, ea1, ea2⟩ := hv3
          subst ea
          clear ea1 ea2
          obtain ⟨b3, o3, ds, rfl, _, hds, hrg3, hR3⟩ := hx3 d y hyn
          have HT' : Hid (T + uE (k, n, p) y = ((coils.take (d + 1)).map (uE (k, n, p))).sum) := (by rw [sum_take _ _ _ _ hyn, HT.out] : T + uE (k, n, p) y = ((coils.take (d + 1)).map (uE (k, n, p))).sum)
          have hTle : S + un + (T + uE (k, n, p) y) ≤ 4194304 := by rw [HT'.out]; have := HT3.out (d + 1); omega
          have H3 : Hid (wr.rangeAt b3 (o3 + d * 2) ds ∧ ds.length = 2) := ⟨fun i z hi => (Keeps.of_below HB.out 0) _ _ _ (Nat.zero_le _) (hrg3 i z hi), hds⟩
          have cE0 : ∀ dd os, Calls Try.prog 37 #[.agg ds.toArray, .agg #[.int .i64 k, .int .i64 n, .int .i64 p]] (Sort.grow (redrawn wr dd) os) fun e w'' => e = .returned (.int .i64 (uE (k, n, p) y : Nat)) ∧ ∃ p : Regrown, w'' = Sort.grow (redrawn wr p.d) p.os :=
            fun dd os => Calls.regrown_of (CE.out y ds (List.mem_of_getElem? hyn) _ (hR3.move ((Keeps.of_below HB.out lo).trans (Keeps.of_below (below_regrown wr dd os) lo)) (Nat.le_refl _)))
          obtain ⟨q, Hq⟩ : ∃ q, Hid (q = uE (k, n, p) y) := ⟨_, rfl⟩
          rw [← Hq.out] at HT' hTle
          have cE : ∀ dd os, Calls Try.prog 37 #[.agg ds.toArray, .agg #[.int .i64 k, .int .i64 n, .int .i64 p]] (Sort.grow (redrawn wr dd) os) fun e w'' => e = .returned (.int .i64 (q : Int)) ∧ ∃ p : Regrown, w'' = Sort.grow (redrawn wr p.d) p.os := fun dd os => by rw [Hq.out]; exact cE0 dd os
          have t0 : (0 : Int) ≤ ((S + un + T : Nat) : Int) + (q : Int) := by omega
          have t1 : ((S + un + T : Nat) : Int) + (q : Int) ≤ 4194304 := by omega
          have q4 := cell_regrown x4
          clear cE0 hrg3 hds hR3 hx3 HT
          go_upto_region 9 with fail
          refine wp_region_quiet_below (by kernel_rfl) (by kernel_rfl) ?_
          go_big_quiet_step (first | with_reducible exact cE _ _)
          go_big_quiet_step (first | with_reducible exact cE _ _)
          go_big_quiet_step (first | with_reducible exact cE _ _)
          go_big_quiet_step (first | with_reducible exact cE _ _)
          go_big_quiet_step (first | with_reducible exact cE _ _)
          go_big_quiet_step (first | with_reducible exact cE _ _)
          go_big_quiet_step (first | with_reducible exact cE _ _)
          go_big_quiet_step (first | with_reducible exact cE _ _)
          refine wpQ_load rfl 45 _ rfl _ _ rfl (.agg ds.toArray) (fun W hW => run_loadVar_mid W b3 (o3 + d * 2) 45 (ds) _ (range_regrown H3.out.1 hW) Try.underlying45 rfl (by rw [H3.out.2]; kernel_rfl)) ?_
          simp only [Act.put, List.setIfInBounds_toArray, List.set_cons_succ, List.set_cons_zero]
          refine wpQ_load rfl 33 _ rfl _ _ rfl (.agg #[.int .i64 k, .int .i64 n, .int .i64 p]) (fun W hW => load_all (row_regrown HK.out hW) _ _ Try.underlying33 rfl (by kernel_rfl)) ?_
          simp only [Act.put, List.setIfInBounds_toArray, List.set_cons_succ, List.set_cons_zero]
          go_big_quiet_step (first | with_reducible exact cE _ _)
          go_big_quiet_step (first | with_reducible exact cE _ _)
          go_big_quiet_step (first | with_reducible exact cE _ _)
          refine wpQuiet_nil ?_
          intro w9 hw'
          have Bw9 : Hid (Below w.heap.size w w9) := by
            obtain ⟨⟨dq, osq⟩, rfl⟩ := hw'
            exact HB.out.trans ((below_regrown wr dq osq).mono HB.out.size)
          have Kw9 : Hid (w9.heap[w.heap.size]? = some (.cells #[.int .i64 k, .int .i64 n, .int .i64 p] 33 (0, 0))) := row_regrown HK.out hw'
          clear hw' cE q4 x4 H3
          go_wp2
          go_roundg (gk - 1)
          case measure => omega
          case rel => exact ⟨d + 1, T + q, by omega, by simp, congrArg (Value.int .i64) (by omega), HT', hTle, Bw9, Kw9⟩
        · have j2 : ¬ ((d : Int) < (l3 : Int)) := by omega
          have hTt : T = SC := by rw [HT.out, HSC.out, List.take_of_length_le (by have := HL3.out; omega)]
          have x5 : wr.cell? ⟨b, o + c * 6 + 5, none⟩ = some v4 := (Keeps.of_below HB.out 0) _ _ _ (Nat.zero_le _) (HRG.out 5 _ rfl)
          have cK : ∀ dd os, Calls Try.prog 14 #[v4, .agg #[.int .i64 k, .int .i64 n, .int .i64 p]] (Sort.grow (redrawn wr dd) os) fun e w'' => e = .returned (.int .i64 (uk : Int)) ∧ ∃ p : Regrown, w'' = Sort.grow (redrawn wr p.d) p.os := fun dd os => Calls.regrown_of (HKids.out _ (HB.out.trans ((below_regrown wr dd os).mono HB.out.size)))
          have t0 : (0 : Int) ≤ ((S + un + T : Nat) : Int) + (uk : Int) := by omega
          have t1 : ((S + un + T : Nat) : Int) + (uk : Int) ≤ 4194304 := by omega
          have q5 := cell_regrown x5
          clear HT
          go_upto_region 10 with fail
          refine wp_region_quiet_below (by kernel_rfl) (by kernel_rfl) ?_
          go_big_quiet_step (first | with_reducible exact cK _ _)
          go_big_quiet_step (first | with_reducible exact cK _ _)
          go_big_quiet_step (first | with_reducible exact cK _ _)
          go_big_quiet_step (first | with_reducible exact cK _ _)
          go_big_quiet_step (first | with_reducible exact cK _ _)
          go_big_quiet_step (first | with_reducible exact cK _ _)
          refine wpQ_load rfl 33 _ rfl _ _ rfl (.agg #[.int .i64 k, .int .i64 n, .int .i64 p]) (fun W hW => load_all (row_regrown HK.out hW) _ _ Try.underlying33 rfl (by kernel_rfl)) ?_
          simp only [Act.put, List.setIfInBounds_toArray, List.set_cons_succ, List.set_cons_zero]
          go_big_quiet_step (first | with_reducible exact cK _ _)
          go_big_quiet_step (first | with_reducible exact cK _ _)
          go_big_quiet_step (first | with_reducible exact cK _ _)
          refine wpQuiet_nil ?_
          intro w9 hw'
          have Bw9 : Hid (Below w.heap.size w w9) := by
            obtain ⟨⟨dq, osq⟩, rfl⟩ := hw'
            exact HB.out.trans ((below_regrown wr dq osq).mono HB.out.size)
          have Kw9 : Hid (w9.heap[w.heap.size]? = some (.cells #[.int .i64 k, .int .i64 n, .int .i64 p] 33 (0, 0))) := row_regrown HK.out hw'
          clear hw' cK q5 x5 x4
          go_wp2
          go_roundg (go - 1)
          case measure => omega
          case rel => exact ⟨c + 1, S + (un + SC + uk), by omega, by simp, congrArg (Value.int .i64) (by omega), HS', hle, Bw9.out, Kw9.out⟩
    · have i2 : ¬ ((c : Int) < (len : Int)) := by omega
      have HSt : Hid (S = (xs.map F).sum) := (by rw [HS.out, List.take_of_length_le (by have := HL.out; omega)] : S = (xs.map F).sum)
      go_wp2
      go_ret
      exact ⟨by rw [HRES.out, ← HSt.out]; rfl, hb⟩

theorem armsUses_s (k n p : Int) : ∀ (m : Nat) (v : Value) (xs : List ArmT) (w : World) (lo : Nat) (hv : ArmsIs w lo m v xs) (hw : xs.length + (xs.map (wA m)).sum ≤ 1048576),
    Calls Try.prog 14 #[v, .agg #[.int .i64 k, .int .i64 n, .int .i64 p]] w fun r w' => r = .returned (.int .i64 (usP (k, n, p) (xs.flatMap (pArm m)) : Nat)) ∧ Below w.heap.size w w' := by
  intro m
  induction m with
  | zero =>
    intro v xs w lo hv hw
    rw [usP_flat]
    refine armsUses_step k n p _ (ArmIs w lo 0) v xs w lo hv (fun x cs _ h => h.elim) ?_
    have := sum_le_sum (fun x => usP (k, n, p) (pArm 0 x)) (wA 0) xs (fun x _ => usArm_le _ _ _)
    omega
  | succ m ih =>
    intro v xs w lo hv hw
    rw [usP_flat]
    refine armsUses_step k n p _ (ArmIs w lo (m + 1)) v xs w lo hv (fun x cs hx h => ?_) ?_
    · have hwx := sum_mem (wA (m + 1)) xs x hx
      cases x with
      | mk net coils kids =>
        obtain ⟨ns, v3, v4, rfl, hn, hc, hk⟩ := h
        rw [show wA (m + 1) (ArmT.mk net coils kids) = wN m net + (coils.length + (coils.map wE).sum) + (kids.length + (kids.map (wA m)).sum) from rfl] at hwx
        obtain ⟨n0, n1, n2, n3, rfl, _⟩ := hn.cells
        obtain ⟨a3, c3, rfl, _, _⟩ := id hc
        exact ⟨n0, n1, n2, n3, a3, c3, v4, coils, usP (k, n, p) (pNet m net), usP (k, n, p) (kids.flatMap (pArm m)), rfl, hk.one, us_arm_eq _ _ _ _ _, hc, by omega,
          fun W g => netUses_s k n p m net _ W lo (NetIs.move (Keeps.of_below g lo) (Nat.le_refl _) _ _ (Nat.le_refl _) _ _ hn) (by omega),
          fun W g => ih v4 kids W lo (armsIs_move (Keeps.of_below g lo) (Nat.le_refl _) (Nat.le_refl _) hk) (by omega)⟩
    · have := sum_le_sum (fun x => usP (k, n, p) (pArm (m + 1) x)) (wA (m + 1)) xs (fun x _ => usArm_le _ _ _)
      omega
end Go.Proofs.Ytocnhfecnhndgaa
