/- The specification's TreeSize. -/
import Derived.Test.YtgopfaegdlefpaaGreatDoorGq
namespace Go.Proofs.YtgopfaegdlefpaaGreatDoor
open Go.RowKit
set_option linter.unusedVariables false

def szP (ps : List PartT) : Nat := (ps.map pSize).sum
theorem szP_flat {α : Type} (f : α → List PartT) : ∀ xs : List α, szP (xs.flatMap f) = (xs.map fun x => szP (f x)).sum
  | [] => rfl
  | x :: xs => by
    have h := szP_flat f xs
    simp only [szP, List.flatMap_cons, List.map_append, List.sum_append, List.map_cons, List.sum_cons] at h ⊢
    rw [h]
theorem szP_len : ∀ ps : List PartT, ps.length ≤ szP ps
  | [] => Nat.le_refl _
  | p :: ps => by
    have h := szP_len ps
    have h1 : 1 ≤ pSize p := by
      cases p with
      | inl t => exact Nat.le_refl _
      | inr a => obtain ⟨a, r⟩ := a; cases a; show 1 ≤ 1 + _; omega
    simp only [szP, List.map_cons, List.sum_cons, List.length_cons] at h ⊢
    omega
theorem sum_le_sum {α : Type} (f g : α → Nat) : ∀ xs : List α, (∀ x ∈ xs, f x ≤ g x) → (xs.map f).sum ≤ (xs.map g).sum
  | [], _ => Nat.le_refl _
  | x :: xs, h => by
    have h1 := sum_le_sum f g xs (fun y hy => h y (List.mem_cons_of_mem _ hy))
    have h2 := h x (List.mem_cons_self ..)
    simp only [List.map_cons, List.sum_cons]; omega
theorem sum_add_one {α : Type} (g : α → Nat) : ∀ xs : List α, (xs.map fun x => 1 + g x).sum = xs.length + (xs.map g).sum
  | [] => rfl
  | x :: xs => by
    have := sum_add_one g xs
    simp only [List.map_cons, List.sum_cons, List.length_cons]; omega
theorem sum_twice {α : Type} (g : α → Nat) : ∀ xs : List α, (xs.map fun x => 2 + 2 * g x).sum = 2 * (xs.length + (xs.map g).sum)
  | [] => rfl
  | x :: xs => by
    have := sum_twice g xs
    simp only [List.map_cons, List.sum_cons, List.length_cons]; omega
theorem szNet_le : ∀ (m : Nat) (t : NetT), szP (pNet m t) ≤ 1 + wN m t
  | 0, _ => Nat.zero_le _
  | m + 1, .mk k e kids => by
    have h := sum_le_sum (fun x => szP (pNet m x)) (fun x => 1 + wN m x) kids (fun x _ => szNet_le m x)
    rw [sum_add_one, ← szP_flat] at h
    show 1 + szP (kids.flatMap (pNet m)) ≤ 1 + (wE e + (kids.length + (kids.map (wN m)).sum))
    omega
theorem szP_flag (m : Nat) (r : Bool) (t : ArmT) : szP (pArm m r t) = szP (pArm m false t) := by
  cases m with
  | zero => rfl
  | succ m => cases t; simp [pArm, szP, pSize]
theorem szP_app (a b : List PartT) : szP (a ++ b) = szP a + szP b := by simp [szP]
theorem szArm_le : ∀ (m : Nat) (t : ArmT), szP (pArm m false t) ≤ 2 + 2 * wA m t
  | 0, _ => Nat.zero_le _
  | m + 1, .mk net coils kids => by
    have h := sum_le_sum (fun x => szP (pArm m false x)) (fun x => 2 + 2 * wA m x) kids (fun x _ => szArm_le m x)
    rw [sum_twice, ← szP_flat] at h
    have h2 := szNet_le m net
    have h3 : szP (if noneT net then ([] : List PartT) else pNet m net) ≤ 1 + wN m net := by
      cases noneT net
      · exact h2
      · exact Nat.zero_le _
    have e1 : szP (pArm (m + 1) false (.mk net coils kids)) = szP (if noneT net then ([] : List PartT) else pNet m net) + ((1 + coils.length) + szP (kids.flatMap (pArm m false))) := by
      show szP ((if noneT net then ([] : List PartT) else pNet m net) ++ .inr (.mk net coils kids, false) :: kids.flatMap (pArm m false)) = _
      rw [szP_app]; rfl
    rw [e1, show wA (m + 1) (ArmT.mk net coils kids) = wN m net + (coils.length + (coils.map wE).sum) + (kids.length + (kids.map (wA m)).sum) from rfl]
    omega
theorem szArms_le (m : Nat) (xs : List ArmT) : szP (xs.flatMap (pArm m false)) ≤ 2 * (xs.length + (xs.map (wA m)).sum) := by
  have h := sum_le_sum (fun x => szP (pArm m false x)) (fun x => 2 + 2 * wA m x) xs (fun x _ => szArm_le m x)
  rw [sum_twice, ← szP_flat] at h
  exact h

set_option maxHeartbeats 2000000 in
theorem none_s (k op : Int) (a1 : Option Addr) (l1 c1 : Nat) (a2 : Option Addr) (l2 c2 : Nat) (w : World) (h1 : l1 ≤ 9223372036854775807) (h2 : l2 ≤ 9223372036854775807) :
    Calls Tryz.prog 72 #[.agg #[.int .i64 k, .int .i64 op, .slice a1 l1 c1, .slice a2 l2 c2]] w fun e w' => e = .returned (.bool (decide (k = 0) && decide (op = 0) && decide (l1 = 0) && decide (l2 = 0))) ∧ Below w.heap.size w w' := by
  have b0 : ∀ A, Below w.heap.size w (w.alloc A) := fun A => (Below.refl _ _).alloc (Nat.le_refl _) _
  by_cases hk : k = 0
  · subst hk
    by_cases ho : op = 0
    · subst ho
      by_cases hl : l1 = 0
      · subst hl
        by_cases hl2 : l2 = 0
        · subst hl2
          go_enter Tryz.func72, Tryz.ntmps72
          go_wp2
          go_ret
          exact ⟨by simp, b0 _⟩
        · have e1 : ((l2 : Int) == 0) = false := by simp; omega
          go_enter Tryz.func72, Tryz.ntmps72
          go_wp2
          go_ret
          exact ⟨by simp [hl2], b0 _⟩
      · have e1 : ((l1 : Int) == 0) = false := by simp; omega
        go_enter Tryz.func72, Tryz.ntmps72
        go_wp2
        go_ret
        exact ⟨by simp [hl], b0 _⟩
    · have e1 : (op == 0) = false := by simp [ho]
      go_enter Tryz.func72, Tryz.ntmps72
      go_wp2
      go_ret
      exact ⟨by simp [ho], b0 _⟩
  · have e1 : (k == 0) = false := by simp [hk]
    go_enter Tryz.func72, Tryz.ntmps72
    go_wp2
    go_ret
    exact ⟨by simp [hk], b0 _⟩


set_option maxRecDepth 10000 in
set_option maxHeartbeats 2000000 in
theorem ss_arms_row (m : Nat) (v : Value) (xs : List ArmT) (w : World) (lo : Nat) (hv : RowIs w lo 6 (ArmIs w lo m) v xs)
    (HC : Hid (∀ x cs, x ∈ xs → ∀ (W : World), (ArmIs W lo m) x cs → Calls Tryz.prog 75 #[.agg cs.toArray] W fun r w' => r = .returned (.int .i64 (((fun x => szP (pArm m false x)) x : Nat) : Int)) ∧ Below W.heap.size W w'))
    (HM : Hid (∀ x cs (W : World), Below w.heap.size w W → (ArmIs w lo m) x cs → (ArmIs W lo m) x cs)) (hbig : (xs.map (fun x => szP (pArm m false x))).sum ≤ 4194304) :
    Calls Tryz.prog 33 #[v] w fun r w' => r = .returned (.int .i64 (((xs.map (fun x => szP (pArm m false x))).sum : Nat) : Int)) ∧ Below w.heap.size w w' := by
  obtain ⟨a, cap, rfl, hl, hx⟩ := hv
  have HX : Hid (∀ j x, xs[j]? = some x → ∃ b o cs, a = some ⟨b, o, none⟩ ∧ lo ≤ b ∧ cs.length = 6 ∧ w.rangeAt b (o + j * 6) cs ∧ (ArmIs w lo m) x cs) := hx
  have HTot : Hid (∀ n, ((xs.take n).map (fun x => szP (pArm m false x))).sum ≤ (xs.map (fun x => szP (pArm m false x))).sum) := fun n => sum_take_le _ _ _
  obtain ⟨len, HL⟩ : ∃ len, Hid (len = xs.length) := ⟨_, rfl⟩
  rw [← HL.out] at hl ⊢
  clear hx
  obtain ⟨A0, hA0⟩ : ∃ A0 : Nat, A0 = 0 := ⟨_, rfl⟩
  have HBig : A0 + (xs.map (fun x => szP (pArm m false x))).sum ≤ 4194304 := by omega
  obtain ⟨RES, HRES⟩ : ∃ r, Hid (r = A0 + (xs.map (fun x => szP (pArm m false x))).sum) := ⟨_, rfl⟩
  rw [show (xs.map (fun x => szP (pArm m false x))).sum = RES by rw [HRES.out]; omega]
  go_enter Tryz.func33, Tryz.ntmps33
  go_wp2
  go_loopg [3, 4] len (fun g s i wr => ∃ n S : Nat, n + g = len ∧ i = .int .i64 n ∧ s = .int .i64 (((A0 + S : Nat)) : Int) ∧ Hid (S = ((xs.take n).map ((fun x => szP (pArm m false x)))).sum) ∧ A0 + S ≤ 4194304 ∧ Below w.heap.size w wr)
  case atStart => exact ⟨0, 0, by omega, rfl, by rw [hA0]; rfl, (by simp : (0 : Nat) = ((xs.take 0).map ((fun x => szP (pArm m false x)))).sum), by omega, Below.refl _ _⟩
  case round =>
    obtain ⟨n, S, hn, rfl, rfl, HS, hS, hb⟩ := hrel
    by_cases hlt : n < len
    · have i2 : (n : Int) < (len : Int) := by omega
      have i3 : (0 : Int) ≤ (n : Int) := by omega
      obtain ⟨x, hxn⟩ : ∃ x, xs[n]? = some x := ⟨_, List.getElem?_eq_getElem (by have := HL.out; omega)⟩
      obtain ⟨b, o, cs, rfl, hlo, hcs, hrg, hR⟩ := HX.out n x hxn
      have HB : Hid (Below w.heap.size w wr) := hb
      have HLd : Hid ((loadVar 60 ⟨b, o + n * 6, none⟩).run Tryz.prog wr = .ok (.agg cs.toArray) wr) := run_loadVar_mid wr b (o + n * 6) 60 cs _ (fun i c hi => (Keeps.of_below hb 0) _ _ _ (Nat.zero_le _) (hrg i c hi)) Tryz.underlying60 rfl (by rw [hcs]; kernel_rfl)
      have HCx : Hid (Calls Tryz.prog 75 #[.agg cs.toArray] wr fun r w' => r = .returned (.int .i64 (((fun x => szP (pArm m false x)) x : Nat) : Int)) ∧ Below wr.heap.size wr w') := HC.out x cs (List.mem_of_getElem? hxn) wr (HM.out x cs wr hb hR)
      have HS' : Hid (S + (fun x => szP (pArm m false x)) x = ((xs.take (n + 1)).map ((fun x => szP (pArm m false x)))).sum) := (by rw [sum_take _ _ _ _ hxn, HS.out] : S + (fun x => szP (pArm m false x)) x = ((xs.take (n + 1)).map ((fun x => szP (pArm m false x)))).sum)
      have hle : A0 + (S + (fun x => szP (pArm m false x)) x) ≤ 4194304 := by rw [HS'.out]; have := HTot.out (n + 1); omega
      obtain ⟨q, Hq⟩ : ∃ q, Hid (q = (fun x => szP (pArm m false x)) x) := ⟨_, rfl⟩
      rw [← Hq.out] at HCx HS' hle
      have w1 : ((A0 + S : Nat) : Int) + (q : Int) ≤ 4194304 := by omega
      have w0 : (0 : Int) ≤ ((A0 + S : Nat) : Int) + (q : Int) := by omega
      clear hb hrg hcs hR HS hlo
      go_wp2_with (first | (refine wpL_load rfl 60 _ rfl _ _ rfl _ HLd.out ?_) | fail)
      refine HCx.out.mono ?_
      rintro r w1 ⟨rfl, g1⟩
      have b1 : Below w.heap.size w w1 := HB.out.trans (g1.mono HB.out.size)
      clear g1 HCx HLd
      go_wp2
      go_roundg (gk - 1)
      case measure => omega
      case rel => exact ⟨n + 1, S + q, by omega, by simp, congrArg (Value.int .i64) (by omega), HS', hle, b1⟩
    · have i2 : ¬ ((n : Int) < (len : Int)) := by omega
      have hSt : S = (xs.map ((fun x => szP (pArm m false x)))).sum := by rw [HS.out, List.take_of_length_le (by have := HL.out; omega)]
      have HSt : Hid (S = (xs.map ((fun x => szP (pArm m false x)))).sum) := hSt
      clear hSt
      go_wp2
      go_ret
      exact ⟨by rw [HRES.out, ← HSt.out]; exact congrArg (fun z => Ending.returned (Value.int .i64 z)) (by omega), hb⟩


set_option maxRecDepth 10000 in
set_option maxHeartbeats 2000000 in
theorem ss_net_step (m : Nat) (k op : Int) (v1 : Value) (p1 : v1.oneCell' = true) (v : Value) (xs : List NetT) (w : World) (lo : Nat) (hv : RowIs w lo 4 (NetIs w lo m) v xs)
    (HC : Hid (∀ x cs, x ∈ xs → ∀ (W : World), (NetIs W lo m) x cs → Calls Tryz.prog 121 #[.agg cs.toArray] W fun r w' => r = .returned (.int .i64 (((fun x => szP (pNet m x)) x : Nat) : Int)) ∧ Below W.heap.size W w'))
    (HM : Hid (∀ x cs (W : World), Below w.heap.size w W → (NetIs w lo m) x cs → (NetIs W lo m) x cs)) (hbig : 1 + (xs.map (fun x => szP (pNet m x))).sum ≤ 4194304) :
    Calls Tryz.prog 121 #[.agg #[.int .i64 k, .int .i64 op, v1, v]] w fun r w' => r = .returned (.int .i64 ((1 + (xs.map (fun x => szP (pNet m x))).sum : Nat) : Int)) ∧ Below w.heap.size w w' := by
  obtain ⟨a, cap, rfl, hl, hx⟩ := hv
  have HX : Hid (∀ j x, xs[j]? = some x → ∃ b o cs, a = some ⟨b, o, none⟩ ∧ lo ≤ b ∧ cs.length = 4 ∧ w.rangeAt b (o + j * 4) cs ∧ (NetIs w lo m) x cs) := hx
  have HTot : Hid (∀ n, ((xs.take n).map (fun x => szP (pNet m x))).sum ≤ (xs.map (fun x => szP (pNet m x))).sum) := fun n => sum_take_le _ _ _
  obtain ⟨len, HL⟩ : ∃ len, Hid (len = xs.length) := ⟨_, rfl⟩
  rw [← HL.out] at hl ⊢
  clear hx
  obtain ⟨A0, hA0⟩ : ∃ A0 : Nat, A0 = 1 := ⟨_, rfl⟩
  have HBig : A0 + (xs.map (fun x => szP (pNet m x))).sum ≤ 4194304 := by omega
  obtain ⟨RES, HRES⟩ : ∃ r, Hid (r = A0 + (xs.map (fun x => szP (pNet m x))).sum) := ⟨_, rfl⟩
  rw [show 1 + (xs.map (fun x => szP (pNet m x))).sum = RES by rw [HRES.out]; omega]
  have hk := heap_alloc_last w (.cells #[.int .i64 k, .int .i64 op, v1, .slice a len cap] 57)
  have HKb : Hid ((w.alloc (.cells #[.int .i64 k, .int .i64 op, v1, .slice a len cap] 57)).heap[w.heap.size]? = some (.cells #[.int .i64 k, .int .i64 op, v1, .slice a len cap] 57 (0, 0))) := hk
  clear hk
  go_enter Tryz.func121, Tryz.ntmps121
  go_wp2
  go_loopg [3, 4] len (fun g s i wr => ∃ n S : Nat, n + g = len ∧ i = .int .i64 n ∧ s = .int .i64 (((A0 + S : Nat)) : Int) ∧ Hid (S = ((xs.take n).map ((fun x => szP (pNet m x)))).sum) ∧ A0 + S ≤ 4194304 ∧ Below w.heap.size w wr ∧ wr.heap[w.heap.size]? = some (.cells #[.int .i64 k, .int .i64 op, v1, .slice a len cap] 57 (0, 0)))
  case atStart => exact ⟨0, 0, by omega, rfl, by rw [hA0]; rfl, (by simp : (0 : Nat) = ((xs.take 0).map ((fun x => szP (pNet m x)))).sum), by omega, (Below.refl _ _).alloc (Nat.le_refl _) _, HKb.out⟩
  case round =>
    obtain ⟨n, S, hn, rfl, rfl, HS, hS, hb, hk0⟩ := hrel
    have c0 : wr.cell? ⟨w.heap.size, 3, none⟩ = some (.slice a len cap) := (cell_of_row _ _ _ _ _ _ hk0).trans rfl
    by_cases hlt : n < len
    · have i2 : (n : Int) < (len : Int) := by omega
      have i3 : (0 : Int) ≤ (n : Int) := by omega
      obtain ⟨x, hxn⟩ : ∃ x, xs[n]? = some x := ⟨_, List.getElem?_eq_getElem (by have := HL.out; omega)⟩
      obtain ⟨b, o, cs, rfl, hlo, hcs, hrg, hR⟩ := HX.out n x hxn
      have HB : Hid (Below w.heap.size w wr) := hb
      have HLd : Hid ((loadVar 57 ⟨b, o + n * 4, none⟩).run Tryz.prog wr = .ok (.agg cs.toArray) wr) := run_loadVar_mid wr b (o + n * 4) 57 cs _ (fun i c hi => (Keeps.of_below hb 0) _ _ _ (Nat.zero_le _) (hrg i c hi)) Tryz.underlying57 rfl (by rw [hcs]; kernel_rfl)
      have HCx : Hid (Calls Tryz.prog 121 #[.agg cs.toArray] wr fun r w' => r = .returned (.int .i64 (((fun x => szP (pNet m x)) x : Nat) : Int)) ∧ Below wr.heap.size wr w') := HC.out x cs (List.mem_of_getElem? hxn) wr (HM.out x cs wr hb hR)
      have HS' : Hid (S + (fun x => szP (pNet m x)) x = ((xs.take (n + 1)).map ((fun x => szP (pNet m x)))).sum) := (by rw [sum_take _ _ _ _ hxn, HS.out] : S + (fun x => szP (pNet m x)) x = ((xs.take (n + 1)).map ((fun x => szP (pNet m x)))).sum)
      have hle : A0 + (S + (fun x => szP (pNet m x)) x) ≤ 4194304 := by rw [HS'.out]; have := HTot.out (n + 1); omega
      obtain ⟨q, Hq⟩ : ∃ q, Hid (q = (fun x => szP (pNet m x)) x) := ⟨_, rfl⟩
      rw [← Hq.out] at HCx HS' hle
      have w1 : ((A0 + S : Nat) : Int) + (q : Int) ≤ 4194304 := by omega
      have w0 : (0 : Int) ≤ ((A0 + S : Nat) : Int) + (q : Int) := by omega
      have HK : Hid (wr.heap[w.heap.size]? = some (.cells #[.int .i64 k, .int .i64 op, v1, .slice (some ⟨b, o, none⟩) len cap] 57 (0, 0))) := hk0
      clear hb hrg hcs hR HS hlo hk0
      go_wp2_with (first | (refine wpL_load rfl 57 _ rfl _ _ rfl _ HLd.out ?_) | fail)
      refine HCx.out.mono ?_
      rintro r w1 ⟨rfl, g1⟩
      have b1 : Below w.heap.size w w1 := HB.out.trans (g1.mono HB.out.size)
      have k1 : Hid (w1.heap[w.heap.size]? = some (.cells #[.int .i64 k, .int .i64 op, v1, .slice (some ⟨b, o, none⟩) len cap] 57 (0, 0))) := (g1.block _ (Array.getElem?_eq_some_iff.1 HK.out).1).trans HK.out
      clear g1 HCx HLd c0
      go_wp2
      go_roundg (gk - 1)
      case measure => omega
      case rel => exact ⟨n + 1, S + q, by omega, by simp, congrArg (Value.int .i64) (by omega), HS', hle, b1, k1.out⟩
    · have i2 : ¬ ((n : Int) < (len : Int)) := by omega
      have hSt : S = (xs.map ((fun x => szP (pNet m x)))).sum := by rw [HS.out, List.take_of_length_le (by have := HL.out; omega)]
      have HSt : Hid (S = (xs.map ((fun x => szP (pNet m x)))).sum) := hSt
      clear hSt
      go_wp2
      go_ret
      exact ⟨by rw [HRES.out, ← HSt.out]; exact congrArg (fun z => Ending.returned (Value.int .i64 z)) (by omega), hb⟩


set_option maxRecDepth 10000 in
set_option maxHeartbeats 4000000 in
theorem ss_arm_step (m : Nat) (k op : Int) (a1 : Option Addr) (l1 c1 : Nat) (a2 : Option Addr) (l2 c2 : Nat) (a3 : Option Addr) (l3 c3 : Nat) (hl3 : l3 ≤ 1048576) (nn : Bool) (sn : Nat) (v : Value) (xs : List ArmT) (w : World) (lo : Nat) (hv : RowIs w lo 6 (ArmIs w lo m) v xs)
    (HC : Hid (∀ x cs, x ∈ xs → ∀ (W : World), (ArmIs W lo m) x cs → Calls Tryz.prog 75 #[.agg cs.toArray] W fun r w' => r = .returned (.int .i64 (((fun x => szP (pArm m false x)) x : Nat) : Int)) ∧ Below W.heap.size W w'))
    (HM : Hid (∀ x cs (W : World), Below w.heap.size w W → (ArmIs w lo m) x cs → (ArmIs W lo m) x cs))
    (HNn : Hid (∀ W, Calls Tryz.prog 72 #[.agg #[.int .i64 k, .int .i64 op, .slice a1 l1 c1, .slice a2 l2 c2]] W fun e w' => e = .returned (.bool nn) ∧ Below W.heap.size W w'))
    (HNs : Hid (∀ W, Below w.heap.size w W → Calls Tryz.prog 121 #[.agg #[.int .i64 k, .int .i64 op, .slice a1 l1 c1, .slice a2 l2 c2]] W fun e w' => e = .returned (.int .i64 (sn : Int)) ∧ Below W.heap.size W w'))
    (hbig : 1 + l3 + (if nn then 0 else sn) + (xs.map (fun x => szP (pArm m false x))).sum ≤ 4194304) :
    Calls Tryz.prog 75 #[.agg #[.int .i64 k, .int .i64 op, .slice a1 l1 c1, .slice a2 l2 c2, .slice a3 l3 c3, v]] w fun r w' => r = .returned (.int .i64 ((1 + l3 + (if nn then 0 else sn) + (xs.map (fun x => szP (pArm m false x))).sum : Nat) : Int)) ∧ Below w.heap.size w w' := by
  obtain ⟨a, cap, rfl, hl, hx⟩ := hv
  have HX : Hid (∀ j x, xs[j]? = some x → ∃ b o cs, a = some ⟨b, o, none⟩ ∧ lo ≤ b ∧ cs.length = 6 ∧ w.rangeAt b (o + j * 6) cs ∧ (ArmIs w lo m) x cs) := hx
  have HTot : Hid (∀ n, ((xs.take n).map (fun x => szP (pArm m false x))).sum ≤ (xs.map (fun x => szP (pArm m false x))).sum) := fun n => sum_take_le _ _ _
  obtain ⟨len, HL⟩ : ∃ len, Hid (len = xs.length) := ⟨_, rfl⟩
  rw [← HL.out] at hl ⊢
  clear hx
  obtain ⟨A0, hA0⟩ : ∃ A0 : Nat, A0 = 1 + l3 + (if nn then 0 else sn) := ⟨_, rfl⟩
  have HBig : A0 + (xs.map (fun x => szP (pArm m false x))).sum ≤ 4194304 := by omega
  obtain ⟨RES, HRES⟩ : ∃ r, Hid (r = A0 + (xs.map (fun x => szP (pArm m false x))).sum) := ⟨_, rfl⟩
  rw [show 1 + l3 + (if nn then 0 else sn) + (xs.map (fun x => szP (pArm m false x))).sum = RES by rw [HRES.out, hA0]]
  have hk := heap_alloc_last w (.cells #[.int .i64 k, .int .i64 op, .slice a1 l1 c1, .slice a2 l2 c2, .slice a3 l3 c3, .slice a len cap] 60)
  have b0 : Below w.heap.size w (w.alloc (.cells #[.int .i64 k, .int .i64 op, .slice a1 l1 c1, .slice a2 l2 c2, .slice a3 l3 c3, .slice a len cap] 60)) := (Below.refl _ _).alloc (Nat.le_refl _) _
  have HKb : Hid ((w.alloc (.cells #[.int .i64 k, .int .i64 op, .slice a1 l1 c1, .slice a2 l2 c2, .slice a3 l3 c3, .slice a len cap] 60)).heap[w.heap.size]? = some (.cells #[.int .i64 k, .int .i64 op, .slice a1 l1 c1, .slice a2 l2 c2, .slice a3 l3 c3, .slice a len cap] 60 (0, 0)) ∧ w.heap.size < (w.alloc (.cells #[.int .i64 k, .int .i64 op, .slice a1 l1 c1, .slice a2 l2 c2, .slice a3 l3 c3, .slice a len cap] 60)).heap.size) := ⟨hk, by simp⟩
  have q3 : (l3 : Int) ≤ 1048576 := by omega
  have q0 : (0 : Int) ≤ (l3 : Int) := by omega
  clear hk
  go_enter Tryz.func75, Tryz.ntmps75
  go_wp2_with fail
  refine (HNn.out _).mono ?_
  rintro e w0 ⟨rfl, g0⟩
  have k0 : w0.heap[w.heap.size]? = some (.cells #[.int .i64 k, .int .i64 op, .slice a1 l1 c1, .slice a2 l2 c2, .slice a3 l3 c3, .slice a len cap] 60 (0, 0)) := (g0.block _ HKb.out.2).trans HKb.out.1
  have b1 := b0.trans (g0.mono b0.size)
  clear g0 HKb b0
  cases nn with
  | true =>
    have k1 : Hid (w0.heap[w.heap.size]? = some (.cells #[.int .i64 k, .int .i64 op, .slice a1 l1 c1, .slice a2 l2 c2, .slice a3 l3 c3, .slice a len cap] 60 (0, 0))) := k0
    have hA1 : A0 = 1 + l3 := by simpa using hA0
    clear k0 hA0 HNs HNn
    go_wp2
    go_loopg [3, 4] len (fun g s i wr => ∃ n S : Nat, n + g = len ∧ i = .int .i64 n ∧ s = .int .i64 (((A0 + S : Nat)) : Int) ∧ Hid (S = ((xs.take n).map ((fun x => szP (pArm m false x)))).sum) ∧ A0 + S ≤ 4194304 ∧ Below w.heap.size w wr ∧ wr.heap[w.heap.size]? = some (.cells #[.int .i64 k, .int .i64 op, .slice a1 l1 c1, .slice a2 l2 c2, .slice a3 l3 c3, .slice a len cap] 60 (0, 0)))
    case atStart => exact ⟨0, 0, by omega, rfl, by rw [hA1]; exact congrArg (Value.int .i64) (by omega), (by simp : (0 : Nat) = ((xs.take 0).map ((fun x => szP (pArm m false x)))).sum), by omega, b1, k1.out⟩
    case round =>
      obtain ⟨n, S, hn, rfl, rfl, HS, hS, hb, hk0⟩ := hrel
      have c0 : wr.cell? ⟨w.heap.size, 5, none⟩ = some (.slice a len cap) := (cell_of_row _ _ _ _ _ _ hk0).trans rfl
      by_cases hlt : n < len
      · have i2 : (n : Int) < (len : Int) := by omega
        have i3 : (0 : Int) ≤ (n : Int) := by omega
        obtain ⟨x, hxn⟩ : ∃ x, xs[n]? = some x := ⟨_, List.getElem?_eq_getElem (by have := HL.out; omega)⟩
        obtain ⟨b, o, cs, rfl, hlo, hcs, hrg, hR⟩ := HX.out n x hxn
        have HB : Hid (Below w.heap.size w wr) := hb
        have HLd : Hid ((loadVar 60 ⟨b, o + n * 6, none⟩).run Tryz.prog wr = .ok (.agg cs.toArray) wr) := run_loadVar_mid wr b (o + n * 6) 60 cs _ (fun i c hi => (Keeps.of_below hb 0) _ _ _ (Nat.zero_le _) (hrg i c hi)) Tryz.underlying60 rfl (by rw [hcs]; kernel_rfl)
        have HCx : Hid (Calls Tryz.prog 75 #[.agg cs.toArray] wr fun r w' => r = .returned (.int .i64 (((fun x => szP (pArm m false x)) x : Nat) : Int)) ∧ Below wr.heap.size wr w') := HC.out x cs (List.mem_of_getElem? hxn) wr (HM.out x cs wr hb hR)
        have HS' : Hid (S + (fun x => szP (pArm m false x)) x = ((xs.take (n + 1)).map ((fun x => szP (pArm m false x)))).sum) := (by rw [sum_take _ _ _ _ hxn, HS.out] : S + (fun x => szP (pArm m false x)) x = ((xs.take (n + 1)).map ((fun x => szP (pArm m false x)))).sum)
        have hle : A0 + (S + (fun x => szP (pArm m false x)) x) ≤ 4194304 := by rw [HS'.out]; have := HTot.out (n + 1); omega
        obtain ⟨q, Hq⟩ : ∃ q, Hid (q = (fun x => szP (pArm m false x)) x) := ⟨_, rfl⟩
        rw [← Hq.out] at HCx HS' hle
        have w1 : ((A0 + S : Nat) : Int) + (q : Int) ≤ 4194304 := by omega
        have w0 : (0 : Int) ≤ ((A0 + S : Nat) : Int) + (q : Int) := by omega
        have HK : Hid (wr.heap[w.heap.size]? = some (.cells #[.int .i64 k, .int .i64 op, .slice a1 l1 c1, .slice a2 l2 c2, .slice a3 l3 c3, .slice (some ⟨b, o, none⟩) len cap] 60 (0, 0))) := hk0
        clear hb hrg hcs hR HS hlo hk0
        go_wp2_with (first | (refine wpL_load rfl 60 _ rfl _ _ rfl _ HLd.out ?_) | fail)
        refine HCx.out.mono ?_
        rintro r w1 ⟨rfl, g1⟩
        have b1 : Below w.heap.size w w1 := HB.out.trans (g1.mono HB.out.size)
        have k1 : Hid (w1.heap[w.heap.size]? = some (.cells #[.int .i64 k, .int .i64 op, .slice a1 l1 c1, .slice a2 l2 c2, .slice a3 l3 c3, .slice (some ⟨b, o, none⟩) len cap] 60 (0, 0))) := (g1.block _ (Array.getElem?_eq_some_iff.1 HK.out).1).trans HK.out
        clear g1 HCx HLd c0
        go_wp2
        go_roundg (gk - 1)
        case measure => omega
        case rel => exact ⟨n + 1, S + q, by omega, by simp, congrArg (Value.int .i64) (by omega), HS', hle, b1, k1.out⟩
      · have i2 : ¬ ((n : Int) < (len : Int)) := by omega
        have hSt : S = (xs.map ((fun x => szP (pArm m false x)))).sum := by rw [HS.out, List.take_of_length_le (by have := HL.out; omega)]
        have HSt : Hid (S = (xs.map ((fun x => szP (pArm m false x)))).sum) := hSt
        clear hSt
        go_wp2
        go_ret
        exact ⟨by rw [HRES.out, ← HSt.out]; exact congrArg (fun z => Ending.returned (Value.int .i64 z)) (by omega), hb⟩
  | false =>
    have hA1 : A0 = 1 + l3 + sn := by simpa using hA0
    have d0 : w0.cell? ⟨w.heap.size, 0, none⟩ = some (.int .i64 k) := (cell_of_row _ _ _ _ _ _ k0).trans rfl
    have d1 : w0.cell? ⟨w.heap.size, 1, none⟩ = some (.int .i64 op) := (cell_of_row _ _ _ _ _ _ k0).trans rfl
    have d2 : w0.cell? ⟨w.heap.size, 2, none⟩ = some (.slice a1 l1 c1) := (cell_of_row _ _ _ _ _ _ k0).trans rfl
    have d3 : w0.cell? ⟨w.heap.size, 3, none⟩ = some (.slice a2 l2 c2) := (cell_of_row _ _ _ _ _ _ k0).trans rfl
    have K0 : Hid (w0.heap[w.heap.size]? = some (.cells #[.int .i64 k, .int .i64 op, .slice a1 l1 c1, .slice a2 l2 c2, .slice a3 l3 c3, .slice a len cap] 60 (0, 0))) := k0
    have s1 : (sn : Int) ≤ 4194304 := by omega
    have s0 : (0 : Int) ≤ (sn : Int) := by omega
    have B1 : Hid (Below w.heap.size w w0) := b1
    clear k0 hA0 HNn b1
    go_wp2_with fail
    refine (HNs.out _ B1.out).mono ?_
    rintro e w2 ⟨rfl, g2⟩
    have k1 : Hid (w2.heap[w.heap.size]? = some (.cells #[.int .i64 k, .int .i64 op, .slice a1 l1 c1, .slice a2 l2 c2, .slice a3 l3 c3, .slice a len cap] 60 (0, 0))) := (g2.block _ (Array.getElem?_eq_some_iff.1 K0.out).1).trans K0.out
    have b1 := B1.out.trans (g2.mono B1.out.size)
    clear g2 K0 d0 d1 d2 d3 HNs B1
    go_wp2
    go_loopg [3, 4] len (fun g s i wr => ∃ n S : Nat, n + g = len ∧ i = .int .i64 n ∧ s = .int .i64 (((A0 + S : Nat)) : Int) ∧ Hid (S = ((xs.take n).map ((fun x => szP (pArm m false x)))).sum) ∧ A0 + S ≤ 4194304 ∧ Below w.heap.size w wr ∧ wr.heap[w.heap.size]? = some (.cells #[.int .i64 k, .int .i64 op, .slice a1 l1 c1, .slice a2 l2 c2, .slice a3 l3 c3, .slice a len cap] 60 (0, 0)))
    case atStart => exact ⟨0, 0, by omega, rfl, by rw [hA1]; exact congrArg (Value.int .i64) (by omega), (by simp : (0 : Nat) = ((xs.take 0).map ((fun x => szP (pArm m false x)))).sum), by omega, b1, k1.out⟩
    case round =>
      obtain ⟨n, S, hn, rfl, rfl, HS, hS, hb, hk0⟩ := hrel
      have c0 : wr.cell? ⟨w.heap.size, 5, none⟩ = some (.slice a len cap) := (cell_of_row _ _ _ _ _ _ hk0).trans rfl
      by_cases hlt : n < len
      · have i2 : (n : Int) < (len : Int) := by omega
        have i3 : (0 : Int) ≤ (n : Int) := by omega
        obtain ⟨x, hxn⟩ : ∃ x, xs[n]? = some x := ⟨_, List.getElem?_eq_getElem (by have := HL.out; omega)⟩
        obtain ⟨b, o, cs, rfl, hlo, hcs, hrg, hR⟩ := HX.out n x hxn
        have HB : Hid (Below w.heap.size w wr) := hb
        have HLd : Hid ((loadVar 60 ⟨b, o + n * 6, none⟩).run Tryz.prog wr = .ok (.agg cs.toArray) wr) := run_loadVar_mid wr b (o + n * 6) 60 cs _ (fun i c hi => (Keeps.of_below hb 0) _ _ _ (Nat.zero_le _) (hrg i c hi)) Tryz.underlying60 rfl (by rw [hcs]; kernel_rfl)
        have HCx : Hid (Calls Tryz.prog 75 #[.agg cs.toArray] wr fun r w' => r = .returned (.int .i64 (((fun x => szP (pArm m false x)) x : Nat) : Int)) ∧ Below wr.heap.size wr w') := HC.out x cs (List.mem_of_getElem? hxn) wr (HM.out x cs wr hb hR)
        have HS' : Hid (S + (fun x => szP (pArm m false x)) x = ((xs.take (n + 1)).map ((fun x => szP (pArm m false x)))).sum) := (by rw [sum_take _ _ _ _ hxn, HS.out] : S + (fun x => szP (pArm m false x)) x = ((xs.take (n + 1)).map ((fun x => szP (pArm m false x)))).sum)
        have hle : A0 + (S + (fun x => szP (pArm m false x)) x) ≤ 4194304 := by rw [HS'.out]; have := HTot.out (n + 1); omega
        obtain ⟨q, Hq⟩ : ∃ q, Hid (q = (fun x => szP (pArm m false x)) x) := ⟨_, rfl⟩
        rw [← Hq.out] at HCx HS' hle
        have w1 : ((A0 + S : Nat) : Int) + (q : Int) ≤ 4194304 := by omega
        have w0 : (0 : Int) ≤ ((A0 + S : Nat) : Int) + (q : Int) := by omega
        have HK : Hid (wr.heap[w.heap.size]? = some (.cells #[.int .i64 k, .int .i64 op, .slice a1 l1 c1, .slice a2 l2 c2, .slice a3 l3 c3, .slice (some ⟨b, o, none⟩) len cap] 60 (0, 0))) := hk0
        clear hb hrg hcs hR HS hlo hk0
        go_wp2_with (first | (refine wpL_load rfl 60 _ rfl _ _ rfl _ HLd.out ?_) | fail)
        refine HCx.out.mono ?_
        rintro r w1 ⟨rfl, g1⟩
        have b1 : Below w.heap.size w w1 := HB.out.trans (g1.mono HB.out.size)
        have k1 : Hid (w1.heap[w.heap.size]? = some (.cells #[.int .i64 k, .int .i64 op, .slice a1 l1 c1, .slice a2 l2 c2, .slice a3 l3 c3, .slice (some ⟨b, o, none⟩) len cap] 60 (0, 0))) := (g1.block _ (Array.getElem?_eq_some_iff.1 HK.out).1).trans HK.out
        clear g1 HCx HLd c0
        go_wp2
        go_roundg (gk - 1)
        case measure => omega
        case rel => exact ⟨n + 1, S + q, by omega, by simp, congrArg (Value.int .i64) (by omega), HS', hle, b1, k1.out⟩
      · have i2 : ¬ ((n : Int) < (len : Int)) := by omega
        have hSt : S = (xs.map ((fun x => szP (pArm m false x)))).sum := by rw [HS.out, List.take_of_length_le (by have := HL.out; omega)]
        have HSt : Hid (S = (xs.map ((fun x => szP (pArm m false x)))).sum) := hSt
        clear hSt
        go_wp2
        go_ret
        exact ⟨by rw [HRES.out, ← HSt.out]; exact congrArg (fun z => Ending.returned (Value.int .i64 z)) (by omega), hb⟩


theorem ss_net : ∀ (m : Nat) (t : NetT) (cs : List Value) (w : World) (lo : Nat) (hv : NetIs w lo m t cs) (hbig : szP (pNet m t) ≤ 4194304),
    Calls Tryz.prog 121 #[.agg cs.toArray] w fun r w' => r = .returned (.int .i64 (szP (pNet m t) : Nat)) ∧ Below w.heap.size w w'
  | 0, _, _, _, _, h, _ => h.elim
  | m + 1, .mk k e kids, cs, w, lo, hv, hbig => by
    obtain ⟨v, v', rfl, ha, hk⟩ := hv
    have e1 : szP (pNet (m + 1) (.mk k e kids)) = 1 + (kids.map fun x => szP (pNet m x)).sum := by
      rw [← szP_flat]; rfl
    rw [e1] at hbig ⊢
    exact ss_net_step m k e.op v ha.one v' kids w lo hk (fun x cs hx W h => ss_net m x cs W lo h (by have := sum_mem (fun x => szP (pNet m x)) kids x hx; omega)) (fun x cs W g h => NetIs.move (Keeps.of_below g lo) (Nat.le_refl _) _ _ (Nat.le_refl _) _ _ h) hbig
theorem ss_arm : ∀ (m : Nat) (t : ArmT) (cs : List Value) (w : World) (lo : Nat) (hv : ArmIs w lo m t cs) (hbig : szP (pArm m false t) ≤ 4194304) (hw : wA m t ≤ 1048576),
    Calls Tryz.prog 75 #[.agg cs.toArray] w fun r w' => r = .returned (.int .i64 (szP (pArm m false t) : Nat)) ∧ Below w.heap.size w w'
  | 0, _, _, _, _, h, _, _ => h.elim
  | m + 1, .mk net coils kids, cs, w, lo, hv, hbig, hw => by
    obtain ⟨ns, v, v', rfl, hn, hc, hk⟩ := hv
    have e1 : szP (pArm (m + 1) false (.mk net coils kids)) = 1 + coils.length + (if noneT net then 0 else szP (pNet m net)) + (kids.map fun x => szP (pArm m false x)).sum := by
      show szP ((if noneT net then ([] : List PartT) else pNet m net) ++ .inr (.mk net coils kids, false) :: kids.flatMap (pArm m false)) = _
      rw [szP_app, ← szP_flat, show szP (.inr (.mk net coils kids, false) :: kids.flatMap (pArm m false)) = 1 + coils.length + szP (kids.flatMap (pArm m false)) from rfl]
      cases noneT net
      · simp; omega
      · show szP [] + _ = _
        rw [show szP [] = 0 from rfl]; simp
    rw [e1] at hbig ⊢
    rw [show wA (m + 1) (ArmT.mk net coils kids) = wN m net + (coils.length + (coils.map wE).sum) + (kids.length + (kids.map (wA m)).sum) from rfl] at hw
    have hn' := hn
    cases m with
    | zero => exact hn.elim
    | succ m' =>
      cases net with
      | mk k e nk =>
        obtain ⟨v1, v2, rfl, ha, hnk⟩ := hn
        obtain ⟨a1, c1, rfl, hl1, _⟩ := id ha
        obtain ⟨a2, c2, rfl, hl2, _⟩ := id hnk
        obtain ⟨a3, c3, rfl, hl3, _⟩ := id hc
        exact ss_arm_step (m' + 1) k e.op a1 _ c1 a2 _ c2 a3 _ c3 (by omega) (noneT (.mk k e nk)) (szP (pNet (m' + 1) (.mk k e nk))) v' kids w lo hk
          (fun x cs hx W h => ss_arm (m' + 1) x cs W lo h (by have := sum_mem (fun x => szP (pArm (m' + 1) false x)) kids x hx; omega) (by have := sum_mem (wA (m' + 1)) kids x hx; omega))
          (fun x cs W g h => ArmIs.move (Keeps.of_below g lo) (Nat.le_refl _) _ _ (Nat.le_refl _) _ _ h)
          (fun W => by rw [noneT_len]; exact none_s k e.op a1 _ c1 a2 _ c2 W hl1 hl2)
          (fun W g => ss_net (m' + 1) (.mk k e nk) _ W lo (NetIs.move (Keeps.of_below g lo) (Nat.le_refl _) _ _ (Nat.le_refl _) _ _ hn') (by have := szNet_le (m' + 1) (.mk k e nk); omega)) hbig
theorem ss_arms (m : Nat) (v : Value) (xs : List ArmT) (w : World) (lo : Nat) (hv : ArmsIs w lo m v xs) (hw : xs.length + (xs.map (wA m)).sum ≤ 1048576) :
    Calls Tryz.prog 33 #[v] w fun r w' => r = .returned (.int .i64 (szP (xs.flatMap (pArm m false)) : Nat)) ∧ Below w.heap.size w w' := by
  have hle := szArms_le m xs
  rw [szP_flat] at hle ⊢
  exact ss_arms_row m v xs w lo hv (fun x cs hx W h => ss_arm m x cs W lo h (by have := sum_mem (fun x => szP (pArm m false x)) xs x hx; omega) (by have := sum_mem (wA m) xs x hx; omega)) (fun x cs W g h => ArmIs.move (Keeps.of_below g lo) (Nat.le_refl _) _ _ (Nat.le_refl _) _ _ h) (by omega)
end Go.Proofs.YtgopfaegdlefpaaGreatDoor
/- What is wrong with a ladder, as mathematics: the first code of its parts. -/
namespace Go.Proofs.YtgopfaegdlefpaaGreatDoor
open Go.RowKit
set_option linter.unusedVariables false

/-- The code of a net alone, out of its fields. -/
def cNv (k op : Int) (l1 l2 : Nat) (b : Bool) : Int :=
  if k = 1 then (if 0 < l2 then 2 else if b then 0 else 3) else if 2 ≤ k ∧ k ≤ 4 ∧ op = 0 ∧ l1 = 0 ∧ 0 < l2 ∧ (k = 4 → l2 = 1) then 0 else 2
def cN (ct : Int → List ArgT → Bool) : NetT → Int
  | .mk k e kids => cNv k e.op e.args.length kids.length (ct e.op e.args)
/-- The code of an arm alone. -/
def cAv (r nn ok : Bool) (l3 l4 : Nat) : Int :=
  if r && nn then 4 else if ok then (if l3 = 0 ∧ l4 = 0 then 5 else 0) else 3
def cA (cl : Int → List ArgT → Bool) : ArmT × Bool → Int
  | (.mk net coils kids, r) => cAv r (noneT net) (coils.all fun e => cl e.op e.args) coils.length kids.length
def cP (ct cl : Int → List ArgT → Bool) : PartT → Int
  | .inl t => cN ct t
  | .inr a => cA cl a
def firstC (ct cl : Int → List ArgT → Bool) : List PartT → Int
  | [] => 0
  | p :: ps => if cP ct cl p = 0 then firstC ct cl ps else cP ct cl p
theorem cNv_range (k op : Int) (l1 l2 : Nat) (b : Bool) : 0 ≤ cNv k op l1 l2 b ∧ cNv k op l1 l2 b ≤ 5 := by
  unfold cNv
  repeat' split
  all_goals omega
theorem cAv_range (r nn ok : Bool) (l3 l4 : Nat) : 0 ≤ cAv r nn ok l3 l4 ∧ cAv r nn ok l3 l4 ≤ 5 := by
  unfold cAv
  repeat' split
  all_goals omega
theorem cP_range (ct cl : Int → List ArgT → Bool) (p : PartT) : 0 ≤ cP ct cl p ∧ cP ct cl p ≤ 5 := by
  cases p with
  | inl t => cases t; exact cNv_range _ _ _ _ _
  | inr a => obtain ⟨a, r⟩ := a; cases a; exact cAv_range _ _ _ _ _
theorem firstC_range (ct cl : Int → List ArgT → Bool) : ∀ ps : List PartT, 0 ≤ firstC ct cl ps ∧ firstC ct cl ps ≤ 5
  | [] => by simp [firstC]
  | p :: ps => by
    unfold firstC
    split
    · exact firstC_range ct cl ps
    · exact cP_range ct cl p
theorem firstC_app (ct cl : Int → List ArgT → Bool) : ∀ (a b : List PartT), firstC ct cl (a ++ b) = if firstC ct cl a = 0 then firstC ct cl b else firstC ct cl a
  | [], b => by simp [firstC]
  | p :: ps, b => by
    have h := firstC_app ct cl ps b
    simp only [List.cons_append, firstC]
    by_cases hp : cP ct cl p = 0
    · simp only [hp, if_true]; exact h
    · simp only [hp, if_false]
theorem firstC_zero_app {ct cl : Int → List ArgT → Bool} {a b : List PartT} (h : firstC ct cl a = 0) : firstC ct cl (a ++ b) = firstC ct cl b := by rw [firstC_app, if_pos h]
theorem firstC_hit_app {ct cl : Int → List ArgT → Bool} {a b : List PartT} (h : firstC ct cl a ≠ 0) : firstC ct cl (a ++ b) = firstC ct cl a := by rw [firstC_app, if_neg h]
theorem first_hit {α : Type} {ct cl : Int → List ArgT → Bool} (f : α → List PartT) (xs : List α) (c : Nat) (x : α) (h : xs[c]? = some x) (h0 : firstC ct cl ((xs.take c).flatMap f) = 0) (h1 : firstC ct cl (f x) ≠ 0) : firstC ct cl (xs.flatMap f) = firstC ct cl (f x) := by
  rw [flat_at f xs c x h, firstC_zero_app h0, firstC_hit_app h1]
theorem first_go {α : Type} {ct cl : Int → List ArgT → Bool} (f : α → List PartT) (xs : List α) (c : Nat) (x : α) (h : xs[c]? = some x) (h0 : firstC ct cl ((xs.take c).flatMap f) = 0) (h1 : firstC ct cl (f x) = 0) : firstC ct cl ((xs.take (c + 1)).flatMap f) = 0 := by
  rw [List.take_add_one, h]
  simp only [Option.toList_some, List.flatMap_append, List.flatMap_cons, List.flatMap_nil, List.append_nil]
  rw [firstC_zero_app h0]; exact h1
theorem firstC_all {α : Type} {ct cl : Int → List ArgT → Bool} {f : α → List PartT} : ∀ {xs : List α}, firstC ct cl (xs.flatMap f) = 0 → ∀ x ∈ xs, firstC ct cl (f x) = 0
  | y :: ys, h, x, hx => by
    rw [List.flatMap_cons, firstC_app] at h
    by_cases h0 : firstC ct cl (f y) = 0
    · rw [if_pos h0] at h
      rcases List.mem_cons.1 hx with rfl | hx
      · exact h0
      · exact firstC_all h x hx
    · rw [if_neg h0] at h; exact absurd h h0
theorem firstC_net (ct cl : Int → List ArgT → Bool) (m : Nat) (k : Int) (e : ElemT) (kids : List NetT) : firstC ct cl (pNet (m + 1) (.mk k e kids)) = if cNv k e.op e.args.length kids.length (ct e.op e.args) = 0 then firstC ct cl (kids.flatMap (pNet m)) else cNv k e.op e.args.length kids.length (ct e.op e.args) := rfl
theorem firstC_arm (ct cl : Int → List ArgT → Bool) (m : Nat) (r : Bool) (net : NetT) (coils : List ElemT) (kids : List ArmT) : firstC ct cl (pArm (m + 1) r (.mk net coils kids)) =
    (let a := if noneT net then 0 else firstC ct cl (pNet m net)
     let b := cAv r (noneT net) (coils.all fun e => cl e.op e.args) coils.length kids.length
     if a = 0 then (if b = 0 then firstC ct cl (kids.flatMap (pArm m false)) else b) else a) := by
  show firstC ct cl ((if noneT net then ([] : List PartT) else pNet m net) ++ .inr (.mk net coils kids, r) :: kids.flatMap (pArm m false)) = _
  rw [firstC_app]
  have e1 : firstC ct cl (if noneT net then ([] : List PartT) else pNet m net) = if noneT net then 0 else firstC ct cl (pNet m net) := by
    cases noneT net <;> rfl
  rw [e1]
  rfl

/-- The first rung that is wrong. -/
def firstR (f : ArmT → Int) : Nat → List ArmT → Int × Int
  | _, [] => (0, 0)
  | i, x :: xs => if f x = 0 then firstR f (i + 1) xs else (f x, i)
def manyT (m : Nat) (xs : List ArmT) : Bool := decide (40 < xs.length) || decide (400 < szP (xs.flatMap (pArm m false)))
def treeC (ct cl : Int → List ArgT → Bool) (m : Nat) (xs : List ArmT) : Int × Int :=
  if manyT m xs then (1, 0) else firstR (fun x => firstC ct cl (pArm m true x)) 0 xs
theorem firstR_skip (f : ArmT → Int) : ∀ (xs : List ArmT) (i c : Nat), (∀ x ∈ xs.take c, f x = 0) → firstR f i xs = firstR f (i + min c xs.length) (xs.drop c)
  | [], i, c, _ => by simp [firstR]
  | x :: xs, i, 0, _ => by simp
  | x :: xs, i, c + 1, h => by
    have h0 : f x = 0 := h x (by simp)
    have hr := firstR_skip f xs (i + 1) c (fun y hy => h y (by simp [hy]))
    simp only [firstR, h0, if_true, List.drop_succ_cons, List.length_cons]
    rw [hr]
    congr 1
    omega
theorem firstR_hit (f : ArmT → Int) (xs : List ArmT) (c : Nat) (x : ArmT) (h : xs[c]? = some x) (h0 : ∀ y ∈ xs.take c, f y = 0) (h1 : f x ≠ 0) : firstR f 0 xs = (f x, (c : Int)) := by
  obtain ⟨hc, rfl⟩ := List.getElem?_eq_some_iff.1 h
  rw [firstR_skip f xs 0 c h0, List.drop_eq_getElem_cons hc]
  simp only [firstR, h1, if_false]
  congr 1
  omega
theorem firstR_none (f : ArmT → Int) (xs : List ArmT) (h0 : ∀ y ∈ xs, f y = 0) : firstR f 0 xs = (0, 0) := by
  rw [firstR_skip f xs 0 xs.length (fun y hy => h0 y (List.mem_of_mem_take hy))]
  simp [firstR]
theorem take_go {α : Type} {f : α → Int} {xs : List α} {c : Nat} {x : α} (h : xs[c]? = some x) (h0 : ∀ y ∈ xs.take c, f y = 0) (h1 : f x = 0) : ∀ y ∈ xs.take (c + 1), f y = 0 := by
  intro y hy
  rw [List.take_add_one, h] at hy
  simp only [Option.toList_some, List.mem_append, List.mem_singleton] at hy
  rcases hy with hy | rfl
  · exact h0 y hy
  · exact h1

/-- An error, out of its code. -/
def errV (c : Int) : Value := if c = 0 then .nilIface else .iface 95 (.agg #[.int .i64 c])
theorem errV_0 : errV 0 = .nilIface := rfl
theorem errV_ne {c : Int} (h : c ≠ 0) : errV c = .iface 95 (.agg #[.int .i64 c]) := if_neg h
end Go.Proofs.YtgopfaegdlefpaaGreatDoor
