/- How much there is in a ladder: the laws' sz.. functions. -/
import Derived.Test.YtgopfaegdlefpaaGreatDoorGa
import Derived.Test.YtgopfaegdlefpaaGreatDoorMa
import Derived.Deep.LoopGhost
namespace Go.Proofs.YtgopfaegdlefpaaGreatDoor
open Go.RowKit
set_option linter.unusedVariables false

def szR (left : Int) (w : Nat) : Int := if (w : Int) ≤ left then left - w else -1
theorem szR_yes {left : Int} {w : Nat} (h : (w : Int) ≤ left) : szR left w = left - w := if_pos h
theorem szR_no {left : Int} {w : Nat} (h : ¬ (w : Int) ≤ left) : szR left w = -1 := if_neg h

set_option maxHeartbeats 1000000 in
theorem sz_args (left : Int) (h0 : 0 ≤ left) (h1 : left ≤ 1048576) (v : Value) (xs : List ArgT) (w : World) (lo : Nat) (hv : ArgsIs w lo v xs) :
    Calls Tryz.prog 173 #[v, .int .i64 left] w fun e w' => e = .returned (.int .i64 (szR left xs.length)) ∧ Below w.heap.size w w' := by
  obtain ⟨a, cap, rfl, hl, _⟩ := hv
  generalize xs.length = len at hl ⊢
  by_cases h : (len : Int) ≤ left
  · rw [szR_yes h]
    have i1 : ¬ (left - (len : Int) < 0) := by omega
    go_enter Tryz.func173, Tryz.ntmps173
    go_wp2
    go_ret
    exact ⟨rfl, Below.refl _ _⟩
  · rw [szR_no h]
    have i1 : left - (len : Int) < 0 := by omega
    go_enter Tryz.func173, Tryz.ntmps173
    go_wp2
    go_ret
    exact ⟨rfl, Below.refl _ _⟩

set_option maxHeartbeats 1000000 in
theorem sz_elem (left : Int) (h0 : 0 ≤ left) (h1 : left ≤ 1048576) (e : ElemT) (cs : List Value) (w : World) (lo : Nat) (hv : ElemIs w lo e cs) :
    Calls Tryz.prog 138 #[.agg cs.toArray, .int .i64 left] w fun r w' => r = .returned (.int .i64 (szR left (wE e))) ∧ Below w.heap.size w w' := by
  obtain ⟨v, rfl, hr⟩ := hv
  have hr' := hr
  obtain ⟨a, cap, rfl, hl, _⟩ := hr'
  have HA : Hid (∀ W, ArgsIs W lo (.slice a e.args.length cap) e.args → Calls Tryz.prog 173 #[.slice a e.args.length cap, .int .i64 left] W fun r w' => r = .returned (.int .i64 (szR left (wE e))) ∧ Below W.heap.size W w') := fun W h => sz_args left h0 h1 _ _ W lo h
  have HR : Hid (ArgsIs w lo (.slice a e.args.length cap) e.args) := hr
  have HK : Hid (0 ≤ szR left (wE e) ∨ szR left (wE e) = -1) := by
    by_cases h : ((wE e : Nat) : Int) ≤ left
    · left; rw [szR_yes h]; omega
    · right; exact szR_no h
  generalize e.args.length = len at HA HR hl ⊢
  generalize szR left (wE e) = R at HA HK ⊢
  clear hr
  go_enter Tryz.func138, Tryz.ntmps138
  go_wp2_with fail
  refine (HA.out _ (argsIs_move (Keeps.alloc _ _) (Nat.le_refl _) HR.out)).mono ?_
  rintro r w1 ⟨rfl, g1⟩
  have b1 : Below w.heap.size w w1 := ((Below.refl _ _).alloc (Nat.le_refl _) _).trans (g1.mono (by simp))
  clear g1
  rcases HK.out with h | rfl
  · have i1 : ¬ (R < 0) := by omega
    go_wp2
    go_ret
    exact ⟨rfl, b1⟩
  · go_wp2
    go_ret
    exact ⟨rfl, b1⟩


set_option maxRecDepth 10000 in
set_option maxHeartbeats 2000000 in
theorem sz_elems_row (left : Int) (h0 : 0 ≤ left) (h1 : left ≤ 1048576) (v : Value) (xs : List ElemT) (w : World) (lo : Nat) (hv : RowIs w lo 2 (ElemIs w lo) v xs)
    (HC : Hid (∀ x cs, x ∈ xs → ∀ (l : Int) (W : World), 0 ≤ l → l ≤ 1048576 → (ElemIs W lo) x cs → Calls Tryz.prog 138 #[.agg cs.toArray, .int .i64 l] W fun r w' => r = .returned (.int .i64 (szR l (wE x))) ∧ Below W.heap.size W w'))
    (HM : Hid (∀ x cs (W : World), Below w.heap.size w W → (ElemIs w lo) x cs → (ElemIs W lo) x cs)) :
    Calls Tryz.prog 102 #[v, .int .i64 left] w fun r w' => r = .returned (.int .i64 (szR left (xs.length + (xs.map (wE)).sum))) ∧ Below w.heap.size w w' := by
  obtain ⟨a, cap, rfl, hl, hx⟩ := hv
  have HX : Hid (∀ j x, xs[j]? = some x → ∃ b o cs, a = some ⟨b, o, none⟩ ∧ lo ≤ b ∧ cs.length = 2 ∧ w.rangeAt b (o + j * 2) cs ∧ (ElemIs w lo) x cs) := hx
  have HTot : Hid (∀ n, ((xs.take n).map (wE)).sum ≤ (xs.map (wE)).sum) := fun n => sum_take_le _ _ _
  obtain ⟨len, HL⟩ : ∃ len, Hid (len = xs.length) := ⟨_, rfl⟩
  obtain ⟨tot, HT⟩ : ∃ t, Hid (t = (xs.map (wE)).sum) := ⟨_, rfl⟩
  rw [← HL.out] at hl ⊢
  rw [← HT.out] at HTot ⊢
  clear hx
  by_cases h : (len : Int) ≤ left
  · have i1 : ¬ (left - (len : Int) < 0) := by omega
    go_enter Tryz.func102, Tryz.ntmps102
    go_wp2
    go_loopg [1, 5] len (fun g l i wr => ∃ n S : Nat, n + g = len ∧ i = .int .i64 n ∧ l = .int .i64 (left - len - S) ∧ Hid (S = ((xs.take n).map (wE)).sum) ∧ (S : Int) ≤ left - len ∧ Below w.heap.size w wr)
    case atStart => exact ⟨0, 0, by omega, rfl, by simp, (by simp : (0 : Nat) = ((xs.take 0).map (wE)).sum), by omega, Below.refl _ _⟩
    case round =>
      obtain ⟨n, S, hn, rfl, rfl, HS, hS, hb⟩ := hrel
      by_cases hlt : n < len
      · have i2 : (n : Int) < (len : Int) := by omega
        have i3 : (0 : Int) ≤ (n : Int) := by omega
        obtain ⟨x, hxn⟩ : ∃ x, xs[n]? = some x := ⟨_, List.getElem?_eq_getElem (by have := HL.out; omega)⟩
        obtain ⟨b, o, cs, rfl, hlo, hcs, hrg, hR⟩ := HX.out n x hxn
        have HB : Hid (Below w.heap.size w wr) := hb
        have HLd : Hid ((loadVar 113 ⟨b, o + n * 2, none⟩).run Tryz.prog wr = .ok (.agg cs.toArray) wr) := run_loadVar_mid wr b (o + n * 2) 113 cs _ (fun i c hi => (Keeps.of_below hb 0) _ _ _ (Nat.zero_le _) (hrg i c hi)) Tryz.underlying113 rfl (by rw [hcs]; kernel_rfl)
        have HCx : Hid (Calls Tryz.prog 138 #[.agg cs.toArray, .int .i64 (left - len - S)] wr fun r w' => r = .returned (.int .i64 (szR (left - len - S) (wE x))) ∧ Below wr.heap.size wr w') := HC.out x cs (List.mem_of_getElem? hxn) _ wr (by omega) (by omega) (HM.out x cs wr hb hR)
        have HS' : Hid (S + wE x = ((xs.take (n + 1)).map (wE)).sum) := (by rw [sum_take _ _ _ _ hxn, HS.out] : S + wE x = ((xs.take (n + 1)).map (wE)).sum)
        obtain ⟨q, Hq⟩ : ∃ q, Hid (q = wE x) := ⟨_, rfl⟩
        rw [← Hq.out] at HCx HS'
        have htq : S + q ≤ tot := by rw [HS'.out]; exact HTot.out _
        clear hb hrg hcs hR HS hlo
        by_cases hq : (q : Int) ≤ left - len - S
        · rw [szR_yes hq] at HCx
          have i4 : ¬ (left - (len : Int) - S - q < 0) := by omega
          go_wp2_with (first | (refine wpL_load rfl 113 _ rfl _ _ rfl _ HLd.out ?_) | fail)
          refine HCx.out.mono ?_
          rintro r w1 ⟨rfl, g1⟩
          have b1 : Below w.heap.size w w1 := HB.out.trans (g1.mono HB.out.size)
          clear g1 HCx HLd
          go_wp2
          go_roundg (gk - 1)
          case measure => omega
          case rel => exact ⟨n + 1, S + q, by omega, by simp, congrArg (Value.int .i64) (by omega), HS', by omega, b1⟩
        · rw [szR_no hq] at HCx
          go_wp2_with (first | (refine wpL_load rfl 113 _ rfl _ _ rfl _ HLd.out ?_) | fail)
          refine HCx.out.mono ?_
          rintro r w1 ⟨rfl, g1⟩
          have b1 : Below w.heap.size w w1 := HB.out.trans (g1.mono HB.out.size)
          clear g1 HCx HLd
          go_wp2
          go_ret
          exact ⟨by rw [szR_no (by omega)]; rfl, b1⟩
      · have i2 : ¬ ((n : Int) < (len : Int)) := by omega
        have hSt : S = tot := by rw [HS.out, HT.out, List.take_of_length_le (by have := HL.out; omega)]
        go_wp2
        go_ret
        exact ⟨by rw [szR_yes (by omega)]; exact congrArg (fun z => Ending.returned (Value.int .i64 z)) (by omega), hb⟩
  · rw [szR_no (by omega)]
    have i1 : left - (len : Int) < 0 := by omega
    go_enter Tryz.func102, Tryz.ntmps102
    go_wp2
    go_ret
    exact ⟨rfl, Below.refl _ _⟩


set_option maxRecDepth 10000 in
set_option maxHeartbeats 2000000 in
theorem sz_nets_row (m : Nat) (left : Int) (h0 : 0 ≤ left) (h1 : left ≤ 1048576) (v : Value) (xs : List NetT) (w : World) (lo : Nat) (hv : RowIs w lo 4 (NetIs w lo m) v xs)
    (HC : Hid (∀ x cs, x ∈ xs → ∀ (l : Int) (W : World), 0 ≤ l → l ≤ 1048576 → (NetIs W lo m) x cs → Calls Tryz.prog 101 #[.agg cs.toArray, .int .i64 l] W fun r w' => r = .returned (.int .i64 (szR l (wN m x))) ∧ Below W.heap.size W w'))
    (HM : Hid (∀ x cs (W : World), Below w.heap.size w W → (NetIs w lo m) x cs → (NetIs W lo m) x cs)) :
    Calls Tryz.prog 139 #[v, .int .i64 left] w fun r w' => r = .returned (.int .i64 (szR left (xs.length + (xs.map (wN m)).sum))) ∧ Below w.heap.size w w' := by
  obtain ⟨a, cap, rfl, hl, hx⟩ := hv
  have HX : Hid (∀ j x, xs[j]? = some x → ∃ b o cs, a = some ⟨b, o, none⟩ ∧ lo ≤ b ∧ cs.length = 4 ∧ w.rangeAt b (o + j * 4) cs ∧ (NetIs w lo m) x cs) := hx
  have HTot : Hid (∀ n, ((xs.take n).map (wN m)).sum ≤ (xs.map (wN m)).sum) := fun n => sum_take_le _ _ _
  obtain ⟨len, HL⟩ : ∃ len, Hid (len = xs.length) := ⟨_, rfl⟩
  obtain ⟨tot, HT⟩ : ∃ t, Hid (t = (xs.map (wN m)).sum) := ⟨_, rfl⟩
  rw [← HL.out] at hl ⊢
  rw [← HT.out] at HTot ⊢
  clear hx
  by_cases h : (len : Int) ≤ left
  · have i1 : ¬ (left - (len : Int) < 0) := by omega
    go_enter Tryz.func139, Tryz.ntmps139
    go_wp2
    go_loopg [1, 5] len (fun g l i wr => ∃ n S : Nat, n + g = len ∧ i = .int .i64 n ∧ l = .int .i64 (left - len - S) ∧ Hid (S = ((xs.take n).map (wN m)).sum) ∧ (S : Int) ≤ left - len ∧ Below w.heap.size w wr)
    case atStart => exact ⟨0, 0, by omega, rfl, by simp, (by simp : (0 : Nat) = ((xs.take 0).map (wN m)).sum), by omega, Below.refl _ _⟩
    case round =>
      obtain ⟨n, S, hn, rfl, rfl, HS, hS, hb⟩ := hrel
      by_cases hlt : n < len
      · have i2 : (n : Int) < (len : Int) := by omega
        have i3 : (0 : Int) ≤ (n : Int) := by omega
        obtain ⟨x, hxn⟩ : ∃ x, xs[n]? = some x := ⟨_, List.getElem?_eq_getElem (by have := HL.out; omega)⟩
        obtain ⟨b, o, cs, rfl, hlo, hcs, hrg, hR⟩ := HX.out n x hxn
        have HB : Hid (Below w.heap.size w wr) := hb
        have HLd : Hid ((loadVar 116 ⟨b, o + n * 4, none⟩).run Tryz.prog wr = .ok (.agg cs.toArray) wr) := run_loadVar_mid wr b (o + n * 4) 116 cs _ (fun i c hi => (Keeps.of_below hb 0) _ _ _ (Nat.zero_le _) (hrg i c hi)) Tryz.underlying116 rfl (by rw [hcs]; kernel_rfl)
        have HCx : Hid (Calls Tryz.prog 101 #[.agg cs.toArray, .int .i64 (left - len - S)] wr fun r w' => r = .returned (.int .i64 (szR (left - len - S) (wN m x))) ∧ Below wr.heap.size wr w') := HC.out x cs (List.mem_of_getElem? hxn) _ wr (by omega) (by omega) (HM.out x cs wr hb hR)
        have HS' : Hid (S + wN m x = ((xs.take (n + 1)).map (wN m)).sum) := (by rw [sum_take _ _ _ _ hxn, HS.out] : S + wN m x = ((xs.take (n + 1)).map (wN m)).sum)
        obtain ⟨q, Hq⟩ : ∃ q, Hid (q = wN m x) := ⟨_, rfl⟩
        rw [← Hq.out] at HCx HS'
        have htq : S + q ≤ tot := by rw [HS'.out]; exact HTot.out _
        clear hb hrg hcs hR HS hlo
        by_cases hq : (q : Int) ≤ left - len - S
        · rw [szR_yes hq] at HCx
          have i4 : ¬ (left - (len : Int) - S - q < 0) := by omega
          go_wp2_with (first | (refine wpL_load rfl 116 _ rfl _ _ rfl _ HLd.out ?_) | fail)
          refine HCx.out.mono ?_
          rintro r w1 ⟨rfl, g1⟩
          have b1 : Below w.heap.size w w1 := HB.out.trans (g1.mono HB.out.size)
          clear g1 HCx HLd
          go_wp2
          go_roundg (gk - 1)
          case measure => omega
          case rel => exact ⟨n + 1, S + q, by omega, by simp, congrArg (Value.int .i64) (by omega), HS', by omega, b1⟩
        · rw [szR_no hq] at HCx
          go_wp2_with (first | (refine wpL_load rfl 116 _ rfl _ _ rfl _ HLd.out ?_) | fail)
          refine HCx.out.mono ?_
          rintro r w1 ⟨rfl, g1⟩
          have b1 : Below w.heap.size w w1 := HB.out.trans (g1.mono HB.out.size)
          clear g1 HCx HLd
          go_wp2
          go_ret
          exact ⟨by rw [szR_no (by omega)]; rfl, b1⟩
      · have i2 : ¬ ((n : Int) < (len : Int)) := by omega
        have hSt : S = tot := by rw [HS.out, HT.out, List.take_of_length_le (by have := HL.out; omega)]
        go_wp2
        go_ret
        exact ⟨by rw [szR_yes (by omega)]; exact congrArg (fun z => Ending.returned (Value.int .i64 z)) (by omega), hb⟩
  · rw [szR_no (by omega)]
    have i1 : left - (len : Int) < 0 := by omega
    go_enter Tryz.func139, Tryz.ntmps139
    go_wp2
    go_ret
    exact ⟨rfl, Below.refl _ _⟩


set_option maxRecDepth 10000 in
set_option maxHeartbeats 2000000 in
theorem sz_arms_row (m : Nat) (left : Int) (h0 : 0 ≤ left) (h1 : left ≤ 1048576) (v : Value) (xs : List ArmT) (w : World) (lo : Nat) (hv : RowIs w lo 6 (ArmIs w lo m) v xs)
    (HC : Hid (∀ x cs, x ∈ xs → ∀ (l : Int) (W : World), 0 ≤ l → l ≤ 1048576 → (ArmIs W lo m) x cs → Calls Tryz.prog 60 #[.agg cs.toArray, .int .i64 l] W fun r w' => r = .returned (.int .i64 (szR l (wA m x))) ∧ Below W.heap.size W w'))
    (HM : Hid (∀ x cs (W : World), Below w.heap.size w W → (ArmIs w lo m) x cs → (ArmIs W lo m) x cs)) :
    Calls Tryz.prog 23 #[v, .int .i64 left] w fun r w' => r = .returned (.int .i64 (szR left (xs.length + (xs.map (wA m)).sum))) ∧ Below w.heap.size w w' := by
  obtain ⟨a, cap, rfl, hl, hx⟩ := hv
  have HX : Hid (∀ j x, xs[j]? = some x → ∃ b o cs, a = some ⟨b, o, none⟩ ∧ lo ≤ b ∧ cs.length = 6 ∧ w.rangeAt b (o + j * 6) cs ∧ (ArmIs w lo m) x cs) := hx
  have HTot : Hid (∀ n, ((xs.take n).map (wA m)).sum ≤ (xs.map (wA m)).sum) := fun n => sum_take_le _ _ _
  obtain ⟨len, HL⟩ : ∃ len, Hid (len = xs.length) := ⟨_, rfl⟩
  obtain ⟨tot, HT⟩ : ∃ t, Hid (t = (xs.map (wA m)).sum) := ⟨_, rfl⟩
  rw [← HL.out] at hl ⊢
  rw [← HT.out] at HTot ⊢
  clear hx
  by_cases h : (len : Int) ≤ left
  · have i1 : ¬ (left - (len : Int) < 0) := by omega
    go_enter Tryz.func23, Tryz.ntmps23
    go_wp2
    go_loopg [1, 5] len (fun g l i wr => ∃ n S : Nat, n + g = len ∧ i = .int .i64 n ∧ l = .int .i64 (left - len - S) ∧ Hid (S = ((xs.take n).map (wA m)).sum) ∧ (S : Int) ≤ left - len ∧ Below w.heap.size w wr)
    case atStart => exact ⟨0, 0, by omega, rfl, by simp, (by simp : (0 : Nat) = ((xs.take 0).map (wA m)).sum), by omega, Below.refl _ _⟩
    case round =>
      obtain ⟨n, S, hn, rfl, rfl, HS, hS, hb⟩ := hrel
      by_cases hlt : n < len
      · have i2 : (n : Int) < (len : Int) := by omega
        have i3 : (0 : Int) ≤ (n : Int) := by omega
        obtain ⟨x, hxn⟩ : ∃ x, xs[n]? = some x := ⟨_, List.getElem?_eq_getElem (by have := HL.out; omega)⟩
        obtain ⟨b, o, cs, rfl, hlo, hcs, hrg, hR⟩ := HX.out n x hxn
        have HB : Hid (Below w.heap.size w wr) := hb
        have HLd : Hid ((loadVar 119 ⟨b, o + n * 6, none⟩).run Tryz.prog wr = .ok (.agg cs.toArray) wr) := run_loadVar_mid wr b (o + n * 6) 119 cs _ (fun i c hi => (Keeps.of_below hb 0) _ _ _ (Nat.zero_le _) (hrg i c hi)) Tryz.underlying119 rfl (by rw [hcs]; kernel_rfl)
        have HCx : Hid (Calls Tryz.prog 60 #[.agg cs.toArray, .int .i64 (left - len - S)] wr fun r w' => r = .returned (.int .i64 (szR (left - len - S) (wA m x))) ∧ Below wr.heap.size wr w') := HC.out x cs (List.mem_of_getElem? hxn) _ wr (by omega) (by omega) (HM.out x cs wr hb hR)
        have HS' : Hid (S + wA m x = ((xs.take (n + 1)).map (wA m)).sum) := (by rw [sum_take _ _ _ _ hxn, HS.out] : S + wA m x = ((xs.take (n + 1)).map (wA m)).sum)
        obtain ⟨q, Hq⟩ : ∃ q, Hid (q = wA m x) := ⟨_, rfl⟩
        rw [← Hq.out] at HCx HS'
        have htq : S + q ≤ tot := by rw [HS'.out]; exact HTot.out _
        clear hb hrg hcs hR HS hlo
        by_cases hq : (q : Int) ≤ left - len - S
        · rw [szR_yes hq] at HCx
          have i4 : ¬ (left - (len : Int) - S - q < 0) := by omega
          go_wp2_with (first | (refine wpL_load rfl 119 _ rfl _ _ rfl _ HLd.out ?_) | fail)
          refine HCx.out.mono ?_
          rintro r w1 ⟨rfl, g1⟩
          have b1 : Below w.heap.size w w1 := HB.out.trans (g1.mono HB.out.size)
          clear g1 HCx HLd
          go_wp2
          go_roundg (gk - 1)
          case measure => omega
          case rel => exact ⟨n + 1, S + q, by omega, by simp, congrArg (Value.int .i64) (by omega), HS', by omega, b1⟩
        · rw [szR_no hq] at HCx
          go_wp2_with (first | (refine wpL_load rfl 119 _ rfl _ _ rfl _ HLd.out ?_) | fail)
          refine HCx.out.mono ?_
          rintro r w1 ⟨rfl, g1⟩
          have b1 : Below w.heap.size w w1 := HB.out.trans (g1.mono HB.out.size)
          clear g1 HCx HLd
          go_wp2
          go_ret
          exact ⟨by rw [szR_no (by omega)]; rfl, b1⟩
      · have i2 : ¬ ((n : Int) < (len : Int)) := by omega
        have hSt : S = tot := by rw [HS.out, HT.out, List.take_of_length_le (by have := HL.out; omega)]
        go_wp2
        go_ret
        exact ⟨by rw [szR_yes (by omega)]; exact congrArg (fun z => Ending.returned (Value.int .i64 z)) (by omega), hb⟩
  · rw [szR_no (by omega)]
    have i1 : left - (len : Int) < 0 := by omega
    go_enter Tryz.func23, Tryz.ntmps23
    go_wp2
    go_ret
    exact ⟨rfl, Below.refl _ _⟩


theorem sz_elems (left : Int) (h0 : 0 ≤ left) (h1 : left ≤ 1048576) (v : Value) (xs : List ElemT) (w : World) (lo : Nat) (hv : ElemsIs w lo v xs) :
    Calls Tryz.prog 102 #[v, .int .i64 left] w fun r w' => r = .returned (.int .i64 (szR left (xs.length + (xs.map wE).sum))) ∧ Below w.heap.size w w' :=
  sz_elems_row left h0 h1 v xs w lo hv (fun x cs _ l W a b h => sz_elem l a b x cs W lo h) (fun x cs W g h => h.move (Keeps.of_below g lo) (Nat.le_refl _))

theorem szR_two {l : Int} (p q : Nat) (hp : (p : Int) ≤ l) : szR (l - p) q = szR l (p + q) := by
  unfold szR
  by_cases h : (q : Int) ≤ l - p
  · rw [if_pos h, if_pos (by omega)]; omega
  · rw [if_neg h, if_neg (by omega)]
theorem szR_cases (l : Int) (p : Nat) : (0 ≤ szR l p ∨ szR l p = -1) := by
  by_cases h : (p : Int) ≤ l
  · left; rw [szR_yes h]; omega
  · right; exact szR_no h

set_option maxRecDepth 10000 in
set_option maxHeartbeats 2000000 in
theorem sz_net_step (left : Int) (h0 : 0 ≤ left) (h1 : left ≤ 1048576) (p q : Nat) (k op : Int) (v v' : Value) (s1 : v.oneCell' = true) (s2 : v'.oneCell' = true) (w : World)
    (HE : Hid (∀ W, Below w.heap.size w W → Calls Tryz.prog 138 #[.agg #[.int .i64 op, v], .int .i64 left] W fun r w' => r = .returned (.int .i64 (szR left p)) ∧ Below W.heap.size W w'))
    (HN : Hid (∀ (l : Int) W, Below w.heap.size w W → 0 ≤ l → l ≤ 1048576 → Calls Tryz.prog 139 #[v', .int .i64 l] W fun r w' => r = .returned (.int .i64 (szR l q)) ∧ Below W.heap.size W w')) :
    Calls Tryz.prog 101 #[.agg #[.int .i64 k, .int .i64 op, v, v'], .int .i64 left] w fun r w' => r = .returned (.int .i64 (szR left (p + q))) ∧ Below w.heap.size w w' := by
  have b0 : Below w.heap.size w (w.alloc (.cells #[.int .i64 k, .int .i64 op, v, v'] 116)) := (Below.refl _ _).alloc (Nat.le_refl _) _
  go_enter Tryz.func101, Tryz.ntmps101
  go_wp2_with fail
  refine (HE.out _ b0).mono ?_
  rintro r w1 ⟨rfl, g1⟩
  have c3 : w1.cell? ⟨w.heap.size, 3, none⟩ = some v' := (g1.cell (p := ⟨w.heap.size, 3, none⟩) (by simp)).trans (by simp)
  have b1 := b0.trans (g1.mono b0.size)
  clear g1 b0
  by_cases hp : (p : Int) ≤ left
  · rw [szR_yes hp]
    have i1 : ¬ (left - (p : Int) < 0) := by omega
    have HF : Hid (szR left (p + q) = szR (left - p) q) := (szR_two p q hp).symm
    have hc := szR_cases (left - p) q
    have HN2 : Hid (Calls Tryz.prog 139 #[v', .int .i64 (left - p)] w1 fun r w' => r = .returned (.int .i64 (szR (left - p) q)) ∧ Below w1.heap.size w1 w') := HN.out _ _ b1 (by omega) (by omega)
    generalize szR (left - p) q = R at HN2 hc HF
    clear HE HN
    go_wp2_with fail
    refine HN2.out.mono ?_
    rintro r w2 ⟨rfl, g2⟩
    have b2 := b1.trans (g2.mono b1.size)
    clear g2 HN2 c3
    rcases hc with h | rfl
    · have i2 : ¬ (R < 0) := by omega
      go_wp2
      go_ret
      exact ⟨by rw [HF.out]; rfl, b2⟩
    · go_wp2
      go_ret
      exact ⟨by rw [HF.out]; rfl, b2⟩
  · rw [szR_no hp]
    clear HE HN
    go_wp2
    go_ret
    exact ⟨by rw [szR_no (by omega)]; rfl, b1⟩

theorem RowIs.one {α : Type} {W : World} {lo z : Nat} {R : α → List Value → Prop} {v : Value} {xs : List α} (h : RowIs W lo z R v xs) : v.oneCell' = true := by
  obtain ⟨a, cap, rfl, _⟩ := h; rfl

theorem sz_net : ∀ (m : Nat) (left : Int) (h0 : 0 ≤ left) (h1 : left ≤ 1048576) (t : NetT) (cs : List Value) (w : World) (lo : Nat) (hv : NetIs w lo m t cs),
    Calls Tryz.prog 101 #[.agg cs.toArray, .int .i64 left] w fun r w' => r = .returned (.int .i64 (szR left (wN m t))) ∧ Below w.heap.size w w'
  | 0, _, _, _, _, _, _, _, h => h.elim
  | m + 1, left, h0, h1, .mk k e kids, cs, w, lo, hv => by
    obtain ⟨v, v', rfl, ha, hk⟩ := hv
    exact sz_net_step left h0 h1 (wE e) _ k e.op v v' ha.one hk.one w
      (fun W g => sz_elem left h0 h1 e _ W lo ⟨v, rfl, argsIs_move (Keeps.of_below g lo) (Nat.le_refl _) ha⟩)
      (fun l W g a b => sz_nets_row m l a b v' kids W lo (netsIs_move (Keeps.of_below g lo) (Nat.le_refl _) (Nat.le_refl _) hk)
        (fun x cs _ l W a b h => sz_net m l a b x cs W lo h) (fun x cs W g h => NetIs.move (Keeps.of_below g lo) (Nat.le_refl _) _ _ (Nat.le_refl _) _ _ h))

set_option maxRecDepth 10000 in
set_option maxHeartbeats 2000000 in
theorem sz_arm_step (left : Int) (h0 : 0 ≤ left) (h1 : left ≤ 1048576) (p q s : Nat) (n0 n1 n2 n3 v v' : Value) (o0 : n0.oneCell' = true) (o1 : n1.oneCell' = true) (o2 : n2.oneCell' = true) (o3 : n3.oneCell' = true) (s1 : v.oneCell' = true) (s2 : v'.oneCell' = true) (w : World)
    (HE : Hid (∀ W, Below w.heap.size w W → Calls Tryz.prog 101 #[.agg #[n0, n1, n2, n3], .int .i64 left] W fun r w' => r = .returned (.int .i64 (szR left p)) ∧ Below W.heap.size W w'))
    (HN : Hid (∀ (l : Int) W, Below w.heap.size w W → 0 ≤ l → l ≤ 1048576 → Calls Tryz.prog 102 #[v, .int .i64 l] W fun r w' => r = .returned (.int .i64 (szR l q)) ∧ Below W.heap.size W w'))
    (HA : Hid (∀ (l : Int) W, Below w.heap.size w W → 0 ≤ l → l ≤ 1048576 → Calls Tryz.prog 23 #[v', .int .i64 l] W fun r w' => r = .returned (.int .i64 (szR l s)) ∧ Below W.heap.size W w')) :
    Calls Tryz.prog 60 #[.agg #[n0, n1, n2, n3, v, v'], .int .i64 left] w fun r w' => r = .returned (.int .i64 (szR left (p + q + s))) ∧ Below w.heap.size w w' := by
  have b0 : Below w.heap.size w (w.alloc (.cells #[n0, n1, n2, n3, v, v'] 119)) := (Below.refl _ _).alloc (Nat.le_refl _) _
  go_enter Tryz.func60, Tryz.ntmps60
  go_wp2_with fail
  refine (HE.out _ b0).mono ?_
  rintro r w1 ⟨rfl, g1⟩
  have c3 : w1.cell? ⟨w.heap.size, 4, none⟩ = some v := (g1.cell (p := ⟨w.heap.size, 4, none⟩) (by simp)).trans (by simp)
  have c4 : w1.cell? ⟨w.heap.size, 5, none⟩ = some v' := (g1.cell (p := ⟨w.heap.size, 5, none⟩) (by simp)).trans (by simp)
  have b1 := b0.trans (g1.mono b0.size)
  clear g1 b0
  by_cases hp : (p : Int) ≤ left
  · rw [szR_yes hp]
    have i1 : ¬ (left - (p : Int) < 0) := by omega
    have HN2 : Hid (Calls Tryz.prog 102 #[v, .int .i64 (left - p)] w1 fun r w' => r = .returned (.int .i64 (szR (left - p) q)) ∧ Below w1.heap.size w1 w') := HN.out _ _ b1 (by omega) (by omega)
    clear HE HN
    go_wp2_with fail
    refine HN2.out.mono ?_
    rintro r w2 ⟨rfl, g2⟩
    have c5 : w2.cell? ⟨w.heap.size, 5, none⟩ = some v' := (g2.cell (p := ⟨w.heap.size, 5, none⟩) (World.block_lt_of_cell? _ _ c4)).trans c4
    have b2 := b1.trans (g2.mono b1.size)
    clear g2 HN2 c3 c4
    by_cases hq : (q : Int) ≤ left - p
    · rw [szR_yes hq]
      have i2 : ¬ (left - (p : Int) - q < 0) := by omega
      have HF : Hid (szR left (p + q + s) = szR (left - p - q) s) := (by rw [szR_two q s hq, szR_two p _ hp, Nat.add_assoc] : szR left (p + q + s) = szR (left - p - q) s)
      have hc := szR_cases (left - p - q) s
      have HN3 : Hid (Calls Tryz.prog 23 #[v', .int .i64 (left - p - q)] w2 fun r w' => r = .returned (.int .i64 (szR (left - p - q) s)) ∧ Below w2.heap.size w2 w') := HA.out _ _ b2 (by omega) (by omega)
      clear HA
      generalize szR (left - p - q) s = R at HN3 hc HF
      go_wp2_with fail
      refine HN3.out.mono ?_
      rintro r w3 ⟨rfl, g3⟩
      have b3 := b2.trans (g3.mono b2.size)
      clear g3 HN3 c5
      rcases hc with h | rfl
      · have i2 : ¬ (R < 0) := by omega
        go_wp2
        go_ret
        exact ⟨by rw [HF.out]; rfl, b3⟩
      · go_wp2
        go_ret
        exact ⟨by rw [HF.out]; rfl, b3⟩
    · rw [szR_no hq]
      clear HA
      go_wp2
      go_ret
      exact ⟨by rw [szR_no (by omega)]; rfl, b2⟩
  · rw [szR_no hp]
    clear HE HN HA
    go_wp2
    go_ret
    exact ⟨by rw [szR_no (by omega)]; rfl, b1⟩

theorem NetIs.cells {W : World} {lo : Nat} : ∀ {m : Nat} {t : NetT} {cs : List Value}, NetIs W lo m t cs → ∃ n0 n1 n2 n3, cs = [n0, n1, n2, n3] ∧ n0.oneCell' = true ∧ n1.oneCell' = true ∧ n2.oneCell' = true ∧ n3.oneCell' = true
  | 0, _, _, h => h.elim
  | m + 1, .mk k e kids, cs, h => by
    obtain ⟨v, v', rfl, ha, hk⟩ := h
    exact ⟨_, _, _, _, rfl, rfl, rfl, ha.one, hk.one⟩

theorem sz_arm : ∀ (m : Nat) (left : Int) (h0 : 0 ≤ left) (h1 : left ≤ 1048576) (t : ArmT) (cs : List Value) (w : World) (lo : Nat) (hv : ArmIs w lo m t cs),
    Calls Tryz.prog 60 #[.agg cs.toArray, .int .i64 left] w fun r w' => r = .returned (.int .i64 (szR left (wA m t))) ∧ Below w.heap.size w w'
  | 0, _, _, _, _, _, _, _, h => h.elim
  | m + 1, left, h0, h1, .mk net coils kids, cs, w, lo, hv => by
    obtain ⟨ns, v, v', rfl, hn, hc, hk⟩ := hv
    have hn' := hn
    obtain ⟨n0, n1, n2, n3, rfl, o0, o1, o2, o3⟩ := hn'.cells
    exact sz_arm_step left h0 h1 (wN m net) _ _ n0 n1 n2 n3 v v' o0 o1 o2 o3 hc.one hk.one w
      (fun W g => sz_net m left h0 h1 net _ W lo (NetIs.move (Keeps.of_below g lo) (Nat.le_refl _) _ _ (Nat.le_refl _) _ _ hn))
      (fun l W g a b => sz_elems l a b v coils W lo (elemsIs_move (Keeps.of_below g lo) (Nat.le_refl _) hc))
      (fun l W g a b => sz_arms_row m l a b v' kids W lo (armsIs_move (Keeps.of_below g lo) (Nat.le_refl _) (Nat.le_refl _) hk)
        (fun x cs _ l W a b h => sz_arm m l a b x cs W lo h) (fun x cs W g h => ArmIs.move (Keeps.of_below g lo) (Nat.le_refl _) _ _ (Nat.le_refl _) _ _ h))
theorem sz_arms (m : Nat) (left : Int) (h0 : 0 ≤ left) (h1 : left ≤ 1048576) (v : Value) (xs : List ArmT) (w : World) (lo : Nat) (hv : ArmsIs w lo m v xs) :
    Calls Tryz.prog 23 #[v, .int .i64 left] w fun r w' => r = .returned (.int .i64 (szR left (xs.length + (xs.map (wA m)).sum))) ∧ Below w.heap.size w w' :=
  sz_arms_row m left h0 h1 v xs w lo hv (fun x cs _ l W a b h => sz_arm m l a b x cs W lo h) (fun x cs W g h => ArmIs.move (Keeps.of_below g lo) (Nat.le_refl _) _ _ (Nat.le_refl _) _ _ h)
end Go.Proofs.YtgopfaegdlefpaaGreatDoor
