/- What the specification says is wrong with a net and with an arm. -/
import Derived.Test.YtgopfaegdlefpaaGreatDoorGrM
namespace Go.Proofs.YtgopfaegdlefpaaGreatDoor
open Go.RowKit
set_option linter.unusedVariables false

set_option maxHeartbeats 2000000 in
theorem sw1_kids (op : Int) (l1 l : Nat) (a1 : Option Addr) (c1 : Nat) (a : Option Addr) (cap : Nat) (h : 0 < l) (w : World) :
    Calls Tryz.prog 76 #[.agg #[.int .i64 1, .int .i64 op, .slice a1 l1 c1, .slice a l cap]] w fun e w' => e = .returned (.int .i64 2) ∧ Below w.heap.size w w' := by
  have e1 : (l : Int) > 0 := by omega
  have e2 : (0 : Int) < (l : Int) := by omega
  have b0 : Below w.heap.size w (w.alloc (.cells #[.int .i64 1, .int .i64 op, .slice a1 l1 c1, .slice a l cap] 57)) := (Below.refl _ _).alloc (Nat.le_refl _) _
  go_enter Tryz.func76, Tryz.ntmps76
  go_wp2
  go_ret
  exact ⟨rfl, b0⟩
set_option maxHeartbeats 2000000 in
theorem sw1_one (op : Int) (l1 : Nat) (a1 : Option Addr) (c1 : Nat) (a : Option Addr) (cap : Nat) (w : World) (b : Bool) (HC : Hid (∀ W, Below w.heap.size w W → Calls Tryz.prog 119 #[.agg #[.int .i64 op, .slice a1 l1 c1]] W fun e w' => e = .returned (.bool b) ∧ Below W.heap.size W w')) :
    Calls Tryz.prog 76 #[.agg #[.int .i64 1, .int .i64 op, .slice a1 l1 c1, .slice a 0 cap]] w fun e w' => e = .returned (.int .i64 (if b then 0 else 3)) ∧ Below w.heap.size w w' := by
  have b0 : Below w.heap.size w (w.alloc (.cells #[.int .i64 1, .int .i64 op, .slice a1 l1 c1, .slice a 0 cap] 57)) := (Below.refl _ _).alloc (Nat.le_refl _) _
  go_enter Tryz.func76, Tryz.ntmps76
  go_wp2_with fail
  refine (HC.out _ b0).mono ?_
  rintro e w1 ⟨rfl, g1⟩
  have b1 := b0.trans (g1.mono b0.size)
  clear g1 b0
  cases b with
  | true =>
    go_wp2
    go_ret
    exact ⟨rfl, b1⟩
  | false =>
    go_wp2
    go_ret
    exact ⟨rfl, b1⟩
set_option maxHeartbeats 2000000 in
theorem sw_low (k op : Int) (l1 l : Nat) (a1 : Option Addr) (c1 : Nat) (a : Option Addr) (cap : Nat) (h1 : (k == 1) = false) (h : k < 2) (w : World) :
    Calls Tryz.prog 76 #[.agg #[.int .i64 k, .int .i64 op, .slice a1 l1 c1, .slice a l cap]] w fun e w' => e = .returned (.int .i64 2) ∧ Below w.heap.size w w' := by
  have b0 : Below w.heap.size w (w.alloc (.cells #[.int .i64 k, .int .i64 op, .slice a1 l1 c1, .slice a l cap] 57)) := (Below.refl _ _).alloc (Nat.le_refl _) _
  go_enter Tryz.func76, Tryz.ntmps76
  go_wp2
  go_ret
  exact ⟨rfl, b0⟩
set_option maxHeartbeats 2000000 in
theorem sw_high (k op : Int) (l1 l : Nat) (a1 : Option Addr) (c1 : Nat) (a : Option Addr) (cap : Nat) (h1 : (k == 1) = false) (h0 : ¬ k < 2) (h : k > 4) (w : World) :
    Calls Tryz.prog 76 #[.agg #[.int .i64 k, .int .i64 op, .slice a1 l1 c1, .slice a l cap]] w fun e w' => e = .returned (.int .i64 2) ∧ Below w.heap.size w w' := by
  have h' : 4 < k := h
  have b0 : Below w.heap.size w (w.alloc (.cells #[.int .i64 k, .int .i64 op, .slice a1 l1 c1, .slice a l cap] 57)) := (Below.refl _ _).alloc (Nat.le_refl _) _
  go_enter Tryz.func76, Tryz.ntmps76
  go_wp2
  go_ret
  exact ⟨rfl, b0⟩
set_option maxHeartbeats 2000000 in
theorem sw2_op (op : Int) (l1 l : Nat) (a1 : Option Addr) (c1 : Nat) (a : Option Addr) (cap : Nat) (h : (op != 0) = true) (w : World) :
    Calls Tryz.prog 76 #[.agg #[.int .i64 2, .int .i64 op, .slice a1 l1 c1, .slice a l cap]] w fun e w' => e = .returned (.int .i64 2) ∧ Below w.heap.size w w' := by
  have b0 : Below w.heap.size w (w.alloc (.cells #[.int .i64 2, .int .i64 op, .slice a1 l1 c1, .slice a l cap] 57)) := (Below.refl _ _).alloc (Nat.le_refl _) _
  go_enter Tryz.func76, Tryz.ntmps76
  go_wp2
  go_ret
  exact ⟨rfl, b0⟩
set_option maxHeartbeats 2000000 in
theorem sw2_args (l1 l : Nat) (a1 : Option Addr) (c1 : Nat) (a : Option Addr) (cap : Nat) (h : 0 < l1) (w : World) :
    Calls Tryz.prog 76 #[.agg #[.int .i64 2, .int .i64 0, .slice a1 l1 c1, .slice a l cap]] w fun e w' => e = .returned (.int .i64 2) ∧ Below w.heap.size w w' := by
  have e1 : (l1 : Int) > 0 := by omega
  have e2 : (0 : Int) < (l1 : Int) := by omega
  have b0 : Below w.heap.size w (w.alloc (.cells #[.int .i64 2, .int .i64 0, .slice a1 l1 c1, .slice a l cap] 57)) := (Below.refl _ _).alloc (Nat.le_refl _) _
  go_enter Tryz.func76, Tryz.ntmps76
  go_wp2
  go_ret
  exact ⟨rfl, b0⟩
set_option maxHeartbeats 2000000 in
theorem sw2_none  (a1 : Option Addr) (c1 : Nat) (a : Option Addr) (cap : Nat)  (w : World) :
    Calls Tryz.prog 76 #[.agg #[.int .i64 2, .int .i64 0, .slice a1 0 c1, .slice a 0 cap]] w fun e w' => e = .returned (.int .i64 2) ∧ Below w.heap.size w w' := by
  have b0 : Below w.heap.size w (w.alloc (.cells #[.int .i64 2, .int .i64 0, .slice a1 0 c1, .slice a 0 cap] 57)) := (Below.refl _ _).alloc (Nat.le_refl _) _
  go_enter Tryz.func76, Tryz.ntmps76
  go_wp2
  go_ret
  exact ⟨rfl, b0⟩
set_option maxHeartbeats 2000000 in
theorem sw3_op (op : Int) (l1 l : Nat) (a1 : Option Addr) (c1 : Nat) (a : Option Addr) (cap : Nat) (h : (op != 0) = true) (w : World) :
    Calls Tryz.prog 76 #[.agg #[.int .i64 3, .int .i64 op, .slice a1 l1 c1, .slice a l cap]] w fun e w' => e = .returned (.int .i64 2) ∧ Below w.heap.size w w' := by
  have b0 : Below w.heap.size w (w.alloc (.cells #[.int .i64 3, .int .i64 op, .slice a1 l1 c1, .slice a l cap] 57)) := (Below.refl _ _).alloc (Nat.le_refl _) _
  go_enter Tryz.func76, Tryz.ntmps76
  go_wp2
  go_ret
  exact ⟨rfl, b0⟩
set_option maxHeartbeats 2000000 in
theorem sw3_args (l1 l : Nat) (a1 : Option Addr) (c1 : Nat) (a : Option Addr) (cap : Nat) (h : 0 < l1) (w : World) :
    Calls Tryz.prog 76 #[.agg #[.int .i64 3, .int .i64 0, .slice a1 l1 c1, .slice a l cap]] w fun e w' => e = .returned (.int .i64 2) ∧ Below w.heap.size w w' := by
  have e1 : (l1 : Int) > 0 := by omega
  have e2 : (0 : Int) < (l1 : Int) := by omega
  have b0 : Below w.heap.size w (w.alloc (.cells #[.int .i64 3, .int .i64 0, .slice a1 l1 c1, .slice a l cap] 57)) := (Below.refl _ _).alloc (Nat.le_refl _) _
  go_enter Tryz.func76, Tryz.ntmps76
  go_wp2
  go_ret
  exact ⟨rfl, b0⟩
set_option maxHeartbeats 2000000 in
theorem sw3_none  (a1 : Option Addr) (c1 : Nat) (a : Option Addr) (cap : Nat)  (w : World) :
    Calls Tryz.prog 76 #[.agg #[.int .i64 3, .int .i64 0, .slice a1 0 c1, .slice a 0 cap]] w fun e w' => e = .returned (.int .i64 2) ∧ Below w.heap.size w w' := by
  have b0 : Below w.heap.size w (w.alloc (.cells #[.int .i64 3, .int .i64 0, .slice a1 0 c1, .slice a 0 cap] 57)) := (Below.refl _ _).alloc (Nat.le_refl _) _
  go_enter Tryz.func76, Tryz.ntmps76
  go_wp2
  go_ret
  exact ⟨rfl, b0⟩
set_option maxHeartbeats 2000000 in
theorem sw4_op (op : Int) (l1 l : Nat) (a1 : Option Addr) (c1 : Nat) (a : Option Addr) (cap : Nat) (h : (op != 0) = true) (w : World) :
    Calls Tryz.prog 76 #[.agg #[.int .i64 4, .int .i64 op, .slice a1 l1 c1, .slice a l cap]] w fun e w' => e = .returned (.int .i64 2) ∧ Below w.heap.size w w' := by
  have b0 : Below w.heap.size w (w.alloc (.cells #[.int .i64 4, .int .i64 op, .slice a1 l1 c1, .slice a l cap] 57)) := (Below.refl _ _).alloc (Nat.le_refl _) _
  go_enter Tryz.func76, Tryz.ntmps76
  go_wp2
  go_ret
  exact ⟨rfl, b0⟩
set_option maxHeartbeats 2000000 in
theorem sw4_args (l1 l : Nat) (a1 : Option Addr) (c1 : Nat) (a : Option Addr) (cap : Nat) (h : 0 < l1) (w : World) :
    Calls Tryz.prog 76 #[.agg #[.int .i64 4, .int .i64 0, .slice a1 l1 c1, .slice a l cap]] w fun e w' => e = .returned (.int .i64 2) ∧ Below w.heap.size w w' := by
  have e1 : (l1 : Int) > 0 := by omega
  have e2 : (0 : Int) < (l1 : Int) := by omega
  have b0 : Below w.heap.size w (w.alloc (.cells #[.int .i64 4, .int .i64 0, .slice a1 l1 c1, .slice a l cap] 57)) := (Below.refl _ _).alloc (Nat.le_refl _) _
  go_enter Tryz.func76, Tryz.ntmps76
  go_wp2
  go_ret
  exact ⟨rfl, b0⟩
set_option maxHeartbeats 2000000 in
theorem sw4_none  (a1 : Option Addr) (c1 : Nat) (a : Option Addr) (cap : Nat)  (w : World) :
    Calls Tryz.prog 76 #[.agg #[.int .i64 4, .int .i64 0, .slice a1 0 c1, .slice a 0 cap]] w fun e w' => e = .returned (.int .i64 2) ∧ Below w.heap.size w w' := by
  have b0 : Below w.heap.size w (w.alloc (.cells #[.int .i64 4, .int .i64 0, .slice a1 0 c1, .slice a 0 cap] 57)) := (Below.refl _ _).alloc (Nat.le_refl _) _
  go_enter Tryz.func76, Tryz.ntmps76
  go_wp2
  go_ret
  exact ⟨rfl, b0⟩
set_option maxHeartbeats 2000000 in
theorem sw4_more (l : Nat) (a1 : Option Addr) (c1 : Nat) (a : Option Addr) (cap : Nat) (h0 : ((l : Int) == 0) = false) (h1 : ((l : Int) != 1) = true) (w : World) :
    Calls Tryz.prog 76 #[.agg #[.int .i64 4, .int .i64 0, .slice a1 0 c1, .slice a l cap]] w fun e w' => e = .returned (.int .i64 2) ∧ Below w.heap.size w w' := by
  have b0 : Below w.heap.size w (w.alloc (.cells #[.int .i64 4, .int .i64 0, .slice a1 0 c1, .slice a l cap] 57)) := (Below.refl _ _).alloc (Nat.le_refl _) _
  go_enter Tryz.func76, Tryz.ntmps76
  go_wp2
  go_ret
  exact ⟨rfl, b0⟩

set_option maxRecDepth 10000 in
set_option maxHeartbeats 4000000 in
theorem sw2_go (ct cl : Int → List ArgT → Bool) (m : Nat) (a1 : Option Addr) (c1 : Nat) (v : Value) (xs : List NetT) (w : World) (lo : Nat) (hv : RowIs w lo 4 (NetIs w lo m) v xs) (hne : xs.length ≠ 0)
    (HC : Hid (∀ x cs, x ∈ xs → ∀ (W : World), Below w.heap.size w W → (NetIs W lo m) x cs → Calls Tryz.prog 76 #[.agg cs.toArray] W fun r w' => r = .returned (.int .i64 (firstC ct cl (pNet m x))) ∧ Below W.heap.size W w'))
    (HM : Hid (∀ x cs (W : World), Below w.heap.size w W → (NetIs w lo m) x cs → (NetIs W lo m) x cs)) :
    Calls Tryz.prog 76 #[.agg #[.int .i64 2, .int .i64 0, .slice a1 0 c1, v]] w fun r w' => r = .returned (.int .i64 (firstC ct cl (xs.flatMap (pNet m)))) ∧ Below w.heap.size w w' := by
  obtain ⟨a, cap, rfl, hl, hx⟩ := hv
  have HX : Hid (∀ j x, xs[j]? = some x → ∃ b o cs, a = some ⟨b, o, none⟩ ∧ lo ≤ b ∧ cs.length = 4 ∧ w.rangeAt b (o + j * 4) cs ∧ (NetIs w lo m) x cs) := hx
  obtain ⟨len, HL⟩ : ∃ len, Hid (len = xs.length) := ⟨_, rfl⟩
  rw [← HL.out] at hl hne ⊢
  clear hx
  obtain ⟨RES, HRES⟩ : ∃ r, Hid (r = firstC ct cl (xs.flatMap (pNet m))) := ⟨_, rfl⟩
  rw [← HRES.out]
  have hk := heap_alloc_last w (.cells #[.int .i64 2, .int .i64 0, .slice a1 0 c1, .slice a len cap] 57)
  have b0 : Below w.heap.size w (w.alloc (.cells #[.int .i64 2, .int .i64 0, .slice a1 0 c1, .slice a len cap] 57)) := (Below.refl _ _).alloc (Nat.le_refl _) _
  have K0 : Hid ((w.alloc (.cells #[.int .i64 2, .int .i64 0, .slice a1 0 c1, .slice a len cap] 57)).heap[w.heap.size]? = some (.cells #[.int .i64 2, .int .i64 0, .slice a1 0 c1, .slice a len cap] 57 (0, 0))) := hk
  have z0 : ((len : Int) == 0) = false := by simp; omega
  clear hk hne
  go_enter Tryz.func76, Tryz.ntmps76
  go_wp2
  go_loopg [3] len (fun g i wr => ∃ n : Nat, n + g = len ∧ i = .int .i64 n ∧ Hid (firstC ct cl ((xs.take n).flatMap (pNet m)) = 0) ∧ Below w.heap.size w wr ∧ wr.heap[w.heap.size]? = some (.cells #[.int .i64 2, .int .i64 0, .slice a1 0 c1, .slice a len cap] 57 (0, 0)))
  case atStart => exact ⟨0, by omega, rfl, rfl, b0, K0.out⟩
  case round =>
    obtain ⟨n, hn, rfl, HS, hb, hk0⟩ := hrel
    have c0 : wr.cell? ⟨w.heap.size, 3, none⟩ = some (.slice a len cap) := (cell_of_row _ _ _ _ _ _ hk0).trans rfl
    by_cases hlt : n < len
    · have i2 : (n : Int) < (len : Int) := by omega
      have i3 : (0 : Int) ≤ (n : Int) := by omega
      obtain ⟨x, hxn⟩ : ∃ x, xs[n]? = some x := ⟨_, List.getElem?_eq_getElem (by have := HL.out; omega)⟩
      obtain ⟨b, o, cs, rfl, hlo, hcs, hrg, hR⟩ := HX.out n x hxn
      have HB : Hid (Below w.heap.size w wr) := hb
      have HLd : Hid ((loadVar 57 ⟨b, o + n * 4, none⟩).run Tryz.prog wr = .ok (.agg cs.toArray) wr) := run_loadVar_mid wr b (o + n * 4) 57 cs _ (fun i c hi => (Keeps.of_below hb 0) _ _ _ (Nat.zero_le _) (hrg i c hi)) Tryz.underlying57 rfl (by rw [hcs]; kernel_rfl)
      have HCx : Hid (Calls Tryz.prog 76 #[.agg cs.toArray] wr fun r w' => r = .returned (.int .i64 (firstC ct cl (pNet m x))) ∧ Below wr.heap.size wr w') := HC.out x cs (List.mem_of_getElem? hxn) wr hb (HM.out x cs wr hb hR)
      obtain ⟨q, Hq⟩ : ∃ q, Hid (q = firstC ct cl (pNet m x)) := ⟨_, rfl⟩
      rw [← Hq.out] at HCx
      have hq := (firstC_range ct cl (pNet m x)).1
      rw [← Hq.out] at hq
      have HK : Hid (wr.heap[w.heap.size]? = some (.cells #[.int .i64 2, .int .i64 0, .slice a1 0 c1, .slice (some ⟨b, o, none⟩) len cap] 57 (0, 0))) := hk0
      have HD : Hid (xs[n]? = some x) := hxn
      clear hb hrg hcs hR hlo hk0 hxn
      go_wp2_with (first | (refine wpL_load rfl 57 _ rfl _ _ rfl _ HLd.out ?_) | fail)
      refine HCx.out.mono ?_
      rintro r w1 ⟨rfl, g1⟩
      have b1 : Below w.heap.size w w1 := HB.out.trans (g1.mono HB.out.size)
      have k1 : Hid (w1.heap[w.heap.size]? = some (.cells #[.int .i64 2, .int .i64 0, .slice a1 0 c1, .slice (some ⟨b, o, none⟩) len cap] 57 (0, 0))) := (g1.block _ (Array.getElem?_eq_some_iff.1 HK.out).1).trans HK.out
      clear g1 HCx HLd c0
      by_cases hz : q = 0
      · have z : ¬ (q > 0) := by omega
        have HZ : Hid (q = 0) := hz
        have z' : ¬ ((0 : Int) < q) := by omega
        clear hz hq
        go_wp2
        go_roundg (gk - 1)
        case measure => omega
        case rel => exact ⟨n + 1, by omega, by simp, first_go _ _ _ _ HD.out HS.out (by rw [← Hq.out]; exact HZ.out), b1, k1.out⟩
      · have z : q > 0 := by omega
        have z' : (0 : Int) < q := by omega
        have HZ : Hid (¬ q = 0) := hz
        clear hz hq
        go_wp2
        go_ret
        exact ⟨by rw [HRES.out, first_hit _ _ _ _ HD.out HS.out (by rw [← Hq.out]; exact HZ.out), ← Hq.out] <;> rfl, b1⟩
    · have i2 : ¬ ((n : Int) < (len : Int)) := by omega
      have HSt : Hid (firstC ct cl (xs.flatMap (pNet m)) = 0) := (by have := HS.out; rwa [List.take_of_length_le (by have := HL.out; omega)] at this : firstC ct cl (xs.flatMap (pNet m)) = 0)
      go_wp2
      go_ret
      exact ⟨by rw [HRES.out, HSt.out] <;> rfl, hb⟩

set_option maxRecDepth 10000 in
set_option maxHeartbeats 4000000 in
theorem sw3_go (ct cl : Int → List ArgT → Bool) (m : Nat) (a1 : Option Addr) (c1 : Nat) (v : Value) (xs : List NetT) (w : World) (lo : Nat) (hv : RowIs w lo 4 (NetIs w lo m) v xs) (hne : xs.length ≠ 0)
    (HC : Hid (∀ x cs, x ∈ xs → ∀ (W : World), Below w.heap.size w W → (NetIs W lo m) x cs → Calls Tryz.prog 76 #[.agg cs.toArray] W fun r w' => r = .returned (.int .i64 (firstC ct cl (pNet m x))) ∧ Below W.heap.size W w'))
    (HM : Hid (∀ x cs (W : World), Below w.heap.size w W → (NetIs w lo m) x cs → (NetIs W lo m) x cs)) :
    Calls Tryz.prog 76 #[.agg #[.int .i64 3, .int .i64 0, .slice a1 0 c1, v]] w fun r w' => r = .returned (.int .i64 (firstC ct cl (xs.flatMap (pNet m)))) ∧ Below w.heap.size w w' := by
  obtain ⟨a, cap, rfl, hl, hx⟩ := hv
  have HX : Hid (∀ j x, xs[j]? = some x → ∃ b o cs, a = some ⟨b, o, none⟩ ∧ lo ≤ b ∧ cs.length = 4 ∧ w.rangeAt b (o + j * 4) cs ∧ (NetIs w lo m) x cs) := hx
  obtain ⟨len, HL⟩ : ∃ len, Hid (len = xs.length) := ⟨_, rfl⟩
  rw [← HL.out] at hl hne ⊢
  clear hx
  obtain ⟨RES, HRES⟩ : ∃ r, Hid (r = firstC ct cl (xs.flatMap (pNet m))) := ⟨_, rfl⟩
  rw [← HRES.out]
  have hk := heap_alloc_last w (.cells #[.int .i64 3, .int .i64 0, .slice a1 0 c1, .slice a len cap] 57)
  have b0 : Below w.heap.size w (w.alloc (.cells #[.int .i64 3, .int .i64 0, .slice a1 0 c1, .slice a len cap] 57)) := (Below.refl _ _).alloc (Nat.le_refl _) _
  have K0 : Hid ((w.alloc (.cells #[.int .i64 3, .int .i64 0, .slice a1 0 c1, .slice a len cap] 57)).heap[w.heap.size]? = some (.cells #[.int .i64 3, .int .i64 0, .slice a1 0 c1, .slice a len cap] 57 (0, 0))) := hk
  have z0 : ((len : Int) == 0) = false := by simp; omega
  clear hk hne
  go_enter Tryz.func76, Tryz.ntmps76
  go_wp2
  go_loopg [3] len (fun g i wr => ∃ n : Nat, n + g = len ∧ i = .int .i64 n ∧ Hid (firstC ct cl ((xs.take n).flatMap (pNet m)) = 0) ∧ Below w.heap.size w wr ∧ wr.heap[w.heap.size]? = some (.cells #[.int .i64 3, .int .i64 0, .slice a1 0 c1, .slice a len cap] 57 (0, 0)))
  case atStart => exact ⟨0, by omega, rfl, rfl, b0, K0.out⟩
  case round =>
    obtain ⟨n, hn, rfl, HS, hb, hk0⟩ := hrel
    have c0 : wr.cell? ⟨w.heap.size, 3, none⟩ = some (.slice a len cap) := (cell_of_row _ _ _ _ _ _ hk0).trans rfl
    by_cases hlt : n < len
    · have i2 : (n : Int) < (len : Int) := by omega
      have i3 : (0 : Int) ≤ (n : Int) := by omega
      obtain ⟨x, hxn⟩ : ∃ x, xs[n]? = some x := ⟨_, List.getElem?_eq_getElem (by have := HL.out; omega)⟩
      obtain ⟨b, o, cs, rfl, hlo, hcs, hrg, hR⟩ := HX.out n x hxn
      have HB : Hid (Below w.heap.size w wr) := hb
      have HLd : Hid ((loadVar 57 ⟨b, o + n * 4, none⟩).run Tryz.prog wr = .ok (.agg cs.toArray) wr) := run_loadVar_mid wr b (o + n * 4) 57 cs _ (fun i c hi => (Keeps.of_below hb 0) _ _ _ (Nat.zero_le _) (hrg i c hi)) Tryz.underlying57 rfl (by rw [hcs]; kernel_rfl)
      have HCx : Hid (Calls Tryz.prog 76 #[.agg cs.toArray] wr fun r w' => r = .returned (.int .i64 (firstC ct cl (pNet m x))) ∧ Below wr.heap.size wr w') := HC.out x cs (List.mem_of_getElem? hxn) wr hb (HM.out x cs wr hb hR)
      obtain ⟨q, Hq⟩ : ∃ q, Hid (q = firstC ct cl (pNet m x)) := ⟨_, rfl⟩
      rw [← Hq.out] at HCx
      have hq := (firstC_range ct cl (pNet m x)).1
      rw [← Hq.out] at hq
      have HK : Hid (wr.heap[w.heap.size]? = some (.cells #[.int .i64 3, .int .i64 0, .slice a1 0 c1, .slice (some ⟨b, o, none⟩) len cap] 57 (0, 0))) := hk0
      have HD : Hid (xs[n]? = some x) := hxn
      clear hb hrg hcs hR hlo hk0 hxn
      go_wp2_with (first | (refine wpL_load rfl 57 _ rfl _ _ rfl _ HLd.out ?_) | fail)
      refine HCx.out.mono ?_
      rintro r w1 ⟨rfl, g1⟩
      have b1 : Below w.heap.size w w1 := HB.out.trans (g1.mono HB.out.size)
      have k1 : Hid (w1.heap[w.heap.size]? = some (.cells #[.int .i64 3, .int .i64 0, .slice a1 0 c1, .slice (some ⟨b, o, none⟩) len cap] 57 (0, 0))) := (g1.block _ (Array.getElem?_eq_some_iff.1 HK.out).1).trans HK.out
      clear g1 HCx HLd c0
      by_cases hz : q = 0
      · have z : ¬ (q > 0) := by omega
        have HZ : Hid (q = 0) := hz
        have z' : ¬ ((0 : Int) < q) := by omega
        clear hz hq
        go_wp2
        go_roundg (gk - 1)
        case measure => omega
        case rel => exact ⟨n + 1, by omega, by simp, first_go _ _ _ _ HD.out HS.out (by rw [← Hq.out]; exact HZ.out), b1, k1.out⟩
      · have z : q > 0 := by omega
        have z' : (0 : Int) < q := by omega
        have HZ : Hid (¬ q = 0) := hz
        clear hz hq
        go_wp2
        go_ret
        exact ⟨by rw [HRES.out, first_hit _ _ _ _ HD.out HS.out (by rw [← Hq.out]; exact HZ.out), ← Hq.out] <;> rfl, b1⟩
    · have i2 : ¬ ((n : Int) < (len : Int)) := by omega
      have HSt : Hid (firstC ct cl (xs.flatMap (pNet m)) = 0) := (by have := HS.out; rwa [List.take_of_length_le (by have := HL.out; omega)] at this : firstC ct cl (xs.flatMap (pNet m)) = 0)
      go_wp2
      go_ret
      exact ⟨by rw [HRES.out, HSt.out] <;> rfl, hb⟩

set_option maxRecDepth 10000 in
set_option maxHeartbeats 4000000 in
theorem sw4_go (ct cl : Int → List ArgT → Bool) (m : Nat) (a1 : Option Addr) (c1 : Nat) (v : Value) (xs : List NetT) (w : World) (lo : Nat) (hv : RowIs w lo 4 (NetIs w lo m) v xs) (hne : xs.length ≠ 0) (h4 : xs.length = 1)
    (HC : Hid (∀ x cs, x ∈ xs → ∀ (W : World), Below w.heap.size w W → (NetIs W lo m) x cs → Calls Tryz.prog 76 #[.agg cs.toArray] W fun r w' => r = .returned (.int .i64 (firstC ct cl (pNet m x))) ∧ Below W.heap.size W w'))
    (HM : Hid (∀ x cs (W : World), Below w.heap.size w W → (NetIs w lo m) x cs → (NetIs W lo m) x cs)) :
    Calls Tryz.prog 76 #[.agg #[.int .i64 4, .int .i64 0, .slice a1 0 c1, v]] w fun r w' => r = .returned (.int .i64 (firstC ct cl (xs.flatMap (pNet m)))) ∧ Below w.heap.size w w' := by
  obtain ⟨a, cap, rfl, hl, hx⟩ := hv
  have HX : Hid (∀ j x, xs[j]? = some x → ∃ b o cs, a = some ⟨b, o, none⟩ ∧ lo ≤ b ∧ cs.length = 4 ∧ w.rangeAt b (o + j * 4) cs ∧ (NetIs w lo m) x cs) := hx
  obtain ⟨len, HL⟩ : ∃ len, Hid (len = xs.length) := ⟨_, rfl⟩
  rw [← HL.out] at hl hne h4 ⊢
  clear hx
  obtain ⟨RES, HRES⟩ : ∃ r, Hid (r = firstC ct cl (xs.flatMap (pNet m))) := ⟨_, rfl⟩
  rw [← HRES.out]
  have hk := heap_alloc_last w (.cells #[.int .i64 4, .int .i64 0, .slice a1 0 c1, .slice a len cap] 57)
  have b0 : Below w.heap.size w (w.alloc (.cells #[.int .i64 4, .int .i64 0, .slice a1 0 c1, .slice a len cap] 57)) := (Below.refl _ _).alloc (Nat.le_refl _) _
  have K0 : Hid ((w.alloc (.cells #[.int .i64 4, .int .i64 0, .slice a1 0 c1, .slice a len cap] 57)).heap[w.heap.size]? = some (.cells #[.int .i64 4, .int .i64 0, .slice a1 0 c1, .slice a len cap] 57 (0, 0))) := hk
  have z0 : ((len : Int) == 0) = false := by simp; omega
  have z1 : ((len : Int) != 1) = false := by simp; omega
  clear hk hne h4
  go_enter Tryz.func76, Tryz.ntmps76
  go_wp2
  go_loopg [3] len (fun g i wr => ∃ n : Nat, n + g = len ∧ i = .int .i64 n ∧ Hid (firstC ct cl ((xs.take n).flatMap (pNet m)) = 0) ∧ Below w.heap.size w wr ∧ wr.heap[w.heap.size]? = some (.cells #[.int .i64 4, .int .i64 0, .slice a1 0 c1, .slice a len cap] 57 (0, 0)))
  case atStart => exact ⟨0, by omega, rfl, rfl, b0, K0.out⟩
  case round =>
    obtain ⟨n, hn, rfl, HS, hb, hk0⟩ := hrel
    have c0 : wr.cell? ⟨w.heap.size, 3, none⟩ = some (.slice a len cap) := (cell_of_row _ _ _ _ _ _ hk0).trans rfl
    by_cases hlt : n < len
    · have i2 : (n : Int) < (len : Int) := by omega
      have i3 : (0 : Int) ≤ (n : Int) := by omega
      obtain ⟨x, hxn⟩ : ∃ x, xs[n]? = some x := ⟨_, List.getElem?_eq_getElem (by have := HL.out; omega)⟩
      obtain ⟨b, o, cs, rfl, hlo, hcs, hrg, hR⟩ := HX.out n x hxn
      have HB : Hid (Below w.heap.size w wr) := hb
      have HLd : Hid ((loadVar 57 ⟨b, o + n * 4, none⟩).run Tryz.prog wr = .ok (.agg cs.toArray) wr) := run_loadVar_mid wr b (o + n * 4) 57 cs _ (fun i c hi => (Keeps.of_below hb 0) _ _ _ (Nat.zero_le _) (hrg i c hi)) Tryz.underlying57 rfl (by rw [hcs]; kernel_rfl)
      have HCx : Hid (Calls Tryz.prog 76 #[.agg cs.toArray] wr fun r w' => r = .returned (.int .i64 (firstC ct cl (pNet m x))) ∧ Below wr.heap.size wr w') := HC.out x cs (List.mem_of_getElem? hxn) wr hb (HM.out x cs wr hb hR)
      obtain ⟨q, Hq⟩ : ∃ q, Hid (q = firstC ct cl (pNet m x)) := ⟨_, rfl⟩
      rw [← Hq.out] at HCx
      have hq := (firstC_range ct cl (pNet m x)).1
      rw [← Hq.out] at hq
      have HK : Hid (wr.heap[w.heap.size]? = some (.cells #[.int .i64 4, .int .i64 0, .slice a1 0 c1, .slice (some ⟨b, o, none⟩) len cap] 57 (0, 0))) := hk0
      have HD : Hid (xs[n]? = some x) := hxn
      clear hb hrg hcs hR hlo hk0 hxn
      go_wp2_with (first | (refine wpL_load rfl 57 _ rfl _ _ rfl _ HLd.out ?_) | fail)
      refine HCx.out.mono ?_
      rintro r w1 ⟨rfl, g1⟩
      have b1 : Below w.heap.size w w1 := HB.out.trans (g1.mono HB.out.size)
      have k1 : Hid (w1.heap[w.heap.size]? = some (.cells #[.int .i64 4, .int .i64 0, .slice a1 0 c1, .slice (some ⟨b, o, none⟩) len cap] 57 (0, 0))) := (g1.block _ (Array.getElem?_eq_some_iff.1 HK.out).1).trans HK.out
      clear g1 HCx HLd c0
      by_cases hz : q = 0
      · have z : ¬ (q > 0) := by omega
        have HZ : Hid (q = 0) := hz
        have z' : ¬ ((0 : Int) < q) := by omega
        clear hz hq
        go_wp2
        go_roundg (gk - 1)
        case measure => omega
        case rel => exact ⟨n + 1, by omega, by simp, first_go _ _ _ _ HD.out HS.out (by rw [← Hq.out]; exact HZ.out), b1, k1.out⟩
      · have z : q > 0 := by omega
        have z' : (0 : Int) < q := by omega
        have HZ : Hid (¬ q = 0) := hz
        clear hz hq
        go_wp2
        go_ret
        exact ⟨by rw [HRES.out, first_hit _ _ _ _ HD.out HS.out (by rw [← Hq.out]; exact HZ.out), ← Hq.out] <;> rfl, b1⟩
    · have i2 : ¬ ((n : Int) < (len : Int)) := by omega
      have HSt : Hid (firstC ct cl (xs.flatMap (pNet m)) = 0) := (by have := HS.out; rwa [List.take_of_length_le (by have := HL.out; omega)] at this : firstC ct cl (xs.flatMap (pNet m)) = 0)
      go_wp2
      go_ret
      exact ⟨by rw [HRES.out, HSt.out] <;> rfl, hb⟩

theorem sw_net (ct cl : Int → List ArgT → Bool) : ∀ (m : Nat) (t : NetT) (cs : List Value) (w : World) (lo : Nat) (hv : NetIs w lo m t cs)
    (HC : ∀ W, Below w.heap.size w W → ∀ op v xs, ArgsIs W lo v xs → Calls Tryz.prog 119 #[.agg #[.int .i64 op, v]] W fun e w' => e = .returned (.bool (ct op xs)) ∧ Below W.heap.size W w'),
    Calls Tryz.prog 76 #[.agg cs.toArray] w fun r w' => r = .returned (.int .i64 (firstC ct cl (pNet m t))) ∧ Below w.heap.size w w'
  | 0, _, _, _, _, h, _ => h.elim
  | m + 1, .mk k e kids, cs, w, lo, hv, HC => by
    obtain ⟨v, v', rfl, ha, hk⟩ := hv
    rw [firstC_net]
    obtain ⟨a1, c1, rfl, hl1, _⟩ := id ha
    obtain ⟨a2, c2, hv2, hl2, _⟩ := id hk
    by_cases k1 : k = 1
    · subst k1
      by_cases hl : 0 < kids.length
      · rw [show cNv 1 e.op e.args.length kids.length (ct e.op e.args) = 2 by unfold cNv; rw [if_pos rfl, if_pos hl], if_neg (by omega), hv2]
        exact sw1_kids e.op _ _ a1 c1 a2 c2 hl w
      · have hl0 : kids = [] := List.eq_nil_of_length_eq_zero (by omega)
        subst hl0
        rw [show (if cNv 1 e.op e.args.length ([] : List NetT).length (ct e.op e.args) = 0 then firstC ct cl (([] : List NetT).flatMap (pNet m)) else cNv 1 e.op e.args.length ([] : List NetT).length (ct e.op e.args)) = (if ct e.op e.args then 0 else 3) by cases ct e.op e.args <;> rfl, hv2]
        exact sw1_one e.op _ a1 c1 a2 c2 w _ (fun W g => HC W g e.op _ e.args (argsIs_move (Keeps.of_below g lo) (Nat.le_refl _) ha))
    · have two : ¬ (2 ≤ k ∧ k ≤ 4 ∧ e.op = 0 ∧ e.args.length = 0 ∧ 0 < kids.length ∧ (k = 4 → kids.length = 1)) → (if cNv k e.op e.args.length kids.length (ct e.op e.args) = 0 then firstC ct cl (kids.flatMap (pNet m)) else cNv k e.op e.args.length kids.length (ct e.op e.args)) = 2 := fun h => by
        rw [show cNv k e.op e.args.length kids.length (ct e.op e.args) = 2 by unfold cNv; rw [if_neg k1, if_neg h], if_neg (by omega)]
      by_cases h2 : k < 2
      · rw [two (fun h => by omega), hv2]
        exact sw_low k e.op _ _ a1 c1 a2 c2 (by simpa using k1) h2 w
      by_cases h4 : 4 < k
      · rw [two (fun h => by omega), hv2]
        exact sw_high k e.op _ _ a1 c1 a2 c2 (by simpa using k1) h2 h4 w
      by_cases ho : e.op = 0
      rotate_left
      · rw [two (fun h => ho h.2.2.1), hv2]
        rcases (by omega : k = 2 ∨ k = 3 ∨ k = 4) with rfl | rfl | rfl
        · exact sw2_op e.op _ _ a1 c1 a2 c2 (by simpa using ho) w
        · exact sw3_op e.op _ _ a1 c1 a2 c2 (by simpa using ho) w
        · exact sw4_op e.op _ _ a1 c1 a2 c2 (by simpa using ho) w
      by_cases hla : e.args.length = 0
      rotate_left
      · rw [two (fun h => hla h.2.2.2.1), hv2, ho]
        rcases (by omega : k = 2 ∨ k = 3 ∨ k = 4) with rfl | rfl | rfl
        · exact sw2_args _ _ a1 c1 a2 c2 (by omega) w
        · exact sw3_args _ _ a1 c1 a2 c2 (by omega) w
        · exact sw4_args _ _ a1 c1 a2 c2 (by omega) w
      by_cases hlk : kids.length = 0
      · rw [two (fun h => by omega), hv2, ho, hla, hlk]
        rcases (by omega : k = 2 ∨ k = 3 ∨ k = 4) with rfl | rfl | rfl
        · exact sw2_none a1 c1 a2 c2 w
        · exact sw3_none a1 c1 a2 c2 w
        · exact sw4_none a1 c1 a2 c2 w
      by_cases h41 : k = 4 ∧ kids.length ≠ 1
      · obtain ⟨rfl, h1⟩ := h41
        rw [two (fun h => h1 (h.2.2.2.2.2 rfl)), hv2, ho, hla]
        exact sw4_more _ a1 c1 a2 c2 (by simpa using hlk) (by simp; omega) w
      have hz : cNv k e.op e.args.length kids.length (ct e.op e.args) = 0 := by
        unfold cNv
        rw [if_neg k1, if_pos ⟨by omega, by omega, ho, hla, by omega, fun h => by omega⟩]
      rw [if_pos hz, ho, hla]
      have HK : Hid (∀ x cs, x ∈ kids → ∀ (W : World), Below w.heap.size w W → (NetIs W lo m) x cs → Calls Tryz.prog 76 #[.agg cs.toArray] W fun r w' => r = .returned (.int .i64 (firstC ct cl (pNet m x))) ∧ Below W.heap.size W w') :=
        fun x cs hx W g h => sw_net ct cl m x cs W lo h (fun W' g' => HC W' (g.trans (g'.mono g.size)))
      have HM : Hid (∀ x cs (W : World), Below w.heap.size w W → (NetIs w lo m) x cs → (NetIs W lo m) x cs) := fun x cs W g h => NetIs.move (Keeps.of_below g lo) (Nat.le_refl _) _ _ (Nat.le_refl _) _ _ h
      rcases (by omega : k = 2 ∨ k = 3 ∨ k = 4) with rfl | rfl | rfl
      · exact sw2_go ct cl m a1 c1 v' kids w lo hk hlk HK HM
      · exact sw3_go ct cl m a1 c1 v' kids w lo hk hlk HK HM
      · exact sw4_go ct cl m a1 c1 v' kids w lo hk hlk (by omega) HK HM
end Go.Proofs.YtgopfaegdlefpaaGreatDoor
