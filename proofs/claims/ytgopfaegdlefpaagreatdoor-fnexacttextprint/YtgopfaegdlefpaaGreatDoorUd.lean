/- What the program says is wrong with a part. -/
import Derived.Test.YtgopfaegdlefpaaGreatDoorGrM
namespace Go.Proofs.YtgopfaegdlefpaaGreatDoor
open Go.RowKit Go.Shelf
set_option linter.unusedVariables false
attribute [local go_sem] Oper.semAt_some

set_option maxHeartbeats 2000000 in
theorem nw1_kids (op : Int) (a1 : Option Addr) (l1 c1 : Nat) (a2 : Option Addr) (l2 : Nat) (h2 : 0 < l2) (c2 : Nat) (w : World) :
    Calls Tryz.prog 315 #[.agg #[.int .i64 1, .int .i64 op, .slice a1 l1 c1, .slice a2 l2 c2]] w fun e w' => e = .returned (.iface 95 (.agg #[.int .i64 2])) ∧ Below w.heap.size w w' := by
  have e1 : (l2 : Int) > 0 := by omega
  have e2 : (0 : Int) < (l2 : Int) := by omega
  have b0 : Below w.heap.size w (w.alloc (.cells #[.int .i64 1, .int .i64 op, .slice a1 l1 c1, .slice a2 l2 c2] 205)) := (Below.refl _ _).alloc (Nat.le_refl _) _
  go_enter Tryz.func315, Tryz.ntmps315
  go_wp2
  go_ret
  exact ⟨rfl, b0⟩
set_option maxHeartbeats 2000000 in
theorem nw1_one (op : Int) (a1 : Option Addr) (l1 c1 : Nat) (a2 : Option Addr)  (c2 : Nat) (w : World) (b : Bool) (HC : Hid (∀ W, Below w.heap.size w W → Calls Tryz.prog 200 #[.agg #[.int .i64 op, .slice a1 l1 c1]] W fun e w' => e = .returned (.bool b) ∧ Below W.heap.size W w')) :
    Calls Tryz.prog 315 #[.agg #[.int .i64 1, .int .i64 op, .slice a1 l1 c1, .slice a2 0 c2]] w fun e w' => e = .returned (if b then .nilIface else .iface 95 (.agg #[.int .i64 3])) ∧ Below w.heap.size w w' := by
  have b0 : Below w.heap.size w (w.alloc (.cells #[.int .i64 1, .int .i64 op, .slice a1 l1 c1, .slice a2 0 c2] 205)) := (Below.refl _ _).alloc (Nat.le_refl _) _
  go_enter Tryz.func315, Tryz.ntmps315
  go_wp2_with fail
  refine (HC.out _ b0).mono ?_
  rintro e w1 ⟨rfl, g1⟩
  have b1 := b0.trans (g1.mono b0.size)
  clear g1 b0
  cases b with
  | true =>
    go_wp2
    go_ret
    exact ⟨rfl, b1⟩
  | false =>
    go_wp2
    go_ret
    exact ⟨rfl, b1⟩
set_option maxHeartbeats 2000000 in
theorem nw2_none (op : Int) (a1 : Option Addr) (l1 c1 : Nat) (a2 : Option Addr)  (c2 : Nat) (w : World) :
    Calls Tryz.prog 315 #[.agg #[.int .i64 2, .int .i64 op, .slice a1 l1 c1, .slice a2 0 c2]] w fun e w' => e = .returned (.iface 95 (.agg #[.int .i64 2])) ∧ Below w.heap.size w w' := by
  have b0 : Below w.heap.size w (w.alloc (.cells #[.int .i64 2, .int .i64 op, .slice a1 l1 c1, .slice a2 0 c2] 205)) := (Below.refl _ _).alloc (Nat.le_refl _) _
  go_enter Tryz.func315, Tryz.ntmps315
  go_wp2
  go_ret
  exact ⟨rfl, b0⟩
set_option maxHeartbeats 2000000 in
theorem nw2_one (op : Int) (a1 : Option Addr) (l1 c1 : Nat) (a2 : Option Addr)  (c2 : Nat) (w : World) (r : Bool) (HN : Hid (∀ W, Below w.heap.size w W → Calls Tryz.prog 135 #[.agg #[.int .i64 op, .slice a1 l1 c1]] W fun e w' => e = .returned (.bool r) ∧ Below W.heap.size W w')) :
    Calls Tryz.prog 315 #[.agg #[.int .i64 2, .int .i64 op, .slice a1 l1 c1, .slice a2 1 c2]] w fun e w' => e = .returned (if r then .nilIface else .iface 95 (.agg #[.int .i64 2])) ∧ Below w.heap.size w w' := by
  have b0 : Below w.heap.size w (w.alloc (.cells #[.int .i64 2, .int .i64 op, .slice a1 l1 c1, .slice a2 1 c2] 205)) := (Below.refl _ _).alloc (Nat.le_refl _) _
  go_enter Tryz.func315, Tryz.ntmps315
  go_wp2_with fail
  refine (HN.out _ b0).mono ?_
  rintro e w1 ⟨rfl, g1⟩
  have b1 := b0.trans (g1.mono b0.size)
  clear g1 b0
  cases r with
  | true =>
    go_wp2
    go_ret
    exact ⟨rfl, b1⟩
  | false =>
    go_wp2
    go_ret
    exact ⟨rfl, b1⟩
set_option maxHeartbeats 2000000 in
theorem nw2_more (op : Int) (a1 : Option Addr) (l1 c1 : Nat) (a2 : Option Addr) (l2 : Nat) (h2 : 1 < l2) (c2 : Nat) (w : World) (r : Bool) (HN : Hid (∀ W, Below w.heap.size w W → Calls Tryz.prog 135 #[.agg #[.int .i64 op, .slice a1 l1 c1]] W fun e w' => e = .returned (.bool r) ∧ Below W.heap.size W w')) :
    Calls Tryz.prog 315 #[.agg #[.int .i64 2, .int .i64 op, .slice a1 l1 c1, .slice a2 l2 c2]] w fun e w' => e = .returned (if r then .nilIface else .iface 95 (.agg #[.int .i64 2])) ∧ Below w.heap.size w w' := by
  have e1 : (l2 : Int) > 1 := by omega
  have e2 : (1 : Int) < (l2 : Int) := by omega
  have e3 : ((l2 : Int) == 0) = false := by simp; omega
  have b0 : Below w.heap.size w (w.alloc (.cells #[.int .i64 2, .int .i64 op, .slice a1 l1 c1, .slice a2 l2 c2] 205)) := (Below.refl _ _).alloc (Nat.le_refl _) _
  go_enter Tryz.func315, Tryz.ntmps315
  go_wp2_with fail
  refine (HN.out _ b0).mono ?_
  rintro e w1 ⟨rfl, g1⟩
  have b1 := b0.trans (g1.mono b0.size)
  clear g1 b0
  cases r with
  | true =>
    go_wp2
    go_ret
    exact ⟨rfl, b1⟩
  | false =>
    go_wp2
    go_ret
    exact ⟨rfl, b1⟩
set_option maxHeartbeats 2000000 in
theorem nw3_none (op : Int) (a1 : Option Addr) (l1 c1 : Nat) (a2 : Option Addr)  (c2 : Nat) (w : World) :
    Calls Tryz.prog 315 #[.agg #[.int .i64 3, .int .i64 op, .slice a1 l1 c1, .slice a2 0 c2]] w fun e w' => e = .returned (.iface 95 (.agg #[.int .i64 2])) ∧ Below w.heap.size w w' := by
  have b0 : Below w.heap.size w (w.alloc (.cells #[.int .i64 3, .int .i64 op, .slice a1 l1 c1, .slice a2 0 c2] 205)) := (Below.refl _ _).alloc (Nat.le_refl _) _
  go_enter Tryz.func315, Tryz.ntmps315
  go_wp2
  go_ret
  exact ⟨rfl, b0⟩
set_option maxHeartbeats 2000000 in
theorem nw3_one (op : Int) (a1 : Option Addr) (l1 c1 : Nat) (a2 : Option Addr)  (c2 : Nat) (w : World) (r : Bool) (HN : Hid (∀ W, Below w.heap.size w W → Calls Tryz.prog 135 #[.agg #[.int .i64 op, .slice a1 l1 c1]] W fun e w' => e = .returned (.bool r) ∧ Below W.heap.size W w')) :
    Calls Tryz.prog 315 #[.agg #[.int .i64 3, .int .i64 op, .slice a1 l1 c1, .slice a2 1 c2]] w fun e w' => e = .returned (if r then .nilIface else .iface 95 (.agg #[.int .i64 2])) ∧ Below w.heap.size w w' := by
  have b0 : Below w.heap.size w (w.alloc (.cells #[.int .i64 3, .int .i64 op, .slice a1 l1 c1, .slice a2 1 c2] 205)) := (Below.refl _ _).alloc (Nat.le_refl _) _
  go_enter Tryz.func315, Tryz.ntmps315
  go_wp2_with fail
  refine (HN.out _ b0).mono ?_
  rintro e w1 ⟨rfl, g1⟩
  have b1 := b0.trans (g1.mono b0.size)
  clear g1 b0
  cases r with
  | true =>
    go_wp2
    go_ret
    exact ⟨rfl, b1⟩
  | false =>
    go_wp2
    go_ret
    exact ⟨rfl, b1⟩
set_option maxHeartbeats 2000000 in
theorem nw3_more (op : Int) (a1 : Option Addr) (l1 c1 : Nat) (a2 : Option Addr) (l2 : Nat) (h2 : 1 < l2) (c2 : Nat) (w : World) (r : Bool) (HN : Hid (∀ W, Below w.heap.size w W → Calls Tryz.prog 135 #[.agg #[.int .i64 op, .slice a1 l1 c1]] W fun e w' => e = .returned (.bool r) ∧ Below W.heap.size W w')) :
    Calls Tryz.prog 315 #[.agg #[.int .i64 3, .int .i64 op, .slice a1 l1 c1, .slice a2 l2 c2]] w fun e w' => e = .returned (if r then .nilIface else .iface 95 (.agg #[.int .i64 2])) ∧ Below w.heap.size w w' := by
  have e1 : (l2 : Int) > 1 := by omega
  have e2 : (1 : Int) < (l2 : Int) := by omega
  have e3 : ((l2 : Int) == 0) = false := by simp; omega
  have b0 : Below w.heap.size w (w.alloc (.cells #[.int .i64 3, .int .i64 op, .slice a1 l1 c1, .slice a2 l2 c2] 205)) := (Below.refl _ _).alloc (Nat.le_refl _) _
  go_enter Tryz.func315, Tryz.ntmps315
  go_wp2_with fail
  refine (HN.out _ b0).mono ?_
  rintro e w1 ⟨rfl, g1⟩
  have b1 := b0.trans (g1.mono b0.size)
  clear g1 b0
  cases r with
  | true =>
    go_wp2
    go_ret
    exact ⟨rfl, b1⟩
  | false =>
    go_wp2
    go_ret
    exact ⟨rfl, b1⟩
set_option maxHeartbeats 2000000 in
theorem nw4_none (op : Int) (a1 : Option Addr) (l1 c1 : Nat) (a2 : Option Addr)  (c2 : Nat) (w : World) :
    Calls Tryz.prog 315 #[.agg #[.int .i64 4, .int .i64 op, .slice a1 l1 c1, .slice a2 0 c2]] w fun e w' => e = .returned (.iface 95 (.agg #[.int .i64 2])) ∧ Below w.heap.size w w' := by
  have b0 : Below w.heap.size w (w.alloc (.cells #[.int .i64 4, .int .i64 op, .slice a1 l1 c1, .slice a2 0 c2] 205)) := (Below.refl _ _).alloc (Nat.le_refl _) _
  go_enter Tryz.func315, Tryz.ntmps315
  go_wp2
  go_ret
  exact ⟨rfl, b0⟩
set_option maxHeartbeats 2000000 in
theorem nw4_one (op : Int) (a1 : Option Addr) (l1 c1 : Nat) (a2 : Option Addr)  (c2 : Nat) (w : World) (r : Bool) (HN : Hid (∀ W, Below w.heap.size w W → Calls Tryz.prog 135 #[.agg #[.int .i64 op, .slice a1 l1 c1]] W fun e w' => e = .returned (.bool r) ∧ Below W.heap.size W w')) :
    Calls Tryz.prog 315 #[.agg #[.int .i64 4, .int .i64 op, .slice a1 l1 c1, .slice a2 1 c2]] w fun e w' => e = .returned (if r then .nilIface else .iface 95 (.agg #[.int .i64 2])) ∧ Below w.heap.size w w' := by
  have b0 : Below w.heap.size w (w.alloc (.cells #[.int .i64 4, .int .i64 op, .slice a1 l1 c1, .slice a2 1 c2] 205)) := (Below.refl _ _).alloc (Nat.le_refl _) _
  go_enter Tryz.func315, Tryz.ntmps315
  go_wp2_with fail
  refine (HN.out _ b0).mono ?_
  rintro e w1 ⟨rfl, g1⟩
  have b1 := b0.trans (g1.mono b0.size)
  clear g1 b0
  cases r with
  | true =>
    go_wp2
    go_ret
    exact ⟨rfl, b1⟩
  | false =>
    go_wp2
    go_ret
    exact ⟨rfl, b1⟩
set_option maxHeartbeats 2000000 in
theorem nw4_more (op : Int) (a1 : Option Addr) (l1 c1 : Nat) (a2 : Option Addr) (l2 : Nat) (h2 : 1 < l2) (c2 : Nat) (w : World) :
    Calls Tryz.prog 315 #[.agg #[.int .i64 4, .int .i64 op, .slice a1 l1 c1, .slice a2 l2 c2]] w fun e w' => e = .returned (.iface 95 (.agg #[.int .i64 2])) ∧ Below w.heap.size w w' := by
  have e1 : (l2 : Int) > 1 := by omega
  have e2 : (1 : Int) < (l2 : Int) := by omega
  have e3 : ((l2 : Int) == 0) = false := by simp; omega
  have b0 : Below w.heap.size w (w.alloc (.cells #[.int .i64 4, .int .i64 op, .slice a1 l1 c1, .slice a2 l2 c2] 205)) := (Below.refl _ _).alloc (Nat.le_refl _) _
  go_enter Tryz.func315, Tryz.ntmps315
  go_wp2
  go_ret
  exact ⟨rfl, b0⟩
set_option maxHeartbeats 2000000 in
theorem nw_other (op : Int) (a1 : Option Addr) (l1 c1 : Nat) (a2 : Option Addr) (k : Int) (h1 : (k == 1) = false) (h2 : (k == 2) = false) (h3 : (k == 3) = false) (h4 : (k == 4) = false) (l2 : Nat) (c2 : Nat) (w : World) :
    Calls Tryz.prog 315 #[.agg #[.int .i64 k, .int .i64 op, .slice a1 l1 c1, .slice a2 l2 c2]] w fun e w' => e = .returned (.iface 95 (.agg #[.int .i64 2])) ∧ Below w.heap.size w w' := by
  have b0 : Below w.heap.size w (w.alloc (.cells #[.int .i64 k, .int .i64 op, .slice a1 l1 c1, .slice a2 l2 c2] 205)) := (Below.refl _ _).alloc (Nat.le_refl _) _
  go_enter Tryz.func315, Tryz.ntmps315
  go_wp2
  go_ret
  exact ⟨rfl, b0⟩

/-- The program's word on a net. -/
theorem netWrong_i (k op : Int) (a1 : Option Addr) (l1 c1 : Nat) (a2 : Option Addr) (l2 c2 : Nat) (w : World) (h1 : l1 ≤ 9223372036854775807) (b : Bool) (HC : Hid (∀ W, Below w.heap.size w W → Calls Tryz.prog 200 #[.agg #[.int .i64 op, .slice a1 l1 c1]] W fun e w' => e = .returned (.bool b) ∧ Below W.heap.size W w')) :
    Calls Tryz.prog 315 #[.agg #[.int .i64 k, .int .i64 op, .slice a1 l1 c1, .slice a2 l2 c2]] w fun e w' => e = .returned (errV (cNv k op l1 l2 b)) ∧ Below w.heap.size w w' := by
  have HN : Hid (∀ W, Below w.heap.size w W → Calls Tryz.prog 135 #[.agg #[.int .i64 op, .slice a1 l1 c1]] W fun e w' => e = .returned (.bool (decide (op = 0) && decide (l1 = 0))) ∧ Below W.heap.size W w') := fun W _ => nothing_i op a1 l1 c1 W h1
  have hz : ∀ k : Int, 2 ≤ k → k ≤ 4 → ∀ l : Nat, 0 < l → (k = 4 → l = 1) → (if (decide (op = 0) && decide (l1 = 0)) = true then Value.nilIface else .iface 95 (.agg #[.int .i64 2])) = errV (cNv k op l1 l b) := by
    intro k hk2 hk4 l hl hk
    by_cases h : op = 0 ∧ l1 = 0
    · rw [show cNv k op l1 l b = 0 by unfold cNv; rw [if_neg (by omega), if_pos ⟨hk2, hk4, h.1, h.2, hl, hk⟩], if_pos (by simp [h.1, h.2])]; rfl
    · rw [show cNv k op l1 l b = 2 by unfold cNv; rw [if_neg (by omega), if_neg (fun hh => h ⟨hh.2.2.1, hh.2.2.2.1⟩)], if_neg (by simpa using h)]; rfl
  by_cases k1 : k = 1
  · subst k1
    by_cases hl : 0 < l2
    · rw [show errV (cNv 1 op l1 l2 b) = .iface 95 (.agg #[.int .i64 2]) by unfold cNv; rw [if_pos rfl, if_pos hl]; rfl]
      exact nw1_kids op a1 l1 c1 a2 l2 hl c2 w
    · have hl0 : l2 = 0 := by omega
      subst hl0
      rw [show errV (cNv 1 op l1 0 b) = (if b then .nilIface else .iface 95 (.agg #[.int .i64 3])) by cases b <;> rfl]
      exact nw1_one op a1 l1 c1 a2 c2 w b HC
  · by_cases hk : 2 ≤ k ∧ k ≤ 4
    · by_cases hl : l2 = 0
      · subst hl
        rw [show errV (cNv k op l1 0 b) = .iface 95 (.agg #[.int .i64 2]) by unfold cNv; rw [if_neg k1, if_neg (fun hh => by omega)]; rfl]
        rcases (by omega : k = 2 ∨ k = 3 ∨ k = 4) with rfl | rfl | rfl
        · exact nw2_none op a1 l1 c1 a2 c2 w
        · exact nw3_none op a1 l1 c1 a2 c2 w
        · exact nw4_none op a1 l1 c1 a2 c2 w
      · by_cases hl1 : l2 = 1
        · subst hl1
          rw [← hz k hk.1 hk.2 1 (by omega) (fun _ => rfl)]
          rcases (by omega : k = 2 ∨ k = 3 ∨ k = 4) with rfl | rfl | rfl
          · exact nw2_one op a1 l1 c1 a2 c2 w _ HN
          · exact nw3_one op a1 l1 c1 a2 c2 w _ HN
          · exact nw4_one op a1 l1 c1 a2 c2 w _ HN
        · by_cases h4 : k = 4
          · subst h4
            rw [show errV (cNv 4 op l1 l2 b) = .iface 95 (.agg #[.int .i64 2]) by unfold cNv; rw [if_neg k1, if_neg (fun hh => hl1 (hh.2.2.2.2.2 rfl))]; rfl]
            exact nw4_more op a1 l1 c1 a2 l2 (by omega) c2 w
          · rw [← hz k hk.1 hk.2 l2 (by omega) (fun h => absurd h h4)]
            rcases (by omega : k = 2 ∨ k = 3) with rfl | rfl
            · exact nw2_more op a1 l1 c1 a2 l2 (by omega) c2 w _ HN
            · exact nw3_more op a1 l1 c1 a2 l2 (by omega) c2 w _ HN
    · rw [show errV (cNv k op l1 l2 b) = .iface 95 (.agg #[.int .i64 2]) by unfold cNv; rw [if_neg k1, if_neg (fun hh => hk ⟨hh.1, hh.2.1⟩)]; rfl]
      exact nw_other op a1 l1 c1 a2 k (by simpa using k1) (by simp; omega) (by simp; omega) (by simp; omega) l2 c2 w

set_option maxRecDepth 10000 in
set_option maxHeartbeats 4000000 in
theorem armWrong_i (k op : Int) (a1 : Option Addr) (l1 c1 : Nat) (a2 : Option Addr) (l2 c2 : Nat) (v3 : Value) (coils : List ElemT) (a4 : Option Addr) (l4 c4 : Nat) (r nn : Bool) (w : World) (lo : Nat) (hv : ElemsIs w lo v3 coils) (cl : Int → List ArgT → Bool)
    (HL : Hid (∀ W, Below w.heap.size w W → ∀ op v xs, ArgsIs W lo v xs → Calls Tryz.prog 169 #[.agg #[.int .i64 op, v]] W fun e w' => e = .returned (.bool (cl op xs)) ∧ Below W.heap.size W w'))
    (HN : Hid (∀ W, Calls Tryz.prog 98 #[.agg #[.int .i64 k, .int .i64 op, .slice a1 l1 c1, .slice a2 l2 c2]] W fun e w' => e = .returned (.bool nn) ∧ Below W.heap.size W w')) :
    Calls Tryz.prog 301 #[.agg #[.int .i64 k, .int .i64 op, .slice a1 l1 c1, .slice a2 l2 c2, v3, .slice a4 l4 c4, .bool r]] w fun e w' => e = .returned (errV (cAv r nn (coils.all fun e => cl e.op e.args) coils.length l4)) ∧ Below w.heap.size w w' := by
  obtain ⟨a3, c3, rfl, hl3, hx⟩ := hv
  have HX : Hid (∀ j x, coils[j]? = some x → ∃ b o cs, a3 = some ⟨b, o, none⟩ ∧ lo ≤ b ∧ cs.length = 2 ∧ w.rangeAt b (o + j * 2) cs ∧ ElemIs w lo x cs) := hx
  obtain ⟨l3, HL3⟩ : ∃ l3, Hid (l3 = coils.length) := ⟨_, rfl⟩
  rw [← HL3.out] at hl3 ⊢
  clear hx
  obtain ⟨OK, HOK⟩ : ∃ ok, Hid (ok = coils.all fun e => cl e.op e.args) := ⟨_, rfl⟩
  rw [← HOK.out]
  obtain ⟨W0, hW0⟩ : ∃ W0, W0 = w.alloc (.cells #[.int .i64 k, .int .i64 op, .slice a1 l1 c1, .slice a2 l2 c2, .slice a3 l3 c3, .slice a4 l4 c4, .bool r] 172) := ⟨_, rfl⟩
  have hk0 := heap_alloc_last w (.cells #[.int .i64 k, .int .i64 op, .slice a1 l1 c1, .slice a2 l2 c2, .slice a3 l3 c3, .slice a4 l4 c4, .bool r] 172)
  have b0 : Below w.heap.size w (w.alloc (.cells #[.int .i64 k, .int .i64 op, .slice a1 l1 c1, .slice a2 l2 c2, .slice a3 l3 c3, .slice a4 l4 c4, .bool r] 172)) := (Below.refl _ _).alloc (Nat.le_refl _) _
  have HK0 : Hid ((w.alloc (.cells #[.int .i64 k, .int .i64 op, .slice a1 l1 c1, .slice a2 l2 c2, .slice a3 l3 c3, .slice a4 l4 c4, .bool r] 172)).heap[w.heap.size]? = some (.cells #[.int .i64 k, .int .i64 op, .slice a1 l1 c1, .slice a2 l2 c2, .slice a3 l3 c3, .slice a4 l4 c4, .bool r] 172 (0, 0)) ∧ w.heap.size < (w.alloc (.cells #[.int .i64 k, .int .i64 op, .slice a1 l1 c1, .slice a2 l2 c2, .slice a3 l3 c3, .slice a4 l4 c4, .bool r] 172)).heap.size) := ⟨hk0, by simp⟩
  clear hk0 hW0 W0
  -- what follows behind the first test
  have TAIL : (r && nn) = false → ∀ (W : World) (t7 t8 t9 t10 t11 : Value), Below w.heap.size w W → W.heap[w.heap.size]? = some (.cells #[.int .i64 k, .int .i64 op, .slice a1 l1 c1, .slice a2 l2 c2, .slice a3 l3 c3, .slice a4 l4 c4, .bool r] 172 (0, 0)) → True := fun _ _ _ _ _ _ _ _ _ => trivial
  clear TAIL
  cases r with
  | false =>
    have kS := HK0.out.1
    have bS := b0
    clear HK0 b0 HN
    go_enter Tryz.func301, Tryz.ntmps301
    have q0 : (0 : Int) ≤ (l3 : Int) := by omega
    go_wp2
    go_loopg [19] l3 (fun g i wr => ∃ n : Nat, n + g = l3 ∧ i = .int .i64 n ∧ Hid (∀ e ∈ coils.take n, cl e.op e.args = true) ∧ Below w.heap.size w wr ∧ wr.heap[w.heap.size]? = some (.cells #[.int .i64 k, .int .i64 op, .slice a1 l1 c1, .slice a2 l2 c2, .slice a3 l3 c3, .slice a4 l4 c4, .bool false] 172 (0, 0)))
    case atStart => exact ⟨0, by omega, rfl, fun e he => by simp at he, bS, kS⟩
    case round =>
      obtain ⟨n, hn, rfl, HA, hb, hk⟩ := hrel
      by_cases hlt : n < l3
      · have i2 : (n : Int) < (l3 : Int) := by omega
        have i3 : (0 : Int) ≤ (n : Int) := by omega
        obtain ⟨x, hxn⟩ : ∃ x, coils[n]? = some x := ⟨_, List.getElem?_eq_getElem (by have := HL3.out; omega)⟩
        obtain ⟨b, o, cs, rfl, hlo, hcs, hrg, v, rfl, hR⟩ := HX.out n x hxn
        have hkk := Keeps.of_below hb lo
        have x0 : wr.cell? ⟨b, o + n * 2, none⟩ = some (.int .i64 x.op) := hkk _ _ _ hlo (hrg 0 _ rfl)
        have x1 : wr.cell? ⟨b, o + n * 2 + 1, none⟩ = some v := hkk _ _ _ hlo (hrg 1 _ rfl)
        obtain ⟨a5, c5, hv5, hl5, _⟩ := id hR
        have hRw : ArgsIs wr lo v x.args := argsIs_move hkk (Nat.le_refl _) hR
        subst hv5
        obtain ⟨l5, HL5⟩ : ∃ l5, Hid (l5 = x.args.length) := ⟨_, rfl⟩
        rw [← HL5.out] at x1 hRw hl5
        have gA : Below wr.heap.size wr (wr.alloc (.cells #[.int .i64 x.op, .slice a5 l5 c5] 54)) := (Below.refl _ _).alloc (Nat.le_refl _) _
        have hc := HL.out _ (hb.trans (gA.mono hb.size)) x.op _ x.args (argsIs_move (Keeps.of_below gA lo) (Nat.le_refl _) hRw)
        have HC : Hid (Calls Tryz.prog 169 #[.agg #[.int .i64 x.op, .slice a5 l5 c5]] (wr.alloc (.cells #[.int .i64 x.op, .slice a5 l5 c5] 54)) fun e w' => e = .returned (.bool (cl x.op x.args)) ∧ Below (wr.alloc (.cells #[.int .i64 x.op, .slice a5 l5 c5] 54)).heap.size (wr.alloc (.cells #[.int .i64 x.op, .slice a5 l5 c5] 54)) w') := hc
        have HB : Hid (Below w.heap.size w (wr.alloc (.cells #[.int .i64 x.op, .slice a5 l5 c5] 54)) ∧ (wr.alloc (.cells #[.int .i64 x.op, .slice a5 l5 c5] 54)).heap[w.heap.size]? = some (.cells #[.int .i64 k, .int .i64 op, .slice a1 l1 c1, .slice a2 l2 c2, .slice (some ⟨b, o, none⟩) l3 c3, .slice a4 l4 c4, .bool false] 172 (0, 0))) := ⟨hb.trans (gA.mono hb.size), (gA.block _ (Array.getElem?_eq_some_iff.1 hk).1).trans hk⟩
        clear hc gA hRw hkk hb hk hrg hcs hR hl5
        go_wp2_with fail
        refine HC.out.mono ?_
        rintro e w1 ⟨rfl, g1⟩
        have b1 : Below w.heap.size w w1 := HB.out.1.trans (g1.mono HB.out.1.size)
        have k1 : Hid (w1.heap[w.heap.size]? = some (.cells #[.int .i64 k, .int .i64 op, .slice a1 l1 c1, .slice a2 l2 c2, .slice (some ⟨b, o, none⟩) l3 c3, .slice a4 l4 c4, .bool false] 172 (0, 0))) := (g1.block _ (Array.getElem?_eq_some_iff.1 HB.out.2).1).trans HB.out.2
        have HD : Hid (coils[n]? = some x) := hxn
        clear g1 HB HC x0 x1 hxn
        obtain ⟨bb, HBB⟩ : ∃ bb, Hid (bb = cl x.op x.args) := ⟨_, rfl⟩
        rw [← HBB.out]
        cases bb with
        | true =>
          go_wp2
          go_roundg (gk - 1)
          case measure => omega
          case rel =>
            refine ⟨n + 1, by omega, by simp, ?_, b1, k1.out⟩
            intro e he
            rw [List.take_add_one, HD.out] at he
            simp only [Option.toList_some, List.mem_append, List.mem_singleton] at he
            rcases he with he | rfl
            · exact HA.out e he
            · exact HBB.out.symm
        | false =>
          go_wp2
          go_ret
          refine ⟨?_, b1⟩
          have hall : OK = false := by
            rw [HOK.out]
            exact List.all_eq_false.2 ⟨x, List.mem_of_getElem? HD.out, by rw [← HBB.out]; simp⟩
          (try rw [hall]); (try cases nn) <;> rfl
      · have i2 : ¬ ((n : Int) < (l3 : Int)) := by omega
        have hall : OK = true := by
          rw [HOK.out]
          exact List.all_eq_true.2 (fun e he => HA.out e (by rw [List.take_of_length_le (by have := HL3.out; omega)]; exact he))
        have d4 : wr.cell? ⟨w.heap.size, 4, none⟩ = some (.slice a3 l3 c3) := (cell_of_row _ _ _ _ _ _ hk).trans rfl
        have d5 : wr.cell? ⟨w.heap.size, 5, none⟩ = some (.slice a4 l4 c4) := (cell_of_row _ _ _ _ _ _ hk).trans rfl
        clear hk
        by_cases hz : l3 = 0
        · have z3 : ((l3 : Int) == 0) = true := by simp [hz]
          by_cases hz4 : l4 = 0
          · have z4 : ((l4 : Int) == 0) = true := by simp [hz4]
            have HZ : Hid (l3 = 0 ∧ l4 = 0) := ⟨hz, hz4⟩
            clear hz hz4 hlt hn
            go_wp2
            go_ret
            exact ⟨by (try rw [hall]); rw [HZ.out.1, HZ.out.2]; (try cases nn) <;> rfl, hb⟩
          · have z4 : ((l4 : Int) == 0) = false := by simp; omega
            have HZ : Hid (¬ (l3 = 0 ∧ l4 = 0)) := fun h => hz4 h.2
            clear hz hz4 hlt hn
            go_wp2
            go_ret
            exact ⟨by (try rw [hall]); unfold cAv; rw [if_neg (by simp), if_pos rfl, if_neg HZ.out]; rfl, hb⟩
        · have z3 : ((l3 : Int) == 0) = false := by simp; omega
          have HZ : Hid (¬ (l3 = 0 ∧ l4 = 0)) := fun h => hz h.1
          clear hz hlt hn
          go_wp2
          go_ret
          exact ⟨by (try rw [hall]); unfold cAv; rw [if_neg (by simp), if_pos rfl, if_neg HZ.out]; rfl, hb⟩

  | true =>
    go_enter Tryz.func301, Tryz.ntmps301
    go_wp2_with fail
    refine (HN.out _).mono ?_
    rintro e w1 ⟨rfl, g1⟩
    have kS := (g1.block _ HK0.out.2).trans HK0.out.1
    have bS := b0.trans (g1.mono b0.size)
    clear g1 b0 HK0
    cases nn with
    | true =>
      clear kS
      go_wp2
      go_ret
      exact ⟨rfl, bS⟩
    | false =>
      have m4 : w1.cell? ⟨w.heap.size, 4, none⟩ = some (.slice a3 l3 c3) := (cell_of_row _ _ _ _ _ _ kS).trans rfl
      have q0 : (0 : Int) ≤ (l3 : Int) := by omega
      go_wp2
      go_loopg [19] l3 (fun g i wr => ∃ n : Nat, n + g = l3 ∧ i = .int .i64 n ∧ Hid (∀ e ∈ coils.take n, cl e.op e.args = true) ∧ Below w.heap.size w wr ∧ wr.heap[w.heap.size]? = some (.cells #[.int .i64 k, .int .i64 op, .slice a1 l1 c1, .slice a2 l2 c2, .slice a3 l3 c3, .slice a4 l4 c4, .bool true] 172 (0, 0)))
      case atStart => exact ⟨0, by omega, rfl, fun e he => by simp at he, bS, kS⟩
      case round =>
        obtain ⟨n, hn, rfl, HA, hb, hk⟩ := hrel
        by_cases hlt : n < l3
        · have i2 : (n : Int) < (l3 : Int) := by omega
          have i3 : (0 : Int) ≤ (n : Int) := by omega
          obtain ⟨x, hxn⟩ : ∃ x, coils[n]? = some x := ⟨_, List.getElem?_eq_getElem (by have := HL3.out; omega)⟩
          obtain ⟨b, o, cs, rfl, hlo, hcs, hrg, v, rfl, hR⟩ := HX.out n x hxn
          have hkk := Keeps.of_below hb lo
          have x0 : wr.cell? ⟨b, o + n * 2, none⟩ = some (.int .i64 x.op) := hkk _ _ _ hlo (hrg 0 _ rfl)
          have x1 : wr.cell? ⟨b, o + n * 2 + 1, none⟩ = some v := hkk _ _ _ hlo (hrg 1 _ rfl)
          obtain ⟨a5, c5, hv5, hl5, _⟩ := id hR
          have hRw : ArgsIs wr lo v x.args := argsIs_move hkk (Nat.le_refl _) hR
          subst hv5
          obtain ⟨l5, HL5⟩ : ∃ l5, Hid (l5 = x.args.length) := ⟨_, rfl⟩
          rw [← HL5.out] at x1 hRw hl5
          have gA : Below wr.heap.size wr (wr.alloc (.cells #[.int .i64 x.op, .slice a5 l5 c5] 54)) := (Below.refl _ _).alloc (Nat.le_refl _) _
          have hc := HL.out _ (hb.trans (gA.mono hb.size)) x.op _ x.args (argsIs_move (Keeps.of_below gA lo) (Nat.le_refl _) hRw)
          have HC : Hid (Calls Tryz.prog 169 #[.agg #[.int .i64 x.op, .slice a5 l5 c5]] (wr.alloc (.cells #[.int .i64 x.op, .slice a5 l5 c5] 54)) fun e w' => e = .returned (.bool (cl x.op x.args)) ∧ Below (wr.alloc (.cells #[.int .i64 x.op, .slice a5 l5 c5] 54)).heap.size (wr.alloc (.cells #[.int .i64 x.op, .slice a5 l5 c5] 54)) w') := hc
          have HB : Hid (Below w.heap.size w (wr.alloc (.cells #[.int .i64 x.op, .slice a5 l5 c5] 54)) ∧ (wr.alloc (.cells #[.int .i64 x.op, .slice a5 l5 c5] 54)).heap[w.heap.size]? = some (.cells #[.int .i64 k, .int .i64 op, .slice a1 l1 c1, .slice a2 l2 c2, .slice (some ⟨b, o, none⟩) l3 c3, .slice a4 l4 c4, .bool true] 172 (0, 0))) := ⟨hb.trans (gA.mono hb.size), (gA.block _ (Array.getElem?_eq_some_iff.1 hk).1).trans hk⟩
          clear hc gA hRw hkk hb hk hrg hcs hR hl5
          go_wp2_with fail
          refine HC.out.mono ?_
          rintro e w1 ⟨rfl, g1⟩
          have b1 : Below w.heap.size w w1 := HB.out.1.trans (g1.mono HB.out.1.size)
          have k1 : Hid (w1.heap[w.heap.size]? = some (.cells #[.int .i64 k, .int .i64 op, .slice a1 l1 c1, .slice a2 l2 c2, .slice (some ⟨b, o, none⟩) l3 c3, .slice a4 l4 c4, .bool true] 172 (0, 0))) := (g1.block _ (Array.getElem?_eq_some_iff.1 HB.out.2).1).trans HB.out.2
          have HD : Hid (coils[n]? = some x) := hxn
          clear g1 HB HC x0 x1 hxn
          obtain ⟨bb, HBB⟩ : ∃ bb, Hid (bb = cl x.op x.args) := ⟨_, rfl⟩
          rw [← HBB.out]
          cases bb with
          | true =>
            go_wp2
            go_roundg (gk - 1)
            case measure => omega
            case rel =>
              refine ⟨n + 1, by omega, by simp, ?_, b1, k1.out⟩
              intro e he
              rw [List.take_add_one, HD.out] at he
              simp only [Option.toList_some, List.mem_append, List.mem_singleton] at he
              rcases he with he | rfl
              · exact HA.out e he
              · exact HBB.out.symm
          | false =>
            go_wp2
            go_ret
            refine ⟨?_, b1⟩
            have hall : OK = false := by
              rw [HOK.out]
              exact List.all_eq_false.2 ⟨x, List.mem_of_getElem? HD.out, by rw [← HBB.out]; simp⟩
            (try rw [hall]); rfl
        · have i2 : ¬ ((n : Int) < (l3 : Int)) := by omega
          have hall : OK = true := by
            rw [HOK.out]
            exact List.all_eq_true.2 (fun e he => HA.out e (by rw [List.take_of_length_le (by have := HL3.out; omega)]; exact he))
          have d4 : wr.cell? ⟨w.heap.size, 4, none⟩ = some (.slice a3 l3 c3) := (cell_of_row _ _ _ _ _ _ hk).trans rfl
          have d5 : wr.cell? ⟨w.heap.size, 5, none⟩ = some (.slice a4 l4 c4) := (cell_of_row _ _ _ _ _ _ hk).trans rfl
          clear hk
          by_cases hz : l3 = 0
          · have z3 : ((l3 : Int) == 0) = true := by simp [hz]
            by_cases hz4 : l4 = 0
            · have z4 : ((l4 : Int) == 0) = true := by simp [hz4]
              have HZ : Hid (l3 = 0 ∧ l4 = 0) := ⟨hz, hz4⟩
              clear hz hz4 hlt hn
              go_wp2
              go_ret
              exact ⟨by (try rw [hall]); rw [HZ.out.1, HZ.out.2]; rfl, hb⟩
            · have z4 : ((l4 : Int) == 0) = false := by simp; omega
              have HZ : Hid (¬ (l3 = 0 ∧ l4 = 0)) := fun h => hz4 h.2
              clear hz hz4 hlt hn
              go_wp2
              go_ret
              exact ⟨by (try rw [hall]); unfold cAv; rw [if_neg (by simp), if_pos rfl, if_neg HZ.out]; rfl, hb⟩
          · have z3 : ((l3 : Int) == 0) = false := by simp; omega
            have HZ : Hid (¬ (l3 = 0 ∧ l4 = 0)) := fun h => hz h.1
            clear hz hlt hn
            go_wp2
            go_ret
            exact ⟨by (try rw [hall]); unfold cAv; rw [if_neg (by simp), if_pos rfl, if_neg HZ.out]; rfl, hb⟩
end Go.Proofs.YtgopfaegdlefpaaGreatDoor
