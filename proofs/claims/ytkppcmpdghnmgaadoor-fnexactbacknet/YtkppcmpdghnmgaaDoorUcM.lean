/- What is wrong with a ladder, as mathematics: the first code of its parts. -/
import Derived.Test.YtkppcmpdghnmgaaDoorXaM
namespace Go.Proofs.YtkppcmpdghnmgaaDoor
open Go.RowKit
set_option linter.unusedVariables false

/-- The code of a net alone, out of its fields. -/
def cNv (k op : Int) (l1 l2 : Nat) (b : Bool) : Int :=
  if k = 1 then (if 0 < l2 then 2 else if b then 0 else 3) else if 2 ≤ k ∧ k ≤ 4 ∧ op = 0 ∧ l1 = 0 ∧ 0 < l2 ∧ (k = 4 → l2 = 1) then 0 else 2
def cN (ct : Int → List ArgT → Bool) : NetT → Int
  | .mk k e kids => cNv k e.op e.args.length kids.length (ct e.op e.args)
/-- The code of an arm alone. -/
def cAv (r nn ok : Bool) (l3 l4 : Nat) : Int :=
  if r && nn then 4 else if ok then (if l3 = 0 ∧ l4 = 0 then 5 else 0) else 3
def cA (cl : Int → List ArgT → Bool) : ArmT × Bool → Int
  | (.mk net coils kids, r) => cAv r (noneT net) (coils.all fun e => cl e.op e.args) coils.length kids.length
def cP (ct cl : Int → List ArgT → Bool) : PartT → Int
  | .inl t => cN ct t
  | .inr a => cA cl a
def firstC (ct cl : Int → List ArgT → Bool) : List PartT → Int
  | [] => 0
  | p :: ps => if cP ct cl p = 0 then firstC ct cl ps else cP ct cl p
theorem cNv_range (k op : Int) (l1 l2 : Nat) (b : Bool) : 0 ≤ cNv k op l1 l2 b ∧ cNv k op l1 l2 b ≤ 5 := by
  unfold cNv
  repeat' split
  all_goals omega
theorem cAv_range (r nn ok : Bool) (l3 l4 : Nat) : 0 ≤ cAv r nn ok l3 l4 ∧ cAv r nn ok l3 l4 ≤ 5 := by
  unfold cAv
  repeat' split
  all_goals omega
theorem cP_range (ct cl : Int → List ArgT → Bool) (p : PartT) : 0 ≤ cP ct cl p ∧ cP ct cl p ≤ 5 := by
  cases p with
  | inl t => cases t; exact cNv_range _ _ _ _ _
  | inr a => obtain ⟨a, r⟩ := a; cases a; exact cAv_range _ _ _ _ _
theorem firstC_range (ct cl : Int → List ArgT → Bool) : ∀ ps : List PartT, 0 ≤ firstC ct cl ps ∧ firstC ct cl ps ≤ 5
  | [] => by simp [firstC]
  | p :: ps => by
    unfold firstC
    split
    · exact firstC_range ct cl ps
    · exact cP_range ct cl p
theorem firstC_app (ct cl : Int → List ArgT → Bool) : ∀ (a b : List PartT), firstC ct cl (a ++ b) = if firstC ct cl a = 0 then firstC ct cl b else firstC ct cl a
  | [], b => by simp [firstC]
  | p :: ps, b => by
    have h := firstC_app ct cl ps b
    simp only [List.cons_append, firstC]
    by_cases hp : cP ct cl p = 0
    · simp only [hp, if_true]; exact h
    · simp only [hp, if_false]
theorem firstC_zero_app {ct cl : Int → List ArgT → Bool} {a b : List PartT} (h : firstC ct cl a = 0) : firstC ct cl (a ++ b) = firstC ct cl b := by rw [firstC_app, if_pos h]
theorem firstC_hit_app {ct cl : Int → List ArgT → Bool} {a b : List PartT} (h : firstC ct cl a ≠ 0) : firstC ct cl (a ++ b) = firstC ct cl a := by rw [firstC_app, if_neg h]
theorem first_hit {α : Type} {ct cl : Int → List ArgT → Bool} (f : α → List PartT) (xs : List α) (c : Nat) (x : α) (h : xs[c]? = some x) (h0 : firstC ct cl ((xs.take c).flatMap f) = 0) (h1 : firstC ct cl (f x) ≠ 0) : firstC ct cl (xs.flatMap f) = firstC ct cl (f x) := by
  rw [flat_at f xs c x h, firstC_zero_app h0, firstC_hit_app h1]
theorem first_go {α : Type} {ct cl : Int → List ArgT → Bool} (f : α → List PartT) (xs : List α) (c : Nat) (x : α) (h : xs[c]? = some x) (h0 : firstC ct cl ((xs.take c).flatMap f) = 0) (h1 : firstC ct cl (f x) = 0) : firstC ct cl ((xs.take (c + 1)).flatMap f) = 0 := by
  rw [List.take_add_one, h]
  simp only [Option.toList_some, List.flatMap_append, List.flatMap_cons, List.flatMap_nil, List.append_nil]
  rw [firstC_zero_app h0]; exact h1
theorem firstC_all {α : Type} {ct cl : Int → List ArgT → Bool} {f : α → List PartT} : ∀ {xs : List α}, firstC ct cl (xs.flatMap f) = 0 → ∀ x ∈ xs, firstC ct cl (f x) = 0
  | y :: ys, h, x, hx => by
    rw [List.flatMap_cons, firstC_app] at h
    by_cases h0 : firstC ct cl (f y) = 0
    · rw [if_pos h0] at h
      rcases List.mem_cons.1 hx with rfl | hx
      · exact h0
      · exact firstC_all h x hx
    · rw [if_neg h0] at h; exact absurd h h0
theorem firstC_net (ct cl : Int → List ArgT → Bool) (m : Nat) (k : Int) (e : ElemT) (kids : List NetT) : firstC ct cl (pNet (m + 1) (.mk k e kids)) = if cNv k e.op e.args.length kids.length (ct e.op e.args) = 0 then firstC ct cl (kids.flatMap (pNet m)) else cNv k e.op e.args.length kids.length (ct e.op e.args) := rfl
theorem firstC_arm (ct cl : Int → List ArgT → Bool) (m : Nat) (r : Bool) (net : NetT) (coils : List ElemT) (kids : List ArmT) : firstC ct cl (pArm (m + 1) r (.mk net coils kids)) =
    (let a := if noneT net then 0 else firstC ct cl (pNet m net)
     let b := cAv r (noneT net) (coils.all fun e => cl e.op e.args) coils.length kids.length
     if a = 0 then (if b = 0 then firstC ct cl (kids.flatMap (pArm m false)) else b) else a) := by
  show firstC ct cl ((if noneT net then ([] : List PartT) else pNet m net) ++ .inr (.mk net coils kids, r) :: kids.flatMap (pArm m false)) = _
  rw [firstC_app]
  have e1 : firstC ct cl (if noneT net then ([] : List PartT) else pNet m net) = if noneT net then 0 else firstC ct cl (pNet m net) := by
    cases noneT net <;> rfl
  rw [e1]
  rfl

/-- The first rung that is wrong. -/
def firstR (f : ArmT → Int) : Nat → List ArmT → Int × Int
  | _, [] => (0, 0)
  | i, x :: xs => if f x = 0 then firstR f (i + 1) xs else (f x, i)
def manyT (m : Nat) (xs : List ArmT) : Bool := decide (40 < xs.length) || decide (400 < szP (xs.flatMap (pArm m false)))
def treeC (ct cl : Int → List ArgT → Bool) (m : Nat) (xs : List ArmT) : Int × Int :=
  if manyT m xs then (1, 0) else firstR (fun x => firstC ct cl (pArm m true x)) 0 xs
theorem firstR_skip (f : ArmT → Int) : ∀ (xs : List ArmT) (i c : Nat), (∀ x ∈ xs.take c, f x = 0) → firstR f i xs = firstR f (i + min c xs.length) (xs.drop c)
  | [], i, c, _ => by simp [firstR]
  | x :: xs, i, 0, _ => by simp
  | x :: xs, i, c + 1, h => by
    have h0 : f x = 0 := h x (by simp)
    have hr := firstR_skip f xs (i + 1) c (fun y hy => h y (by simp [hy]))
    simp only [firstR, h0, if_true, List.drop_succ_cons, List.length_cons]
    rw [hr]
    congr 1
    omega
theorem firstR_hit (f : ArmT → Int) (xs : List ArmT) (c : Nat) (x : ArmT) (h : xs[c]? = some x) (h0 : ∀ y ∈ xs.take c, f y = 0) (h1 : f x ≠ 0) : firstR f 0 xs = (f x, (c : Int)) := by
  obtain ⟨hc, rfl⟩ := List.getElem?_eq_some_iff.1 h
  rw [firstR_skip f xs 0 c h0, List.drop_eq_getElem_cons hc]
  simp only [firstR, h1, if_false]
  congr 1
  omega
theorem firstR_none (f : ArmT → Int) (xs : List ArmT) (h0 : ∀ y ∈ xs, f y = 0) : firstR f 0 xs = (0, 0) := by
  rw [firstR_skip f xs 0 xs.length (fun y hy => h0 y (List.mem_of_mem_take hy))]
  simp [firstR]
theorem take_go {α : Type} {f : α → Int} {xs : List α} {c : Nat} {x : α} (h : xs[c]? = some x) (h0 : ∀ y ∈ xs.take c, f y = 0) (h1 : f x = 0) : ∀ y ∈ xs.take (c + 1), f y = 0 := by
  intro y hy
  rw [List.take_add_one, h] at hy
  simp only [Option.toList_some, List.mem_append, List.mem_singleton] at hy
  rcases hy with hy | rfl
  · exact h0 y hy
  · exact h1

/-- An error, out of its code. -/
def errV (c : Int) : Value := if c = 0 then .nilIface else .iface 137 (.agg #[.int .i64 c])
theorem errV_0 : errV 0 = .nilIface := rfl
theorem errV_ne {c : Int} (h : c ≠ 0) : errV c = .iface 137 (.agg #[.int .i64 c]) := if_neg h
end Go.Proofs.YtkppcmpdghnmgaaDoor
/- What the program says is wrong with a part. -/
namespace Go.Proofs.YtkppcmpdghnmgaaDoor
open Go.RowKit Go.Shelf
set_option linter.unusedVariables false
attribute [local go_sem] Oper.semAt_some

set_option maxHeartbeats 2000000 in
theorem nw1_kids (op : Int) (a1 : Option Addr) (l1 c1 : Nat) (a2 : Option Addr) (l2 : Nat) (h2 : 0 < l2) (c2 : Nat) (w : World) :
    Calls Tryd.prog 114 #[.agg #[.int .i64 1, .int .i64 op, .slice a1 l1 c1, .slice a2 l2 c2]] w fun e w' => e = .returned (.iface 137 (.agg #[.int .i64 2])) ∧ Below w.heap.size w w' := by
  have e1 : (l2 : Int) > 0 := by omega
  have e2 : (0 : Int) < (l2 : Int) := by omega
  have b0 : Below w.heap.size w (w.alloc (.cells #[.int .i64 1, .int .i64 op, .slice a1 l1 c1, .slice a2 l2 c2] 99)) := (Below.refl _ _).alloc (Nat.le_refl _) _
  go_enter Tryd.func114, Tryd.ntmps114
  go_wp2
  go_ret
  exact ⟨rfl, b0⟩
set_option maxHeartbeats 2000000 in
theorem nw1_one (op : Int) (a1 : Option Addr) (l1 c1 : Nat) (a2 : Option Addr)  (c2 : Nat) (w : World) (b : Bool) (HC : Hid (∀ W, Below w.heap.size w W → Calls Tryd.prog 37 #[.agg #[.int .i64 op, .slice a1 l1 c1]] W fun e w' => e = .returned (.bool b) ∧ Below W.heap.size W w')) :
    Calls Tryd.prog 114 #[.agg #[.int .i64 1, .int .i64 op, .slice a1 l1 c1, .slice a2 0 c2]] w fun e w' => e = .returned (if b then .nilIface else .iface 137 (.agg #[.int .i64 3])) ∧ Below w.heap.size w w' := by
  have b0 : Below w.heap.size w (w.alloc (.cells #[.int .i64 1, .int .i64 op, .slice a1 l1 c1, .slice a2 0 c2] 99)) := (Below.refl _ _).alloc (Nat.le_refl _) _
  go_enter Tryd.func114, Tryd.ntmps114
  go_wp2_with fail
  refine (HC.out _ b0).mono ?_
  rintro e w1 ⟨rfl, g1⟩
  have b1 := b0.trans (g1.mono b0.size)
  clear g1 b0
  cases b with
  | true =>
    go_wp2
    go_ret
    exact ⟨rfl, b1⟩
  | false =>
    go_wp2
    go_ret
    exact ⟨rfl, b1⟩
set_option maxHeartbeats 2000000 in
theorem nw2_none (op : Int) (a1 : Option Addr) (l1 c1 : Nat) (a2 : Option Addr)  (c2 : Nat) (w : World) :
    Calls Tryd.prog 114 #[.agg #[.int .i64 2, .int .i64 op, .slice a1 l1 c1, .slice a2 0 c2]] w fun e w' => e = .returned (.iface 137 (.agg #[.int .i64 2])) ∧ Below w.heap.size w w' := by
  have b0 : Below w.heap.size w (w.alloc (.cells #[.int .i64 2, .int .i64 op, .slice a1 l1 c1, .slice a2 0 c2] 99)) := (Below.refl _ _).alloc (Nat.le_refl _) _
  go_enter Tryd.func114, Tryd.ntmps114
  go_wp2
  go_ret
  exact ⟨rfl, b0⟩
set_option maxHeartbeats 2000000 in
theorem nw2_one (op : Int) (a1 : Option Addr) (l1 c1 : Nat) (a2 : Option Addr)  (c2 : Nat) (w : World) (r : Bool) (HN : Hid (∀ W, Below w.heap.size w W → Calls Tryd.prog 40 #[.agg #[.int .i64 op, .slice a1 l1 c1]] W fun e w' => e = .returned (.bool r) ∧ Below W.heap.size W w')) :
    Calls Tryd.prog 114 #[.agg #[.int .i64 2, .int .i64 op, .slice a1 l1 c1, .slice a2 1 c2]] w fun e w' => e = .returned (if r then .nilIface else .iface 137 (.agg #[.int .i64 2])) ∧ Below w.heap.size w w' := by
  have b0 : Below w.heap.size w (w.alloc (.cells #[.int .i64 2, .int .i64 op, .slice a1 l1 c1, .slice a2 1 c2] 99)) := (Below.refl _ _).alloc (Nat.le_refl _) _
  go_enter Tryd.func114, Tryd.ntmps114
  go_wp2_with fail
  refine (HN.out _ b0).mono ?_
  rintro e w1 ⟨rfl, g1⟩
  have b1 := b0.trans (g1.mono b0.size)
  clear g1 b0
  cases r with
  | true =>
    go_wp2
    go_ret
    exact ⟨rfl, b1⟩
  | false =>
    go_wp2
    go_ret
    exact ⟨rfl, b1⟩
set_option maxHeartbeats 2000000 in
theorem nw2_more (op : Int) (a1 : Option Addr) (l1 c1 : Nat) (a2 : Option Addr) (l2 : Nat) (h2 : 1 < l2) (c2 : Nat) (w : World) (r : Bool) (HN : Hid (∀ W, Below w.heap.size w W → Calls Tryd.prog 40 #[.agg #[.int .i64 op, .slice a1 l1 c1]] W fun e w' => e = .returned (.bool r) ∧ Below W.heap.size W w')) :
    Calls Tryd.prog 114 #[.agg #[.int .i64 2, .int .i64 op, .slice a1 l1 c1, .slice a2 l2 c2]] w fun e w' => e = .returned (if r then .nilIface else .iface 137 (.agg #[.int .i64 2])) ∧ Below w.heap.size w w' := by
  have e1 : (l2 : Int) > 1 := by omega
  have e2 : (1 : Int) < (l2 : Int) := by omega
  have e3 : ((l2 : Int) == 0) = false := by simp; omega
  have b0 : Below w.heap.size w (w.alloc (.cells #[.int .i64 2, .int .i64 op, .slice a1 l1 c1, .slice a2 l2 c2] 99)) := (Below.refl _ _).alloc (Nat.le_refl _) _
  go_enter Tryd.func114, Tryd.ntmps114
  go_wp2_with fail
  refine (HN.out _ b0).mono ?_
  rintro e w1 ⟨rfl, g1⟩
  have b1 := b0.trans (g1.mono b0.size)
  clear g1 b0
  cases r with
  | true =>
    go_wp2
    go_ret
    exact ⟨rfl, b1⟩
  | false =>
    go_wp2
    go_ret
    exact ⟨rfl, b1⟩
set_option maxHeartbeats 2000000 in
theorem nw3_none (op : Int) (a1 : Option Addr) (l1 c1 : Nat) (a2 : Option Addr)  (c2 : Nat) (w : World) :
    Calls Tryd.prog 114 #[.agg #[.int .i64 3, .int .i64 op, .slice a1 l1 c1, .slice a2 0 c2]] w fun e w' => e = .returned (.iface 137 (.agg #[.int .i64 2])) ∧ Below w.heap.size w w' := by
  have b0 : Below w.heap.size w (w.alloc (.cells #[.int .i64 3, .int .i64 op, .slice a1 l1 c1, .slice a2 0 c2] 99)) := (Below.refl _ _).alloc (Nat.le_refl _) _
  go_enter Tryd.func114, Tryd.ntmps114
  go_wp2
  go_ret
  exact ⟨rfl, b0⟩
set_option maxHeartbeats 2000000 in
theorem nw3_one (op : Int) (a1 : Option Addr) (l1 c1 : Nat) (a2 : Option Addr)  (c2 : Nat) (w : World) (r : Bool) (HN : Hid (∀ W, Below w.heap.size w W → Calls Tryd.prog 40 #[.agg #[.int .i64 op, .slice a1 l1 c1]] W fun e w' => e = .returned (.bool r) ∧ Below W.heap.size W w')) :
    Calls Tryd.prog 114 #[.agg #[.int .i64 3, .int .i64 op, .slice a1 l1 c1, .slice a2 1 c2]] w fun e w' => e = .returned (if r then .nilIface else .iface 137 (.agg #[.int .i64 2])) ∧ Below w.heap.size w w' := by
  have b0 : Below w.heap.size w (w.alloc (.cells #[.int .i64 3, .int .i64 op, .slice a1 l1 c1, .slice a2 1 c2] 99)) := (Below.refl _ _).alloc (Nat.le_refl _) _
  go_enter Tryd.func114, Tryd.ntmps114
  go_wp2_with fail
  refine (HN.out _ b0).mono ?_
  rintro e w1 ⟨rfl, g1⟩
  have b1 := b0.trans (g1.mono b0.size)
  clear g1 b0
  cases r with
  | true =>
    go_wp2
    go_ret
    exact ⟨rfl, b1⟩
  | false =>
    go_wp2
    go_ret
    exact ⟨rfl, b1⟩
set_option maxHeartbeats 2000000 in
theorem nw3_more (op : Int) (a1 : Option Addr) (l1 c1 : Nat) (a2 : Option Addr) (l2 : Nat) (h2 : 1 < l2) (c2 : Nat) (w : World) (r : Bool) (HN : Hid (∀ W, Below w.heap.size w W → Calls Tryd.prog 40 #[.agg #[.int .i64 op, .slice a1 l1 c1]] W fun e w' => e = .returned (.bool r) ∧ Below W.heap.size W w')) :
    Calls Tryd.prog 114 #[.agg #[.int .i64 3, .int .i64 op, .slice a1 l1 c1, .slice a2 l2 c2]] w fun e w' => e = .returned (if r then .nilIface else .iface 137 (.agg #[.int .i64 2])) ∧ Below w.heap.size w w' := by
  have e1 : (l2 : Int) > 1 := by omega
  have e2 : (1 : Int) < (l2 : Int) := by omega
  have e3 : ((l2 : Int) == 0) = false := by simp; omega
  have b0 : Below w.heap.size w (w.alloc (.cells #[.int .i64 3, .int .i64 op, .slice a1 l1 c1, .slice a2 l2 c2] 99)) := (Below.refl _ _).alloc (Nat.le_refl _) _
  go_enter Tryd.func114, Tryd.ntmps114
  go_wp2_with fail
  refine (HN.out _ b0).mono ?_
  rintro e w1 ⟨rfl, g1⟩
  have b1 := b0.trans (g1.mono b0.size)
  clear g1 b0
  cases r with
  | true =>
    go_wp2
    go_ret
    exact ⟨rfl, b1⟩
  | false =>
    go_wp2
    go_ret
    exact ⟨rfl, b1⟩
set_option maxHeartbeats 2000000 in
theorem nw4_none (op : Int) (a1 : Option Addr) (l1 c1 : Nat) (a2 : Option Addr)  (c2 : Nat) (w : World) :
    Calls Tryd.prog 114 #[.agg #[.int .i64 4, .int .i64 op, .slice a1 l1 c1, .slice a2 0 c2]] w fun e w' => e = .returned (.iface 137 (.agg #[.int .i64 2])) ∧ Below w.heap.size w w' := by
  have b0 : Below w.heap.size w (w.alloc (.cells #[.int .i64 4, .int .i64 op, .slice a1 l1 c1, .slice a2 0 c2] 99)) := (Below.refl _ _).alloc (Nat.le_refl _) _
  go_enter Tryd.func114, Tryd.ntmps114
  go_wp2
  go_ret
  exact ⟨rfl, b0⟩
set_option maxHeartbeats 2000000 in
theorem nw4_one (op : Int) (a1 : Option Addr) (l1 c1 : Nat) (a2 : Option Addr)  (c2 : Nat) (w : World) (r : Bool) (HN : Hid (∀ W, Below w.heap.size w W → Calls Tryd.prog 40 #[.agg #[.int .i64 op, .slice a1 l1 c1]] W fun e w' => e = .returned (.bool r) ∧ Below W.heap.size W w')) :
    Calls Tryd.prog 114 #[.agg #[.int .i64 4, .int .i64 op, .slice a1 l1 c1, .slice a2 1 c2]] w fun e w' => e = .returned (if r then .nilIface else .iface 137 (.agg #[.int .i64 2])) ∧ Below w.heap.size w w' := by
  have b0 : Below w.heap.size w (w.alloc (.cells #[.int .i64 4, .int .i64 op, .slice a1 l1 c1, .slice a2 1 c2] 99)) := (Below.refl _ _).alloc (Nat.le_refl _) _
  go_enter Tryd.func114, Tryd.ntmps114
  go_wp2_with fail
  refine (HN.out _ b0).mono ?_
  rintro e w1 ⟨rfl, g1⟩
  have b1 := b0.trans (g1.mono b0.size)
  clear g1 b0
  cases r with
  | true =>
    go_wp2
    go_ret
    exact ⟨rfl, b1⟩
  | false =>
    go_wp2
    go_ret
    exact ⟨rfl, b1⟩
set_option maxHeartbeats 2000000 in
theorem nw4_more (op : Int) (a1 : Option Addr) (l1 c1 : Nat) (a2 : Option Addr) (l2 : Nat) (h2 : 1 < l2) (c2 : Nat) (w : World) :
    Calls Tryd.prog 114 #[.agg #[.int .i64 4, .int .i64 op, .slice a1 l1 c1, .slice a2 l2 c2]] w fun e w' => e = .returned (.iface 137 (.agg #[.int .i64 2])) ∧ Below w.heap.size w w' := by
  have e1 : (l2 : Int) > 1 := by omega
  have e2 : (1 : Int) < (l2 : Int) := by omega
  have e3 : ((l2 : Int) == 0) = false := by simp; omega
  have b0 : Below w.heap.size w (w.alloc (.cells #[.int .i64 4, .int .i64 op, .slice a1 l1 c1, .slice a2 l2 c2] 99)) := (Below.refl _ _).alloc (Nat.le_refl _) _
  go_enter Tryd.func114, Tryd.ntmps114
  go_wp2
  go_ret
  exact ⟨rfl, b0⟩
set_option maxHeartbeats 2000000 in
theorem nw_other (op : Int) (a1 : Option Addr) (l1 c1 : Nat) (a2 : Option Addr) (k : Int) (h1 : (k == 1) = false) (h2 : (k == 2) = false) (h3 : (k == 3) = false) (h4 : (k == 4) = false) (l2 : Nat) (c2 : Nat) (w : World) :
    Calls Tryd.prog 114 #[.agg #[.int .i64 k, .int .i64 op, .slice a1 l1 c1, .slice a2 l2 c2]] w fun e w' => e = .returned (.iface 137 (.agg #[.int .i64 2])) ∧ Below w.heap.size w w' := by
  have b0 : Below w.heap.size w (w.alloc (.cells #[.int .i64 k, .int .i64 op, .slice a1 l1 c1, .slice a2 l2 c2] 99)) := (Below.refl _ _).alloc (Nat.le_refl _) _
  go_enter Tryd.func114, Tryd.ntmps114
  go_wp2
  go_ret
  exact ⟨rfl, b0⟩

/-- The program's word on a net. -/
theorem netWrong_i (k op : Int) (a1 : Option Addr) (l1 c1 : Nat) (a2 : Option Addr) (l2 c2 : Nat) (w : World) (h1 : l1 ≤ 9223372036854775807) (b : Bool) (HC : Hid (∀ W, Below w.heap.size w W → Calls Tryd.prog 37 #[.agg #[.int .i64 op, .slice a1 l1 c1]] W fun e w' => e = .returned (.bool b) ∧ Below W.heap.size W w')) :
    Calls Tryd.prog 114 #[.agg #[.int .i64 k, .int .i64 op, .slice a1 l1 c1, .slice a2 l2 c2]] w fun e w' => e = .returned (errV (cNv k op l1 l2 b)) ∧ Below w.heap.size w w' := by
  have HN : Hid (∀ W, Below w.heap.size w W → Calls Tryd.prog 40 #[.agg #[.int .i64 op, .slice a1 l1 c1]] W fun e w' => e = .returned (.bool (decide (op = 0) && decide (l1 = 0))) ∧ Below W.heap.size W w') := fun W _ => nothing_g op a1 l1 c1 W h1
  have hz : ∀ k : Int, 2 ≤ k → k ≤ 4 → ∀ l : Nat, 0 < l → (k = 4 → l = 1) → (if (decide (op = 0) && decide (l1 = 0)) = true then Value.nilIface else .iface 137 (.agg #[.int .i64 2])) = errV (cNv k op l1 l b) := by
    intro k hk2 hk4 l hl hk
    by_cases h : op = 0 ∧ l1 = 0
    · rw [show cNv k op l1 l b = 0 by unfold cNv; rw [if_neg (by omega), if_pos ⟨hk2, hk4, h.1, h.2, hl, hk⟩], if_pos (by simp [h.1, h.2])]; rfl
    · rw [show cNv k op l1 l b = 2 by unfold cNv; rw [if_neg (by omega), if_neg (fun hh => h ⟨hh.2.2.1, hh.2.2.2.1⟩)], if_neg (by simpa using h)]; rfl
  by_cases k1 : k = 1
  · subst k1
    by_cases hl : 0 < l2
    · rw [show errV (cNv 1 op l1 l2 b) = .iface 137 (.agg #[.int .i64 2]) by unfold cNv; rw [if_pos rfl, if_pos hl]; rfl]
      exact nw1_kids op a1 l1 c1 a2 l2 hl c2 w
    · have hl0 : l2 = 0 := by omega
      subst hl0
      rw [show errV (cNv 1 op l1 0 b) = (if b then .nilIface else .iface 137 (.agg #[.int .i64 3])) by cases b <;> rfl]
      exact nw1_one op a1 l1 c1 a2 c2 w b HC
  · by_cases hk : 2 ≤ k ∧ k ≤ 4
    · by_cases hl : l2 = 0
      · subst hl
        rw [show errV (cNv k op l1 0 b) = .iface 137 (.agg #[.int .i64 2]) by unfold cNv; rw [if_neg k1, if_neg (fun hh => by omega)]; rfl]
        rcases (by omega : k = 2 ∨ k = 3 ∨ k = 4) with rfl | rfl | rfl
        · exact nw2_none op a1 l1 c1 a2 c2 w
        · exact nw3_none op a1 l1 c1 a2 c2 w
        · exact nw4_none op a1 l1 c1 a2 c2 w
      · by_cases hl1 : l2 = 1
        · subst hl1
          rw [← hz k hk.1 hk.2 1 (by omega) (fun _ => rfl)]
          rcases (by omega : k = 2 ∨ k = 3 ∨ k = 4) with rfl | rfl | rfl
          · exact nw2_one op a1 l1 c1 a2 c2 w _ HN
          · exact nw3_one op a1 l1 c1 a2 c2 w _ HN
          · exact nw4_one op a1 l1 c1 a2 c2 w _ HN
        · by_cases h4 : k = 4
          · subst h4
            rw [show errV (cNv 4 op l1 l2 b) = .iface 137 (.agg #[.int .i64 2]) by unfold cNv; rw [if_neg k1, if_neg (fun hh => hl1 (hh.2.2.2.2.2 rfl))]; rfl]
            exact nw4_more op a1 l1 c1 a2 l2 (by omega) c2 w
          · rw [← hz k hk.1 hk.2 l2 (by omega) (fun h => absurd h h4)]
            rcases (by omega : k = 2 ∨ k = 3) with rfl | rfl
            · exact nw2_more op a1 l1 c1 a2 l2 (by omega) c2 w _ HN
            · exact nw3_more op a1 l1 c1 a2 l2 (by omega) c2 w _ HN
    · rw [show errV (cNv k op l1 l2 b) = .iface 137 (.agg #[.int .i64 2]) by unfold cNv; rw [if_neg k1, if_neg (fun hh => hk ⟨hh.1, hh.2.1⟩)]; rfl]
      exact nw_other op a1 l1 c1 a2 k (by simpa using k1) (by simp; omega) (by simp; omega) (by simp; omega) l2 c2 w

end Go.Proofs.YtkppcmpdghnmgaaDoor
