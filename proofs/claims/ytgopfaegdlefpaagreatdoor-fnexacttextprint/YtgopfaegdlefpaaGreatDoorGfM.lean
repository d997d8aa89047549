/- Ladders compared: eqElem, eqNet, eqArm. -/
import Derived.Test.YtgopfaegdlefpaaGreatDoorGe
import Derived.RangeFuncNested
import Derived.RangeFuncBound
import Derived.RangeFuncCalls
import Derived.RangeFuncLeaves
import Derived.RangeFuncKeeps
import Derived.RangeFuncFrom
import Derived.Shelf.Abstract
import Derived.Shelf.RegionOpen
import Derived.WalkKit
import Derived.OwnWalkIn
import Derived.TacticsInMore
import Derived.LoopNIn
import Derived.LoopIn
namespace Go.Proofs.YtgopfaegdlefpaaGreatDoor
open Go.RowKit
set_option linter.unusedVariables false

theorem eq_args (v v' : Value) (xs ys : List ArgT) (w : World) (lo lo' : Nat) (hv : ArgsIs w lo v xs) (hv' : ArgsIs w lo' v' ys) :
    Calls Tryz.prog 172 #[v, v'] w fun r w' => r = .returned (.bool (eqB xs ys)) ∧ Below w.heap.size w w' :=
  eq_args_row v v' xs ys w lo lo' hv hv' (fun x cs y ds _ _ W h h' => by rw [show cs = _ from h, show ds = _ from h']; exact eq_arg _ _ _ _ _ _ W) (fun x cs l n W W' _ h => h)


set_option maxRecDepth 10000 in
set_option maxHeartbeats 2000000 in
theorem eq_elem_step (x0 y0 : Int) (x1 y1 : Value) (r0 : Bool) (p1 : x1.oneCell' = true) (q1 : y1.oneCell' = true) (w : World)
    (H0 : Hid (∀ W, Below w.heap.size w W → Calls Tryz.prog 172 #[x1, y1] W fun r w' => r = .returned (.bool r0) ∧ Below W.heap.size W w')) :
    Calls Tryz.prog 136 #[.agg #[.int .i64 x0, x1], .agg #[.int .i64 y0, y1]] w fun r w' => r = .returned (.bool (decide (x0 = y0) && r0)) ∧ Below w.heap.size w w' := by
  have b0 : Below w.heap.size w ((w.alloc (.cells #[.int .i64 x0, x1] 54)).alloc (.cells #[.int .i64 y0, y1] 54)) := ((Below.refl _ _).alloc (Nat.le_refl _) _).alloc (by simp) _
  by_cases h0 : x0 = y0
  · subst h0
    have e0 : decide (x0 = x0) = true := by simp
    go_enter Tryz.func136, Tryz.ntmps136
    go_wp2_with fail
    have hk := rows2 w (.cells #[.int .i64 x0, x1] 54) (.cells #[.int .i64 x0, y1] 54)
    have hz : ((w.alloc (.cells #[.int .i64 x0, x1] 54)).alloc (.cells #[.int .i64 x0, y1] 54)).heap.size = w.heap.size + 1 + 1 := by simp
    generalize ((w.alloc (.cells #[.int .i64 x0, x1] 54)).alloc (.cells #[.int .i64 x0, y1] 54)) = W0 at b0 hk hz ⊢
    refine (H0.out _ b0).mono ?_
    rintro e w1 ⟨rfl, g1⟩
    have b1 := b0.trans (g1.mono b0.size)
    have k0 := (g1.block _ (by omega)).trans hk.1
    have k1 := (g1.block _ (by omega)).trans hk.2
    clear g1
    cases r0 with
    | false =>
      clear k0 k1 hk hz b0
      go_wp2
      go_ret
      exact ⟨by simp, b1⟩
    | true =>
      clear k0 k1 hk hz b0
      go_wp2
      go_ret
      exact ⟨by simp, b1⟩
  · have e0 : decide (x0 = y0) = false := by simp [h0]
    go_enter Tryz.func136, Tryz.ntmps136
    go_wp2
    go_ret
    exact ⟨by simp [e0], b0⟩


set_option maxRecDepth 10000 in
set_option maxHeartbeats 2000000 in
theorem eq_net_step (x0 y0 : Int) (x1 y1 : Int) (x2 y2 : Value) (x3 y3 : Value) (r0 r1 : Bool) (p2 : x2.oneCell' = true) (q2 : y2.oneCell' = true) (p3 : x3.oneCell' = true) (q3 : y3.oneCell' = true) (w : World)
    (H0 : Hid (∀ W, Below w.heap.size w W → Calls Tryz.prog 136 #[.agg #[.int .i64 x1, x2], .agg #[.int .i64 y1, y2]] W fun r w' => r = .returned (.bool r0) ∧ Below W.heap.size W w'))
    (H1 : Hid (∀ W, Below w.heap.size w W → Calls Tryz.prog 137 #[x3, y3] W fun r w' => r = .returned (.bool r1) ∧ Below W.heap.size W w')) :
    Calls Tryz.prog 99 #[.agg #[.int .i64 x0, .int .i64 x1, x2, x3], .agg #[.int .i64 y0, .int .i64 y1, y2, y3]] w fun r w' => r = .returned (.bool (decide (x0 = y0) && r0 && r1)) ∧ Below w.heap.size w w' := by
  have b0 : Below w.heap.size w ((w.alloc (.cells #[.int .i64 x0, .int .i64 x1, x2, x3] 57)).alloc (.cells #[.int .i64 y0, .int .i64 y1, y2, y3] 57)) := ((Below.refl _ _).alloc (Nat.le_refl _) _).alloc (by simp) _
  by_cases h0 : x0 = y0
  · subst h0
    have e0 : decide (x0 = x0) = true := by simp
    go_enter Tryz.func99, Tryz.ntmps99
    go_wp2_with fail
    have hk := rows2 w (.cells #[.int .i64 x0, .int .i64 x1, x2, x3] 57) (.cells #[.int .i64 x0, .int .i64 y1, y2, y3] 57)
    have hz : ((w.alloc (.cells #[.int .i64 x0, .int .i64 x1, x2, x3] 57)).alloc (.cells #[.int .i64 x0, .int .i64 y1, y2, y3] 57)).heap.size = w.heap.size + 1 + 1 := by simp
    generalize ((w.alloc (.cells #[.int .i64 x0, .int .i64 x1, x2, x3] 57)).alloc (.cells #[.int .i64 x0, .int .i64 y1, y2, y3] 57)) = W0 at b0 hk hz ⊢
    refine (H0.out _ b0).mono ?_
    rintro e w1 ⟨rfl, g1⟩
    have b1 := b0.trans (g1.mono b0.size)
    have k0 := (g1.block _ (by omega)).trans hk.1
    have k1 := (g1.block _ (by omega)).trans hk.2
    clear g1
    cases r0 with
    | false =>
      clear k0 k1 hk hz b0
      go_wp2
      go_ret
      exact ⟨by simp, b1⟩
    | true =>
      have cx3 : w1.cell? ⟨w.heap.size, 3, none⟩ = some (x3) := (cell_of_row _ _ _ _ _ _ k0).trans rfl
      have cy3 : w1.cell? ⟨w.heap.size + 1, 3, none⟩ = some (y3) := (cell_of_row _ _ _ _ _ _ k1).trans rfl
      have HK0 : Hid _ := k0
      have HK1 : Hid _ := k1
      clear k0 k1 hk hz b0
      go_wp2_with fail
      have k0 := HK0.out
      have k1 := HK1.out
      clear HK0 HK1 cx3 cy3
      refine (H1.out _ b1).mono ?_
      rintro e w2 ⟨rfl, g2⟩
      have b2 := b1.trans (g2.mono b1.size)
      have k0 := (g2.block _ (Array.getElem?_eq_some_iff.1 k0).1).trans k0
      have k1 := (g2.block _ (Array.getElem?_eq_some_iff.1 k1).1).trans k1
      clear g2
      cases r1 with
      | false =>
        clear k0 k1
        go_wp2
        go_ret
        exact ⟨by simp, b2⟩
      | true =>
        clear k0 k1
        go_wp2
        go_ret
        exact ⟨by simp, b2⟩
  · have e0 : decide (x0 = y0) = false := by simp [h0]
    go_enter Tryz.func99, Tryz.ntmps99
    go_wp2
    go_ret
    exact ⟨by simp [e0], b0⟩


set_option maxRecDepth 10000 in
set_option maxHeartbeats 2000000 in
theorem eq_arm_step (x0 y0 : Value) (x1 y1 : Value) (x2 y2 : Value) (x3 y3 : Value) (x4 y4 : Value) (x5 y5 : Value) (r0 r1 r2 : Bool) (p0 : x0.oneCell' = true) (q0 : y0.oneCell' = true) (p1 : x1.oneCell' = true) (q1 : y1.oneCell' = true) (p2 : x2.oneCell' = true) (q2 : y2.oneCell' = true) (p3 : x3.oneCell' = true) (q3 : y3.oneCell' = true) (p4 : x4.oneCell' = true) (q4 : y4.oneCell' = true) (p5 : x5.oneCell' = true) (q5 : y5.oneCell' = true) (w : World)
    (H0 : Hid (∀ W, Below w.heap.size w W → Calls Tryz.prog 99 #[.agg #[x0, x1, x2, x3], .agg #[y0, y1, y2, y3]] W fun r w' => r = .returned (.bool r0) ∧ Below W.heap.size W w'))
    (H1 : Hid (∀ W, Below w.heap.size w W → Calls Tryz.prog 100 #[x4, y4] W fun r w' => r = .returned (.bool r1) ∧ Below W.heap.size W w'))
    (H2 : Hid (∀ W, Below w.heap.size w W → Calls Tryz.prog 19 #[x5, y5] W fun r w' => r = .returned (.bool r2) ∧ Below W.heap.size W w')) :
    Calls Tryz.prog 53 #[.agg #[x0, x1, x2, x3, x4, x5], .agg #[y0, y1, y2, y3, y4, y5]] w fun r w' => r = .returned (.bool (r0 && r1 && r2)) ∧ Below w.heap.size w w' := by
  have b0 : Below w.heap.size w ((w.alloc (.cells #[x0, x1, x2, x3, x4, x5] 60)).alloc (.cells #[y0, y1, y2, y3, y4, y5] 60)) := ((Below.refl _ _).alloc (Nat.le_refl _) _).alloc (by simp) _
  go_enter Tryz.func53, Tryz.ntmps53
  go_wp2_with fail
  have hk := rows2 w (.cells #[x0, x1, x2, x3, x4, x5] 60) (.cells #[y0, y1, y2, y3, y4, y5] 60)
  have hz : ((w.alloc (.cells #[x0, x1, x2, x3, x4, x5] 60)).alloc (.cells #[y0, y1, y2, y3, y4, y5] 60)).heap.size = w.heap.size + 1 + 1 := by simp
  generalize ((w.alloc (.cells #[x0, x1, x2, x3, x4, x5] 60)).alloc (.cells #[y0, y1, y2, y3, y4, y5] 60)) = W0 at b0 hk hz ⊢
  refine (H0.out _ b0).mono ?_
  rintro e w1 ⟨rfl, g1⟩
  have b1 := b0.trans (g1.mono b0.size)
  have k0 := (g1.block _ (by omega)).trans hk.1
  have k1 := (g1.block _ (by omega)).trans hk.2
  clear g1
  cases r0 with
  | false =>
    clear k0 k1 hk hz b0
    go_wp2
    go_ret
    exact ⟨by simp, b1⟩
  | true =>
    have cx4 : w1.cell? ⟨w.heap.size, 4, none⟩ = some (x4) := (cell_of_row _ _ _ _ _ _ k0).trans rfl
    have cy4 : w1.cell? ⟨w.heap.size + 1, 4, none⟩ = some (y4) := (cell_of_row _ _ _ _ _ _ k1).trans rfl
    have HK0 : Hid _ := k0
    have HK1 : Hid _ := k1
    clear k0 k1 hk hz b0
    go_wp2_with fail
    have k0 := HK0.out
    have k1 := HK1.out
    clear HK0 HK1 cx4 cy4
    refine (H1.out _ b1).mono ?_
    rintro e w2 ⟨rfl, g2⟩
    have b2 := b1.trans (g2.mono b1.size)
    have k0 := (g2.block _ (Array.getElem?_eq_some_iff.1 k0).1).trans k0
    have k1 := (g2.block _ (Array.getElem?_eq_some_iff.1 k1).1).trans k1
    clear g2
    cases r1 with
    | false =>
      clear k0 k1
      go_wp2
      go_ret
      exact ⟨by simp, b2⟩
    | true =>
      have cx5 : w2.cell? ⟨w.heap.size, 5, none⟩ = some (x5) := (cell_of_row _ _ _ _ _ _ k0).trans rfl
      have cy5 : w2.cell? ⟨w.heap.size + 1, 5, none⟩ = some (y5) := (cell_of_row _ _ _ _ _ _ k1).trans rfl
      have HK0 : Hid _ := k0
      have HK1 : Hid _ := k1
      clear k0 k1
      go_wp2_with fail
      have k0 := HK0.out
      have k1 := HK1.out
      clear HK0 HK1 cx5 cy5
      refine (H2.out _ b2).mono ?_
      rintro e w3 ⟨rfl, g3⟩
      have b3 := b2.trans (g3.mono b2.size)
      have k0 := (g3.block _ (Array.getElem?_eq_some_iff.1 k0).1).trans k0
      have k1 := (g3.block _ (Array.getElem?_eq_some_iff.1 k1).1).trans k1
      clear g3
      cases r2 with
      | false =>
        clear k0 k1
        go_wp2
        go_ret
        exact ⟨by simp, b3⟩
      | true =>
        clear k0 k1
        go_wp2
        go_ret
        exact ⟨by simp, b3⟩


theorem bool_and3 {a b c : Bool} {p q r : Prop} (ha : a = true ↔ p) (hb : b = true ↔ q) (hc : c = true ↔ r) : (a && b && c) = true ↔ p ∧ q ∧ r := by
  rw [Bool.and_eq_true, Bool.and_eq_true, ha, hb, hc, and_assoc]
theorem elemT_eq (e e' : ElemT) : (decide (e.op = e'.op) && eqB e.args e'.args) = true ↔ e = e' := by
  rw [Bool.and_eq_true, decide_eq_true_iff, eqB_true]
  cases e; cases e'; simp
theorem netT_eq (k k' : Int) (e e' : ElemT) (l l' : List NetT) : (decide (k = k') && eqB e e' && eqB l l') = true ↔ NetT.mk k e l = NetT.mk k' e' l' := by
  rw [bool_and3 decide_eq_true_iff eqB_true eqB_true, NetT.mk.injEq]
theorem armT_eq (n n' : NetT) (e e' : List ElemT) (l l' : List ArmT) : (eqB n n' && eqB e e' && eqB l l') = true ↔ ArmT.mk n e l = ArmT.mk n' e' l' := by
  rw [bool_and3 eqB_true eqB_true eqB_true, ArmT.mk.injEq]

theorem eq_elem (e e' : ElemT) (cs ds : List Value) (w : World) (lo lo' : Nat) (hv : ElemIs w lo e cs) (hv' : ElemIs w lo' e' ds) :
    Calls Tryz.prog 136 #[.agg cs.toArray, .agg ds.toArray] w fun r w' => r = .returned (.bool (eqB e e')) ∧ Below w.heap.size w w' := by
  obtain ⟨v, rfl, h⟩ := hv
  obtain ⟨v', rfl, h'⟩ := hv'
  rw [eqB_iff (elemT_eq e e')]
  exact eq_elem_step e.op e'.op v v' _ h.one h'.one w (fun W g => eq_args v v' _ _ W lo lo' (argsIs_move (Keeps.of_below g lo) (Nat.le_refl _) h) (argsIs_move (Keeps.of_below g lo') (Nat.le_refl _) h'))
theorem eq_elems (v v' : Value) (xs ys : List ElemT) (w : World) (lo lo' : Nat) (hv : ElemsIs w lo v xs) (hv' : ElemsIs w lo' v' ys) :
    Calls Tryz.prog 100 #[v, v'] w fun r w' => r = .returned (.bool (eqB xs ys)) ∧ Below w.heap.size w w' :=
  eq_elems_row v v' xs ys w lo lo' hv hv' (fun x cs y ds _ _ W h h' => eq_elem x y cs ds W lo lo' h h') (fun x cs l n W W' k h => h.move k (Nat.le_refl _))

theorem eq_net : ∀ (m m' : Nat) (t t' : NetT) (cs ds : List Value) (w : World) (lo lo' : Nat) (hv : NetIs w lo m t cs) (hv' : NetIs w lo' m' t' ds),
    Calls Tryz.prog 99 #[.agg cs.toArray, .agg ds.toArray] w fun r w' => r = .returned (.bool (eqB t t')) ∧ Below w.heap.size w w'
  | 0, _, _, _, _, _, _, _, _, h, _ => h.elim
  | _ + 1, 0, _, _, _, _, _, _, _, _, h => h.elim
  | m + 1, m' + 1, .mk k e kids, .mk k' e' kids', cs, ds, w, lo, lo', hv, hv' => by
    obtain ⟨v, u, rfl, ha, hk⟩ := hv
    obtain ⟨v', u', rfl, ha', hk'⟩ := hv'
    rw [eqB_iff (netT_eq k k' e e' kids kids')]
    exact eq_net_step k k' e.op e'.op v v' u u' _ _ ha.one ha'.one hk.one hk'.one w
      (fun W g => eq_elem e e' _ _ W lo lo' ⟨v, rfl, argsIs_move (Keeps.of_below g lo) (Nat.le_refl _) ha⟩ ⟨v', rfl, argsIs_move (Keeps.of_below g lo') (Nat.le_refl _) ha'⟩)
      (fun W g => eq_nets_row m m' u u' kids kids' W lo lo' (netsIs_move (Keeps.of_below g lo) (Nat.le_refl _) (Nat.le_refl _) hk) (netsIs_move (Keeps.of_below g lo') (Nat.le_refl _) (Nat.le_refl _) hk')
        (fun x cs y ds _ _ W h h' => eq_net m m' x y cs ds W lo lo' h h') (fun x cs l n W W' k h => NetIs.move k (Nat.le_refl _) _ _ (Nat.le_refl _) _ _ h))

theorem eq_arm : ∀ (m m' : Nat) (t t' : ArmT) (cs ds : List Value) (w : World) (lo lo' : Nat) (hv : ArmIs w lo m t cs) (hv' : ArmIs w lo' m' t' ds),
    Calls Tryz.prog 53 #[.agg cs.toArray, .agg ds.toArray] w fun r w' => r = .returned (.bool (eqB t t')) ∧ Below w.heap.size w w'
  | 0, _, _, _, _, _, _, _, _, h, _ => h.elim
  | _ + 1, 0, _, _, _, _, _, _, _, _, h => h.elim
  | m + 1, m' + 1, .mk n c kids, .mk n' c' kids', cs, ds, w, lo, lo', hv, hv' => by
    obtain ⟨ns, v, u, rfl, hn, ha, hk⟩ := hv
    obtain ⟨ns', v', u', rfl, hn', ha', hk'⟩ := hv'
    have q := hn
    have q' := hn'
    obtain ⟨n0, n1, n2, n3, rfl, o0, o1, o2, o3⟩ := q.cells
    obtain ⟨n0', n1', n2', n3', rfl, o0', o1', o2', o3'⟩ := q'.cells
    rw [eqB_iff (armT_eq n n' c c' kids kids')]
    exact eq_arm_step n0 n0' n1 n1' n2 n2' n3 n3' v v' u u' _ _ _ o0 o0' o1 o1' o2 o2' o3 o3' ha.one ha'.one hk.one hk'.one w
      (fun W g => eq_net m m' n n' _ _ W lo lo' (NetIs.move (Keeps.of_below g lo) (Nat.le_refl _) _ _ (Nat.le_refl _) _ _ hn) (NetIs.move (Keeps.of_below g lo') (Nat.le_refl _) _ _ (Nat.le_refl _) _ _ hn'))
      (fun W g => eq_elems v v' c c' W lo lo' (elemsIs_move (Keeps.of_below g lo) (Nat.le_refl _) ha) (elemsIs_move (Keeps.of_below g lo') (Nat.le_refl _) ha'))
      (fun W g => eq_arms_row m m' u u' kids kids' W lo lo' (armsIs_move (Keeps.of_below g lo) (Nat.le_refl _) (Nat.le_refl _) hk) (armsIs_move (Keeps.of_below g lo') (Nat.le_refl _) (Nat.le_refl _) hk')
        (fun x cs y ds _ _ W h h' => eq_arm m m' x y cs ds W lo lo' h h') (fun x cs l n W W' k h => ArmIs.move k (Nat.le_refl _) _ _ (Nat.le_refl _) _ _ h))
theorem eq_arms (m m' : Nat) (v v' : Value) (xs ys : List ArmT) (w : World) (lo lo' : Nat) (hv : ArmsIs w lo m v xs) (hv' : ArmsIs w lo' m' v' ys) :
    Calls Tryz.prog 19 #[v, v'] w fun r w' => r = .returned (.bool (eqB xs ys)) ∧ Below w.heap.size w w' :=
  eq_arms_row m m' v v' xs ys w lo lo' hv hv' (fun x cs y ds _ _ W h h' => eq_arm m m' x y cs ds W lo lo' h h') (fun x cs l n W W' k h => ArmIs.move k (Nat.le_refl _) _ _ (Nat.le_refl _) _ _ h)
end Go.Proofs.YtgopfaegdlefpaaGreatDoor
/- A range over a function whose iterator may itself hold such a range: what each round keeps is told where it goes on and where it stops. -/
namespace Go.Proofs.YtgopfaegdlefpaaGreatDoor
open Go.RowKit Go.Shelf
set_option linter.unusedVariables false

/-- What is said of a world lies below b. -/
def Dep {β : Type} (b : Nat) (J : β → World → Prop) : Prop := ∀ s W W', Below b W W' → J s W → J s W'
theorem Dep.mono {β : Type} {b b' : Nat} {J : β → World → Prop} (h : Dep b J) (hb : b ≤ b') : Dep b' J := fun s W W' g hJ => h s W W' (g.mono hb) hJ
theorem below_putObj {b l : Nat} {W : World} {o : Obj} (h : W.heap[l]? = some o) (hb : b ≤ l) (o' : Obj) : Below b W (W.putObj l o') :=
  (Below.refl b W).grown (grownBy_putObj' W l o') (by have := (Array.getElem?_eq_some_iff.1 h).1; omega) (fun k e => by cases e; exact hb)

/-- An iterator's contract: its rounds keep Kp where they go on and Kq where they stop; the caller's invariants speak of what lay ahead of the call alone. -/
def SeqN {α : Type} (n : Nat) (P : Program) (g : Nat) (lb : Array Value) (encs : α → Array Value) (Kp Kq : World → World → Prop) (S : List α → Prop) (Nx : List α → α → Prop) (w : World) : Prop :=
  ∀ (l : Nat) (J Jx : List α → World → Prop) (W : World), Below w.heap.size w W → w.heap.size + 2 ≤ W.heap.size → Dep W.heap.size J → Dep W.heap.size Jx →
    (∀ pre x W1, J pre W1 → Nx pre x → YieldAt Fence.wide (n - 1) P l (encs x) W1 fun e W' => (e = .returned (.bool true) ∧ Kp W1 W' ∧ J (pre ++ [x]) W') ∨ (e = .returned (.bool false) ∧ Kq W1 W' ∧ Jx (pre ++ [x]) W')) →
    J [] W → CallsIn Fence.wide n P g (#[.func (.yield l) #[] #[]] ++ lb) W fun e W' => (∃ v, e = .returned v) ∧ ((∃ xs, S xs ∧ J xs W') ∨ ∃ pre, Jx pre W')
/-- How a round may end. -/
def postN {α : Type} (B : Nat) (Kp Kq : World → World → Prop) (I : List α → World → Prop) (Ix : Code → List α → World → Prop) (xs : List α) (W : World) (e : Exit) (W' : World) : Prop :=
  KeepsFrom B W W' ∧ (match e with | .normal => Kp W W' ∧ I xs W' | .ret => Kq W W' ∧ Ix .ret xs W' | .exit id => Kq W W' ∧ Ix (.exit id) xs W' | .goto t => Kq W W' ∧ Ix (.goto t) xs W' | _ => False)

theorem range_n {α : Type} {P : Program} {g : Operand} {ps : Array Tmp} {assign body : Code} {Q : Exit → Act → World → Prop} {a : Act} {w : World} {n : Nat} {gf : Nat} {lb : Array Value} (hg : a.eval g = .func (.func gf) #[] lb)
    (eg : ∀ args w, (callFunc gf args).run P w = .ok (.enter gf args) w) {encs : α → Array Value} {Kp Kq : World → World → Prop} {S : List α → Prop} {Nx : List α → α → Prop} {w0 : World} (hseq : SeqN (n - 1) P gf lb encs Kp Kq S Nx w0)
    (hKt : ∀ {X Y Z : World}, Kp X Y → Kp Y Z → Kp X Z) (hKl : ∀ (W : World) (r : Loop) (o' : Obj), W.heap[w.heap.size + 1]? = some (.loop r) → Kp W (W.putObj (w.heap.size + 1) o')) (hQt : ∀ {X Y Z : World}, Kq X Y → Kq Y Z → Kq X Z) (hQl : ∀ (W : World) (r : Loop) (o' : Obj), W.heap[w.heap.size + 1]? = some (.loop r) → Kq W (W.putObj (w.heap.size + 1) o')) (hb0 : Below w0.heap.size w0 w) (hps : ∀ x, (encs x).size = ps.size)
    (I : List α → World → Prop) (Ix : Code → List α → World → Prop) (hI : Dep w.heap.size I) (hIx : ∀ c, Dep w.heap.size (Ix c)) (h0 : I [] w) (a₁ : α → Act)
    (hassign : ∀ (l : Nat) (x : α) (W : World) (K : Act → World → Prop), K (a₁ x) W →
      assign.wpIn (Fence.wide.inRound l) (n - 1 - 1) P (Exit.then K (fun _ _ _ => False)) { tmps := (ps.zip (encs x)).foldl (fun t (p, v) => t.setIfInBounds p v) a.tmps, defers := [] } W)
    (hbody : ∀ (l : Nat) (pre : List α) (x : α) (W : World), I pre W → Nx pre x → body.wpIn (Fence.wide.inRound l) (n - 1 - 1) P (fun e _ W' => postN w.heap.size Kp Kq I Ix (pre ++ [x]) W e W') (a₁ x) W)
    (hdone : ∀ (D : Nat) (xs : List α) (W : World), w.heap.size ≤ D → S xs → I xs W → W.heap[D]? = some (.deferred (some [])) → Q .normal { a with defers := { target := .collected D, args := #[] } :: a.defers } W)
    (hstop : ∀ (D : Nat) (c : Code) (pre : List α) (W : World), w.heap.size ≤ D → Ix c pre W → W.heap[D]? = some (.deferred (some [])) → c.wpIn Fence.wide n P Q { a with defers := { target := .collected D, args := #[] } :: a.defers } W) :
    (Code.rangeFunc g ps assign body).wpIn Fence.wide n P Q a w := by
  refine wpIn_rangeFunc fun fn hfn => ?_
  obtain ⟨R, hR⟩ : ∃ R : LoopState → Option Code → Loop, R = fun st pe => { state := st, pending := pe, fn, tmps := a.tmps, params := ps, assign, body, defers := w.heap.size } := ⟨_, rfl⟩
  obtain ⟨V, hV⟩ : ∃ V, V = (w.alloc (.deferred (some []))).alloc (.loop (R .ready none)) := ⟨_, rfl⟩
  have sV : V.heap.size = w.heap.size + 1 + 1 := by rw [hV]; simp
  have dV : V.heap[w.heap.size]? = some (.deferred (some [])) := by rw [hV]; exact (rows2 w _ _).1
  have lV : V.heap[w.heap.size + 1]? = some (.loop (R .ready none)) := by rw [hV]; exact (rows2 w _ _).2
  have iV : I [] V := by rw [hV]; exact hI _ _ _ (((Below.refl _ w).alloc (Nat.le_refl _) _).alloc (by simp) _) h0
  have bV : Below w0.heap.size w0 V := by rw [hV]; exact hb0.trans ((((Below.refl _ w).alloc (Nat.le_refl _) _).alloc (by simp) _).mono hb0.size)
  -- the law's two blocks beside the caller's word
  obtain ⟨Bk, hBk⟩ : ∃ Bk : Loop → World → Prop, Bk = fun r W => W.heap[w.heap.size + 1]? = some (.loop r) ∧ W.heap[w.heap.size]? = some (.deferred (some [])) := ⟨_, rfl⟩
  have depB : ∀ (r : Loop) (X Y : World), Below V.heap.size X Y → Bk r X → Bk r Y := by
    intro r X Y g h
    rw [hBk] at h ⊢
    exact ⟨(g.block _ (by omega)).trans h.1, (g.block _ (by omega)).trans h.2⟩
  have putL : ∀ {r : Loop} {X : World} (o' : Obj), X.heap[w.heap.size + 1]? = some (.loop r) → Below w.heap.size X (X.putObj (w.heap.size + 1) o') := fun o' h => below_putObj h (by omega) o'
  have turn : ∀ {r : Loop} (r' : Loop) {X : World}, Bk r X → Bk r' (X.putObj (w.heap.size + 1) (.loop r')) := by
    intro r r' X h
    rw [hBk] at h ⊢
    exact ⟨World.putObj_heap_same (Array.getElem?_eq_some_iff.1 h.1).1, (World.putObj_heap_other (by omega)).trans h.2⟩
  have atL : ∀ {r : Loop} {X : World}, Bk r X → X.heap[w.heap.size + 1]? = some (.loop r) := fun h => by rw [hBk] at h; exact h.1
  have atD : ∀ {r : Loop} {X : World}, Bk r X → X.heap[w.heap.size]? = some (.deferred (some [])) := fun h => by rw [hBk] at h; exact h.2
  have keepB : ∀ {r : Loop} {X Y : World}, Bk r X → KeepsFrom w.heap.size X Y → Bk r Y := fun h k => by
    rw [hBk] at h ⊢
    exact ⟨k.same _ _ (by omega) h.1 rfl, k.same _ _ (Nat.le_refl _) h.2 rfl⟩
  have bkV : Bk (R .ready none) V := by rw [hBk]; exact ⟨lV, dV⟩
  refine ⟨w.heap.size + 1, [{ target := .collected w.heap.size, args := #[] }], V, { target := .fn (.func gf) lb, args := #[.func (.yield (w.heap.size + 1)) #[] #[]] }, V, gf, #[.func (.yield (w.heap.size + 1)) #[] #[]] ++ lb, V, ?_, ?_, fun f' hf' => trivial, ?_, fun h => (by cases h), ?_⟩
  · rw [hV, hR]; exact run_enterLoop_outer _ _ _ _ _
  · simp only [resolve, hg]; simp [go_sem]
  · simp [invoke, go_sem, eg]
  have hc := hseq (w.heap.size + 1) (fun pre W => I pre W ∧ Bk (R .ready none) W) (fun pre W => ∃ c, Ix c pre W ∧ Bk (R .done (some c)) W) V bV (by have := hb0.size; omega)
    (fun s X Y g hs => ⟨hI s X Y (g.mono (by omega)) hs.1, depB _ X Y g hs.2⟩) (fun s X Y g hs => by obtain ⟨c, k1, k2⟩ := hs; exact ⟨c, hIx c s X Y (g.mono (by omega)) k1, depB _ X Y g k2⟩) ?_ ⟨iV, bkV⟩
  · refine hc.mono ?_
    rintro e W ⟨⟨v, rfl⟩, ⟨xs, hS, hi, hb⟩ | ⟨pre, c, hi, hb⟩⟩
    · have he := run_endLoop (P := P) (atL hb) (by rw [hR]; simp)
      have hp : (R .ready none).pending = none := by rw [hR]
      rw [hp] at he
      exact ⟨none, _, he, hdone _ xs _ (Nat.le_refl _) hS (hI _ _ _ (putL _ (atL hb)) hi) (atD (turn _ hb))⟩
    · have he := run_endLoop (P := P) (atL hb) (by rw [hR]; simp)
      have hp : (R .done (some c)).pending = some c := by rw [hR]
      rw [hp] at he
      exact ⟨some c, _, he, hstop _ c pre _ (Nat.le_refl _) (hIx c _ _ _ (putL _ (atL hb)) hi) (atD (turn _ hb))⟩
  · rintro pre x W ⟨hi, hb⟩ hlen
    have hy := run_yield (P := P) (args := encs x) (atL hb) (by rw [hR]; exact hps x)
    have hbr := run_beginRound (P := P) (atL hb) (by rw [hR])
    obtain ⟨rb, hrb⟩ : ∃ rb : Loop, rb = { R .ready none with state := .busy } := ⟨_, rfl⟩
    rw [← hrb] at hbr
    have hbb := turn rb hb
    have hib : I pre (W.putObj (w.heap.size + 1) (.loop rb)) := hI _ _ _ (putL _ (atL hb)) hi
    have e0 : (R .ready none).fn = fn ∧ (R .ready none).assign = assign ∧ (R .ready none).body = body ∧ (R .ready none).params = ps ∧ (R .ready none).tmps = a.tmps := by rw [hR]; exact ⟨rfl, rfl, rfl, rfl, rfl⟩
    rw [e0.1, e0.2.1, e0.2.2.1, e0.2.2.2.1, e0.2.2.2.2] at hy
    refine ⟨fn, _, assign, body, hy, roundIn_of_wpIn hfn (hassign _ x W _ ⟨_, hbr, ?_⟩)⟩
    refine wpIn_mono (hbody _ pre x _ hib hlen) ?_
    rintro e a3 W3 ⟨kf, he⟩
    have hb3 := keepB hbb kf
    have run : ∀ jump : Option Code, (Instr.endRound (w.heap.size + 1) jump).run P W3 = .ok (.bool jump.isNone) (W3.putObj (w.heap.size + 1) (.loop (R (if jump.isNone then .ready else .done) jump))) := fun jump => by
      have := run_endRound (P := P) jump (atL hb3)
      rw [hrb] at this
      rw [this, hR]
    cases e with
    | normal => exact ⟨_, _, run none, .inl ⟨rfl, hKt (hKt (hKl _ _ _ (atL hb)) he.1) (hKl _ _ _ (atL hb3)), hI _ _ _ (putL _ (atL hb3)) he.2, turn _ hb3⟩⟩
    | ret => exact ⟨_, _, run (some .ret), .inr ⟨rfl, hQt (hQt (hQl _ _ _ (atL hb)) he.1) (hQl _ _ _ (atL hb3)), _, hIx _ _ _ _ (putL _ (atL hb3)) he.2, turn _ hb3⟩⟩
    | exit id => exact ⟨_, _, run (some (.exit id)), .inr ⟨rfl, hQt (hQt (hQl _ _ _ (atL hb)) he.1) (hQl _ _ _ (atL hb3)), _, hIx _ _ _ _ (putL _ (atL hb3)) he.2, turn _ hb3⟩⟩
    | goto t => exact ⟨_, _, run (some (.goto t)), .inr ⟨rfl, hQt (hQt (hQl _ _ _ (atL hb)) he.1) (hQl _ _ _ (atL hb3)), _, hIx _ _ _ _ (putL _ (atL hb3)) he.2, turn _ hb3⟩⟩
    | panic ch => exact he.elim
    | outgrown => exact he.elim
end Go.Proofs.YtgopfaegdlefpaaGreatDoor
