/- Ladders compared: eqElem, eqNet, eqArm. -/
import Derived.Test.YtocnhfecnhndgaaGe
namespace Go.Proofs.Ytocnhfecnhndgaa
open Go.RowKit
set_option linter.unusedVariables false

theorem eq_args (v v' : Value) (xs ys : List ArgT) (w : World) (lo lo' : Nat) (hv : ArgsIs w lo v xs) (hv' : ArgsIs w lo' v' ys) :
    Calls Try.prog 72 #[v, v'] w fun r w' => r = .returned (.bool (eqB xs ys)) ∧ Below w.heap.size w w' :=
  eq_args_row v v' xs ys w lo lo' hv hv' (fun x cs y ds _ _ W h h' => by rw [show cs = _ from h, show ds = _ from h']; exact eq_arg _ _ _ _ _ _ W) (fun x cs l n W W' _ h => h)


set_option maxRecDepth 10000 in
set_option maxHeartbeats 2000000 in
theorem eq_elem_step (x0 y0 : Int) (x1 y1 : Value) (r0 : Bool) (p1 : x1.oneCell' = true) (q1 : y1.oneCell' = true) (w : World)
    (H0 : Hid (∀ W, Below w.heap.size w W → Calls Try.prog 72 #[x1, y1] W fun r w' => r = .returned (.bool r0) ∧ Below W.heap.size W w')) :
    Calls Try.prog 47 #[.agg #[.int .i64 x0, x1], .agg #[.int .i64 y0, y1]] w fun r w' => r = .returned (.bool (decide (x0 = y0) && r0)) ∧ Below w.heap.size w w' := by
  have b0 : Below w.heap.size w ((w.alloc (.cells #[.int .i64 x0, x1] 45)).alloc (.cells #[.int .i64 y0, y1] 45)) := ((Below.refl _ _).alloc (Nat.le_refl _) _).alloc (by simp) _
  by_cases h0 : x0 = y0
  · subst h0
    have e0 : decide (x0 = x0) = true := by simp
    go_enter Try.func47, Try.ntmps47
    go_wp2_with fail
    have hk := rows2 w (.cells #[.int .i64 x0, x1] 45) (.cells #[.int .i64 x0, y1] 45)
    have hz : ((w.alloc (.cells #[.int .i64 x0, x1] 45)).alloc (.cells #[.int .i64 x0, y1] 45)).heap.size = w.heap.size + 1 + 1 := by simp
    generalize ((w.alloc (.cells #[.int .i64 x0, x1] 45)).alloc (.cells #[.int .i64 x0, y1] 45)) = W0 at b0 hk hz ⊢
    refine (H0.out _ b0).mono ?_
    rintro e w1 ⟨rfl, g1⟩
    have b1 := b0.trans (g1.mono b0.size)
    have k0 := (g1.block _ (by omega)).trans hk.1
    have k1 := (g1.block _ (by omega)).trans hk.2
    clear g1
    cases r0 with
    | false =>
      clear k0 k1 hk hz b0
      go_wp2
      go_ret
      exact ⟨by simp, b1⟩
    | true =>
      clear k0 k1 hk hz b0
      go_wp2
      go_ret
      exact ⟨by simp, b1⟩
  · have e0 : decide (x0 = y0) = false := by simp [h0]
    go_enter Try.func47, Try.ntmps47
    go_wp2
    go_ret
    exact ⟨by simp [e0], b0⟩


set_option maxRecDepth 10000 in
set_option maxHeartbeats 2000000 in
theorem eq_net_step (x0 y0 : Int) (x1 y1 : Int) (x2 y2 : Value) (x3 y3 : Value) (r0 r1 : Bool) (p2 : x2.oneCell' = true) (q2 : y2.oneCell' = true) (p3 : x3.oneCell' = true) (q3 : y3.oneCell' = true) (w : World)
    (H0 : Hid (∀ W, Below w.heap.size w W → Calls Try.prog 47 #[.agg #[.int .i64 x1, x2], .agg #[.int .i64 y1, y2]] W fun r w' => r = .returned (.bool r0) ∧ Below W.heap.size W w'))
    (H1 : Hid (∀ W, Below w.heap.size w W → Calls Try.prog 48 #[x3, y3] W fun r w' => r = .returned (.bool r1) ∧ Below W.heap.size W w')) :
    Calls Try.prog 21 #[.agg #[.int .i64 x0, .int .i64 x1, x2, x3], .agg #[.int .i64 y0, .int .i64 y1, y2, y3]] w fun r w' => r = .returned (.bool (decide (x0 = y0) && r0 && r1)) ∧ Below w.heap.size w w' := by
  have b0 : Below w.heap.size w ((w.alloc (.cells #[.int .i64 x0, .int .i64 x1, x2, x3] 48)).alloc (.cells #[.int .i64 y0, .int .i64 y1, y2, y3] 48)) := ((Below.refl _ _).alloc (Nat.le_refl _) _).alloc (by simp) _
  by_cases h0 : x0 = y0
  · subst h0
    have e0 : decide (x0 = x0) = true := by simp
    go_enter Try.func21, Try.ntmps21
    go_wp2_with fail
    have hk := rows2 w (.cells #[.int .i64 x0, .int .i64 x1, x2, x3] 48) (.cells #[.int .i64 x0, .int .i64 y1, y2, y3] 48)
    have hz : ((w.alloc (.cells #[.int .i64 x0, .int .i64 x1, x2, x3] 48)).alloc (.cells #[.int .i64 x0, .int .i64 y1, y2, y3] 48)).heap.size = w.heap.size + 1 + 1 := by simp
    generalize ((w.alloc (.cells #[.int .i64 x0, .int .i64 x1, x2, x3] 48)).alloc (.cells #[.int .i64 x0, .int .i64 y1, y2, y3] 48)) = W0 at b0 hk hz ⊢
    refine (H0.out _ b0).mono ?_
    rintro e w1 ⟨rfl, g1⟩
    have b1 := b0.trans (g1.mono b0.size)
    have k0 := (g1.block _ (by omega)).trans hk.1
    have k1 := (g1.block _ (by omega)).trans hk.2
    clear g1
    cases r0 with
    | false =>
      clear k0 k1 hk hz b0
      go_wp2
      go_ret
      exact ⟨by simp, b1⟩
    | true =>
      have cx3 : w1.cell? ⟨w.heap.size, 3, none⟩ = some (x3) := (cell_of_row _ _ _ _ _ _ k0).trans rfl
      have cy3 : w1.cell? ⟨w.heap.size + 1, 3, none⟩ = some (y3) := (cell_of_row _ _ _ _ _ _ k1).trans rfl
      have HK0 : Hid _ := k0
      have HK1 : Hid _ := k1
      clear k0 k1 hk hz b0
      go_wp2_with fail
      have k0 := HK0.out
      have k1 := HK1.out
      clear HK0 HK1 cx3 cy3
      refine (H1.out _ b1).mono ?_
      rintro e w2 ⟨rfl, g2⟩
      have b2 := b1.trans (g2.mono b1.size)
      have k0 := (g2.block _ (Array.getElem?_eq_some_iff.1 k0).1).trans k0
      have k1 := (g2.block _ (Array.getElem?_eq_some_iff.1 k1).1).trans k1
      clear g2
      cases r1 with
      | false =>
        clear k0 k1
        go_wp2
        go_ret
        exact ⟨by simp, b2⟩
      | true =>
        clear k0 k1
        go_wp2
        go_ret
        exact ⟨by simp, b2⟩
  · have e0 : decide (x0 = y0) = false := by simp [h0]
    go_enter Try.func21, Try.ntmps21
    go_wp2
    go_ret
    exact ⟨by simp [e0], b0⟩


set_option maxRecDepth 10000 in
set_option maxHeartbeats 2000000 in
theorem eq_arm_step (x0 y0 : Value) (x1 y1 : Value) (x2 y2 : Value) (x3 y3 : Value) (x4 y4 : Value) (x5 y5 : Value) (r0 r1 r2 : Bool) (p0 : x0.oneCell' = true) (q0 : y0.oneCell' = true) (p1 : x1.oneCell' = true) (q1 : y1.oneCell' = true) (p2 : x2.oneCell' = true) (q2 : y2.oneCell' = true) (p3 : x3.oneCell' = true) (q3 : y3.oneCell' = true) (p4 : x4.oneCell' = true) (q4 : y4.oneCell' = true) (p5 : x5.oneCell' = true) (q5 : y5.oneCell' = true) (w : World)
    (H0 : Hid (∀ W, Below w.heap.size w W → Calls Try.prog 21 #[.agg #[x0, x1, x2, x3], .agg #[y0, y1, y2, y3]] W fun r w' => r = .returned (.bool r0) ∧ Below W.heap.size W w'))
    (H1 : Hid (∀ W, Below w.heap.size w W → Calls Try.prog 61 #[x4, y4] W fun r w' => r = .returned (.bool r1) ∧ Below W.heap.size W w'))
    (H2 : Hid (∀ W, Below w.heap.size w W → Calls Try.prog 11 #[x5, y5] W fun r w' => r = .returned (.bool r2) ∧ Below W.heap.size W w')) :
    Calls Try.prog 28 #[.agg #[x0, x1, x2, x3, x4, x5], .agg #[y0, y1, y2, y3, y4, y5]] w fun r w' => r = .returned (.bool (r0 && r1 && r2)) ∧ Below w.heap.size w w' := by
  have b0 : Below w.heap.size w ((w.alloc (.cells #[x0, x1, x2, x3, x4, x5] 61)).alloc (.cells #[y0, y1, y2, y3, y4, y5] 61)) := ((Below.refl _ _).alloc (Nat.le_refl _) _).alloc (by simp) _
  go_enter Try.func28, Try.ntmps28
  go_wp2_with fail
  have hk := rows2 w (.cells #[x0, x1, x2, x3, x4, x5] 61) (.cells #[y0, y1, y2, y3, y4, y5] 61)
  have hz : ((w.alloc (.cells #[x0, x1, x2, x3, x4, x5] 61)).alloc (.cells #[y0, y1, y2, y3, y4, y5] 61)).heap.size = w.heap.size + 1 + 1 := by simp
  generalize ((w.alloc (.cells #[x0, x1, x2, x3, x4, x5] 61)).alloc (.cells #[y0, y1, y2, y3, y4, y5] 61)) = W0 at b0 hk hz ⊢
  refine (H0.out _ b0).mono ?_
  rintro e w1 ⟨rfl, g1⟩
  have b1 := b0.trans (g1.mono b0.size)
  have k0 := (g1.block _ (by omega)).trans hk.1
  have k1 := (g1.block _ (by omega)).trans hk.2
  clear g1
  cases r0 with
  | false =>
    clear k0 k1 hk hz b0
    go_wp2
    go_ret
    exact ⟨by simp, b1⟩
  | true =>
    have cx4 : w1.cell? ⟨w.heap.size, 4, none⟩ = some (x4) := (cell_of_row _ _ _ _ _ _ k0).trans rfl
    have cy4 : w1.cell? ⟨w.heap.size + 1, 4, none⟩ = some (y4) := (cell_of_row _ _ _ _ _ _ k1).trans rfl
    have HK0 : Hid _ := k0
    have HK1 : Hid _ := k1
    clear k0 k1 hk hz b0
    go_wp2_with fail
    have k0 := HK0.out
    have k1 := HK1.out
    clear HK0 HK1 cx4 cy4
    refine (H1.out _ b1).mono ?_
    rintro e w2 ⟨rfl, g2⟩
    have b2 := b1.trans (g2.mono b1.size)
    have k0 := (g2.block _ (Array.getElem?_eq_some_iff.1 k0).1).trans k0
    have k1 := (g2.block _ (Array.getElem?_eq_some_iff.1 k1).1).trans k1
    clear g2
    cases r1 with
    | false =>
      clear k0 k1
      go_wp2
      go_ret
      exact ⟨by simp, b2⟩
    | true =>
      have cx5 : w2.cell? ⟨w.heap.size, 5, none⟩ = some (x5) := (cell_of_row _ _ _ _ _ _ k0).trans rfl
      have cy5 : w2.cell? ⟨w.heap.size + 1, 5, none⟩ = some (y5) := (cell_of_row _ _ _ _ _ _ k1).trans rfl
      have HK0 : Hid _ := k0
      have HK1 : Hid _ := k1
      clear k0 k1
      go_wp2_with fail
      have k0 := HK0.out
      have k1 := HK1.out
      clear HK0 HK1 cx5 cy5
      refine (H2.out _ b2).mono ?_
      rintro e w3 ⟨rfl, g3⟩
      have b3 := b2.trans (g3.mono b2.size)
      have k0 := (g3.block _ (Array.getElem?_eq_some_iff.1 k0).1).trans k0
      have k1 := (g3.block _ (Array.getElem?_eq_some_iff.1 k1).1).trans k1
      clear g3
      cases r2 with
      | false =>
        clear k0 k1
        go_wp2
        go_ret
        exact ⟨by simp, b3⟩
      | true =>
        clear k0 k1
        go_wp2
        go_ret
        exact ⟨by simp, b3⟩


theorem bool_and3 {a b c : Bool} {p q r : Prop} (ha : a = true ↔ p) (hb : b = true ↔ q) (hc : c = true ↔ r) : (a && b && c) = true ↔ p ∧ q ∧ r := by
  rw [Bool.and_eq_true, Bool.and_eq_true, ha, hb, hc, and_assoc]
theorem elemT_eq (e e' : ElemT) : (decide (e.op = e'.op) && eqB e.args e'.args) = true ↔ e = e' := by
  rw [Bool.and_eq_true, decide_eq_true_iff, eqB_true]
  cases e; cases e'; simp
theorem netT_eq (k k' : Int) (e e' : ElemT) (l l' : List NetT) : (decide (k = k') && eqB e e' && eqB l l') = true ↔ NetT.mk k e l = NetT.mk k' e' l' := by
  rw [bool_and3 decide_eq_true_iff eqB_true eqB_true, NetT.mk.injEq]
theorem armT_eq (n n' : NetT) (e e' : List ElemT) (l l' : List ArmT) : (eqB n n' && eqB e e' && eqB l l') = true ↔ ArmT.mk n e l = ArmT.mk n' e' l' := by
  rw [bool_and3 eqB_true eqB_true eqB_true, ArmT.mk.injEq]

theorem eq_elem (e e' : ElemT) (cs ds : List Value) (w : World) (lo lo' : Nat) (hv : ElemIs w lo e cs) (hv' : ElemIs w lo' e' ds) :
    Calls Try.prog 47 #[.agg cs.toArray, .agg ds.toArray] w fun r w' => r = .returned (.bool (eqB e e')) ∧ Below w.heap.size w w' := by
  obtain ⟨v, rfl, h⟩ := hv
  obtain ⟨v', rfl, h'⟩ := hv'
  rw [eqB_iff (elemT_eq e e')]
  exact eq_elem_step e.op e'.op v v' _ h.one h'.one w (fun W g => eq_args v v' _ _ W lo lo' (argsIs_move (Keeps.of_below g lo) (Nat.le_refl _) h) (argsIs_move (Keeps.of_below g lo') (Nat.le_refl _) h'))
theorem eq_elems (v v' : Value) (xs ys : List ElemT) (w : World) (lo lo' : Nat) (hv : ElemsIs w lo v xs) (hv' : ElemsIs w lo' v' ys) :
    Calls Try.prog 61 #[v, v'] w fun r w' => r = .returned (.bool (eqB xs ys)) ∧ Below w.heap.size w w' :=
  eq_elems_row v v' xs ys w lo lo' hv hv' (fun x cs y ds _ _ W h h' => eq_elem x y cs ds W lo lo' h h') (fun x cs l n W W' k h => h.move k (Nat.le_refl _))

theorem eq_net : ∀ (m m' : Nat) (t t' : NetT) (cs ds : List Value) (w : World) (lo lo' : Nat) (hv : NetIs w lo m t cs) (hv' : NetIs w lo' m' t' ds),
    Calls Try.prog 21 #[.agg cs.toArray, .agg ds.toArray] w fun r w' => r = .returned (.bool (eqB t t')) ∧ Below w.heap.size w w'
  | 0, _, _, _, _, _, _, _, _, h, _ => h.elim
  | _ + 1, 0, _, _, _, _, _, _, _, _, h => h.elim
  | m + 1, m' + 1, .mk k e kids, .mk k' e' kids', cs, ds, w, lo, lo', hv, hv' => by
    obtain ⟨v, u, rfl, ha, hk⟩ := hv
    obtain ⟨v', u', rfl, ha', hk'⟩ := hv'
    rw [eqB_iff (netT_eq k k' e e' kids kids')]
    exact eq_net_step k k' e.op e'.op v v' u u' _ _ ha.one ha'.one hk.one hk'.one w
      (fun W g => eq_elem e e' _ _ W lo lo' ⟨v, rfl, argsIs_move (Keeps.of_below g lo) (Nat.le_refl _) ha⟩ ⟨v', rfl, argsIs_move (Keeps.of_below g lo') (Nat.le_refl _) ha'⟩)
      (fun W g => eq_nets_row m m' u u' kids kids' W lo lo' (netsIs_move (Keeps.of_below g lo) (Nat.le_refl _) (Nat.le_refl _) hk) (netsIs_move (Keeps.of_below g lo') (Nat.le_refl _) (Nat.le_refl _) hk')
        (fun x cs y ds _ _ W h h' => eq_net m m' x y cs ds W lo lo' h h') (fun x cs l n W W' k h => NetIs.move k (Nat.le_refl _) _ _ (Nat.le_refl _) _ _ h))

theorem eq_arm : ∀ (m m' : Nat) (t t' : ArmT) (cs ds : List Value) (w : World) (lo lo' : Nat) (hv : ArmIs w lo m t cs) (hv' : ArmIs w lo' m' t' ds),
    Calls Try.prog 28 #[.agg cs.toArray, .agg ds.toArray] w fun r w' => r = .returned (.bool (eqB t t')) ∧ Below w.heap.size w w'
  | 0, _, _, _, _, _, _, _, _, h, _ => h.elim
  | _ + 1, 0, _, _, _, _, _, _, _, _, h => h.elim
  | m + 1, m' + 1, .mk n c kids, .mk n' c' kids', cs, ds, w, lo, lo', hv, hv' => by
    obtain ⟨ns, v, u, rfl, hn, ha, hk⟩ := hv
    obtain ⟨ns', v', u', rfl, hn', ha', hk'⟩ := hv'
    have q := hn
    have q' := hn'
    obtain ⟨n0, n1, n2, n3, rfl, o0, o1, o2, o3⟩ := q.cells
    obtain ⟨n0', n1', n2', n3', rfl, o0', o1', o2', o3'⟩ := q'.cells
    rw [eqB_iff (armT_eq n n' c c' kids kids')]
    exact eq_arm_step n0 n0' n1 n1' n2 n2' n3 n3' v v' u u' _ _ _ o0 o0' o1 o1' o2 o2' o3 o3' ha.one ha'.one hk.one hk'.one w
      (fun W g => eq_net m m' n n' _ _ W lo lo' (NetIs.move (Keeps.of_below g lo) (Nat.le_refl _) _ _ (Nat.le_refl _) _ _ hn) (NetIs.move (Keeps.of_below g lo') (Nat.le_refl _) _ _ (Nat.le_refl _) _ _ hn'))
      (fun W g => eq_elems v v' c c' W lo lo' (elemsIs_move (Keeps.of_below g lo) (Nat.le_refl _) ha) (elemsIs_move (Keeps.of_below g lo') (Nat.le_refl _) ha'))
      (fun W g => eq_arms_row m m' u u' kids kids' W lo lo' (armsIs_move (Keeps.of_below g lo) (Nat.le_refl _) (Nat.le_refl _) hk) (armsIs_move (Keeps.of_below g lo') (Nat.le_refl _) (Nat.le_refl _) hk')
        (fun x cs y ds _ _ W h h' => eq_arm m m' x y cs ds W lo lo' h h') (fun x cs l n W W' k h => ArmIs.move k (Nat.le_refl _) _ _ (Nat.le_refl _) _ _ h))
theorem eq_arms (m m' : Nat) (v v' : Value) (xs ys : List ArmT) (w : World) (lo lo' : Nat) (hv : ArmsIs w lo m v xs) (hv' : ArmsIs w lo' m' v' ys) :
    Calls Try.prog 11 #[v, v'] w fun r w' => r = .returned (.bool (eqB xs ys)) ∧ Below w.heap.size w w' :=
  eq_arms_row m m' v v' xs ys w lo lo' hv hv' (fun x cs y ds _ _ W h h' => eq_arm m m' x y cs ds W lo lo' h h') (fun x cs l n W W' k h => ArmIs.move k (Nat.le_refl _) _ _ (Nat.le_refl _) _ _ h)
end Go.Proofs.Ytocnhfecnhndgaa
