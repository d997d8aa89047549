/- Ladders compared: eqElem, eqNet, eqArm. -/
import Derived.Test.YtcihplachlokiaaDoorGe
namespace Go.Proofs.YtcihplachlokiaaDoor
open Go.RowKit
set_option linter.unusedVariables false

theorem eq_args (v v' : Value) (xs ys : List ArgT) (w : World) (lo lo' : Nat) (hv : ArgsIs w lo v xs) (hv' : ArgsIs w lo' v' ys) :
    Calls Tryd.prog 77 #[v, v'] w fun r w' => r = .returned (.bool (eqB xs ys)) ∧ Below w.heap.size w w' :=
  eq_args_row v v' xs ys w lo lo' hv hv' (fun x cs y ds _ _ W h h' => by rw [show cs = _ from h, show ds = _ from h']; exact eq_arg _ _ _ _ _ _ W) (fun x cs l n W W' _ h => h)


set_option maxRecDepth 10000 in
set_option maxHeartbeats 2000000 in
theorem eq_elem_step (x0 y0 : Int) (x1 y1 : Value) (r0 : Bool) (p1 : x1.oneCell' = true) (q1 : y1.oneCell' = true) (w : World)
    (H0 : Hid (∀ W, Below w.heap.size w W → Calls Tryd.prog 77 #[x1, y1] W fun r w' => r = .returned (.bool r0) ∧ Below W.heap.size W w')) :
    Calls Tryd.prog 62 #[.agg #[.int .i64 x0, x1], .agg #[.int .i64 y0, y1]] w fun r w' => r = .returned (.bool (decide (x0 = y0) && r0)) ∧ Below w.heap.size w w' := by
  have b0 : Below w.heap.size w ((w.alloc (.cells #[.int .i64 x0, x1] 54)).alloc (.cells #[.int .i64 y0, y1] 54)) := ((Below.refl _ _).alloc (Nat.le_refl _) _).alloc (by simp) _
  by_cases h0 : x0 = y0
  · subst h0
    have e0 : decide (x0 = x0) = true := by simp
    go_enter Tryd.func62, Tryd.ntmps62
    go_wp2_with fail
    have hk := rows2 w (.cells #[.int .i64 x0, x1] 54) (.cells #[.int .i64 x0, y1] 54)
    have hz : ((w.alloc (.cells #[.int .i64 x0, x1] 54)).alloc (.cells #[.int .i64 x0, y1] 54)).heap.size = w.heap.size + 1 + 1 := by simp
    generalize ((w.alloc (.cells #[.int .i64 x0, x1] 54)).alloc (.cells #[.int .i64 x0, y1] 54)) = W0 at b0 hk hz ⊢
    refine (H0.out _ b0).mono ?_
    rintro e w1 ⟨rfl, g1⟩
    have b1 := b0.trans (g1.mono b0.size)
    have k0 := (g1.block _ (by omega)).trans hk.1
    have k1 := (g1.block _ (by omega)).trans hk.2
    clear g1
    cases r0 with
    | false =>
      clear k0 k1 hk hz b0
      go_wp2
      go_ret
      exact ⟨by simp, b1⟩
    | true =>
      clear k0 k1 hk hz b0
      go_wp2
      go_ret
      exact ⟨by simp, b1⟩
  · have e0 : decide (x0 = y0) = false := by simp [h0]
    go_enter Tryd.func62, Tryd.ntmps62
    go_wp2
    go_ret
    exact ⟨by simp [e0], b0⟩


theorem bool_and3 {a b c : Bool} {p q r : Prop} (ha : a = true ↔ p) (hb : b = true ↔ q) (hc : c = true ↔ r) : (a && b && c) = true ↔ p ∧ q ∧ r := by
  rw [Bool.and_eq_true, Bool.and_eq_true, ha, hb, hc, and_assoc]
theorem elemT_eq (e e' : ElemT) : (decide (e.op = e'.op) && eqB e.args e'.args) = true ↔ e = e' := by
  rw [Bool.and_eq_true, decide_eq_true_iff, eqB_true]
  cases e; cases e'; simp
theorem netT_eq (k k' : Int) (e e' : ElemT) (l l' : List NetT) : (decide (k = k') && eqB e e' && eqB l l') = true ↔ NetT.mk k e l = NetT.mk k' e' l' := by
  rw [bool_and3 decide_eq_true_iff eqB_true eqB_true, NetT.mk.injEq]
theorem armT_eq (n n' : NetT) (e e' : List ElemT) (l l' : List ArmT) : (eqB n n' && eqB e e' && eqB l l') = true ↔ ArmT.mk n e l = ArmT.mk n' e' l' := by
  rw [bool_and3 eqB_true eqB_true eqB_true, ArmT.mk.injEq]

theorem eq_elem (e e' : ElemT) (cs ds : List Value) (w : World) (lo lo' : Nat) (hv : ElemIs w lo e cs) (hv' : ElemIs w lo' e' ds) :
    Calls Tryd.prog 62 #[.agg cs.toArray, .agg ds.toArray] w fun r w' => r = .returned (.bool (eqB e e')) ∧ Below w.heap.size w w' := by
  obtain ⟨v, rfl, h⟩ := hv
  obtain ⟨v', rfl, h'⟩ := hv'
  rw [eqB_iff (elemT_eq e e')]
  exact eq_elem_step e.op e'.op v v' _ h.one h'.one w (fun W g => eq_args v v' _ _ W lo lo' (argsIs_move (Keeps.of_below g lo) (Nat.le_refl _) h) (argsIs_move (Keeps.of_below g lo') (Nat.le_refl _) h'))
end Go.Proofs.YtcihplachlokiaaDoor
