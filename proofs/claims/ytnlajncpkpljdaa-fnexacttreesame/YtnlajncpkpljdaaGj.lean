/- The program's TreeSame: the closures. -/
import Derived.Test.YtnlajncpkpljdaaGi
namespace Go.Proofs.Ytnlajncpkpljdaa
open Go.RowKit
set_option linter.unusedVariables false

set_option maxRecDepth 10000 in
set_option maxHeartbeats 2000000 in
theorem i_net_step (k k' op op' : Int) (v v' u u' : Value) (B : Nat) (r0 r1 : Bool) (p0 : v.oneCell' = true) (q0 : v'.oneCell' = true) (p1 : u.oneCell' = true) (q1 : u'.oneCell' = true) (w : World)
    (hB : w.cell? ⟨B, 0, none⟩ = some (.func (.func 22) #[] #[.pointer (some ⟨B, 0, none⟩)]))
    (HE : Hid (∀ W, Below w.heap.size w W → Calls Try.prog 23 #[.agg #[.int .i64 op, v], .agg #[.int .i64 op', v']] W fun r w' => r = .returned (.bool r0) ∧ Below W.heap.size W w'))
    (HN : Hid (∀ W, Below w.heap.size w W → Calls Try.prog 24 #[u, u', .func (.func 22) #[] #[.pointer (some ⟨B, 0, none⟩)]] W fun r w' => r = .returned (.bool r1) ∧ Below W.heap.size W w')) :
    Calls Try.prog 22 #[.agg #[.int .i64 k, .int .i64 op, v, u], .agg #[.int .i64 k', .int .i64 op', v', u'], .pointer (some ⟨B, 0, none⟩)] w fun r w' => r = .returned (.bool (decide (k = k') && r0 && r1)) ∧ Below w.heap.size w w' := by
  by_cases hk : k = k'
  · subst hk
    have b0 : Below w.heap.size w ((w.alloc (.cells #[.int .i64 k, .int .i64 op, v, u] 52)).alloc (.cells #[.int .i64 k, .int .i64 op', v', u'] 52)) := ((Below.refl _ _).alloc (Nat.le_refl _) _).alloc (by simp) _
    have HBx : Hid (w.cell? ⟨B, 0, none⟩ = some (.func (.func 22) #[] #[.pointer (some ⟨B, 0, none⟩)])) := hB
    clear hB
    go_enter Try.func22, Try.ntmps22
    go_wp2_with fail
    have hk := rows2 w (.cells #[.int .i64 k, .int .i64 op, v, u] 52) (.cells #[.int .i64 k, .int .i64 op', v', u'] 52)
    have hz : ((w.alloc (.cells #[.int .i64 k, .int .i64 op, v, u] 52)).alloc (.cells #[.int .i64 k, .int .i64 op', v', u'] 52)).heap.size = w.heap.size + 1 + 1 := by simp
    generalize ((w.alloc (.cells #[.int .i64 k, .int .i64 op, v, u] 52)).alloc (.cells #[.int .i64 k, .int .i64 op', v', u'] 52)) = W0 at b0 hk hz ⊢
    refine (HE.out _ b0).mono ?_
    rintro e w1 ⟨rfl, g1⟩
    have b1 := b0.trans (g1.mono b0.size)
    have k0 := (g1.block _ (by omega)).trans hk.1
    have k1 := (g1.block _ (by omega)).trans hk.2
    clear g1 b0 hk hz HE
    cases r0 with
    | false =>
      clear k0 k1
      go_wp2
      go_ret
      exact ⟨by simp, b1⟩
    | true =>
      have cx3 : w1.cell? ⟨w.heap.size, 3, none⟩ = some u := (cell_of_row _ _ _ _ _ _ k0).trans rfl
      have cy3 : w1.cell? ⟨w.heap.size + 1, 3, none⟩ = some u' := (cell_of_row _ _ _ _ _ _ k1).trans rfl
      have cB : w1.cell? ⟨B, 0, none⟩ = some (.func (.func 22) #[] #[.pointer (some ⟨B, 0, none⟩)]) := (Keeps.of_below b1 0) _ _ _ (Nat.zero_le _) HBx.out
      clear k0 k1
      go_wp2_with fail
      refine (HN.out _ b1).mono ?_
      rintro e w2 ⟨rfl, g2⟩
      have b2 := b1.trans (g2.mono b1.size)
      clear g2 cx3 cy3 cB
      go_wp2
      go_ret
      exact ⟨by simp, b2⟩
  · rw [show decide (k = k') = false by simp [hk]]
    have b0 : Below w.heap.size w ((w.alloc (.cells #[.int .i64 k, .int .i64 op, v, u] 52)).alloc (.cells #[.int .i64 k', .int .i64 op', v', u'] 52)) := ((Below.refl _ _).alloc (Nat.le_refl _) _).alloc (by simp) _
    clear hB
    go_enter Try.func22, Try.ntmps22
    go_wp2
    go_ret
    exact ⟨by simp, b0⟩

def FB (w : World) (B : Nat) : Prop := w.cell? ⟨B, 0, none⟩ = some (.func (.func 22) #[] #[.pointer (some ⟨B, 0, none⟩)])
theorem FB.later {w w' : World} {B : Nat} (h : FB w B) (g : Below w.heap.size w w') : FB w' B := (Keeps.of_below g 0) _ _ _ (Nat.zero_le _) h
def FB2 (w : World) (B B' : Nat) : Prop := w.cell? ⟨B, 0, none⟩ = some (.func (.func 22) #[] #[.pointer (some ⟨B, 0, none⟩)]) ∧ w.cell? ⟨B', 0, none⟩ = some (.func (.func 25) #[] #[.pointer (some ⟨B, 0, none⟩), .pointer (some ⟨B', 0, none⟩)])
theorem FB2.later {w w' : World} {B B' : Nat} (h : FB2 w B B') (g : Below w.heap.size w w') : FB2 w' B B' := ⟨(Keeps.of_below g 0) _ _ _ (Nat.zero_le _) h.1, (Keeps.of_below g 0) _ _ _ (Nat.zero_le _) h.2⟩

theorem i_net : ∀ (m m' : Nat) (B : Nat) (t t' : NetT) (cs ds : List Value) (w : World) (lo lo' : Nat) (hB : FB w B) (hv : NetIs w lo m t cs) (hv' : NetIs w lo' m' t' ds),
    Calls Try.prog 22 #[.agg cs.toArray, .agg ds.toArray, .pointer (some ⟨B, 0, none⟩)] w fun r w' => r = .returned (.bool (eqB t t')) ∧ Below w.heap.size w w'
  | 0, _, _, _, _, _, _, _, _, _, _, h, _ => h.elim
  | _ + 1, 0, _, _, _, _, _, _, _, _, _, _, h => h.elim
  | m + 1, m' + 1, B, .mk k e kids, .mk k' e' kids', cs, ds, w, lo, lo', hB, hv, hv' => by
    obtain ⟨v, u, rfl, ha, hk⟩ := hv
    obtain ⟨v', u', rfl, ha', hk'⟩ := hv'
    rw [eqB_iff (netT_eq k k' e e' kids kids')]
    exact i_net_step k k' e.op e'.op v v' u u' B _ _ ha.one ha'.one hk.one hk'.one w hB
      (fun W g => i_elem e e' _ _ W lo lo' ⟨v, rfl, argsIs_move (Keeps.of_below g lo) (Nat.le_refl _) ha⟩ ⟨v', rfl, argsIs_move (Keeps.of_below g lo') (Nat.le_refl _) ha'⟩)
      (fun W g => i_nets_row m m' B u u' kids kids' W lo lo' (netsIs_move (Keeps.of_below g lo) (Nat.le_refl _) (Nat.le_refl _) hk) (netsIs_move (Keeps.of_below g lo') (Nat.le_refl _) (Nat.le_refl _) hk') (hB.later g)
        (fun x cs y ds _ _ W hb h h' => i_net m m' B x y cs ds W lo lo' hb h h') (fun x cs l n W W' k h => NetIs.move k (Nat.le_refl _) _ _ (Nat.le_refl _) _ _ h))

theorem i_elems (v v' : Value) (xs ys : List ElemT) (w : World) (lo lo' : Nat) (hv : ElemsIs w lo v xs) (hv' : ElemsIs w lo' v' ys) :
    Calls Try.prog 26 #[v, v', .func (.func 23) #[] #[]] w fun r w' => r = .returned (.bool (eqB xs ys)) ∧ Below w.heap.size w w' :=
  i_elems_row v v' xs ys w lo lo' hv hv' (fun x cs y ds _ _ W h h' => i_elem x y cs ds W lo lo' h h') (fun x cs l n W W' k h => h.move k (Nat.le_refl _))

set_option maxRecDepth 10000 in
set_option maxHeartbeats 4000000 in
theorem i_arm_step (n0 n0' n1 n1' n2 n2' n3 n3' v v' u u' : Value) (B B' : Nat) (r0 r1 r2 : Bool) (o0 : n0.oneCell' = true) (o0' : n0'.oneCell' = true) (o1 : n1.oneCell' = true) (o1' : n1'.oneCell' = true) (o2 : n2.oneCell' = true) (o2' : n2'.oneCell' = true) (o3 : n3.oneCell' = true) (o3' : n3'.oneCell' = true) (p0 : v.oneCell' = true) (q0 : v'.oneCell' = true) (p1 : u.oneCell' = true) (q1 : u'.oneCell' = true) (w : World) (hB : FB2 w B B')
    (HE : Hid (∀ W, Below w.heap.size w W → Calls Try.prog 22 #[.agg #[n0, n1, n2, n3], .agg #[n0', n1', n2', n3'], .pointer (some ⟨B, 0, none⟩)] W fun r w' => r = .returned (.bool r0) ∧ Below W.heap.size W w'))
    (HC : Hid (∀ W, Below w.heap.size w W → Calls Try.prog 26 #[v, v', .func (.func 23) #[] #[]] W fun r w' => r = .returned (.bool r1) ∧ Below W.heap.size W w'))
    (HN : Hid (∀ W, Below w.heap.size w W → Calls Try.prog 27 #[u, u', .func (.func 25) #[] #[.pointer (some ⟨B, 0, none⟩), .pointer (some ⟨B', 0, none⟩)]] W fun r w' => r = .returned (.bool r2) ∧ Below W.heap.size W w')) :
    Calls Try.prog 25 #[.agg #[n0, n1, n2, n3, v, u], .agg #[n0', n1', n2', n3', v', u'], .pointer (some ⟨B, 0, none⟩), .pointer (some ⟨B', 0, none⟩)] w fun r w' => r = .returned (.bool (r0 && r1 && r2)) ∧ Below w.heap.size w w' := by
  have HBx : Hid (FB2 w B B') := hB
  have b0 : Below w.heap.size w ((w.alloc (.cells #[n0, n1, n2, n3, v, u] 55)).alloc (.cells #[n0', n1', n2', n3', v', u'] 55)) := ((Below.refl _ _).alloc (Nat.le_refl _) _).alloc (by simp) _
  have cB0 : ((w.alloc (.cells #[n0, n1, n2, n3, v, u] 55)).alloc (.cells #[n0', n1', n2', n3', v', u'] 55)).cell? ⟨B, 0, none⟩ = some (.func (.func 22) #[] #[.pointer (some ⟨B, 0, none⟩)]) := (Keeps.of_below b0 0) _ _ _ (Nat.zero_le _) hB.1
  clear hB
  go_enter Try.func25, Try.ntmps25
  go_wp2_with fail
  have hk := rows2 w (.cells #[n0, n1, n2, n3, v, u] 55) (.cells #[n0', n1', n2', n3', v', u'] 55)
  have hz : ((w.alloc (.cells #[n0, n1, n2, n3, v, u] 55)).alloc (.cells #[n0', n1', n2', n3', v', u'] 55)).heap.size = w.heap.size + 1 + 1 := by simp
  clear cB0
  generalize ((w.alloc (.cells #[n0, n1, n2, n3, v, u] 55)).alloc (.cells #[n0', n1', n2', n3', v', u'] 55)) = W0 at b0 hk hz ⊢
  refine (HE.out _ b0).mono ?_
  rintro e w1 ⟨rfl, g1⟩
  have b1 := b0.trans (g1.mono b0.size)
  have k0 := (g1.block _ (by omega)).trans hk.1
  have k1 := (g1.block _ (by omega)).trans hk.2
  clear g1 b0 hk hz HE
  cases r0 with
  | false =>
    clear k0 k1
    go_wp2
    go_ret
    exact ⟨by simp, b1⟩
  | true =>
    have cx3 : w1.cell? ⟨w.heap.size, 4, none⟩ = some v := (cell_of_row _ _ _ _ _ _ k0).trans rfl
    have cy3 : w1.cell? ⟨w.heap.size + 1, 4, none⟩ = some v' := (cell_of_row _ _ _ _ _ _ k1).trans rfl
    have HK0 : Hid _ := k0
    have HK1 : Hid _ := k1
    clear k0 k1
    go_wp2_with fail
    refine (HC.out _ b1).mono ?_
    rintro e w2 ⟨rfl, g2⟩
    have b2 := b1.trans (g2.mono b1.size)
    have k0 := (g2.block _ (Array.getElem?_eq_some_iff.1 HK0.out).1).trans HK0.out
    have k1 := (g2.block _ (Array.getElem?_eq_some_iff.1 HK1.out).1).trans HK1.out
    clear g2 cx3 cy3 HK0 HK1 b1 HC
    cases r1 with
    | false =>
      clear k0 k1
      go_wp2
      go_ret
      exact ⟨by simp, b2⟩
    | true =>
      have cx4 : w2.cell? ⟨w.heap.size, 5, none⟩ = some u := (cell_of_row _ _ _ _ _ _ k0).trans rfl
      have cy4 : w2.cell? ⟨w.heap.size + 1, 5, none⟩ = some u' := (cell_of_row _ _ _ _ _ _ k1).trans rfl
      have cB : w2.cell? ⟨B', 0, none⟩ = some (.func (.func 25) #[] #[.pointer (some ⟨B, 0, none⟩), .pointer (some ⟨B', 0, none⟩)]) := (Keeps.of_below b2 0) _ _ _ (Nat.zero_le _) HBx.out.2
      clear k0 k1
      go_wp2_with fail
      refine (HN.out _ b2).mono ?_
      rintro e w3 ⟨rfl, g3⟩
      have b3 := b2.trans (g3.mono b2.size)
      clear g3 cx4 cy4 cB
      go_wp2
      go_ret
      exact ⟨by simp, b3⟩

theorem i_arm : ∀ (m m' : Nat) (B B' : Nat) (t t' : ArmT) (cs ds : List Value) (w : World) (lo lo' : Nat) (hB : FB2 w B B') (hv : ArmIs w lo m t cs) (hv' : ArmIs w lo' m' t' ds),
    Calls Try.prog 25 #[.agg cs.toArray, .agg ds.toArray, .pointer (some ⟨B, 0, none⟩), .pointer (some ⟨B', 0, none⟩)] w fun r w' => r = .returned (.bool (eqB t t')) ∧ Below w.heap.size w w'
  | 0, _, _, _, _, _, _, _, _, _, _, _, h, _ => h.elim
  | _ + 1, 0, _, _, _, _, _, _, _, _, _, _, _, h => h.elim
  | m + 1, m' + 1, B, B', .mk n c kids, .mk n' c' kids', cs, ds, w, lo, lo', hB, hv, hv' => by
    obtain ⟨ns, v, u, rfl, hn, ha, hk⟩ := hv
    obtain ⟨ns', v', u', rfl, hn', ha', hk'⟩ := hv'
    have q := hn
    have q' := hn'
    obtain ⟨n0, n1, n2, n3, rfl, o0, o1, o2, o3⟩ := q.cells
    obtain ⟨n0', n1', n2', n3', rfl, o0', o1', o2', o3'⟩ := q'.cells
    rw [eqB_iff (armT_eq n n' c c' kids kids')]
    exact i_arm_step n0 n0' n1 n1' n2 n2' n3 n3' v v' u u' B B' _ _ _ o0 o0' o1 o1' o2 o2' o3 o3' ha.one ha'.one hk.one hk'.one w hB
      (fun W g => i_net m m' B n n' _ _ W lo lo' (FB.later hB.1 g) (NetIs.move (Keeps.of_below g lo) (Nat.le_refl _) _ _ (Nat.le_refl _) _ _ hn) (NetIs.move (Keeps.of_below g lo') (Nat.le_refl _) _ _ (Nat.le_refl _) _ _ hn'))
      (fun W g => i_elems v v' c c' W lo lo' (elemsIs_move (Keeps.of_below g lo) (Nat.le_refl _) ha) (elemsIs_move (Keeps.of_below g lo') (Nat.le_refl _) ha'))
      (fun W g => i_arms_row m m' B B' u u' kids kids' W lo lo' (armsIs_move (Keeps.of_below g lo) (Nat.le_refl _) (Nat.le_refl _) hk) (armsIs_move (Keeps.of_below g lo') (Nat.le_refl _) (Nat.le_refl _) hk') (hB.later g)
        (fun x cs y ds _ _ W hb h h' => i_arm m m' B B' x y cs ds W lo lo' hb h h') (fun x cs l n W W' k h => ArmIs.move k (Nat.le_refl _) _ _ (Nat.le_refl _) _ _ h))

set_option maxRecDepth 10000 in
set_option maxHeartbeats 2000000 in
theorem i_same (m m' : Nat) (v v' : Value) (xs ys : List ArmT) (w : World) (lo lo' : Nat) (hv : ArmsIs w lo m v xs) (hv' : ArmsIs w lo' m' v' ys) :
    Calls Try.prog 12 #[v, v'] w fun r w' => r = .returned (.bool (eqB xs ys)) ∧ Below w.heap.size w w' := by
  have hmf : ∀ (fn : Fn) (first cap : Array Value) (w : World), (Instr.makeFunc fn first cap).run Try.prog w = .ok (.func fn first cap) w := fun _ _ _ _ => rfl
  have stf : ∀ (fn : Fn) (first cap : Array Value) (w : World) (a : Addr) (m : Mode), (store a (.func fn first cap) m).run Try.prog w = stored Try.prog w a (.func fn first cap) m := fun _ _ _ w a m => run_store Try.prog w a _ m rfl
  have HC : Hid (∀ W, Below w.heap.size w W → FB2 W w.heap.size (w.heap.size + 1) → Calls Try.prog 27 #[v, v', .func (.func 25) #[] #[.pointer (some ⟨w.heap.size, 0, none⟩), .pointer (some ⟨w.heap.size + 1, 0, none⟩)]] W fun r w' => r = .returned (.bool (eqB xs ys)) ∧ Below W.heap.size W w') :=
    fun W g hb => i_arms_row m m' _ _ v v' xs ys W lo lo' (armsIs_move (Keeps.of_below g lo) (Nat.le_refl _) (Nat.le_refl _) hv) (armsIs_move (Keeps.of_below g lo') (Nat.le_refl _) (Nat.le_refl _) hv') hb
      (fun x cs y ds _ _ W hb h h' => i_arm m m' _ _ x y cs ds W lo lo' hb h h') (fun x cs l n W W' k h => ArmIs.move k (Nat.le_refl _) _ _ (Nat.le_refl _) _ _ h)
  generalize eqB xs ys = R at HC ⊢
  clear hv hv'
  go_enter Try.func12, Try.ntmps12
  go_wp2_with fail
  have b0 : Below w.heap.size w ((w.alloc (.cells #[.func (.func 22) #[] #[.pointer (some ⟨w.heap.size, 0, none⟩)]] 64)).alloc (.cells #[.func (.func 25) #[] #[.pointer (some ⟨w.heap.size, 0, none⟩), .pointer (some ⟨w.heap.size + 1, 0, none⟩)]] 63)) := ((Below.refl _ _).alloc (Nat.le_refl _) _).alloc (by simp) _
  have hk := rows2 w (.cells #[.func (.func 22) #[] #[.pointer (some ⟨w.heap.size, 0, none⟩)]] 64) (.cells #[.func (.func 25) #[] #[.pointer (some ⟨w.heap.size, 0, none⟩), .pointer (some ⟨w.heap.size + 1, 0, none⟩)]] 63)
  refine (HC.out _ b0 ⟨(cell_of_row _ _ _ _ _ _ hk.1).trans rfl, (cell_of_row _ _ _ _ _ _ hk.2).trans rfl⟩).mono ?_
  rintro e w1 ⟨rfl, g1⟩
  have b1 := b0.trans (g1.mono b0.size)
  clear g1 b0 hk
  go_wp2
  go_ret
  exact ⟨rfl, b1⟩
end Go.Proofs.Ytnlajncpkpljdaa
