/- Ladders compared: the laws' eq.. functions. -/
import Derived.Test.YtcihplachlokiaaDoorGbM
import Derived.Test.YtcihplachlokiaaDoorMm
import Derived.Deep.RegionWith
import Derived.Deep.Cut
import Derived.Deep.QuietTactic
import Derived.BigQuiet
import Derived.Lib.QuietBelow
import Derived.Handy
import Derived.WalkLawsBesides
import Derived.ChangeArms
import Derived.Deep.Slices
namespace Go.Proofs.YtcihplachlokiaaDoor
open Go.RowKit
set_option linter.unusedVariables false

noncomputable def eqB {α : Type} (a b : α) : Bool := @decide (a = b) (Classical.propDecidable _)
theorem eqB_true {α : Type} {a b : α} : eqB a b = true ↔ a = b := by simp [eqB]
theorem eqB_refl {α : Type} (a : α) : eqB a a = true := eqB_true.2 rfl
theorem eqB_false {α : Type} {a b : α} (h : a ≠ b) : eqB a b = false := by
  cases hb : eqB a b with
  | false => rfl
  | true => exact absurd (eqB_true.1 hb) h
theorem eqB_iff {α : Type} {a b : α} {r : Bool} (h : r = true ↔ a = b) : eqB a b = r := by
  cases r with
  | true => exact eqB_true.2 (h.1 rfl)
  | false => exact eqB_false fun e => by have := h.2 e; cases this
theorem range_regrown {w : World} {b o : Nat} {cs : List Value} (h : w.rangeAt b o cs) {W : World} (hp : ∃ p : Regrown, W = Sort.grow (redrawn w p.d) p.os) : W.rangeAt b o cs := by
  obtain ⟨p, rfl⟩ := hp
  exact fun i c hi => (Keeps.of_below (below_regrown w p.d p.os) 0) _ _ _ (Nat.zero_le _) (h i c hi)

set_option maxHeartbeats 1000000 in
theorem eq_arg (k n p k' n' p' : Int) (w : World) : Calls Tryd.prog 87 #[.agg #[.int .i64 k, .int .i64 n, .int .i64 p], .agg #[.int .i64 k', .int .i64 n', .int .i64 p']] w fun e w' => e = .returned (.bool (eqB ((k, n, p) : ArgT) (k', n', p'))) ∧ Below w.heap.size w w' := by
  have b2 : ∀ A B, Below w.heap.size w ((w.alloc A).alloc B) := fun A B => ((Below.refl _ _).alloc (Nat.le_refl _) _).alloc (by simp) _
  by_cases h1 : k = k'
  · by_cases h2 : n = n'
    · by_cases h3 : p = p'
      · rw [show eqB ((k, n, p) : ArgT) (k', n', p') = true from eqB_true.2 (by rw [h1, h2, h3])]
        subst h1 h2 h3
        go_enter Tryd.func87, Tryd.ntmps87
        go_wp2
        go_ret
        exact ⟨rfl, b2 _ _⟩
      · rw [show eqB ((k, n, p) : ArgT) (k', n', p') = false from eqB_false (by intro e; simp at e; exact h3 e.2.2)]
        subst h1 h2
        go_enter Tryd.func87, Tryd.ntmps87
        go_wp2
        go_ret
        exact ⟨rfl, b2 _ _⟩
    · rw [show eqB ((k, n, p) : ArgT) (k', n', p') = false from eqB_false (by intro e; simp at e; exact h2 e.2.1)]
      subst h1
      go_enter Tryd.func87, Tryd.ntmps87
      go_wp2
      go_ret
      exact ⟨rfl, b2 _ _⟩
  · rw [show eqB ((k, n, p) : ArgT) (k', n', p') = false from eqB_false (by intro e; simp at e; exact h1 e.1)]
    go_enter Tryd.func87, Tryd.ntmps87
    go_wp2
    go_ret
    exact ⟨rfl, b2 _ _⟩


set_option maxRecDepth 10000 in
set_option maxHeartbeats 2000000 in
theorem eq_args_row (v v' : Value) (xs ys : List ArgT) (w : World) (lo lo' : Nat) (hv : RowIs w lo 3 (ArgIs) v xs) (hv' : RowIs w lo' 3 (ArgIs) v' ys)
    (HC : Hid (∀ x cs y ds, x ∈ xs → y ∈ ys → ∀ (W : World), (ArgIs) x cs → (ArgIs) y ds → Calls Tryd.prog 87 #[.agg cs.toArray, .agg ds.toArray] W fun r w' => r = .returned (.bool (eqB x y)) ∧ Below W.heap.size W w'))
    (HM : Hid (∀ x cs (l n : Nat) (W W' : World), Keeps l W W' → (ArgIs) x cs → (ArgIs) x cs)) :
    Calls Tryd.prog 77 #[v, v'] w fun r w' => r = .returned (.bool (eqB xs ys)) ∧ Below w.heap.size w w' := by
  obtain ⟨a, cap, rfl, hl, hx⟩ := hv
  obtain ⟨a', cap', rfl, hl', hx'⟩ := hv'
  have HX : Hid (∀ j x, xs[j]? = some x → ∃ b o cs, a = some ⟨b, o, none⟩ ∧ lo ≤ b ∧ cs.length = 3 ∧ w.rangeAt b (o + j * 3) cs ∧ (ArgIs) x cs) := hx
  have HX' : Hid (∀ j x, ys[j]? = some x → ∃ b o cs, a' = some ⟨b, o, none⟩ ∧ lo' ≤ b ∧ cs.length = 3 ∧ w.rangeAt b (o + j * 3) cs ∧ (ArgIs) x cs) := hx'
  clear hx hx'
  by_cases hlen : xs.length = ys.length
  · rw [← hlen] at hl' ⊢
    have HLY : Hid (xs.length = ys.length) := hlen
    obtain ⟨len, HL⟩ : ∃ len, Hid (len = xs.length) := ⟨_, rfl⟩
    obtain ⟨RES, HR⟩ : ∃ r, Hid (r = eqB xs ys) := ⟨_, rfl⟩
    rw [← HL.out] at hl hl' ⊢
    rw [← HR.out]
    clear hl' hlen
    go_enter Tryd.func77, Tryd.ntmps77
    go_wp2
    go_loopg [5] len (fun g i wr => ∃ n : Nat, n + g = len ∧ i = .int .i64 n ∧ Below w.heap.size w wr ∧ Hid (∀ j, j < n → xs[j]? = ys[j]?))
    case atStart => exact ⟨0, by omega, rfl, Below.refl _ _, fun j hj => by omega⟩
    case round =>
      obtain ⟨n, hn, rfl, hb, HS⟩ := hrel
      by_cases hlt : n < len
      · have i1 : (n : Int) < (len : Int) := by omega
        have i3 : (0 : Int) ≤ (n : Int) := by omega
        obtain ⟨x, hxn⟩ : ∃ x, xs[n]? = some x := ⟨_, List.getElem?_eq_getElem (by have := HL.out; omega)⟩
        obtain ⟨y, hyn⟩ : ∃ y, ys[n]? = some y := ⟨_, List.getElem?_eq_getElem (by have := HL.out; have := HLY.out; omega)⟩
        obtain ⟨b, o, cs, rfl, _, hcs, hrg, hR⟩ := HX.out n x hxn
        obtain ⟨b', o', ds, rfl, _, hds, hrg', hR'⟩ := HX'.out n y hyn
        have HB : Hid (Below w.heap.size w wr) := hb
        have H1 : Hid (wr.rangeAt b (o + n * 3) cs ∧ cs.length = 3) := ⟨fun i c hi => (Keeps.of_below hb 0) _ _ _ (Nat.zero_le _) (hrg i c hi), hcs⟩
        have H2 : Hid (wr.rangeAt b' (o' + n * 3) ds ∧ ds.length = 3) := ⟨fun i c hi => (Keeps.of_below hb 0) _ _ _ (Nat.zero_le _) (hrg' i c hi), hds⟩
        obtain ⟨q, Hq⟩ : ∃ q, Hid (q = eqB x y) := ⟨_, rfl⟩
        have cE : ∀ d os, Calls Tryd.prog 87 #[.agg cs.toArray, .agg ds.toArray] (Sort.grow (redrawn wr d) os) fun e w'' => e = .returned (.bool q) ∧ ∃ p : Regrown, w'' = Sort.grow (redrawn wr p.d) p.os :=
          fun d os => Calls.regrown_of (by rw [Hq.out]; exact HC.out x cs y ds (List.mem_of_getElem? hxn) (List.mem_of_getElem? hyn) _ (HM.out x cs lo 0 w _ ((Keeps.of_below hb lo).trans (Keeps.of_below (below_regrown wr d os) lo)) hR) (HM.out y ds lo' 0 w _ ((Keeps.of_below hb lo').trans (Keeps.of_below (below_regrown wr d os) lo')) hR'))
        clear hb hrg hrg' hcs hds hR hR'
        go_upto_region 6 with fail
        refine wp_region_quiet_below (by kernel_rfl) (by kernel_rfl) ?_
        go_big_quiet_step (first | with_reducible exact cE _ _)
        go_big_quiet_step (first | with_reducible exact cE _ _)
        go_big_quiet_step (first | with_reducible exact cE _ _)
        refine wpQ_load rfl 87 _ rfl _ _ rfl (.agg cs.toArray) (fun W hW => run_loadVar_mid W b (o + n * 3) 87 cs _ (range_regrown H1.out.1 hW) Tryd.underlying87 rfl (by rw [H1.out.2]; kernel_rfl)) ?_
        simp only [Act.put, List.setIfInBounds_toArray, List.set_cons_succ, List.set_cons_zero]
        go_big_quiet_step (first | with_reducible exact cE _ _)
        go_big_quiet_step (first | with_reducible exact cE _ _)
        go_big_quiet_step (first | with_reducible exact cE _ _)
        refine wpQ_load rfl 87 _ rfl _ _ rfl (.agg ds.toArray) (fun W hW => run_loadVar_mid W b' (o' + n * 3) 87 ds _ (range_regrown H2.out.1 hW) Tryd.underlying87 rfl (by rw [H2.out.2]; kernel_rfl)) ?_
        simp only [Act.put, List.setIfInBounds_toArray, List.set_cons_succ, List.set_cons_zero]
        go_big_quiet_step (first | with_reducible exact cE _ _)
        go_big_quiet_step (first | with_reducible exact cE _ _)
        refine wpQuiet_nil ?_
        intro w7 hw'
        have b7 : Below w.heap.size w w7 := by
          obtain ⟨⟨dq, osq⟩, rfl⟩ := hw'
          exact HB.out.trans ((below_regrown wr dq osq).mono HB.out.size)
        clear hw' cE
        cases q with
        | true =>
          go_wp2
          go_roundg (gk - 1)
          case measure => omega
          case rel =>
            refine ⟨n + 1, by omega, by simp, b7, ?_⟩
            intro j hj
            by_cases hjn : j = n
            · rw [hjn, hxn, hyn, eqB_true.1 Hq.out.symm]
            · exact HS.out j (by omega)
        | false =>
          go_wp2
          go_ret
          refine ⟨?_, b7⟩
          rw [HR.out, eqB_false (fun e => by
            rw [e] at hxn
            have hxy := Option.some.inj (hxn.symm.trans hyn)
            have := Hq.out
            rw [hxy, eqB_refl] at this
            cases this)]
          rfl
      · have i1 : ¬ ((n : Int) < (len : Int)) := by omega
        have hE : xs = ys := by
          apply List.ext_getElem?
          intro j
          by_cases hj : j < n
          · exact HS.out j hj
          · have := HL.out; have := HLY.out
            rw [List.getElem?_eq_none (by omega), List.getElem?_eq_none (by omega)]
        go_wp2
        go_ret
        exact ⟨by rw [HR.out, hE, eqB_refl]; rfl, hb⟩
  · have i1 : ((xs.length : Nat) : Int) ≠ ((ys.length : Nat) : Int) := by omega
    rw [eqB_false (fun e => hlen (by rw [e]))]
    generalize xs.length = l1 at hl i1 hlen ⊢
    generalize ys.length = l2 at hl' i1 hlen ⊢
    go_enter Tryd.func77, Tryd.ntmps77
    go_wp2
    go_ret
    exact ⟨rfl, Below.refl _ _⟩


end Go.Proofs.YtcihplachlokiaaDoor
/- Ladders compared: eqElem, eqNet, eqArm. -/
namespace Go.Proofs.YtcihplachlokiaaDoor
open Go.RowKit
set_option linter.unusedVariables false

theorem eq_args (v v' : Value) (xs ys : List ArgT) (w : World) (lo lo' : Nat) (hv : ArgsIs w lo v xs) (hv' : ArgsIs w lo' v' ys) :
    Calls Tryd.prog 77 #[v, v'] w fun r w' => r = .returned (.bool (eqB xs ys)) ∧ Below w.heap.size w w' :=
  eq_args_row v v' xs ys w lo lo' hv hv' (fun x cs y ds _ _ W h h' => by rw [show cs = _ from h, show ds = _ from h']; exact eq_arg _ _ _ _ _ _ W) (fun x cs l n W W' _ h => h)


set_option maxRecDepth 10000 in
set_option maxHeartbeats 2000000 in
theorem eq_elem_step (x0 y0 : Int) (x1 y1 : Value) (r0 : Bool) (p1 : x1.oneCell' = true) (q1 : y1.oneCell' = true) (w : World)
    (H0 : Hid (∀ W, Below w.heap.size w W → Calls Tryd.prog 77 #[x1, y1] W fun r w' => r = .returned (.bool r0) ∧ Below W.heap.size W w')) :
    Calls Tryd.prog 62 #[.agg #[.int .i64 x0, x1], .agg #[.int .i64 y0, y1]] w fun r w' => r = .returned (.bool (decide (x0 = y0) && r0)) ∧ Below w.heap.size w w' := by
  have b0 : Below w.heap.size w ((w.alloc (.cells #[.int .i64 x0, x1] 54)).alloc (.cells #[.int .i64 y0, y1] 54)) := ((Below.refl _ _).alloc (Nat.le_refl _) _).alloc (by simp) _
  by_cases h0 : x0 = y0
  · subst h0
    have e0 : decide (x0 = x0) = true := by simp
    go_enter Tryd.func62, Tryd.ntmps62
    go_wp2_with fail
    have hk := rows2 w (.cells #[.int .i64 x0, x1] 54) (.cells #[.int .i64 x0, y1] 54)
    have hz : ((w.alloc (.cells #[.int .i64 x0, x1] 54)).alloc (.cells #[.int .i64 x0, y1] 54)).heap.size = w.heap.size + 1 + 1 := by simp
    generalize ((w.alloc (.cells #[.int .i64 x0, x1] 54)).alloc (.cells #[.int .i64 x0, y1] 54)) = W0 at b0 hk hz ⊢
    refine (H0.out _ b0).mono ?_
    rintro e w1 ⟨rfl, g1⟩
    have b1 := b0.trans (g1.mono b0.size)
    have k0 := (g1.block _ (by omega)).trans hk.1
    have k1 := (g1.block _ (by omega)).trans hk.2
    clear g1
    cases r0 with
    | false =>
      clear k0 k1 hk hz b0
      go_wp2
      go_ret
      exact ⟨by simp, b1⟩
    | true =>
      clear k0 k1 hk hz b0
      go_wp2
      go_ret
      exact ⟨by simp, b1⟩
  · have e0 : decide (x0 = y0) = false := by simp [h0]
    go_enter Tryd.func62, Tryd.ntmps62
    go_wp2
    go_ret
    exact ⟨by simp [e0], b0⟩


theorem bool_and3 {a b c : Bool} {p q r : Prop} (ha : a = true ↔ p) (hb : b = true ↔ q) (hc : c = true ↔ r) : (a && b && c) = true ↔ p ∧ q ∧ r := by
  rw [Bool.and_eq_true, Bool.and_eq_true, ha, hb, hc, and_assoc]
theorem elemT_eq (e e' : ElemT) : (decide (e.op = e'.op) && eqB e.args e'.args) = true ↔ e = e' := by
  rw [Bool.and_eq_true, decide_eq_true_iff, eqB_true]
  cases e; cases e'; simp
theorem netT_eq (k k' : Int) (e e' : ElemT) (l l' : List NetT) : (decide (k = k') && eqB e e' && eqB l l') = true ↔ NetT.mk k e l = NetT.mk k' e' l' := by
  rw [bool_and3 decide_eq_true_iff eqB_true eqB_true, NetT.mk.injEq]
theorem armT_eq (n n' : NetT) (e e' : List ElemT) (l l' : List ArmT) : (eqB n n' && eqB e e' && eqB l l') = true ↔ ArmT.mk n e l = ArmT.mk n' e' l' := by
  rw [bool_and3 eqB_true eqB_true eqB_true, ArmT.mk.injEq]

theorem eq_elem (e e' : ElemT) (cs ds : List Value) (w : World) (lo lo' : Nat) (hv : ElemIs w lo e cs) (hv' : ElemIs w lo' e' ds) :
    Calls Tryd.prog 62 #[.agg cs.toArray, .agg ds.toArray] w fun r w' => r = .returned (.bool (eqB e e')) ∧ Below w.heap.size w w' := by
  obtain ⟨v, rfl, h⟩ := hv
  obtain ⟨v', rfl, h'⟩ := hv'
  rw [eqB_iff (elemT_eq e e')]
  exact eq_elem_step e.op e'.op v v' _ h.one h'.one w (fun W g => eq_args v v' _ _ W lo lo' (argsIs_move (Keeps.of_below g lo) (Nat.le_refl _) h) (argsIs_move (Keeps.of_below g lo') (Nat.le_refl _) h'))
end Go.Proofs.YtcihplachlokiaaDoor
/- Ladders handed in: what is read is a tree. -/
namespace Go.Proofs.YtcihplachlokiaaDoor
open Go.RowKit
set_option linter.unusedVariables false

section
variable {H : Type} {enc : TypeId × Value → H} {w : World} {base : Nat} {sp : Nat → Bool} {held : Bool}

theorem row_open {α : Type} {T ET : TypeId} {z : Nat} (hT : Tryd.prog.underlying T = some (.slice ET)) (hc : Tryd.prog.cellsOf ET = z) (hz : 0 < z) (R : α → List Value → Prop) {fuel : Nat} {v : Value} {x : DataW H × List MemPlace}
    (h : DataW.trod enc Tryd.prog w base sp held fuel T [v] = some x) (hel : ∀ n cs y, n < fuel → DataW.trod enc Tryd.prog w base sp held n ET cs = some y → ∃ t, R t cs) : ∃ xs, RowIs w 0 z R v xs := by
  rcases DataW.trod_slice hT h with ⟨h0, _⟩ | ⟨a, len, cap, elems, rest, n, hf, hcs, _, _, hl, hm, hlen, hx, _, _⟩
  · simp only [List.cons.injEq, and_true] at h0
    exact ⟨[], none, 0, by rw [h0]; rfl, by simp, fun j x hj => by simp at hj⟩
  · simp only [List.cons.injEq, and_true] at hcs
    rw [hc] at hx
    have key : ∀ i, i < len → ∃ t cs, w.cells? base (a.add (i * z)) z = some cs ∧ R t cs := by
      intro i hi
      have := hx i hi
      rw [List.getElem?_eq_getElem (by omega)] at this
      obtain ⟨cs, h1, h2⟩ := Option.bind_eq_some_iff.1 this
      obtain ⟨t, ht⟩ := hel n cs _ (by omega) h2
      exact ⟨t, cs, h1, ht⟩
    by_cases h0 : len = 0
    · subst h0
      exact ⟨[], some a, cap, hcs, by simp, fun j x hj => by simp at hj⟩
    · have key2 : ∀ i, ∃ t, i < len → ∃ cs, w.cells? base (a.add (i * z)) z = some cs ∧ R t cs := by
        intro i
        by_cases hi : i < len
        · obtain ⟨t, cs, h⟩ := key i hi; exact ⟨t, fun _ => ⟨cs, h⟩⟩
        · obtain ⟨t, cs, h⟩ := key 0 (by omega); exact ⟨t, fun h => absurd h hi⟩
      obtain ⟨F, hF⟩ := Classical.axiomOfChoice key2
      refine ⟨(List.range len).map F, some a, cap, by rw [hcs]; simp, by simp; unfold maxLen at hm; omega, fun j x hj => ?_⟩
      have hjl : j < len := by have := (List.getElem?_eq_some_iff.1 hj).1; simpa using this
      have hxj : x = F j := by
        rw [List.getElem?_map, List.getElem?_range hjl] at hj
        exact (Option.some.inj hj).symm
      subst hxj
      obtain ⟨cs, h1, h2⟩ := hF j hjl
      obtain ⟨_, hlc, hcell⟩ := World.cells?_some h1
      obtain ⟨b, off, spot⟩ := a
      have hspot : spot = none := by
        obtain ⟨cs0, h10, _⟩ := hF 0 (by omega)
        obtain ⟨_, hl0, hcell0⟩ := World.cells?_some h10
        have := hcell0 0 hz
        rw [List.getElem?_eq_getElem (by omega)] at this
        have := World.cell?_spot this
        simpa [Addr.add] using this
      subst hspot
      have ad : ∀ o' k, (⟨b, o', none⟩ : Addr).add k = ⟨b, o' + k, none⟩ := fun o' k => by unfold Addr.add; split <;> simp_all
      refine ⟨b, off, cs, rfl, Nat.zero_le _, hlc, fun i c hi => ?_, h2⟩
      have hil : i < z := by have := (List.getElem?_eq_some_iff.1 hi).1; omega
      have := hcell i hil
      rw [ad, ad] at this
      rw [this]; exact hi

theorem cellsI : Tryd.prog.cellsOf 3 = 1 := by kernel_rfl
theorem cellsD : Tryd.prog.cellsOf 119 = 3 := by kernel_rfl
theorem cellsE : Tryd.prog.cellsOf 66 = 2 := by kernel_rfl
theorem cellsDS : Tryd.prog.cellsOf 64 = 1 := by kernel_rfl
set_option maxRecDepth 100000 in
theorem arg_open {fuel : Nat} {cs : List Value} {x : DataW H × List MemPlace} (h : DataW.trod enc Tryd.prog w base sp held fuel 119 cs = some x) : ∃ t, ArgIs t cs := by
  obtain ⟨xs, n, hk, hx, hl, hxl, hall⟩ := DataW.trod_struct Tryd.underlying119 h
  rw [cellsD] at hl
  match cs, hl with
  | [c0, c1, c2], _ =>
    match xs, hxl with
    | [x0, x1, x2], _ =>
      have h0 : DataW.trod enc Tryd.prog w base sp held n 3 (([c0, c1, c2].drop 0).take (Tryd.prog.cellsOf 3)) = [x0, x1, x2][0]? := hall 0 _ rfl
      have h1 : DataW.trod enc Tryd.prog w base sp held n 3 (([c0, c1, c2].drop 1).take (Tryd.prog.cellsOf 3)) = [x0, x1, x2][1]? := hall 1 _ rfl
      have h2 : DataW.trod enc Tryd.prog w base sp held n 3 (([c0, c1, c2].drop 2).take (Tryd.prog.cellsOf 3)) = [x0, x1, x2][2]? := hall 2 _ rfl
      simp only [cellsI, List.drop_zero, List.drop_succ_cons, List.take_succ_cons, List.take_zero, List.getElem?_cons_zero, List.getElem?_cons_succ] at h0 h1 h2
      obtain ⟨v0, e0, _, _⟩ := DataW.trod_int Tryd.underlying3 h0
      obtain ⟨v1, e1, _, _⟩ := DataW.trod_int Tryd.underlying3 h1
      obtain ⟨v2, e2, _, _⟩ := DataW.trod_int Tryd.underlying3 h2
      simp only [List.cons.injEq, and_true] at e0 e1 e2
      exact ⟨(v0, v1, v2), by rw [e0, e1, e2]; rfl⟩
theorem args_open {fuel : Nat} {v : Value} {x : DataW H × List MemPlace} (h : DataW.trod enc Tryd.prog w base sp held fuel 64 [v] = some x) : ∃ xs, ArgsIs w 0 v xs :=
  row_open Tryd.underlying64 cellsD (by omega) ArgIs h fun n cs y _ h => arg_open h

set_option maxRecDepth 100000 in
theorem elem_open {fuel : Nat} {cs : List Value} {x : DataW H × List MemPlace} (h : DataW.trod enc Tryd.prog w base sp held fuel 66 cs = some x) : ∃ t, ElemIs w 0 t cs := by
  obtain ⟨xs, n, hk, hx, hl, hxl, hall⟩ := DataW.trod_struct Tryd.underlying66 h
  rw [cellsE] at hl
  match cs, hl with
  | [c0, c1], _ =>
    match xs, hxl with
    | [x0, x1], _ =>
      have h0 : DataW.trod enc Tryd.prog w base sp held n 3 (([c0, c1].drop 0).take (Tryd.prog.cellsOf 3)) = [x0, x1][0]? := hall 0 _ rfl
      have h1 : DataW.trod enc Tryd.prog w base sp held n 64 (([c0, c1].drop 1).take (Tryd.prog.cellsOf 64)) = [x0, x1][1]? := hall 1 _ rfl
      simp only [cellsI, cellsDS, List.drop_zero, List.drop_succ_cons, List.take_succ_cons, List.take_zero, List.getElem?_cons_zero, List.getElem?_cons_succ] at h0 h1
      obtain ⟨v0, e0, _, _⟩ := DataW.trod_int Tryd.underlying3 h0
      obtain ⟨ys, hy⟩ := args_open h1
      simp only [List.cons.injEq, and_true] at e0
      exact ⟨⟨v0, ys⟩, c1, by rw [e0], hy⟩
end
end Go.Proofs.YtcihplachlokiaaDoor
