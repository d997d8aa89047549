/- Ladders compared: the laws' eq.. functions. -/
import Derived.Test.YtcihplachlokiaaDoorGd
import Derived.Test.YtcihplachlokiaaDoorMm
import Derived.Deep.RegionWith
import Derived.Deep.Cut
import Derived.Deep.QuietTactic
import Derived.BigQuiet
import Derived.Lib.QuietBelow
import Derived.Handy
import Derived.WalkLawsBesides
namespace Go.Proofs.YtcihplachlokiaaDoor
open Go.RowKit
set_option linter.unusedVariables false

noncomputable def eqB {α : Type} (a b : α) : Bool := @decide (a = b) (Classical.propDecidable _)
theorem eqB_true {α : Type} {a b : α} : eqB a b = true ↔ a = b := by simp [eqB]
theorem eqB_refl {α : Type} (a : α) : eqB a a = true := eqB_true.2 rfl
theorem eqB_false {α : Type} {a b : α} (h : a ≠ b) : eqB a b = false := by
  cases hb : eqB a b with
  | false => rfl
  | true => exact absurd (eqB_true.1 hb) h
theorem eqB_iff {α : Type} {a b : α} {r : Bool} (h : r = true ↔ a = b) : eqB a b = r := by
  cases r with
  | true => exact eqB_true.2 (h.1 rfl)
  | false => exact eqB_false fun e => by have := h.2 e; cases this
theorem range_regrown {w : World} {b o : Nat} {cs : List Value} (h : w.rangeAt b o cs) {W : World} (hp : ∃ p : Regrown, W = Sort.grow (redrawn w p.d) p.os) : W.rangeAt b o cs := by
  obtain ⟨p, rfl⟩ := hp
  exact fun i c hi => (Keeps.of_below (below_regrown w p.d p.os) 0) _ _ _ (Nat.zero_le _) (h i c hi)

set_option maxHeartbeats 1000000 in
theorem eq_arg (k n p k' n' p' : Int) (w : World) : Calls Tryd.prog 87 #[.agg #[.int .i64 k, .int .i64 n, .int .i64 p], .agg #[.int .i64 k', .int .i64 n', .int .i64 p']] w fun e w' => e = .returned (.bool (eqB ((k, n, p) : ArgT) (k', n', p'))) ∧ Below w.heap.size w w' := by
  have b2 : ∀ A B, Below w.heap.size w ((w.alloc A).alloc B) := fun A B => ((Below.refl _ _).alloc (Nat.le_refl _) _).alloc (by simp) _
  by_cases h1 : k = k'
  · by_cases h2 : n = n'
    · by_cases h3 : p = p'
      · rw [show eqB ((k, n, p) : ArgT) (k', n', p') = true from eqB_true.2 (by rw [h1, h2, h3])]
        subst h1 h2 h3
        go_enter Tryd.func87, Tryd.ntmps87
        go_wp2
        go_ret
        exact ⟨rfl, b2 _ _⟩
      · rw [show eqB ((k, n, p) : ArgT) (k', n', p') = false from eqB_false (by intro e; simp at e; exact h3 e.2.2)]
        subst h1 h2
        go_enter Tryd.func87, Tryd.ntmps87
        go_wp2
        go_ret
        exact ⟨rfl, b2 _ _⟩
    · rw [show eqB ((k, n, p) : ArgT) (k', n', p') = false from eqB_false (by intro e; simp at e; exact h2 e.2.1)]
      subst h1
      go_enter Tryd.func87, Tryd.ntmps87
      go_wp2
      go_ret
      exact ⟨rfl, b2 _ _⟩
  · rw [show eqB ((k, n, p) : ArgT) (k', n', p') = false from eqB_false (by intro e; simp at e; exact h1 e.1)]
    go_enter Tryd.func87, Tryd.ntmps87
    go_wp2
    go_ret
    exact ⟨rfl, b2 _ _⟩


set_option maxRecDepth 10000 in
set_option maxHeartbeats 2000000 in
theorem eq_args_row (v v' : Value) (xs ys : List ArgT) (w : World) (lo lo' : Nat) (hv : RowIs w lo 3 (ArgIs) v xs) (hv' : RowIs w lo' 3 (ArgIs) v' ys)
    (HC : Hid (∀ x cs y ds, x ∈ xs → y ∈ ys → ∀ (W : World), (ArgIs) x cs → (ArgIs) y ds → Calls Tryd.prog 87 #[.agg cs.toArray, .agg ds.toArray] W fun r w' => r = .returned (.bool (eqB x y)) ∧ Below W.heap.size W w'))
    (HM : Hid (∀ x cs (l n : Nat) (W W' : World), Keeps l W W' → (ArgIs) x cs → (ArgIs) x cs)) :
    Calls Tryd.prog 77 #[v, v'] w fun r w' => r = .returned (.bool (eqB xs ys)) ∧ Below w.heap.size w w' := by
  obtain ⟨a, cap, rfl, hl, hx⟩ := hv
  obtain ⟨a', cap', rfl, hl', hx'⟩ := hv'
  have HX : Hid (∀ j x, xs[j]? = some x → ∃ b o cs, a = some ⟨b, o, none⟩ ∧ lo ≤ b ∧ cs.length = 3 ∧ w.rangeAt b (o + j * 3) cs ∧ (ArgIs) x cs) := hx
  have HX' : Hid (∀ j x, ys[j]? = some x → ∃ b o cs, a' = some ⟨b, o, none⟩ ∧ lo' ≤ b ∧ cs.length = 3 ∧ w.rangeAt b (o + j * 3) cs ∧ (ArgIs) x cs) := hx'
  clear hx hx'
  by_cases hlen : xs.length = ys.length
  · rw [← hlen] at hl' ⊢
    have HLY : Hid (xs.length = ys.length) := hlen
    obtain ⟨len, HL⟩ : ∃ len, Hid (len = xs.length) := ⟨_, rfl⟩
    obtain ⟨RES, HR⟩ : ∃ r, Hid (r = eqB xs ys) := ⟨_, rfl⟩
    rw [← HL.out] at hl hl' ⊢
    rw [← HR.out]
    clear hl' hlen
    go_enter Tryd.func77, Tryd.ntmps77
    go_wp2
    go_loopg [5] len (fun g i wr => ∃ n : Nat, n + g = len ∧ i = .int .i64 n ∧ Below w.heap.size w wr ∧ Hid (∀ j, j < n → xs[j]? = ys[j]?))
    case atStart => exact ⟨0, by omega, rfl, Below.refl _ _, fun j hj => by omega⟩
    case round =>
      obtain ⟨n, hn, rfl, hb, HS⟩ := hrel
      by_cases hlt : n < len
      · have i1 : (n : Int) < (len : Int) := by omega
        have i3 : (0 : Int) ≤ (n : Int) := by omega
        obtain ⟨x, hxn⟩ : ∃ x, xs[n]? = some x := ⟨_, List.getElem?_eq_getElem (by have := HL.out; omega)⟩
        obtain ⟨y, hyn⟩ : ∃ y, ys[n]? = some y := ⟨_, List.getElem?_eq_getElem (by have := HL.out; have := HLY.out; omega)⟩
        obtain ⟨b, o, cs, rfl, _, hcs, hrg, hR⟩ := HX.out n x hxn
        obtain ⟨b', o', ds, rfl, _, hds, hrg', hR'⟩ := HX'.out n y hyn
        have HB : Hid (Below w.heap.size w wr) := hb
        have H1 : Hid (wr.rangeAt b (o + n * 3) cs ∧ cs.length = 3) := ⟨fun i c hi => (Keeps.of_below hb 0) _ _ _ (Nat.zero_le _) (hrg i c hi), hcs⟩
        have H2 : Hid (wr.rangeAt b' (o' + n * 3) ds ∧ ds.length = 3) := ⟨fun i c hi => (Keeps.of_below hb 0) _ _ _ (Nat.zero_le _) (hrg' i c hi), hds⟩
        obtain ⟨q, Hq⟩ : ∃ q, Hid (q = eqB x y) := ⟨_, rfl⟩
        have cE : ∀ d os, Calls Tryd.prog 87 #[.agg cs.toArray, .agg ds.toArray] (Sort.grow (redrawn wr d) os) fun e w'' => e = .returned (.bool q) ∧ ∃ p : Regrown, w'' = Sort.grow (redrawn wr p.d) p.os :=
          fun d os => Calls.regrown_of (by rw [Hq.out]; exact HC.out x cs y ds (List.mem_of_getElem? hxn) (List.mem_of_getElem? hyn) _ (HM.out x cs lo 0 w _ ((Keeps.of_below hb lo).trans (Keeps.of_below (below_regrown wr d os) lo)) hR) (HM.out y ds lo' 0 w _ ((Keeps.of_below hb lo').trans (Keeps.of_below (below_regrown wr d os) lo')) hR'))
        clear hb hrg hrg' hcs hds hR hR'
        go_upto_region 6 with fail
        refine wp_region_quiet_below (by kernel_rfl) (by kernel_rfl) ?_
        go_big_quiet_step (first | with_reducible exact cE _ _)
        go_big_quiet_step (first | with_reducible exact cE _ _)
        go_big_quiet_step (first | with_reducible exact cE _ _)
        refine wpQ_load rfl 87 _ rfl _ _ rfl (.agg cs.toArray) (fun W hW => run_loadVar_mid W b (o + n * 3) 87 cs _ (range_regrown H1.out.1 hW) Tryd.underlying87 rfl (by rw [H1.out.2]; kernel_rfl)) ?_
        simp only [Act.put, List.setIfInBounds_toArray, List.set_cons_succ, List.set_cons_zero]
        go_big_quiet_step (first | with_reducible exact cE _ _)
        go_big_quiet_step (first | with_reducible exact cE _ _)
        go_big_quiet_step (first | with_reducible exact cE _ _)
        refine wpQ_load rfl 87 _ rfl _ _ rfl (.agg ds.toArray) (fun W hW => run_loadVar_mid W b' (o' + n * 3) 87 ds _ (range_regrown H2.out.1 hW) Tryd.underlying87 rfl (by rw [H2.out.2]; kernel_rfl)) ?_
        simp only [Act.put, List.setIfInBounds_toArray, List.set_cons_succ, List.set_cons_zero]
        go_big_quiet_step (first | with_reducible exact cE _ _)
        go_big_quiet_step (first | with_reducible exact cE _ _)
        refine wpQuiet_nil ?_
        intro w7 hw'
        have b7 : Below w.heap.size w w7 := by
          obtain ⟨⟨dq, osq⟩, rfl⟩ := hw'
          exact HB.out.trans ((below_regrown wr dq osq).mono HB.out.size)
        clear hw' cE
        cases q with
        | true =>
          go_wp2
          go_roundg (gk - 1)
          case measure => omega
          case rel =>
            refine ⟨n + 1, by omega, by simp, b7, ?_⟩
            intro j hj
            by_cases hjn : j = n
            · rw [hjn, hxn, hyn, eqB_true.1 Hq.out.symm]
            · exact HS.out j (by omega)
        | false =>
          go_wp2
          go_ret
          refine ⟨?_, b7⟩
          rw [HR.out, eqB_false (fun e => by
            rw [e] at hxn
            have hxy := Option.some.inj (hxn.symm.trans hyn)
            have := Hq.out
            rw [hxy, eqB_refl] at this
            cases this)]
          rfl
      · have i1 : ¬ ((n : Int) < (len : Int)) := by omega
        have hE : xs = ys := by
          apply List.ext_getElem?
          intro j
          by_cases hj : j < n
          · exact HS.out j hj
          · have := HL.out; have := HLY.out
            rw [List.getElem?_eq_none (by omega), List.getElem?_eq_none (by omega)]
        go_wp2
        go_ret
        exact ⟨by rw [HR.out, hE, eqB_refl]; rfl, hb⟩
  · have i1 : ((xs.length : Nat) : Int) ≠ ((ys.length : Nat) : Int) := by omega
    rw [eqB_false (fun e => hlen (by rw [e]))]
    generalize xs.length = l1 at hl i1 hlen ⊢
    generalize ys.length = l2 at hl' i1 hlen ⊢
    go_enter Tryd.func77, Tryd.ntmps77
    go_wp2
    go_ret
    exact ⟨rfl, Below.refl _ _⟩


end Go.Proofs.YtcihplachlokiaaDoor
