/- How much there is in a ladder: the laws' sz.. functions. -/
import Derived.Test.YtcihplachlokiaaDoorGa
import Derived.Test.YtcihplachlokiaaDoorMa
import Derived.Deep.LoopGhost
namespace Go.Proofs.YtcihplachlokiaaDoor
open Go.RowKit
set_option linter.unusedVariables false

def szR (left : Int) (w : Nat) : Int := if (w : Int) ≤ left then left - w else -1
theorem szR_yes {left : Int} {w : Nat} (h : (w : Int) ≤ left) : szR left w = left - w := if_pos h
theorem szR_no {left : Int} {w : Nat} (h : ¬ (w : Int) ≤ left) : szR left w = -1 := if_neg h

set_option maxHeartbeats 1000000 in
theorem sz_args (left : Int) (h0 : 0 ≤ left) (h1 : left ≤ 1048576) (v : Value) (xs : List ArgT) (w : World) (lo : Nat) (hv : ArgsIs w lo v xs) :
    Calls Tryd.prog 72 #[v, .int .i64 left] w fun e w' => e = .returned (.int .i64 (szR left xs.length)) ∧ Below w.heap.size w w' := by
  obtain ⟨a, cap, rfl, hl, _⟩ := hv
  generalize xs.length = len at hl ⊢
  by_cases h : (len : Int) ≤ left
  · rw [szR_yes h]
    have i1 : ¬ (left - (len : Int) < 0) := by omega
    go_enter Tryd.func72, Tryd.ntmps72
    go_wp2
    go_ret
    exact ⟨rfl, Below.refl _ _⟩
  · rw [szR_no h]
    have i1 : left - (len : Int) < 0 := by omega
    go_enter Tryd.func72, Tryd.ntmps72
    go_wp2
    go_ret
    exact ⟨rfl, Below.refl _ _⟩

set_option maxHeartbeats 1000000 in
theorem sz_elem (left : Int) (h0 : 0 ≤ left) (h1 : left ≤ 1048576) (e : ElemT) (cs : List Value) (w : World) (lo : Nat) (hv : ElemIs w lo e cs) :
    Calls Tryd.prog 55 #[.agg cs.toArray, .int .i64 left] w fun r w' => r = .returned (.int .i64 (szR left (wE e))) ∧ Below w.heap.size w w' := by
  obtain ⟨v, rfl, hr⟩ := hv
  have hr' := hr
  obtain ⟨a, cap, rfl, hl, _⟩ := hr'
  have HA : Hid (∀ W, ArgsIs W lo (.slice a e.args.length cap) e.args → Calls Tryd.prog 72 #[.slice a e.args.length cap, .int .i64 left] W fun r w' => r = .returned (.int .i64 (szR left (wE e))) ∧ Below W.heap.size W w') := fun W h => sz_args left h0 h1 _ _ W lo h
  have HR : Hid (ArgsIs w lo (.slice a e.args.length cap) e.args) := hr
  have HK : Hid (0 ≤ szR left (wE e) ∨ szR left (wE e) = -1) := by
    by_cases h : ((wE e : Nat) : Int) ≤ left
    · left; rw [szR_yes h]; omega
    · right; exact szR_no h
  generalize e.args.length = len at HA HR hl ⊢
  generalize szR left (wE e) = R at HA HK ⊢
  clear hr
  go_enter Tryd.func55, Tryd.ntmps55
  go_wp2_with fail
  refine (HA.out _ (argsIs_move (Keeps.alloc _ _) (Nat.le_refl _) HR.out)).mono ?_
  rintro r w1 ⟨rfl, g1⟩
  have b1 : Below w.heap.size w w1 := ((Below.refl _ _).alloc (Nat.le_refl _) _).trans (g1.mono (by simp))
  clear g1
  rcases HK.out with h | rfl
  · have i1 : ¬ (R < 0) := by omega
    go_wp2
    go_ret
    exact ⟨rfl, b1⟩
  · go_wp2
    go_ret
    exact ⟨rfl, b1⟩


theorem szR_two {l : Int} (p q : Nat) (hp : (p : Int) ≤ l) : szR (l - p) q = szR l (p + q) := by
  unfold szR
  by_cases h : (q : Int) ≤ l - p
  · rw [if_pos h, if_pos (by omega)]; omega
  · rw [if_neg h, if_neg (by omega)]
theorem szR_cases (l : Int) (p : Nat) : (0 ≤ szR l p ∨ szR l p = -1) := by
  by_cases h : (p : Int) ≤ l
  · left; rw [szR_yes h]; omega
  · right; exact szR_no h

theorem RowIs.one {α : Type} {W : World} {lo z : Nat} {R : α → List Value → Prop} {v : Value} {xs : List α} (h : RowIs W lo z R v xs) : v.oneCell' = true := by
  obtain ⟨a, cap, rfl, _⟩ := h; rfl

theorem NetIs.cells {W : World} {lo : Nat} : ∀ {m : Nat} {t : NetT} {cs : List Value}, NetIs W lo m t cs → ∃ n0 n1 n2 n3, cs = [n0, n1, n2, n3] ∧ n0.oneCell' = true ∧ n1.oneCell' = true ∧ n2.oneCell' = true ∧ n3.oneCell' = true
  | 0, _, _, h => h.elim
  | m + 1, .mk k e kids, cs, h => by
    obtain ⟨v, v', rfl, ha, hk⟩ := h
    exact ⟨_, _, _, _, rfl, rfl, rfl, ha.one, hk.one⟩

end Go.Proofs.YtcihplachlokiaaDoor
