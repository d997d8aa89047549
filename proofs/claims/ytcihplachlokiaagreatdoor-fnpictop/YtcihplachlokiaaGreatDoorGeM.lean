/- Ladders compared: the laws' eq.. functions. -/
import Derived.Test.YtcihplachlokiaaGreatDoorGbM
import Derived.Test.YtcihplachlokiaaGreatDoorMm
import Derived.Deep.RegionWith
import Derived.Deep.Cut
import Derived.Deep.QuietTactic
import Derived.BigQuiet
import Derived.Lib.QuietBelow
import Derived.Handy
import Derived.WalkLawsBesides
import Derived.ChangeArms
import Derived.Deep.Slices
namespace Go.Proofs.YtcihplachlokiaaGreatDoor
open Go.RowKit
set_option linter.unusedVariables false

noncomputable def eqB {α : Type} (a b : α) : Bool := @decide (a = b) (Classical.propDecidable _)
theorem eqB_true {α : Type} {a b : α} : eqB a b = true ↔ a = b := by simp [eqB]
theorem eqB_refl {α : Type} (a : α) : eqB a a = true := eqB_true.2 rfl
theorem eqB_false {α : Type} {a b : α} (h : a ≠ b) : eqB a b = false := by
  cases hb : eqB a b with
  | false => rfl
  | true => exact absurd (eqB_true.1 hb) h
theorem eqB_iff {α : Type} {a b : α} {r : Bool} (h : r = true ↔ a = b) : eqB a b = r := by
  cases r with
  | true => exact eqB_true.2 (h.1 rfl)
  | false => exact eqB_false fun e => by have := h.2 e; cases this
theorem range_regrown {w : World} {b o : Nat} {cs : List Value} (h : w.rangeAt b o cs) {W : World} (hp : ∃ p : Regrown, W = Sort.grow (redrawn w p.d) p.os) : W.rangeAt b o cs := by
  obtain ⟨p, rfl⟩ := hp
  exact fun i c hi => (Keeps.of_below (below_regrown w p.d p.os) 0) _ _ _ (Nat.zero_le _) (h i c hi)

end Go.Proofs.YtcihplachlokiaaGreatDoor
/- Ladders compared: eqElem, eqNet, eqArm. -/
namespace Go.Proofs.YtcihplachlokiaaGreatDoor
open Go.RowKit
set_option linter.unusedVariables false

theorem bool_and3 {a b c : Bool} {p q r : Prop} (ha : a = true ↔ p) (hb : b = true ↔ q) (hc : c = true ↔ r) : (a && b && c) = true ↔ p ∧ q ∧ r := by
  rw [Bool.and_eq_true, Bool.and_eq_true, ha, hb, hc, and_assoc]
theorem elemT_eq (e e' : ElemT) : (decide (e.op = e'.op) && eqB e.args e'.args) = true ↔ e = e' := by
  rw [Bool.and_eq_true, decide_eq_true_iff, eqB_true]
  cases e; cases e'; simp
theorem netT_eq (k k' : Int) (e e' : ElemT) (l l' : List NetT) : (decide (k = k') && eqB e e' && eqB l l') = true ↔ NetT.mk k e l = NetT.mk k' e' l' := by
  rw [bool_and3 decide_eq_true_iff eqB_true eqB_true, NetT.mk.injEq]
theorem armT_eq (n n' : NetT) (e e' : List ElemT) (l l' : List ArmT) : (eqB n n' && eqB e e' && eqB l l') = true ↔ ArmT.mk n e l = ArmT.mk n' e' l' := by
  rw [bool_and3 eqB_true eqB_true eqB_true, ArmT.mk.injEq]

end Go.Proofs.YtcihplachlokiaaGreatDoor
/- Ladders handed in: what is read is a tree. -/
namespace Go.Proofs.YtcihplachlokiaaGreatDoor
open Go.RowKit
set_option linter.unusedVariables false

section
variable {H : Type} {enc : TypeId × Value → H} {w : World} {base : Nat} {sp : Nat → Bool} {held : Bool}

theorem row_open {α : Type} {T ET : TypeId} {z : Nat} (hT : Tryz.prog.underlying T = some (.slice ET)) (hc : Tryz.prog.cellsOf ET = z) (hz : 0 < z) (R : α → List Value → Prop) {fuel : Nat} {v : Value} {x : DataW H × List MemPlace}
    (h : DataW.trod enc Tryz.prog w base sp held fuel T [v] = some x) (hel : ∀ n cs y, n < fuel → DataW.trod enc Tryz.prog w base sp held n ET cs = some y → ∃ t, R t cs) : ∃ xs, RowIs w 0 z R v xs := by
  rcases DataW.trod_slice hT h with ⟨h0, _⟩ | ⟨a, len, cap, elems, rest, n, hf, hcs, _, _, hl, hm, hlen, hx, _, _⟩
  · simp only [List.cons.injEq, and_true] at h0
    exact ⟨[], none, 0, by rw [h0]; rfl, by simp, fun j x hj => by simp at hj⟩
  · simp only [List.cons.injEq, and_true] at hcs
    rw [hc] at hx
    have key : ∀ i, i < len → ∃ t cs, w.cells? base (a.add (i * z)) z = some cs ∧ R t cs := by
      intro i hi
      have := hx i hi
      rw [List.getElem?_eq_getElem (by omega)] at this
      obtain ⟨cs, h1, h2⟩ := Option.bind_eq_some_iff.1 this
      obtain ⟨t, ht⟩ := hel n cs _ (by omega) h2
      exact ⟨t, cs, h1, ht⟩
    by_cases h0 : len = 0
    · subst h0
      exact ⟨[], some a, cap, hcs, by simp, fun j x hj => by simp at hj⟩
    · have key2 : ∀ i, ∃ t, i < len → ∃ cs, w.cells? base (a.add (i * z)) z = some cs ∧ R t cs := by
        intro i
        by_cases hi : i < len
        · obtain ⟨t, cs, h⟩ := key i hi; exact ⟨t, fun _ => ⟨cs, h⟩⟩
        · obtain ⟨t, cs, h⟩ := key 0 (by omega); exact ⟨t, fun h => absurd h hi⟩
      obtain ⟨F, hF⟩ := Classical.axiomOfChoice key2
      refine ⟨(List.range len).map F, some a, cap, by rw [hcs]; simp, by simp; unfold maxLen at hm; omega, fun j x hj => ?_⟩
      have hjl : j < len := by have := (List.getElem?_eq_some_iff.1 hj).1; simpa using this
      have hxj : x = F j := by
        rw [List.getElem?_map, List.getElem?_range hjl] at hj
        exact (Option.some.inj hj).symm
      subst hxj
      obtain ⟨cs, h1, h2⟩ := hF j hjl
      obtain ⟨_, hlc, hcell⟩ := World.cells?_some h1
      obtain ⟨b, off, spot⟩ := a
      have hspot : spot = none := by
        obtain ⟨cs0, h10, _⟩ := hF 0 (by omega)
        obtain ⟨_, hl0, hcell0⟩ := World.cells?_some h10
        have := hcell0 0 hz
        rw [List.getElem?_eq_getElem (by omega)] at this
        have := World.cell?_spot this
        simpa [Addr.add] using this
      subst hspot
      have ad : ∀ o' k, (⟨b, o', none⟩ : Addr).add k = ⟨b, o' + k, none⟩ := fun o' k => by unfold Addr.add; split <;> simp_all
      refine ⟨b, off, cs, rfl, Nat.zero_le _, hlc, fun i c hi => ?_, h2⟩
      have hil : i < z := by have := (List.getElem?_eq_some_iff.1 hi).1; omega
      have := hcell i hil
      rw [ad, ad] at this
      rw [this]; exact hi

theorem cellsI : Tryz.prog.cellsOf 3 = 1 := by kernel_rfl
end
end Go.Proofs.YtcihplachlokiaaGreatDoor
