/- Ladders handed in: what is read is a tree. -/
import Derived.Test.YtcihplachlokiaaDoorGf
import Derived.ChangeArms
import Derived.Deep.Slices
namespace Go.Proofs.YtcihplachlokiaaDoor
open Go.RowKit
set_option linter.unusedVariables false

section
variable {H : Type} {enc : TypeId × Value → H} {w : World} {base : Nat} {sp : Nat → Bool} {held : Bool}

theorem row_open {α : Type} {T ET : TypeId} {z : Nat} (hT : Tryd.prog.underlying T = some (.slice ET)) (hc : Tryd.prog.cellsOf ET = z) (hz : 0 < z) (R : α → List Value → Prop) {fuel : Nat} {v : Value} {x : DataW H × List MemPlace}
    (h : DataW.trod enc Tryd.prog w base sp held fuel T [v] = some x) (hel : ∀ n cs y, n < fuel → DataW.trod enc Tryd.prog w base sp held n ET cs = some y → ∃ t, R t cs) : ∃ xs, RowIs w 0 z R v xs := by
  rcases DataW.trod_slice hT h with ⟨h0, _⟩ | ⟨a, len, cap, elems, rest, n, hf, hcs, _, _, hl, hm, hlen, hx, _, _⟩
  · simp only [List.cons.injEq, and_true] at h0
    exact ⟨[], none, 0, by rw [h0]; rfl, by simp, fun j x hj => by simp at hj⟩
  · simp only [List.cons.injEq, and_true] at hcs
    rw [hc] at hx
    have key : ∀ i, i < len → ∃ t cs, w.cells? base (a.add (i * z)) z = some cs ∧ R t cs := by
      intro i hi
      have := hx i hi
      rw [List.getElem?_eq_getElem (by omega)] at this
      obtain ⟨cs, h1, h2⟩ := Option.bind_eq_some_iff.1 this
      obtain ⟨t, ht⟩ := hel n cs _ (by omega) h2
      exact ⟨t, cs, h1, ht⟩
    by_cases h0 : len = 0
    · subst h0
      exact ⟨[], some a, cap, hcs, by simp, fun j x hj => by simp at hj⟩
    · have key2 : ∀ i, ∃ t, i < len → ∃ cs, w.cells? base (a.add (i * z)) z = some cs ∧ R t cs := by
        intro i
        by_cases hi : i < len
        · obtain ⟨t, cs, h⟩ := key i hi; exact ⟨t, fun _ => ⟨cs, h⟩⟩
        · obtain ⟨t, cs, h⟩ := key 0 (by omega); exact ⟨t, fun h => absurd h hi⟩
      obtain ⟨F, hF⟩ := Classical.axiomOfChoice key2
      refine ⟨(List.range len).map F, some a, cap, by rw [hcs]; simp, by simp; unfold maxLen at hm; omega, fun j x hj => ?_⟩
      have hjl : j < len := by have := (List.getElem?_eq_some_iff.1 hj).1; simpa using this
      have hxj : x = F j := by
        rw [List.getElem?_map, List.getElem?_range hjl] at hj
        exact (Option.some.inj hj).symm
      subst hxj
      obtain ⟨cs, h1, h2⟩ := hF j hjl
      obtain ⟨_, hlc, hcell⟩ := World.cells?_some h1
      obtain ⟨b, off, spot⟩ := a
      have hspot : spot = none := by
        obtain ⟨cs0, h10, _⟩ := hF 0 (by omega)
        obtain ⟨_, hl0, hcell0⟩ := World.cells?_some h10
        have := hcell0 0 hz
        rw [List.getElem?_eq_getElem (by omega)] at this
        have := World.cell?_spot this
        simpa [Addr.add] using this
      subst hspot
      have ad : ∀ o' k, (⟨b, o', none⟩ : Addr).add k = ⟨b, o' + k, none⟩ := fun o' k => by unfold Addr.add; split <;> simp_all
      refine ⟨b, off, cs, rfl, Nat.zero_le _, hlc, fun i c hi => ?_, h2⟩
      have hil : i < z := by have := (List.getElem?_eq_some_iff.1 hi).1; omega
      have := hcell i hil
      rw [ad, ad] at this
      rw [this]; exact hi

theorem cellsI : Tryd.prog.cellsOf 3 = 1 := by kernel_rfl
theorem cellsD : Tryd.prog.cellsOf 119 = 3 := by kernel_rfl
theorem cellsE : Tryd.prog.cellsOf 66 = 2 := by kernel_rfl
theorem cellsDS : Tryd.prog.cellsOf 64 = 1 := by kernel_rfl
set_option maxRecDepth 100000 in
theorem arg_open {fuel : Nat} {cs : List Value} {x : DataW H × List MemPlace} (h : DataW.trod enc Tryd.prog w base sp held fuel 119 cs = some x) : ∃ t, ArgIs t cs := by
  obtain ⟨xs, n, hk, hx, hl, hxl, hall⟩ := DataW.trod_struct Tryd.underlying119 h
  rw [cellsD] at hl
  match cs, hl with
  | [c0, c1, c2], _ =>
    match xs, hxl with
    | [x0, x1, x2], _ =>
      have h0 : DataW.trod enc Tryd.prog w base sp held n 3 (([c0, c1, c2].drop 0).take (Tryd.prog.cellsOf 3)) = [x0, x1, x2][0]? := hall 0 _ rfl
      have h1 : DataW.trod enc Tryd.prog w base sp held n 3 (([c0, c1, c2].drop 1).take (Tryd.prog.cellsOf 3)) = [x0, x1, x2][1]? := hall 1 _ rfl
      have h2 : DataW.trod enc Tryd.prog w base sp held n 3 (([c0, c1, c2].drop 2).take (Tryd.prog.cellsOf 3)) = [x0, x1, x2][2]? := hall 2 _ rfl
      simp only [cellsI, List.drop_zero, List.drop_succ_cons, List.take_succ_cons, List.take_zero, List.getElem?_cons_zero, List.getElem?_cons_succ] at h0 h1 h2
      obtain ⟨v0, e0, _, _⟩ := DataW.trod_int Tryd.underlying3 h0
      obtain ⟨v1, e1, _, _⟩ := DataW.trod_int Tryd.underlying3 h1
      obtain ⟨v2, e2, _, _⟩ := DataW.trod_int Tryd.underlying3 h2
      simp only [List.cons.injEq, and_true] at e0 e1 e2
      exact ⟨(v0, v1, v2), by rw [e0, e1, e2]; rfl⟩
theorem args_open {fuel : Nat} {v : Value} {x : DataW H × List MemPlace} (h : DataW.trod enc Tryd.prog w base sp held fuel 64 [v] = some x) : ∃ xs, ArgsIs w 0 v xs :=
  row_open Tryd.underlying64 cellsD (by omega) ArgIs h fun n cs y _ h => arg_open h

set_option maxRecDepth 100000 in
theorem elem_open {fuel : Nat} {cs : List Value} {x : DataW H × List MemPlace} (h : DataW.trod enc Tryd.prog w base sp held fuel 66 cs = some x) : ∃ t, ElemIs w 0 t cs := by
  obtain ⟨xs, n, hk, hx, hl, hxl, hall⟩ := DataW.trod_struct Tryd.underlying66 h
  rw [cellsE] at hl
  match cs, hl with
  | [c0, c1], _ =>
    match xs, hxl with
    | [x0, x1], _ =>
      have h0 : DataW.trod enc Tryd.prog w base sp held n 3 (([c0, c1].drop 0).take (Tryd.prog.cellsOf 3)) = [x0, x1][0]? := hall 0 _ rfl
      have h1 : DataW.trod enc Tryd.prog w base sp held n 64 (([c0, c1].drop 1).take (Tryd.prog.cellsOf 64)) = [x0, x1][1]? := hall 1 _ rfl
      simp only [cellsI, cellsDS, List.drop_zero, List.drop_succ_cons, List.take_succ_cons, List.take_zero, List.getElem?_cons_zero, List.getElem?_cons_succ] at h0 h1
      obtain ⟨v0, e0, _, _⟩ := DataW.trod_int Tryd.underlying3 h0
      obtain ⟨ys, hy⟩ := args_open h1
      simp only [List.cons.injEq, and_true] at e0
      exact ⟨⟨v0, ys⟩, c1, by rw [e0], hy⟩
end
end Go.Proofs.YtcihplachlokiaaDoor
