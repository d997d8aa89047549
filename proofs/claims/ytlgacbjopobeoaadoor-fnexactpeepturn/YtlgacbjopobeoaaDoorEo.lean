/- An argument of the laws' type Elem, opened. -/
import Derived.Test.YtlgacbjopobeoaaDoorEcM
import Derived.Deep.Slices
import Derived.Lib.LaidU8
namespace Go.Proofs.YtlgacbjopobeoaaDoor
open Go.RowKit Go.Lib
set_option linter.unusedVariables false

theorem cellsDE : Tryd.prog.cellsOf 48 = 3 := by kernel_rfl

set_option maxRecDepth 100000 in
theorem row3 {H : Type} {enc : TypeId × Value → H} {w : World} {base : Nat} {sp : Nat → Bool} {held : Bool} {fuel : Nat} {cs : List Value} {x : DataW H × List MemPlace}
    (h : DataW.trod enc Tryd.prog w base sp held fuel 48 cs = some x) :
    ∃ a b c : Int, cs = [.int .i64 a, .int .i64 b, .int .i64 c] := by
  obtain ⟨xs, n, hk, hx, hl, hxl, hall⟩ := DataW.trod_struct Tryd.underlying48 h
  rw [cellsDE] at hl
  match cs, hl with
  | [c0, c1, c2], _ =>
    match xs, hxl with
    | [x0, x1, x2], _ =>
      have h0 : DataW.trod enc Tryd.prog w base sp held n 3 (([c0, c1, c2].drop 0).take (Tryd.prog.cellsOf 3)) = [x0, x1, x2][0]? := hall 0 _ rfl
      have h1 : DataW.trod enc Tryd.prog w base sp held n 3 (([c0, c1, c2].drop 1).take (Tryd.prog.cellsOf 3)) = [x0, x1, x2][1]? := hall 1 _ rfl
      have h2 : DataW.trod enc Tryd.prog w base sp held n 3 (([c0, c1, c2].drop 2).take (Tryd.prog.cellsOf 3)) = [x0, x1, x2][2]? := hall 2 _ rfl
      simp only [cells3, List.drop_zero, List.drop_succ_cons, List.take_succ_cons, List.take_zero, List.getElem?_cons_zero, List.getElem?_cons_succ] at h0 h1 h2
      obtain ⟨v0, e0, _, _⟩ := DataW.trod_int Tryd.underlying3 h0
      obtain ⟨v1, e1, _, _⟩ := DataW.trod_int Tryd.underlying3 h1
      obtain ⟨v2, e2, _, _⟩ := DataW.trod_int Tryd.underlying3 h2
      simp only [List.cons.injEq, and_true] at e0 e1 e2
      exact ⟨v0, v1, v2, by rw [e0, e1, e2]⟩

set_option maxRecDepth 100000 in
theorem sl_of_trod {H : Type} {enc : TypeId × Value → H} {w : World} {base : Nat} {sp : Nat → Bool} {held : Bool} {fuel : Nat} {v : Value} {x : DataW H × List MemPlace}
    (h : DataW.trod enc Tryd.prog w base sp held fuel 22 [v] = some x) :
    ∃ (a : Option Addr) (len cap : Nat) (xs : List Arg), v = .slice a len cap ∧ len = xs.length ∧ len ≤ 9223372036854775807 ∧ Sl w a xs := by
  rcases Go.Deep.open_slice Tryd.underlying22 h with ⟨h0, _⟩ | ⟨a, len, cap, m, n, D, Pl, hc, _, hl, hm, hmm, _, hx⟩
  · simp only [List.cons.injEq, and_true] at h0
    exact ⟨none, 0, 0, [], h0, rfl, by omega, .inl rfl⟩
  · simp only [List.cons.injEq, and_true] at hc
    have hlm : len ≤ m := by rw [hmm]; split <;> omega
    rw [cellsDE] at hx
    have key : ∀ i, ∃ x : Arg, i < len → w.cell? (a.add (i * 3)) = some (.int .i64 x.1) ∧ w.cell? ((a.add (i * 3)).add 1) = some (.int .i64 x.2.1) ∧ w.cell? ((a.add (i * 3)).add 2) = some (.int .i64 x.2.2) := by
      intro i
      by_cases hi : i < len
      · obtain ⟨cs', h1, h2⟩ := hx i (by omega)
        obtain ⟨k, nn, p, rfl⟩ := row3 h2
        obtain ⟨_, _, hcell⟩ := World.cells?_some h1
        refine ⟨(k, nn, p), fun _ => ⟨?_, ?_, ?_⟩⟩
        · have := hcell 0 (by omega); simpa [Addr.add] using this
        · exact hcell 1 (by omega)
        · exact hcell 2 (by omega)
      · exact ⟨(0, 0, 0), fun h => absurd h hi⟩
    obtain ⟨F, hF⟩ := Classical.axiomOfChoice key
    refine ⟨some a, len, cap, (List.range len).map F, hc, by simp, by unfold maxLen at hm; omega, ?_⟩
    by_cases h0 : len = 0
    · subst h0; exact .inl rfl
    · right
      obtain ⟨b, off, spot⟩ := a
      have hspot : spot = none := by
        have := World.cell?_spot (hF 0 (by omega)).1
        simpa [Addr.add] using this
      subst hspot
      refine ⟨b, off, rfl, ?_⟩
      intro j x hj
      have hjl : j < len := by have := (List.getElem?_eq_some_iff.1 hj).1; simpa using this
      have hxj : x = F j := by
        rw [List.getElem?_map, List.getElem?_range hjl] at hj
        exact (Option.some.inj hj).symm
      subst hxj
      obtain ⟨q0, q1, q2⟩ := hF j hjl
      have ad : ∀ k, (⟨b, off, none⟩ : Addr).add k = ⟨b, off + k, none⟩ := fun k => by unfold Addr.add; split <;> simp_all
      have ad2 : ∀ o' k, (⟨b, o', none⟩ : Addr).add k = ⟨b, o' + k, none⟩ := fun o' k => by unfold Addr.add; split <;> simp_all
      rw [ad] at q0 q1 q2
      rw [ad2] at q1 q2
      exact ⟨q0, q1, q2⟩
end Go.Proofs.YtlgacbjopobeoaaDoor
