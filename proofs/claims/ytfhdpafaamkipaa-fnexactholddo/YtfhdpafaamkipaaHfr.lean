/- Stores handed in. -/
import Derived.Test.YtfhdpafaamkipaaHia
import Derived.ChangeSlices
import Derived.ChangeArms
import Derived.OpenShut
namespace Go.Proofs.Ytfhdpafaamkipaa
open Go.RowKit Go.ChangeShapes Go.WideShapes Go.ChangeAt
set_option linter.unusedVariables false

section
variable {H : Type} {enc : TypeId × Value → H} {w : World} {base : Nat} {sp : Nat → Bool} {held : Bool}
theorem u8_bounds {z : Int} (h : (Lit.int .u8 z).wf = true) : 0 ≤ z ∧ z < 256 := by
  simp [Lit.wf, IntKind.min, IntKind.max, IntKind.signed, IntKind.bits] at h
  exact ⟨by omega, by omega⟩
theorem list_of (n : Nat) (f : Nat → Nat) (hf : ∀ j, f j < 256) : ∃ l : List Nat, l.length = n ∧ (∀ x ∈ l, x < 256) ∧ ∀ j, j < n → f j = fL l j := by
  refine ⟨(List.range n).map f, by simp, fun x hx => ?_, fun j hj => ?_⟩
  · obtain ⟨j, _, rfl⟩ := List.mem_map.1 hx
    exact hf j
  · unfold fL
    rw [List.getD_eq_getElem?_getD, List.getElem?_map, List.getElem?_range hj]
    rfl
/-- Bytes that came in. -/
theorem bs_open {fuel : Nat} {v : Value} {x : DataW H × List MemPlace} (h : DataW.trod enc Try.prog w base sp held fuel 22 [v] = some x) :
    ∃ (a : Option Addr) (n c : Nat) (l : List Nat), v = .slice a n c ∧ l.length = n ∧ n ≤ 9223372036854775807 ∧ (∀ x ∈ l, x < 256) ∧ Bt w a n (fL l) := by
  rcases open_ints Try.underlying22 Try.underlying5 (by kernel_rfl) h with ⟨hcs, _⟩ | ⟨ad, len, cap, zs, hcs, _, hl, hm, hz, _, hc, hw⟩
  · simp only [List.cons.injEq, and_true] at hcs
    subst hcs
    exact ⟨none, 0, 0, [], rfl, rfl, by omega, by simp, .inl rfl⟩
  · simp only [List.cons.injEq, and_true] at hcs
    subst hcs
    have hlz : len ≤ zs.length := by rw [hz]; split <;> omega
    obtain ⟨l, e1, e2, e3⟩ := list_of len (fun j => (zs.getD j 0).toNat % 256) (fun j => Nat.mod_lt _ (by decide))
    refine ⟨some ad, len, cap, l, rfl, e1, by unfold maxLen at hm; omega, e2, ?_⟩
    by_cases h0 : len = 0
    · exact .inl h0
    · obtain ⟨b, off, spot⟩ := ad
      have hc0 := hc 0 (by omega)
      have hspot : spot = none := by simpa [Addr.add] using World.cell?_spot hc0
      subst hspot
      have hlt := World.block_lt_of_cell? _ _ hc0
      refine .inr ⟨b, off, rfl, by simpa [Addr.add] using hlt, fun j hj => ?_⟩
      have h := hc j (by omega)
      have hm : zs.getD j 0 ∈ zs := by
        rw [List.getD_eq_getElem?_getD, List.getElem?_eq_getElem (by omega)]
        exact List.getElem_mem (by omega)
      have hb := u8_bounds (hw _ hm)
      have e4 : (((zs.getD j 0).toNat % 256 : Nat) : Int) = zs.getD j 0 := by omega
      rw [← e3 j hj, e4]
      by_cases e : j = 0
      · subst e; simpa [Addr.add] using h
      · simpa [Addr.add, e] using h
theorem cellsHS : Try.prog.cellsOf 43 = 3 := by kernel_rfl
theorem cellsHR : Try.prog.cellsOf 45 = 6 := by kernel_rfl
theorem cellsU8 : Try.prog.cellsOf 5 = 1 := by kernel_rfl
theorem cellsBs : Try.prog.cellsOf 22 = 1 := by kernel_rfl
/-- A slot that came in. -/
theorem hs_open {fuel : Nat} {c0 c1 c2 : Value} {x : DataW H × List MemPlace} (h : DataW.trod enc Try.prog w base sp held fuel 43 [c0, c1, c2] = some x) :
    ∃ (m t : Nat) (a : Option Addr) (n c : Nat) (l : List Nat), c0 = .int .u8 m ∧ c1 = .int .u8 t ∧ c2 = .slice a n c ∧ m < 256 ∧ t < 256 ∧ l.length = n ∧ n ≤ 9223372036854775807 ∧ (∀ x ∈ l, x < 256) ∧ Bt w a n (fL l) := by
  obtain ⟨xs, n, hk, hx, hl, hxl, hall⟩ := DataW.trod_struct Try.underlying43 h
  match xs, hxl with
  | [x0, x1, x2], _ =>
    have h0 : DataW.trod enc Try.prog w base sp held n 5 (([c0, c1, c2].drop 0).take (Try.prog.cellsOf 5)) = [x0, x1, x2][0]? := hall 0 _ rfl
    have h1 : DataW.trod enc Try.prog w base sp held n 5 (([c0, c1, c2].drop 1).take (Try.prog.cellsOf 5)) = [x0, x1, x2][1]? := hall 1 _ rfl
    have h2 : DataW.trod enc Try.prog w base sp held n 22 (([c0, c1, c2].drop 2).take (Try.prog.cellsOf 22)) = [x0, x1, x2][2]? := hall 2 _ rfl
    simp only [cellsU8, cellsBs, List.drop_zero, List.drop_succ_cons, List.take_succ_cons, List.take_zero, List.getElem?_cons_zero, List.getElem?_cons_succ] at h0 h1 h2
    obtain ⟨v0, e0, _, w0⟩ := DataW.trod_int Try.underlying5 h0
    obtain ⟨v1, e1, _, w1⟩ := DataW.trod_int Try.underlying5 h1
    obtain ⟨a, m, c, l, e2, q1, q2, q3, q4⟩ := bs_open h2
    simp only [List.cons.injEq, and_true] at e0 e1
    have b0 := u8_bounds w0
    have b1 := u8_bounds w1
    exact ⟨v0.toNat, v1.toNat, a, m, c, l, by rw [e0]; congr 1; omega, by rw [e1]; congr 1; omega, e2, by omega, by omega, q1, q2, q3, q4⟩
/-- A store that came in. -/
def RomIn (w : World) (v : Value) : Prop :=
  ∃ (r : RomT) (xa xb : Option Addr) (na ca nb cb : Nat), v = romV r xa xb na ca nb cb ∧ RomOk r na nb ∧ na ≤ 9223372036854775807 ∧ nb ≤ 9223372036854775807 ∧ (∀ x ∈ r.a.data, x < 256) ∧ (∀ x ∈ r.b.data, x < 256) ∧ Bt w xa na (fL r.a.data) ∧ Bt w xb nb (fL r.b.data)
set_option maxRecDepth 100000 in
theorem rom_open {fuel : Nat} {cs : Array Value} {x : DataW H × List MemPlace} (h : DataW.trod enc Try.prog w base sp held fuel 45 cs.toList = some x) : RomIn w (.agg cs) := by
  obtain ⟨xs, n, hk, hx, hl, hxl, hall⟩ := DataW.trod_struct Try.underlying45 h
  rw [cellsHR] at hl
  obtain ⟨cs⟩ := cs
  simp only at hl hall h
  match cs, hl with
  | [c0, c1, c2, c3, c4, c5], _ =>
    match xs, hxl with
    | [x0, x1], _ =>
      have h0 : DataW.trod enc Try.prog w base sp held n 43 (([c0, c1, c2, c3, c4, c5].drop 0).take (Try.prog.cellsOf 43)) = [x0, x1][0]? := hall 0 _ rfl
      have h1 : DataW.trod enc Try.prog w base sp held n 43 (([c0, c1, c2, c3, c4, c5].drop 3).take (Try.prog.cellsOf 43)) = [x0, x1][1]? := hall 1 _ rfl
      simp only [cellsHS, List.drop_zero, List.drop_succ_cons, List.take_succ_cons, List.take_zero, List.getElem?_cons_zero, List.getElem?_cons_succ] at h0 h1
      obtain ⟨m, t, a, k, c, l, rfl, rfl, rfl, p1, p2, p3, p4, p5, p6⟩ := hs_open h0
      obtain ⟨m', t', a', k', c', l', rfl, rfl, rfl, q1, q2, q3, q4, q5, q6⟩ := hs_open h1
      exact ⟨⟨⟨m, t, l⟩, ⟨m', t', l'⟩⟩, a, a', k, c, k', c', rfl, ⟨⟨p1, p2, p3⟩, q1, q2, q3⟩, p4, q4, p5, q5, p6, q6⟩
end
end Go.Proofs.Ytfhdpafaamkipaa
