/- Writes handed in; the law FnExactHoldPlay, at what comes in. -/
import Derived.Test.YtfhdpafaamkipaaHpo
import Derived.Test.YtfhdpafaamkipaaHfr
import Derived.Deep.Slices
namespace Go.Proofs.Ytfhdpafaamkipaa
open Go.RowKit
set_option linter.unusedVariables false
set_option linter.unusedSimpArgs false

theorem cellsHW : Try.prog.cellsOf 46 = 3 := by kernel_rfl
theorem cellsInt : Try.prog.cellsOf 3 = 1 := by kernel_rfl
set_option maxRecDepth 100000 in
theorem row3w {H : Type} {enc : TypeId × Value → H} {w : World} {base : Nat} {sp : Nat → Bool} {held : Bool} {fuel : Nat} {cs : List Value} {x : DataW H × List MemPlace}
    (h : DataW.trod enc Try.prog w base sp held fuel 46 cs = some x) :
    ∃ y : WrT, y.byte < 256 ∧ cs = [.int .i64 y.kind, .int .i64 y.slot, .int .u8 (y.byte : Nat)] := by
  obtain ⟨xs, n, hk, hx, hl, hxl, hall⟩ := DataW.trod_struct Try.underlying46 h
  rw [cellsHW] at hl
  match cs, hl with
  | [c0, c1, c2], _ =>
    match xs, hxl with
    | [x0, x1, x2], _ =>
      have h0 : DataW.trod enc Try.prog w base sp held n 3 (([c0, c1, c2].drop 0).take (Try.prog.cellsOf 3)) = [x0, x1, x2][0]? := hall 0 _ rfl
      have h1 : DataW.trod enc Try.prog w base sp held n 3 (([c0, c1, c2].drop 1).take (Try.prog.cellsOf 3)) = [x0, x1, x2][1]? := hall 1 _ rfl
      have h2 : DataW.trod enc Try.prog w base sp held n 5 (([c0, c1, c2].drop 2).take (Try.prog.cellsOf 5)) = [x0, x1, x2][2]? := hall 2 _ rfl
      simp only [cellsInt, cellsU8, List.drop_zero, List.drop_succ_cons, List.take_succ_cons, List.take_zero, List.getElem?_cons_zero, List.getElem?_cons_succ] at h0 h1 h2
      obtain ⟨v0, e0, _, _⟩ := DataW.trod_int Try.underlying3 h0
      obtain ⟨v1, e1, _, _⟩ := DataW.trod_int Try.underlying3 h1
      obtain ⟨v2, e2, _, w2⟩ := DataW.trod_int Try.underlying5 h2
      simp only [List.cons.injEq, and_true] at e0 e1 e2
      have b2 := u8_bounds w2
      refine ⟨⟨v0, v1, v2.toNat⟩, by show v2.toNat < 256; omega, ?_⟩
      rw [e0, e1, e2, show ((v2.toNat : Nat) : Int) = v2 by omega]
/-- Writes that came in. -/
def WrsIn (w : World) (v : Value) : Prop := ∃ (a : Option Addr) (n c : Nat) (ws : List WrT), v = .slice a n c ∧ n = ws.length ∧ n ≤ 9223372036854775807 ∧ WsA w a n (fW ws)
set_option maxRecDepth 100000 in
theorem wrs_open {H : Type} {enc : TypeId × Value → H} {w : World} {base : Nat} {sp : Nat → Bool} {held : Bool} {fuel : Nat} {a : Option Addr} {n c : Nat} {x : DataW H × List MemPlace}
    (h : DataW.trod enc Try.prog w base sp held fuel 53 (Value.slice a n c).cells.toList = some x) : WrsIn w (.slice a n c) := by
  have h : DataW.trod enc Try.prog w base sp held fuel 53 [Value.slice a n c] = some x := h
  rcases Go.Deep.open_slice Try.underlying53 h with ⟨h0, _⟩ | ⟨a, len, cap, m, nn, D, Pl, hc, _, hl, hm, hmm, _, hx⟩
  · simp only [List.cons.injEq, and_true] at h0
    exact ⟨none, 0, 0, [], h0, rfl, by omega, .inl rfl⟩
  · simp only [List.cons.injEq, and_true] at hc
    have hlm : len ≤ m := by rw [hmm]; split <;> omega
    rw [cellsHW] at hx
    have key : ∀ i, ∃ y : WrT, i < len → w.cell? (a.add (i * 3)) = some (.int .i64 y.kind) ∧ w.cell? ((a.add (i * 3)).add 1) = some (.int .i64 y.slot) ∧ w.cell? ((a.add (i * 3)).add 2) = some (.int .u8 (y.byte : Nat)) := by
      intro i
      by_cases hi : i < len
      · obtain ⟨cs', h1, h2⟩ := hx i (by omega)
        obtain ⟨y, _, rfl⟩ := row3w h2
        obtain ⟨_, _, hcell⟩ := World.cells?_some h1
        refine ⟨y, fun _ => ⟨?_, ?_, ?_⟩⟩
        · have := hcell 0 (by omega); simpa [Addr.add] using this
        · exact hcell 1 (by omega)
        · exact hcell 2 (by omega)
      · exact ⟨⟨0, 0, 0⟩, fun h => absurd h hi⟩
    obtain ⟨K, hF⟩ := Classical.axiomOfChoice key
    refine ⟨some a, len, cap, (List.range len).map K, hc, by simp, by unfold maxLen at hm; omega, ?_⟩
    by_cases h0 : len = 0
    · exact .inl h0
    · right
      obtain ⟨b, off, spot⟩ := a
      have hspot : spot = none := by
        have := World.cell?_spot (hF 0 (by omega)).1
        simpa [Addr.add] using this
      subst hspot
      have ad : ∀ k, (⟨b, off, none⟩ : Addr).add k = ⟨b, off + k, none⟩ := fun k => by unfold Addr.add; split <;> simp_all
      have ad2 : ∀ o' k, (⟨b, o', none⟩ : Addr).add k = ⟨b, o' + k, none⟩ := fun o' k => by unfold Addr.add; split <;> simp_all
      have hlt := World.block_lt_of_cell? _ _ (hF 0 (by omega)).1
      rw [ad] at hlt
      refine ⟨b, off, rfl, hlt, fun j hj => ?_⟩
      have hxj : fW ((List.range len).map K) j = K j := by
        unfold fW
        rw [List.getD_eq_getElem?_getD, List.getElem?_map, List.getElem?_range hj]
        rfl
      rw [hxj]
      obtain ⟨q0, q1, q2⟩ := hF j hj
      rw [ad] at q0 q1 q2
      rw [ad2] at q1 q2
      exact ⟨q0, q1, q2⟩
theorem walk_hplay (cs : Array Value) (v : Value) (k0 : Int) (w : World) (h : RomIn w (.agg cs)) (h' : WrsIn w v) (hk : (Lit.int .i64 k0).wf = true) :
    Calls Try.prog 8 #[.agg cs, v, .int .i64 k0] w fun e w' => e = .returned (.bool true) ∧ Below w.heap.size w w' := by
  obtain ⟨r, xa, xb, na, ca, nb, cb, e, h1, h2, h3, h4, h5, h6, h7⟩ := h
  obtain ⟨a, n, c, ws, rfl, d1, d2, d3⟩ := h'
  rw [e]
  exact law_hplay r xa xb na ca nb cb a n c ws k0 w h1 h2 h3 h6 h7 d1 d2 d3
end Go.Proofs.Ytfhdpafaamkipaa
