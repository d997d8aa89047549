/- The table of tests: their signs, flips and swaps. -/
import Derived.Test.YtlgacbjopobeoaaDoorRows
import Derived.WalkKit
import Derived.ProofKit
import Derived.Handy
import Derived.WalkLawsBesides
import Derived.Deep.QuietTactic
import Derived.BigQuiet
import Derived.WalkSpells
import Derived.Lib.LaidU8
import Derived.OpenVars
namespace Go.Proofs.YtlgacbjopobeoaaDoor
open Go.RowKit Go.Lib
set_option linter.unusedVariables false

def cT (k : Int) : ByteArray := if k = 1 then ⟨#[60]⟩ else if k = 2 then ⟨#[60, 61]⟩ else if k = 3 then ⟨#[61]⟩ else if k = 4 then ⟨#[60, 62]⟩ else if k = 5 then ⟨#[62, 61]⟩ else if k = 6 then ⟨#[62]⟩ else ⟨#[]⟩
def cF (k : Int) : Int := if k = 1 then 5 else if k = 2 then 6 else if k = 3 then 4 else if k = 4 then 3 else if k = 5 then 1 else if k = 6 then 2 else 0
def cW (k : Int) : Int := if k = 1 then 6 else if k = 2 then 5 else if k = 3 then 3 else if k = 4 then 4 else if k = 5 then 2 else if k = 6 then 1 else 0
theorem cT_out (k : Int) (h : k < 1 ∨ 7 ≤ k) : cT k = ⟨#[]⟩ := by
  unfold cT
  rw [if_neg (by omega), if_neg (by omega), if_neg (by omega), if_neg (by omega), if_neg (by omega), if_neg (by omega)]
theorem cF_out (k : Int) (h : k < 1 ∨ 7 ≤ k) : cF k = 0 := by
  unfold cF
  rw [if_neg (by omega), if_neg (by omega), if_neg (by omega), if_neg (by omega), if_neg (by omega), if_neg (by omega)]
theorem cW_out (k : Int) (h : k < 1 ∨ 7 ≤ k) : cW k = 0 := by
  unfold cW
  rw [if_neg (by omega), if_neg (by omega), if_neg (by omega), if_neg (by omega), if_neg (by omega), if_neg (by omega)]

/-- The table of tests stands in the memory. -/
def CT (w : World) : Prop := ∀ i : Nat, i < 7 → w.cell? ⟨0, i * 3, none⟩ = some (.string (cT i)) ∧ w.cell? ⟨0, i * 3 + 1, none⟩ = some (.int .i64 (cF i)) ∧ w.cell? ⟨0, i * 3 + 2, none⟩ = some (.int .i64 (cW i))
theorem CT.lt {w : World} (h : CT w) : 0 < w.heap.size := World.block_lt_of_cell? _ _ (h 0 (by omega)).1
theorem CT.later {w w' : World} (h : CT w) (g : Below w.heap.size w w') : CT w' := fun i hi => by
  have := h i hi
  refine ⟨?_, ?_, ?_⟩
  · exact (g.cell (p := ⟨0, i * 3, none⟩) h.lt).trans this.1
  · exact (g.cell (p := ⟨0, i * 3 + 1, none⟩) h.lt).trans this.2.1
  · exact (g.cell (p := ⟨0, i * 3 + 2, none⟩) h.lt).trans this.2.2

theorem ct_named : Tryd.prog.globalNamed "loop.example/stile/impl.cmpRows" = some 0 := by kernel_rfl
theorem ct_type : (Tryd.prog.globals[0]?).map (·.type) = some 69 := by kernel_rfl
theorem cells59 : Tryd.prog.cellsOf 60 = 3 := by kernel_rfl
theorem cells9C : Tryd.prog.cellsOf 9 = 1 := by kernel_rfl
theorem cells3C : Tryd.prog.cellsOf 3 = 1 := by kernel_rfl
theorem ba_listC {s : ByteArray} {l : List UInt8} (h : s.data.toList = l) : s = ⟨l.toArray⟩ := by rw [← h, Lib.mk_data]

set_option maxRecDepth 100000 in
theorem rowC3 {w : World} {base : Nat} {sp : Nat → Bool} {fuel : Nat} {cs : List Value} {s : List UInt8} {z y : Int} {p : List MemPlace}
    (h : DataW.trod (fun _ => ()) Tryd.prog w base sp false fuel 60 cs = some (.agg [.lit (.string s), .lit (.int .i64 z), .lit (.int .i64 y)], p)) :
    cs = [.string ⟨s.toArray⟩, .int .i64 z, .int .i64 y] := by
  obtain ⟨xs, n, rfl, hx, hl, hxl, hall⟩ := DataW.trod_struct Tryd.underlying60 h
  rw [cells59] at hl
  have hxs := congrArg Prod.fst hx
  simp only [DataW.agg.injEq] at hxs
  match cs, hl with
  | [c0, c1, c2], _ =>
    match xs, hxs with
    | [x0, x1, x2], hxs =>
      have h0 : DataW.trod (fun _ => ()) Tryd.prog w base sp false n 9 (([c0, c1, c2].drop 0).take (Tryd.prog.cellsOf 9)) = [x0, x1, x2][0]? := hall 0 _ rfl
      have h1 : DataW.trod (fun _ => ()) Tryd.prog w base sp false n 3 (([c0, c1, c2].drop 1).take (Tryd.prog.cellsOf 3)) = [x0, x1, x2][1]? := hall 1 _ rfl
      have h2 : DataW.trod (fun _ => ()) Tryd.prog w base sp false n 3 (([c0, c1, c2].drop 2).take (Tryd.prog.cellsOf 3)) = [x0, x1, x2][2]? := hall 2 _ rfl
      simp only [cells9C, cells3C, List.drop_zero, List.drop_succ_cons, List.take_succ_cons, List.take_zero, List.getElem?_cons_zero, List.getElem?_cons_succ] at h0 h1 h2
      obtain ⟨v0, e0, rfl, _⟩ := DataW.trod_string Tryd.underlying9 h0
      obtain ⟨v1, e1, rfl, _⟩ := DataW.trod_int Tryd.underlying3 h1
      obtain ⟨v2, e2, rfl, _⟩ := DataW.trod_int Tryd.underlying3 h2
      simp only [List.map_cons, List.map_nil, List.cons.injEq, DataW.lit.injEq, Lit.string.injEq, Lit.int.injEq, true_and, and_true] at hxs e0 e1 e2
      obtain ⟨f0, f1, f2⟩ := hxs
      rw [e0, e1, e2, f1, f2, ba_listC f0.symm]

theorem atC3 {W : World} {cs : Array Value} {n : String} {g : Nat} (hg : Tryd.prog.globalNamed n = some g) (hv : W.var? Tryd.prog n = some cs) {i : Nat} {a b c : Value} (h : (cs.toList.drop (i * 3)).take 3 = [a, b, c]) :
    W.cell? ⟨g, i * 3, none⟩ = some a ∧ W.cell? ⟨g, i * 3 + 1, none⟩ = some b ∧ W.cell? ⟨g, i * 3 + 2, none⟩ = some c := by
  have key : ∀ j, j < 3 → W.cell? ⟨g, i * 3 + j, none⟩ = [a, b, c][j]? := fun j hj => by
    rw [World.var?_cell hg hv, ← h, List.getElem?_take, if_pos hj, List.getElem?_drop]
    simp
  exact ⟨key 0 (by omega), key 1 (by omega), key 2 (by omega)⟩

theorem ct_of_reads {W : World} (h : VarReads Tryd.prog W "loop.example/stile/impl.cmpRows" Rows.laid_loop_example_stile_impl_cmpRows) : CT W := by
  obtain ⟨g, t, cs, fuel, p, hg, ht, hv, hd⟩ := h
  obtain rfl := Option.some.inj (ct_named.symm.trans hg)
  obtain rfl := Option.some.inj (ct_type.symm.trans ht)
  intro i hi
  unfold Rows.laid_loop_example_stile_impl_cmpRows at hd
  obtain ⟨f', d, q, hdi, hr⟩ := Lib.array_elem Tryd.underlying69 hd i hi
  rw [cells59] at hr
  have hc : i = 0 ∨ i = 1 ∨ i = 2 ∨ i = 3 ∨ i = 4 ∨ i = 5 ∨ i = 6 := by omega
  rcases hc with rfl | rfl | rfl | rfl | rfl | rfl | rfl
  all_goals
    obtain rfl := Option.some.inj hdi
    have := atC3 hg hv (rowC3 hr)
    exact this

set_option maxHeartbeats 1000000 in
theorem crow_out (k : Int) (w : World) (h : k < 0 ∨ 7 ≤ k) :
    Calls Tryd.prog 36 #[.int .i64 k] w fun e w' => e = .returned (.agg #[.string ⟨#[]⟩, .int .i64 0, .int .i64 0]) ∧ Below w.heap.size w w' := by
  by_cases h0 : k < 0
  · go_enter Tryd.func36, Tryd.ntmps36
    go_wp2
    go_returns
    exact ⟨rfl, by go_grown⟩
  · have h1 : 7 ≤ k := by omega
    go_enter Tryd.func36, Tryd.ntmps36
    go_wp2
    go_returns
    exact ⟨rfl, by go_grown⟩

set_option maxHeartbeats 1000000 in
theorem crow_in (i : Nat) (S : ByteArray) (z y : Int) (w : World) (hi : i < 7)
   (h0 : w.cell? ⟨0, i * 3, none⟩ = some (.string S)) (h1 : w.cell? ⟨0, i * 3 + 1, none⟩ = some (.int .i64 z)) (h2 : w.cell? ⟨0, i * 3 + 2, none⟩ = some (.int .i64 y)) :
    Calls Tryd.prog 36 #[.int .i64 i] w fun e w' => e = .returned (.agg #[.string S, .int .i64 z, .int .i64 y]) ∧ Below w.heap.size w w' := by
  have i0 : ¬ ((i : Int) < 0) := by omega
  have i1 : (i : Int) < 7 := by omega
  have hl : 0 < w.heap.size := World.block_lt_of_cell? _ _ h0
  have q0 : ∀ o : Obj, (w.alloc o).cell? ⟨0, i * 3, none⟩ = some (.string S) := fun o => (World.cell?_alloc_past _ _ _ hl).trans h0
  have q1 : ∀ o : Obj, (w.alloc o).cell? ⟨0, i * 3 + 1, none⟩ = some (.int .i64 z) := fun o => (World.cell?_alloc_past _ _ _ hl).trans h1
  have q2 : ∀ o : Obj, (w.alloc o).cell? ⟨0, i * 3 + 2, none⟩ = some (.int .i64 y) := fun o => (World.cell?_alloc_past _ _ _ hl).trans h2
  go_enter Tryd.func36, Tryd.ntmps36
  go_wp2
  go_returns
  exact ⟨rfl, by go_grown⟩

theorem crow_of (k : Int) (w : World) (h : CT w) :
    Calls Tryd.prog 36 #[.int .i64 k] w fun e w' => e = .returned (.agg #[.string (cT k), .int .i64 (cF k), .int .i64 (cW k)]) ∧ Below w.heap.size w w' := by
  by_cases h0 : k < 0 ∨ 7 ≤ k
  · rw [cT_out k (by omega), cF_out k (by omega), cW_out k (by omega)]
    exact crow_out k w h0
  · obtain ⟨i, rfl⟩ := Int.eq_ofNat_of_zero_le (by omega : 0 ≤ k)
    obtain ⟨h1, h2, h3⟩ := h i (by omega)
    exact crow_in i _ _ _ w (by omega) h1 h2 h3

theorem fldC0 (a b c : Value) (w : World) : (Instr.field 60 (.agg #[a, b, c]) 0).run Tryd.prog w = .ok a w := by kernel_rfl
theorem fldC1 (a b c : Value) (w : World) : (Instr.field 60 (.agg #[a, b, c]) 1).run Tryd.prog w = .ok b w := by kernel_rfl
theorem fldC2 (a b c : Value) (w : World) : (Instr.field 60 (.agg #[a, b, c]) 2).run Tryd.prog w = .ok c w := by kernel_rfl
attribute [go_sem] fldC0 fldC1 fldC2

set_option maxHeartbeats 1000000 in
theorem impl_flip (k : Int) (w : World) (h : CT w) :
    Calls Tryd.prog 28 #[.int .i64 k] w fun e w' => e = .returned (.int .i64 (cF k)) ∧ Below w.heap.size w w' := by
  go_enter Tryd.func28, Tryd.ntmps28
  go_wp2_with fail
  refine (crow_of k _ h).mono ?_
  rintro e w1 ⟨rfl, g1⟩
  go_wp2
  go_ret
  exact ⟨rfl, g1⟩

theorem opc (k : Int) : (k < 1 ∨ 7 ≤ k) ∨ k = 1 ∨ k = 2 ∨ k = 3 ∨ k = 4 ∨ k = 5 ∨ k = 6 := by omega

set_option maxHeartbeats 1000000 in
theorem spec_flip (k : Int) (w : World) :
    Calls Tryd.prog 14 #[.int .i64 k] w fun e w' => e = .returned (.int .i64 (cF k)) ∧ Below w.heap.size w w' := by
  rcases opc k with h | rfl | rfl | rfl | rfl | rfl | rfl
  · rw [cF_out k h]
    by_cases h1 : k < 1
    · go_enter Tryd.func14, Tryd.ntmps14
      go_wp2
      go_ret
      exact ⟨rfl, Below.refl _ _⟩
    · have h2 : 6 < k := by omega
      go_enter Tryd.func14, Tryd.ntmps14
      go_wp2
      go_ret
      exact ⟨rfl, Below.refl _ _⟩
  all_goals
    go_enter Tryd.func14, Tryd.ntmps14
    go_wp2
    go_returns
    exact ⟨rfl, by go_grown⟩

end Go.Proofs.YtlgacbjopobeoaaDoor
