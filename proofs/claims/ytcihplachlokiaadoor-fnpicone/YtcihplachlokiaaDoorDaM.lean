/- The table of kinds, and the walks of devKindOf, DevSize and DevLetter (the program's and the specification's). -/
import Derived.Test.YtcihplachlokiaaDoorRows
import Derived.WalkKit
import Derived.ProofKit
import Derived.Handy
import Derived.WalkLawsBesides
import Derived.Deep.QuietTactic
import Derived.BigQuiet
import Derived.Lib.LaidU8
import Derived.OpenVars
import Derived.Deep.RegionWith
import Derived.WalkSpells
import Derived.Deep.Light
import Derived.Deep.AppendLies
import Derived.Maps.Range
import Derived.Maps.AppendAt
namespace Go.Proofs.YtcihplachlokiaaDoor
open Go.RowKit
set_option linter.unusedVariables false

def kL (k : Int) : ByteArray := if k = 1 then ⟨#[88]⟩ else if k = 2 then ⟨#[89]⟩ else if k = 3 then ⟨#[77]⟩ else if k = 4 then ⟨#[83]⟩ else if k = 5 then ⟨#[69]⟩ else if k = 6 then ⟨#[71]⟩ else if k = 7 then ⟨#[84]⟩ else if k = 8 then ⟨#[67]⟩ else if k = 9 then ⟨#[68]⟩ else if k = 10 then ⟨#[82]⟩ else ⟨#[]⟩
def kS (k : Int) : Int := if k = 1 then 32 else if k = 2 then 32 else if k = 3 then 64 else if k = 4 then 16 else if k = 5 then 32 else if k = 6 then 5 else if k = 7 then 16 else if k = 8 then 16 else if k = 9 then 32 else if k = 10 then 16 else 0
def kB (k : Int) : Bool := decide (k = 1) || decide (k = 2) || decide (k = 3) || decide (k = 4) || decide (k = 6) || decide (k = 7) || decide (k = 8)
def kW (k : Int) : Bool := decide (k = 7) || decide (k = 8) || decide (k = 9) || decide (k = 11)
def kR (k : Int) : Bool := decide (k = 10) || decide (k = 12) || decide (k = 13)

theorem kL_out (k : Int) (h : k ≤ 0 ∨ 11 ≤ k) : kL k = ⟨#[]⟩ := by
  unfold kL
  rw [if_neg (by omega), if_neg (by omega), if_neg (by omega), if_neg (by omega), if_neg (by omega), if_neg (by omega), if_neg (by omega), if_neg (by omega), if_neg (by omega), if_neg (by omega)]
theorem kS_out (k : Int) (h : k ≤ 0 ∨ 11 ≤ k) : kS k = 0 := by
  unfold kS
  rw [if_neg (by omega), if_neg (by omega), if_neg (by omega), if_neg (by omega), if_neg (by omega), if_neg (by omega), if_neg (by omega), if_neg (by omega), if_neg (by omega), if_neg (by omega)]
theorem kB_out (k : Int) (h : k ≤ 0 ∨ 14 ≤ k) : kB k = false := by simp [kB]; omega
theorem kW_out (k : Int) (h : k ≤ 0 ∨ 14 ≤ k) : kW k = false := by simp [kW]; omega
theorem kR_out (k : Int) (h : k ≤ 0 ∨ 14 ≤ k) : kR k = false := by simp [kR]; omega

/-- The table of kinds stands in the memory. -/
def KT (w : World) : Prop := ∀ i : Nat, i < 14 → w.cell? ⟨0, i * 5, none⟩ = some (.string (kL i)) ∧ w.cell? ⟨0, i * 5 + 1, none⟩ = some (.int .i64 (kS i)) ∧ w.cell? ⟨0, i * 5 + 2, none⟩ = some (.bool (kB i)) ∧ w.cell? ⟨0, i * 5 + 3, none⟩ = some (.bool (kW i)) ∧ w.cell? ⟨0, i * 5 + 4, none⟩ = some (.bool (kR i))

theorem KT.lt {w : World} (h : KT w) : 0 < w.heap.size := World.block_lt_of_cell? _ _ (h 0 (by omega)).1
theorem KT.below {w w' : World} (h : KT w) {B : Nat} (hB : 0 < B) (g : Below B w w') : KT w' := fun i hi => by
  have := h i hi
  refine ⟨?_, ?_, ?_, ?_, ?_⟩
  · exact (g.cell (p := ⟨0, i * 5, none⟩) hB).trans this.1
  · exact (g.cell (p := ⟨0, i * 5 + 1, none⟩) hB).trans this.2.1
  · exact (g.cell (p := ⟨0, i * 5 + 2, none⟩) hB).trans this.2.2.1
  · exact (g.cell (p := ⟨0, i * 5 + 3, none⟩) hB).trans this.2.2.2.1
  · exact (g.cell (p := ⟨0, i * 5 + 4, none⟩) hB).trans this.2.2.2.2
theorem KT.later {w w' : World} (h : KT w) (g : Below w.heap.size w w') : KT w' := h.below h.lt g
theorem KT.alloc {w : World} (h : KT w) (o : Obj) : KT (w.alloc o) := h.later ((Below.refl _ _).alloc (Nat.le_refl _) _)

set_option maxHeartbeats 1000000 in
theorem kind_out (k : Int) (w : World) (h : k < 0 ∨ 14 ≤ k) :
    Calls Tryd.prog 116 #[.int .i64 k] w fun e w' => e = .returned (.agg #[.string ⟨#[]⟩, .int .i64 0, .bool false, .bool false, .bool false]) ∧ Below w.heap.size w w' := by
  by_cases h0 : k < 0
  · go_enter Tryd.func116, Tryd.ntmps116
    go_wp2
    go_returns
    exact ⟨rfl, by go_grown⟩
  · have h1 : 14 ≤ k := by omega
    go_enter Tryd.func116, Tryd.ntmps116
    go_wp2
    go_returns
    exact ⟨rfl, by go_grown⟩

set_option maxHeartbeats 1000000 in
theorem kind_in (i : Nat) (S : ByteArray) (z : Int) (a b c : Bool) (w : World) (hi : i < 14)
   (h0 : w.cell? ⟨0, i * 5, none⟩ = some (.string S)) (h1 : w.cell? ⟨0, i * 5 + 1, none⟩ = some (.int .i64 z)) (h2 : w.cell? ⟨0, i * 5 + 2, none⟩ = some (.bool a)) (h3 : w.cell? ⟨0, i * 5 + 3, none⟩ = some (.bool b)) (h4 : w.cell? ⟨0, i * 5 + 4, none⟩ = some (.bool c)) :
    Calls Tryd.prog 116 #[.int .i64 i] w fun e w' => e = .returned (.agg #[.string S, .int .i64 z, .bool a, .bool b, .bool c]) ∧ Below w.heap.size w w' := by
  have i0 : ¬ ((i : Int) < 0) := by omega
  have i1 : (i : Int) < 14 := by omega
  have hl : 0 < w.heap.size := World.block_lt_of_cell? _ _ h0
  have q0 : ∀ o : Obj, (w.alloc o).cell? ⟨0, i * 5, none⟩ = some (.string S) := fun o => (World.cell?_alloc_past _ _ _ hl).trans h0
  have q1 : ∀ o : Obj, (w.alloc o).cell? ⟨0, i * 5 + 1, none⟩ = some (.int .i64 z) := fun o => (World.cell?_alloc_past _ _ _ hl).trans h1
  have q2 : ∀ o : Obj, (w.alloc o).cell? ⟨0, i * 5 + 2, none⟩ = some (.bool a) := fun o => (World.cell?_alloc_past _ _ _ hl).trans h2
  have q3 : ∀ o : Obj, (w.alloc o).cell? ⟨0, i * 5 + 3, none⟩ = some (.bool b) := fun o => (World.cell?_alloc_past _ _ _ hl).trans h3
  have q4 : ∀ o : Obj, (w.alloc o).cell? ⟨0, i * 5 + 4, none⟩ = some (.bool c) := fun o => (World.cell?_alloc_past _ _ _ hl).trans h4
  go_enter Tryd.func116, Tryd.ntmps116
  go_wp2
  go_returns
  exact ⟨rfl, by go_grown⟩

theorem kind_of (k : Int) (w : World) (h : KT w) :
    Calls Tryd.prog 116 #[.int .i64 k] w fun e w' => e = .returned (.agg #[.string (kL k), .int .i64 (kS k), .bool (kB k), .bool (kW k), .bool (kR k)]) ∧ Below w.heap.size w w' := by
  by_cases h0 : k < 0 ∨ 14 ≤ k
  · rw [kL_out k (by omega), kS_out k (by omega), kB_out k (by omega), kW_out k (by omega), kR_out k (by omega)]
    exact kind_out k w h0
  · obtain ⟨i, rfl⟩ := Int.eq_ofNat_of_zero_le (by omega : 0 ≤ k)
    obtain ⟨h1, h2, h3, h4, h5⟩ := h i (by omega)
    exact kind_in i _ _ _ _ _ w (by omega) h1 h2 h3 h4 h5

theorem field0 (a b c d e : Value) (w : World) : (Instr.field 130 (.agg #[a, b, c, d, e]) 0).run Tryd.prog w = .ok a w := by kernel_rfl
theorem field1 (a b c d e : Value) (w : World) : (Instr.field 130 (.agg #[a, b, c, d, e]) 1).run Tryd.prog w = .ok b w := by kernel_rfl
theorem field2 (a b c d e : Value) (w : World) : (Instr.field 130 (.agg #[a, b, c, d, e]) 2).run Tryd.prog w = .ok c w := by kernel_rfl
theorem field3 (a b c d e : Value) (w : World) : (Instr.field 130 (.agg #[a, b, c, d, e]) 3).run Tryd.prog w = .ok d w := by kernel_rfl
theorem field4 (a b c d e : Value) (w : World) : (Instr.field 130 (.agg #[a, b, c, d, e]) 4).run Tryd.prog w = .ok e w := by kernel_rfl
attribute [go_sem] field0 field1 field2 field3 field4

set_option maxHeartbeats 1000000 in
theorem impl_size (k : Int) (w : World) (h : KT w) :
    Calls Tryd.prog 119 #[.int .i64 k] w fun e w' => e = .returned (.int .i64 (kS k)) ∧ Below w.heap.size w w' := by
  go_enter Tryd.func119, Tryd.ntmps119
  go_wp2_with fail
  refine (kind_of k _ h).mono ?_
  rintro e w1 ⟨rfl, g1⟩
  go_wp2
  go_ret
  exact ⟨rfl, g1⟩

theorem k_cases (k : Int) : (k ≤ 0 ∨ 11 ≤ k) ∨ k = 1 ∨ k = 2 ∨ k = 3 ∨ k = 4 ∨ k = 5 ∨ k = 6 ∨ k = 7 ∨ k = 8 ∨ k = 9 ∨ k = 10 := by omega

set_option maxHeartbeats 2000000 in
theorem spec_size (k : Int) (w : World) :
    Calls Tryd.prog 101 #[.int .i64 k] w fun e w' => e = .returned (.int .i64 (kS k)) ∧ w' = w := by
  rcases k_cases k with h | rfl | rfl | rfl | rfl | rfl | rfl | rfl | rfl | rfl | rfl
  · rw [kS_out k h]
    have n1 : (k == 1) = false := by simp; omega
    have n2 : (k == 2) = false := by simp; omega
    have n3 : (k == 3) = false := by simp; omega
    have n4 : (k == 4) = false := by simp; omega
    have n5 : (k == 5) = false := by simp; omega
    have n6 : (k == 6) = false := by simp; omega
    have n7 : (k == 7) = false := by simp; omega
    have n8 : (k == 8) = false := by simp; omega
    have n9 : (k == 9) = false := by simp; omega
    have n10 : (k == 10) = false := by simp; omega
    go_enter Tryd.func101, Tryd.ntmps101
    go_wp2
    go_ret
    exact ⟨rfl, rfl⟩
  all_goals
    go_enter Tryd.func101, Tryd.ntmps101
    go_wp2
    go_ret
    exact ⟨rfl, rfl⟩

end Go.Proofs.YtcihplachlokiaaDoor
/- What the listed variables hold gives the walks their tables. -/
namespace Go.Proofs.YtcihplachlokiaaDoor
open Go.RowKit Go.Lib
set_option linter.unusedVariables false

theorem g1_named : Tryd.prog.globalNamed "loop.example/stile/impl.devKinds" = some 0 := by kernel_rfl
theorem g1_type : (Tryd.prog.globals[0]?).map (·.type) = some 133 := by kernel_rfl
theorem cellsK : Tryd.prog.cellsOf 130 = 5 := by kernel_rfl
theorem cells9 : Tryd.prog.cellsOf 9 = 1 := by kernel_rfl
theorem cells3 : Tryd.prog.cellsOf 3 = 1 := by kernel_rfl
theorem cells4 : Tryd.prog.cellsOf 4 = 1 := by kernel_rfl

theorem ba_list {s : ByteArray} {l : List UInt8} (h : s.data.toList = l) : s = ⟨l.toArray⟩ := by rw [← h, Lib.mk_data]

set_option maxRecDepth 100000 in
theorem row5 {w : World} {base : Nat} {sp : Nat → Bool} {fuel : Nat} {cs : List Value} {s : List UInt8} {z : Int} {a b c : Bool} {p : List MemPlace}
    (h : DataW.trod (fun _ => ()) Tryd.prog w base sp false fuel 130 cs = some (.agg [.lit (.string s), .lit (.int .i64 z), .lit (.bool a), .lit (.bool b), .lit (.bool c)], p)) :
    cs = [.string ⟨s.toArray⟩, .int .i64 z, .bool a, .bool b, .bool c] := by
  obtain ⟨xs, n, rfl, hx, hl, hxl, hall⟩ := DataW.trod_struct Tryd.underlying130 h
  rw [cellsK] at hl
  have hxs := congrArg Prod.fst hx
  simp only [DataW.agg.injEq] at hxs
  match cs, hl with
  | [c0, c1, c2, c3, c4], _ =>
    match xs, hxs with
    | [x0, x1, x2, x3, x4], hxs =>
      have h0 : DataW.trod (fun _ => ()) Tryd.prog w base sp false n 9 (([c0, c1, c2, c3, c4].drop 0).take (Tryd.prog.cellsOf 9)) = [x0, x1, x2, x3, x4][0]? := hall 0 _ rfl
      have h1 : DataW.trod (fun _ => ()) Tryd.prog w base sp false n 3 (([c0, c1, c2, c3, c4].drop 1).take (Tryd.prog.cellsOf 3)) = [x0, x1, x2, x3, x4][1]? := hall 1 _ rfl
      have h2 : DataW.trod (fun _ => ()) Tryd.prog w base sp false n 4 (([c0, c1, c2, c3, c4].drop 2).take (Tryd.prog.cellsOf 4)) = [x0, x1, x2, x3, x4][2]? := hall 2 _ rfl
      have h3 : DataW.trod (fun _ => ()) Tryd.prog w base sp false n 4 (([c0, c1, c2, c3, c4].drop 3).take (Tryd.prog.cellsOf 4)) = [x0, x1, x2, x3, x4][3]? := hall 3 _ rfl
      have h4 : DataW.trod (fun _ => ()) Tryd.prog w base sp false n 4 (([c0, c1, c2, c3, c4].drop 4).take (Tryd.prog.cellsOf 4)) = [x0, x1, x2, x3, x4][4]? := hall 4 _ rfl
      simp only [cells9, cells3, cells4, List.drop_zero, List.drop_succ_cons, List.take_succ_cons, List.take_zero, List.getElem?_cons_zero, List.getElem?_cons_succ] at h0 h1 h2 h3 h4
      obtain ⟨v0, e0, rfl, _⟩ := DataW.trod_string Tryd.underlying9 h0
      obtain ⟨v1, e1, rfl, _⟩ := DataW.trod_int Tryd.underlying3 h1
      obtain ⟨v2, e2, rfl⟩ := DataW.trod_bool Tryd.underlying4 h2
      obtain ⟨v3, e3, rfl⟩ := DataW.trod_bool Tryd.underlying4 h3
      obtain ⟨v4, e4, rfl⟩ := DataW.trod_bool Tryd.underlying4 h4
      simp only [List.map_cons, List.map_nil, List.cons.injEq, DataW.lit.injEq, Lit.string.injEq, Lit.int.injEq, Lit.bool.injEq, true_and, and_true] at hxs e0 e1 e2 e3 e4
      obtain ⟨f0, f1, f2, f3, f4⟩ := hxs
      rw [e0, e1, e2, e3, e4, f1, f2, f3, f4, ba_list f0.symm]

theorem at5 {W : World} {cs : Array Value} {n : String} {g : Nat} (hg : Tryd.prog.globalNamed n = some g) (hv : W.var? Tryd.prog n = some cs) {i : Nat} {a b c d e : Value} (h : (cs.toList.drop (i * 5)).take 5 = [a, b, c, d, e]) :
    W.cell? ⟨g, i * 5, none⟩ = some a ∧ W.cell? ⟨g, i * 5 + 1, none⟩ = some b ∧ W.cell? ⟨g, i * 5 + 2, none⟩ = some c ∧ W.cell? ⟨g, i * 5 + 3, none⟩ = some d ∧ W.cell? ⟨g, i * 5 + 4, none⟩ = some e := by
  have key : ∀ j, j < 5 → W.cell? ⟨g, i * 5 + j, none⟩ = [a, b, c, d, e][j]? := fun j hj => by
    rw [World.var?_cell hg hv, ← h, List.getElem?_take, if_pos hj, List.getElem?_drop]
    simp
  exact ⟨key 0 (by omega), key 1 (by omega), key 2 (by omega), key 3 (by omega), key 4 (by omega)⟩

theorem c14 (i : Nat) (h : i < 14) : i = 0 ∨ i = 1 ∨ i = 2 ∨ i = 3 ∨ i = 4 ∨ i = 5 ∨ i = 6 ∨ i = 7 ∨ i = 8 ∨ i = 9 ∨ i = 10 ∨ i = 11 ∨ i = 12 ∨ i = 13 := by omega

theorem kt_of_reads {W : World} (h : VarReads Tryd.prog W "loop.example/stile/impl.devKinds" Rows.laid_loop_example_stile_impl_devKinds) : KT W := by
  obtain ⟨g, t, cs, fuel, p, hg, ht, hv, hd⟩ := h
  obtain rfl := Option.some.inj (g1_named.symm.trans hg)
  obtain rfl := Option.some.inj (g1_type.symm.trans ht)
  intro i hi
  unfold Rows.laid_loop_example_stile_impl_devKinds at hd
  obtain ⟨f', d, q, hdi, hr⟩ := Lib.array_elem Tryd.underlying133 hd i hi
  rw [cellsK] at hr
  rcases c14 i hi with rfl | rfl | rfl | rfl | rfl | rfl | rfl | rfl | rfl | rfl | rfl | rfl | rfl | rfl
  all_goals
    obtain rfl := Option.some.inj hdi
    have := at5 hg hv (row5 hr)
    exact this
end Go.Proofs.YtcihplachlokiaaDoor
/- Walks of DevOk (the program's and the specification's), of devDecOk and of toDevArg. -/
namespace Go.Proofs.YtcihplachlokiaaDoor
open Go.RowKit
set_option linter.unusedVariables false

def okD (n p : Int) : Bool := decide (-999999999 ≤ n ∧ n ≤ 999999999 ∧ 1 ≤ p ∧ p ≤ 6 ∧ (p = 1 ∨ n.tmod 10 ≠ 0))
/-- An operand is ok. -/
def okA (k n p : Int) : Bool :=
  if k = 12 then okD n p else if k = 11 then decide (-32768 ≤ n ∧ n ≤ 32767 ∧ p = 0) else if k = 13 then decide (0 ≤ n ∧ n ≤ 3 ∧ p = 0) else decide (0 ≤ n ∧ n < kS k ∧ p = 0)

theorem ret_bool {a b : Bool} (h : a = b) : Ending.returned (.bool a) = .returned (.bool b) := by rw [h]

set_option maxHeartbeats 1000000 in
theorem dec_ok (k n p : Int) (w : World) :
    Calls Tryd.prog 118 #[.agg #[.int .i64 k, .int .i64 n, .int .i64 p]] w fun e w' => e = .returned (.bool (okD n p)) ∧ Below w.heap.size w w' := by
  by_cases h1 : n < -999999999
  · go_enter Tryd.func118, Tryd.ntmps118
    go_wp2
    go_ret
    exact ⟨ret_bool (by simp [okD]; omega), by go_grown⟩
  by_cases h2 : 999999999 < n
  · go_enter Tryd.func118, Tryd.ntmps118
    go_wp2
    go_ret
    exact ⟨ret_bool (by simp [okD]; omega), by go_grown⟩
  by_cases h3 : p < 1
  · go_enter Tryd.func118, Tryd.ntmps118
    go_wp2
    go_ret
    exact ⟨ret_bool (by simp [okD]; omega), by go_grown⟩
  by_cases h4 : 6 < p
  · go_enter Tryd.func118, Tryd.ntmps118
    go_wp2
    go_ret
    exact ⟨ret_bool (by simp [okD]; omega), by go_grown⟩
  by_cases h5 : p = 1
  · subst h5
    go_enter Tryd.func118, Tryd.ntmps118
    go_wp2
    go_ret
    exact ⟨ret_bool (by simp [okD]; omega), by go_grown⟩
  · have h6 : (p == 1) = false := by simp [h5]
    go_enter Tryd.func118, Tryd.ntmps118
    go_wp2
    go_ret
    have e : okD n p = decide (¬ n.tmod 10 = 0) := by
      have a1 : -999999999 ≤ n := by omega
      have a2 : n ≤ 999999999 := by omega
      have a3 : 1 ≤ p := by omega
      have a4 : p ≤ 6 := by omega
      simp [okD, a1, a2, a3, a4, h5]
    rw [e]
    exact ⟨ret_bool (by simp; rfl), by go_grown⟩

theorem okA_dec (n p : Int) : okA 12 n p = okD n p := by simp [okA]

set_option maxHeartbeats 1000000 in
theorem impl_ok_dec (n p : Int) (w : World) :
    Calls Tryd.prog 115 #[.agg #[.int .i64 12, .int .i64 n, .int .i64 p]] w fun e w' => e = .returned (.bool (okA 12 n p)) ∧ Below w.heap.size w w' := by
  rw [okA_dec]
  go_enter Tryd.func115, Tryd.ntmps115
  go_wp2_with fail
  refine (dec_ok 12 n p _).mono ?_
  rintro e w1 ⟨rfl, g1⟩
  have b1 : Below w.heap.size w w1 := ((Below.refl _ _).alloc (Nat.le_refl _) _).trans (g1.mono (by simp))
  clear g1
  go_wp2
  go_ret
  exact ⟨rfl, b1⟩

/-- The last step of the program's DevOk. -/
theorem okA_of {k n p lo hi : Int} (h : okA k n p = decide (lo ≤ n ∧ n < hi ∧ p = 0)) (b : Bool) (hb : b = true ↔ (lo ≤ n ∧ n < hi ∧ p = 0)) : b = okA k n p := by
  rw [h, Bool.eq_iff_iff, hb]
  simp

set_option maxHeartbeats 1000000 in
theorem impl_ok_int (n p : Int) (w : World) (hT : KT w) :
    Calls Tryd.prog 115 #[.agg #[.int .i64 11, .int .i64 n, .int .i64 p]] w fun e w' => e = .returned (.bool (okA 11 n p)) ∧ Below w.heap.size w w' := by
  have ho : okA 11 n p = decide (-32768 ≤ n ∧ n ≤ 32767 ∧ p = 0) := by simp [okA]
  rw [ho]
  clear ho
  go_enter Tryd.func115, Tryd.ntmps115
  go_wp2_with fail
  refine (impl_size 11 _ (hT.alloc _)).mono ?_
  rintro e w1 ⟨rfl, g1⟩
  have c0 : w1.cell? ⟨w.heap.size, 0, none⟩ = some (.int .i64 11) := cell_later g1 (by simp)
  have c1 : w1.cell? ⟨w.heap.size, 1, none⟩ = some (.int .i64 n) := cell_later g1 (by simp)
  have c2 : w1.cell? ⟨w.heap.size, 2, none⟩ = some (.int .i64 p) := cell_later g1 (by simp)
  have b1 : Below w.heap.size w w1 := ((Below.refl _ _).alloc (Nat.le_refl _) _).trans (g1.mono (by simp))
  clear g1 hT
  by_cases h1 : -32768 ≤ n
  · by_cases h2 : n ≤ 32767
    · have h2' : n < 32768 := by omega
      go_wp2
      go_ret
      exact ⟨ret_bool (by simp [h1, h2]; rfl), b1⟩
    · have h2' : ¬ n < 32768 := by omega
      go_wp2
      go_ret
      exact ⟨ret_bool (by simp; omega), b1⟩
  · go_wp2
    go_ret
    exact ⟨ret_bool (by simp; omega), b1⟩

set_option maxHeartbeats 1000000 in
theorem impl_ok_word (n p : Int) (w : World) (hT : KT w) :
    Calls Tryd.prog 115 #[.agg #[.int .i64 13, .int .i64 n, .int .i64 p]] w fun e w' => e = .returned (.bool (okA 13 n p)) ∧ Below w.heap.size w w' := by
  have ho : okA 13 n p = decide (0 ≤ n ∧ n ≤ 3 ∧ p = 0) := by simp [okA]
  rw [ho]
  clear ho
  go_enter Tryd.func115, Tryd.ntmps115
  go_wp2_with fail
  refine (impl_size 13 _ (hT.alloc _)).mono ?_
  rintro e w1 ⟨rfl, g1⟩
  have c0 : w1.cell? ⟨w.heap.size, 0, none⟩ = some (.int .i64 13) := cell_later g1 (by simp)
  have c1 : w1.cell? ⟨w.heap.size, 1, none⟩ = some (.int .i64 n) := cell_later g1 (by simp)
  have c2 : w1.cell? ⟨w.heap.size, 2, none⟩ = some (.int .i64 p) := cell_later g1 (by simp)
  have b1 : Below w.heap.size w w1 := ((Below.refl _ _).alloc (Nat.le_refl _) _).trans (g1.mono (by simp))
  clear g1 hT
  by_cases h1 : 0 ≤ n
  · by_cases h2 : n ≤ 3
    · have h2' : n < 4 := by omega
      go_wp2
      go_ret
      exact ⟨ret_bool (by simp [h1, h2]; rfl), b1⟩
    · have h2' : ¬ n < 4 := by omega
      go_wp2
      go_ret
      exact ⟨ret_bool (by simp; omega), b1⟩
  · go_wp2
    go_ret
    exact ⟨ret_bool (by simp; omega), b1⟩

set_option maxHeartbeats 1000000 in
theorem impl_ok_dev (k n p : Int) (w : World) (hT : KT w) (k1 : k ≠ 11) (k2 : k ≠ 12) (k3 : k ≠ 13) :
    Calls Tryd.prog 115 #[.agg #[.int .i64 k, .int .i64 n, .int .i64 p]] w fun e w' => e = .returned (.bool (okA k n p)) ∧ Below w.heap.size w w' := by
  have ho : okA k n p = decide (0 ≤ n ∧ n < kS k ∧ p = 0) := by simp [okA, k1, k2, k3]
  rw [ho]
  clear ho
  have hs := impl_size k
  obtain ⟨z, HZ⟩ : ∃ z, Hid (z = kS k) := ⟨_, rfl⟩
  rw [← HZ.out] at hs ⊢
  clear HZ
  have e1 : (k == 11) = false := by simp [k1]
  have e2 : (k == 12) = false := by simp [k2]
  have e3 : (k == 13) = false := by simp [k3]
  go_enter Tryd.func115, Tryd.ntmps115
  go_wp2_with fail
  refine (hs _ (hT.alloc _)).mono ?_
  rintro e w1 ⟨rfl, g1⟩
  have c0 : w1.cell? ⟨w.heap.size, 0, none⟩ = some (.int .i64 k) := cell_later g1 (by simp)
  have c1 : w1.cell? ⟨w.heap.size, 1, none⟩ = some (.int .i64 n) := cell_later g1 (by simp)
  have c2 : w1.cell? ⟨w.heap.size, 2, none⟩ = some (.int .i64 p) := cell_later g1 (by simp)
  have b1 : Below w.heap.size w w1 := ((Below.refl _ _).alloc (Nat.le_refl _) _).trans (g1.mono (by simp))
  clear g1 hT hs
  by_cases h1 : 0 ≤ n
  · by_cases h2 : n < z
    · go_wp2
      go_ret
      exact ⟨ret_bool (by simp [h1, h2]; rfl), b1⟩
    · go_wp2
      go_ret
      exact ⟨ret_bool (by simp; omega), b1⟩
  · go_wp2
    go_ret
    exact ⟨ret_bool (by simp; omega), b1⟩

theorem impl_ok (k n p : Int) (w : World) (hT : KT w) :
    Calls Tryd.prog 115 #[.agg #[.int .i64 k, .int .i64 n, .int .i64 p]] w fun e w' => e = .returned (.bool (okA k n p)) ∧ Below w.heap.size w w' := by
  by_cases k2 : k = 12
  · subst k2; exact impl_ok_dec n p w
  by_cases k1 : k = 11
  · subst k1; exact impl_ok_int n p w hT
  by_cases k3 : k = 13
  · subst k3; exact impl_ok_word n p w hT
  exact impl_ok_dev k n p w hT k1 k2 k3
end Go.Proofs.YtcihplachlokiaaDoor
/- Walks of the specification's DevOk. -/
namespace Go.Proofs.YtcihplachlokiaaDoor
open Go.RowKit
set_option linter.unusedVariables false

theorem bdrew {B : Nat} {a w : World} (h : Below B a w) (n : Nat) : Below B a (w.drewN n) := ⟨h.os, h.tape, h.output, h.size, h.block⟩

end Go.Proofs.YtcihplachlokiaaDoor
/- The specification's reader of codes: numbers and texts out of a code, whatever the code. Made by wip/tools/gen_reader.py. -/
namespace Go.Proofs.YtcihplachlokiaaDoor.Rr
open Go.RowKit
set_option linter.unusedVariables false

theorem gb_set {w w' : World} {b : Nat} (h : w.grownBy w' (some b)) (o : Nat) (v : Value) : w.grownBy (w'.setCell ⟨b, o, none⟩ v) (some b) :=
  ⟨h.os, h.tape, h.output, by simpa using h.size, fun k hk hne => (Below.heap_setCell w' ⟨b, o, none⟩ v k (fun e => hne (by simp [e]))).trans (h.block k hk hne)⟩
theorem gb_drew {w w' : World} {row : Option Nat} (h : w.grownBy w' row) : w.grownBy w'.drew row := ⟨h.os, h.tape, h.output, h.size, h.block⟩
theorem gb_drewN {w w' : World} {row : Option Nat} (h : w.grownBy w' row) (n : Nat) : w.grownBy (w'.drewN n) row := ⟨h.os, h.tape, h.output, h.size, h.block⟩
theorem gb_refl (w : World) (row : Option Nat) : w.grownBy w row := ⟨rfl, rfl, rfl, Nat.le_refl _, fun _ _ _ => rfl⟩
theorem gb_below {w w' : World} (h : Below w.heap.size w w') : w.grownBy w' none := ⟨h.os, h.tape, h.output, h.size, fun k hk _ => h.block k hk⟩
/-- The code that a reader reads: nothing, or a row of bytes. -/
structure Src (w : World) (a : Option Addr) (len blk off : Nat) (z : Nat → Int) : Prop where
  at_ : 0 < len → a = some ⟨blk, off, none⟩
  byte : ∀ j, j < len → w.cell? ⟨blk, off + j, none⟩ = some (.int .u8 (z j))
  fits : ∀ j, 0 ≤ z j ∧ z j ≤ 255
  short : len ≤ 2000
/-- A reader at R, so many numbers read. -/
structure Rd (w : World) (R : Nat) (a : Option Addr) (len cap : Nat) (p : Nat) : Prop where
  c0 : w.cell? ⟨R, 0, none⟩ = some (.slice a len cap)
  c1 : w.cell? ⟨R, 1, none⟩ = some (.int .i64 p)
  f1 : w.frozen? ⟨R, 1, none⟩ = false
theorem Rd.set {w : World} {R : Nat} {a : Option Addr} {len cap p : Nat} (h : Rd w R a len cap p) (q : Int) (p' : Nat) (e : q = p') : Rd (w.setCell ⟨R, 1, none⟩ (.int .i64 q)) R a len cap p' := by
  subst e
  exact ⟨(World.cell?_setCell_other _ _ _ _ (by simp)).trans h.c0, World.cell?_setCell_same _ _ _ h.c1, by simpa using h.f1⟩
theorem Rd.drewN {w : World} {R : Nat} {a : Option Addr} {len cap p : Nat} (h : Rd w R a len cap p) (k : Nat) : Rd (w.drewN k) R a len cap p := ⟨h.c0, h.c1, h.f1⟩
set_option maxHeartbeats 400000 in
theorem pick_none (R : Nat) (a : Option Addr) (cap p : Nat) (n : Int) (w : World) (h : Rd w R a 0 cap p) (hn : 1 ≤ n) (hp : p < 10000000) :
    Calls Tryd.prog 23 #[.pointer (some ⟨R, 0, none⟩), .int .i64 n] w fun e w' => e = .returned (.int .i64 0) ∧ Rd w' R a 0 cap (p + 1) ∧ w.grownBy w' (some R) := by
  have hr := h
  obtain ⟨c0, c1, f1⟩ := h
  go_enter Tryd.func23, Tryd.ntmps23
  go_wp2
  go_ret
  exact ⟨rfl, hr.set _ _ (by omega), gb_set (gb_refl _ _) _ _⟩
set_option maxHeartbeats 1000000 in
theorem pick_in (R : Nat) (a : Option Addr) (len cap p blk off : Nat) (z : Nat → Int) (n : Int) (w : World) (h : Rd w R a len cap p) (s : Src w a len blk off z) (hne : blk ≠ R) (hn : 1 ≤ n) (hn2 : n ≤ 10000000) (hp : p < len) :
    Calls Tryd.prog 23 #[.pointer (some ⟨R, 0, none⟩), .int .i64 n] w fun e w' => ∃ r, 0 ≤ r ∧ r < n ∧ e = .returned (.int .i64 r) ∧ Rd w' R a len cap (p + 1) ∧ w.grownBy w' (some R) := by
  have hr := h
  obtain ⟨c0, c1, f1⟩ := h
  have hs := s.short
  have hz := s.fits p
  have hc := s.byte p hp
  have ha := s.at_ (by omega)
  subst ha
  obtain ⟨Z, HZ⟩ : ∃ Z, Hid (Z = z p) := ⟨_, rfl⟩
  rw [← HZ.out] at hz hc
  clear s
  have hne' : R ≠ blk := fun e => hne e.symm
  have hl : ((len : Int) == 0) = false := by simp; omega
  go_enter Tryd.func23, Tryd.ntmps23
  go_wp2
  go_ret
  refine ⟨_, ?_, ?_, rfl, hr.set _ _ (by omega), gb_set (gb_refl _ _) _ _⟩
  · exact Int.emod_nonneg _ (by omega)
  · exact Int.emod_lt_of_pos _ (by omega)
theorem xor_pos (a b : Nat) (ha : a < 2 ^ 62) (hb : b < 2 ^ 62) : 0 ≤ bits .xor .i64 (a : Int) (b : Int) := by
  show 0 ≤ IntKind.i64.wrap ((BitVec.ofInt 64 (a : Int) ^^^ BitVec.ofInt 64 (b : Int)).toNat : Int)
  have h62 : (2 : Nat) ^ 62 < 2 ^ 64 := by decide
  rw [BitVec.toNat_xor, BitVec.ofInt_natCast, BitVec.ofInt_natCast, BitVec.toNat_ofNat, BitVec.toNat_ofNat, Nat.mod_eq_of_lt (Nat.lt_trans ha h62), Nat.mod_eq_of_lt (Nat.lt_trans hb h62)]
  have hx : a ^^^ b < 2 ^ 62 := Nat.xor_lt_two_pow ha hb
  have e : (2 : Nat) ^ 62 = 4611686018427387904 := by decide
  rw [e] at hx
  rw [IntKind.wrap_i64]
  omega
theorem xor_half (x : Int) (h0 : 0 ≤ x) (h1 : x < 1000000000000) : 0 ≤ bits .xor .i64 x (x / 64) := by
  obtain ⟨X, rfl⟩ := Int.eq_ofNat_of_zero_le h0
  have e : (2 : Nat) ^ 62 = 4611686018427387904 := by decide
  have h := xor_pos X (X / 64) (by rw [e]; omega) (by rw [e]; omega)
  simpa using h
set_option maxHeartbeats 2000000 in
theorem pick_far (R : Nat) (a : Option Addr) (len cap p blk off : Nat) (z : Nat → Int) (n : Int) (w : World) (h : Rd w R a len cap p) (s : Src w a len blk off z) (hne : blk ≠ R) (hn : 1 ≤ n) (hn2 : n ≤ 10000000) (hp : len ≤ p) (hp2 : p < 10000000) (hl0 : 0 < len) :
    Calls Tryd.prog 23 #[.pointer (some ⟨R, 0, none⟩), .int .i64 n] w fun e w' => ∃ r, 0 ≤ r ∧ r < n ∧ e = .returned (.int .i64 r) ∧ Rd w' R a len cap (p + 1) ∧ w.grownBy w' (some R) := by
  have hr := h
  obtain ⟨c0, c1, f1⟩ := h
  have hs := s.short
  have ha := s.at_ (by omega)
  subst ha
  obtain ⟨K, e1, hK⟩ : ∃ K : Nat, (p : Int) % (len : Int) = (K : Int) ∧ K < len := ⟨p % len, by omega, Nat.mod_lt _ hl0⟩
  obtain ⟨J, e2, hJ⟩ : ∃ J : Nat, ((p : Int) * 7 + 3) % (len : Int) = (J : Int) ∧ J < len := ⟨(p * 7 + 3) % len, by rw [Int.natCast_emod, show ((p * 7 + 3 : Nat) : Int) = (p : Int) * 7 + 3 by omega], Nat.mod_lt _ hl0⟩
  obtain ⟨Q, e3, hQ⟩ : ∃ Q : Nat, (p : Int) / (len : Int) = (Q : Int) ∧ Q ≤ 10000000 := ⟨p / len, by omega, by have := Nat.div_le_self p len; omega⟩
  have hzK := s.fits K
  have hcK := s.byte K hK
  have hzJ := s.fits J
  have hcJ := s.byte J hJ
  obtain ⟨A, HA⟩ : ∃ Z, Hid (Z = z K) := ⟨_, rfl⟩
  obtain ⟨B, HB⟩ : ∃ Z, Hid (Z = z J) := ⟨_, rfl⟩
  rw [← HA.out] at hzK hcK
  rw [← HB.out] at hzJ hcJ
  clear s
  have hne' : R ≠ blk := fun e => hne e.symm
  have hl : ((len : Int) == 0) = false := by simp; omega
  have hl2 : ¬ (len : Int) = 0 := by omega
  have i1 : (K : Int) < (len : Int) := by omega
  have i2 : (J : Int) < (len : Int) := by omega
  have i3 : (len : Int) ≤ (p : Int) := by omega
  go_enter Tryd.func23, Tryd.ntmps23
  go_wp2
  go_quiet (fail)
  go_wp2
  go_ret
  refine ⟨_, ?_, ?_, rfl, (hr.set _ (p + 1) (by omega)).drewN nq, gb_drewN (gb_set (gb_refl _ _) _ _) _⟩
  · exact Int.tmod_nonneg _ (xor_half _ (by omega) (by omega))
  · exact Int.tmod_lt_of_pos _ (by omega)
theorem pick_any (R : Nat) (a : Option Addr) (len cap p blk off : Nat) (z : Nat → Int) (n : Int) (w : World) (h : Rd w R a len cap p) (s : Src w a len blk off z) (hne : blk ≠ R) (hn : 1 ≤ n) (hn2 : n ≤ 10000000) (hp2 : p < 10000000) :
    Calls Tryd.prog 23 #[.pointer (some ⟨R, 0, none⟩), .int .i64 n] w fun e w' => ∃ r, 0 ≤ r ∧ r < n ∧ e = .returned (.int .i64 r) ∧ Rd w' R a len cap (p + 1) ∧ w.grownBy w' (some R) := by
  by_cases h0 : len = 0
  · subst h0
    refine (pick_none R a cap p n w h hn hp2).mono ?_
    rintro e w' ⟨rfl, h1, h2⟩
    exact ⟨0, by omega, by omega, rfl, h1, h2⟩
  · by_cases h1 : p < len
    · exact pick_in R a len cap p blk off z n w h s hne hn hn2 h1
    · exact pick_far R a len cap p blk off z n w h s hne hn hn2 (by omega) hp2 (by omega)
/-- A reader at R of a code, all of it below block B, p numbers read. -/
def Reader (B : Nat) (w : World) (R p : Nat) : Prop :=
  R < B ∧ B ≤ w.heap.size ∧ ∃ a len cap blk off z, Rd w R a len cap p ∧ Src w a len blk off z ∧ (0 < len → blk ≠ R ∧ blk < B)
theorem Reader.kept {B : Nat} {w w' : World} {R p : Nat} {row : Option Nat} (h : Reader B w R p) (g : w.grownBy w' row) (hr : ∀ j, row = some j → B ≤ j) : Reader B w' R p := by
  obtain ⟨h1, h2, a, len, cap, blk, off, z, hd, hs, hb⟩ := h
  have nR : some R ≠ row := fun e => by have := hr R e.symm; omega
  refine ⟨h1, Nat.le_trans h2 g.size, a, len, cap, blk, off, z, ⟨?_, ?_, ?_⟩, ⟨hs.at_, ?_, hs.fits, hs.short⟩, hb⟩
  · exact (g.cell_far _ (by show R < _; omega) nR).trans hd.c0
  · exact (g.cell_far _ (by show R < _; omega) nR).trans hd.c1
  · exact (g.frozen_far _ (by show R < _; omega) nR).trans hd.f1
  · intro j hj
    have hb' := hb (by omega)
    have nb : some blk ≠ row := fun e => by have := hr blk e.symm; omega
    exact (g.cell_far _ (by show blk < _; omega) nb).trans (hs.byte j hj)
theorem Reader.later {B : Nat} {w w' : World} {R p : Nat} (h : Reader B w R p) (g : Below w.heap.size w w') : Reader B w' R p :=
  h.kept (gb_below g) (fun j hj => by cases hj)
theorem Reader.alloc {B : Nat} {w : World} {R p : Nat} (h : Reader B w R p) (o : Obj) : Reader B (w.alloc o) R p :=
  h.kept (World.grownBy_alloc w o none) (fun j hj => by cases hj)
theorem Reader.set {B : Nat} {w : World} {R p : Nat} (h : Reader B w R p) (bl o : Nat) (u : Value) (hb : B ≤ bl) : Reader B (w.setCell ⟨bl, o, none⟩ u) R p :=
  h.kept (gb_set (gb_refl w (some bl)) o u) (fun j hj => by simp at hj; omega)
theorem Reader.drew {B : Nat} {w : World} {R p : Nat} (h : Reader B w R p) : Reader B w.drew R p := h.kept (gb_drew (gb_refl w none)) (fun j hj => by cases hj)
theorem pick_r (B R p : Nat) (n : Int) (w : World) (h : Reader B w R p) (hn : 1 ≤ n) (hn2 : n ≤ 10000000) (hp : p < 10000000) :
    Calls Tryd.prog 23 #[.pointer (some ⟨R, 0, none⟩), .int .i64 n] w fun e w' => ∃ r : Nat, (r : Int) < n ∧ e = .returned (.int .i64 r) ∧ Reader B w' R (p + 1) ∧ w.grownBy w' (some R) := by
  obtain ⟨h1, h2, a, len, cap, blk, off, z, hd, hs, hb⟩ := h
  by_cases h0 : len = 0
  · subst h0
    refine (pick_none R a cap p n w hd hn hp).mono ?_
    rintro e w' ⟨rfl, hd', g⟩
    exact ⟨0, by omega, rfl, ⟨h1, Nat.le_trans h2 g.size, a, 0, cap, blk, off, z, hd', ⟨hs.at_, fun j hj => by omega, hs.fits, hs.short⟩, hb⟩, g⟩
  · have hne := hb (by omega)
    refine (pick_any R a len cap p blk off z n w hd hs hne.1 hn hn2 hp).mono ?_
    rintro e w' ⟨r, r0, r1, rfl, hd', g⟩
    obtain ⟨k, rfl⟩ := Int.eq_ofNat_of_zero_le r0
    have nb : some blk ≠ some R := by simp [hne.1]
    refine ⟨k, r1, rfl, ⟨h1, Nat.le_trans h2 g.size, a, len, cap, blk, off, z, hd', ⟨hs.at_, ?_, hs.fits, hs.short⟩, hb⟩, g⟩
    intro j hj
    exact (g.cell_far _ (by show blk < _; omega) nb).trans (hs.byte j hj)
set_option maxHeartbeats 400000 in
theorem num_r (B R p g : Nat) (xs : List Int) (cap : Nat) (w : World) (h : Reader B w R p) (hL : 0 < xs.length) (hL2 : xs.length ≤ 1000) (hp : p < 10000000) (hg : B ≤ g)
    (hx : ∀ j x, xs[j]? = some x → w.cell? ⟨g, j, none⟩ = some (.int .i64 x)) :
    Calls Tryd.prog 80 #[.pointer (some ⟨R, 0, none⟩), .slice (some ⟨g, 0, none⟩) xs.length cap] w fun e w' => ∃ v, v ∈ xs ∧ e = .returned (.int .i64 v) ∧ Reader B w' R (p + 1) ∧ w.grownBy w' (some R) := by
  obtain ⟨L, HL⟩ : ∃ L, Hid (L = xs.length) := ⟨_, rfl⟩
  rw [← HL.out] at hL hL2 ⊢
  have hRB := h.1
  go_enter Tryd.func80, Tryd.ntmps80
  go_wp2_with fail
  refine (pick_r B R p L _ h (by omega) (by omega) hp).mono ?_
  rintro e w1 ⟨r, r1, rfl, h1, g1⟩
  have hrl : r < xs.length := by rw [← HL.out]; omega
  have hc : w1.cell? ⟨g, r, none⟩ = some (.int .i64 xs[r]) := g1.cell (hx r _ (List.getElem?_eq_getElem hrl)) (by simp; omega)
  obtain ⟨v, HV⟩ : ∃ v : Int, Hid (v = xs[r]) := ⟨xs[r], rfl⟩
  rw [← HV.out] at hc
  have HM : Hid (v ∈ xs) := by rw [HV.out]; exact List.getElem_mem hrl
  clear HV
  go_wp2
  go_ret
  exact ⟨v, HM.out, rfl, h1, g1⟩
set_option maxHeartbeats 400000 in
theorem open_r (a : Option Addr) (len cap blk off : Nat) (z : Nat → Int) (w : World) (hlen : len ≤ 1048576) (hcap : len ≤ cap) (ha : 0 < len → a = some ⟨blk, off, none⟩ ∧ blk < w.heap.size) (hb : ∀ j, j < len → w.cell? ⟨blk, off + j, none⟩ = some (.int .u8 (z j))) (hz : ∀ j, 0 ≤ z j ∧ z j ≤ 255) :
    Calls Tryd.prog 21 #[.slice a len cap] w fun e w' => e = .returned (.pointer (some ⟨w.heap.size, 0, none⟩)) ∧ Reader (w.heap.size + 1) w' w.heap.size 0 ∧ Below w.heap.size w w' := by
  by_cases h : len ≤ 2000
  · go_enter Tryd.func21, Tryd.ntmps21
    go_wp2
    go_ret
    refine ⟨rfl, ⟨by omega, by simp, a, len, cap, blk, off, z, ⟨by simp, by simp, by simp⟩, ⟨fun h0 => (ha h0).1, fun j hj => ?_, hz, h⟩, fun h0 => by have := (ha h0).2; omega⟩, by go_grown⟩
    rw [World.cell?_alloc_past _ _ _ (by have := (ha (by omega)).2; exact this)]
    exact hb j hj
  · obtain ⟨rfl, hblk⟩ := ha (by omega)
    have i1 : (2000 : Int) < (len : Int) := by omega
    have i2 : (2000 : Int) ≤ (cap : Int) := by omega
    go_enter Tryd.func21, Tryd.ntmps21
    go_wp2
    go_ret
    refine ⟨rfl, ⟨by omega, by simp, some ⟨blk, off, none⟩, 2000, cap, blk, off, z, ⟨by simp, by simp, by simp⟩, ⟨fun _ => rfl, fun j hj => ?_, hz, by omega⟩, fun _ => by omega⟩, by go_grown⟩
    rw [World.cell?_alloc_past _ _ _ hblk]
    exact hb j (by omega)
theorem gb_then {a b c : World} {R : Nat} {row : Option Nat} (h : a.grownBy b (some R)) (k : b.grownBy c row) (hr : ∀ j, row = some j → a.heap.size ≤ j ∨ j = R) : a.grownBy c (some R) :=
  h.andThen k (fun j hj => (hr j hj).imp_right (fun e => by rw [e]))
theorem gb_below' {a b c : World} {R : Nat} (h : a.grownBy b (some R)) (k : Below b.heap.size b c) : a.grownBy c (some R) := gb_then h (gb_below k) (fun j hj => by cases hj)
theorem gb_alloc {a b : World} {R : Nat} (h : a.grownBy b (some R)) (o : Obj) : a.grownBy (b.alloc o) (some R) := gb_then h (World.grownBy_alloc b o none) (fun j hj => by cases hj)
theorem gb_pick {a b c : World} {R : Nat} (h : a.grownBy b (some R)) (k : b.grownBy c (some R)) : a.grownBy c (some R) := gb_then h k (fun j hj => .inr (by cases hj; rfl))
theorem gb_put {a b : World} {R bl o : Nat} {u : Value} (h : a.grownBy b (some R)) (hb : a.heap.size ≤ bl) : a.grownBy (b.setCell ⟨bl, o, none⟩ u) (some R) := gb_then h (gb_set (gb_refl b (some bl)) o u) (fun j hj => .inl (by cases hj; exact hb))
theorem cells_row (w : World) (xs : List Int) (t : TypeId) : ∀ j x, xs[j]? = some x → (w.alloc (.cells (xs.map (Value.int .i64)).toArray t)).cell? ⟨w.heap.size, j, none⟩ = some (.int .i64 x) := by
  intro j x hj
  rw [World.cell?_alloc_at _ _ _ _ rfl]
  simp [hj]
/-- A code of bytes that came in. -/
structure Code0 (w : World) (a : Option Addr) (len cap blk off : Nat) (z : Nat → Int) : Prop where
  short : len ≤ 1048576
  cap : len ≤ cap
  at_ : 0 < len → a = some ⟨blk, off, none⟩ ∧ blk < w.heap.size
  byte : ∀ j, j < len → w.cell? ⟨blk, off + j, none⟩ = some (.int .u8 (z j))
  fits : ∀ j, 0 ≤ z j ∧ z j ≤ 255
theorem Code0.later {w w' : World} {a : Option Addr} {len cap blk off : Nat} {z : Nat → Int} (h : Code0 w a len cap blk off z) (g : Below w.heap.size w w') : Code0 w' a len cap blk off z :=
  ⟨h.short, h.cap, fun h0 => ⟨(h.at_ h0).1, Nat.lt_of_lt_of_le (h.at_ h0).2 g.size⟩, fun j hj => cell_later g (h.byte j hj), h.fits⟩
theorem Code0.open {w : World} {a : Option Addr} {len cap blk off : Nat} {z : Nat → Int} (h : Code0 w a len cap blk off z) :
    Calls Tryd.prog 21 #[.slice a len cap] w fun e w' => e = .returned (.pointer (some ⟨w.heap.size, 0, none⟩)) ∧ Reader (w.heap.size + 1) w' w.heap.size 0 ∧ Below w.heap.size w w' :=
  open_r a len cap blk off z w h.short h.cap h.at_ h.byte h.fits
/-- A slice of integers that came in: nil, or a row of its capacity's cells. -/
def IsRow (k : IntKind) (w : World) (a : Option Addr) (len cap : Nat) (zs : List Int) : Prop :=
  (a = none ∧ len = 0 ∧ cap = 0 ∧ zs = []) ∨
  ∃ x, a = some x ∧ len ≤ cap ∧ cap ≤ maxLen ∧ zs.length = cap ∧ (∀ i, i < zs.length → w.cell? (x.add i) = some (.int k (zs.getD i 0))) ∧ ∀ n ∈ zs, (Lit.int k n).wf = true
theorem IsRow.code {w : World} {a : Option Addr} {len cap : Nat} {zs : List Int} (h : IsRow .u8 w a len cap zs) (hl : len ≤ 1048576) : ∃ blk off z, Code0 w a len cap blk off z := by
  rcases h with ⟨rfl, rfl, rfl, rfl⟩ | ⟨x, rfl, h1, h2, h3, hc, hw⟩
  · exact ⟨0, 0, fun _ => 0, ⟨by omega, by omega, fun h => by omega, fun j hj => by omega, fun _ => by omega⟩⟩
  · by_cases h0 : len = 0
    · subst h0
      exact ⟨0, 0, fun _ => 0, ⟨by omega, by omega, fun h => by omega, fun j hj => by omega, fun _ => by omega⟩⟩
    · obtain ⟨b, off, spot⟩ := x
      have hc0 := hc 0 (by omega)
      have hspot : spot = none := by simpa [Addr.add] using World.cell?_spot hc0
      subst hspot
      have hlt := World.block_lt_of_cell? _ _ hc0
      refine ⟨b, off, fun j => zs.getD j 0, ⟨hl, h1, fun _ => ⟨rfl, by simpa [Addr.add] using hlt⟩, fun j hj => ?_, fun j => ?_⟩⟩
      · have h := hc j (by omega)
        by_cases e : j = 0
        · subst e; simpa [Addr.add] using h
        · simpa [Addr.add, e] using h
      · by_cases hj : j < zs.length
        · have hm : zs.getD j 0 ∈ zs := by
            rw [List.getD_eq_getElem?_getD, List.getElem?_eq_getElem hj]
            exact List.getElem_mem hj
          have := bounds_u8 (hw _ hm)
          omega
        · have e : zs.getD j 0 = 0 := by rw [List.getD_eq_getElem?_getD, List.getElem?_eq_none (by omega)]; rfl
          rw [e]; omega
end Go.Proofs.YtcihplachlokiaaDoor.Rr
/- The specification's draws of operands: some operand, whatever the code. -/
namespace Go.Proofs.YtcihplachlokiaaDoor.Rr
open Go.RowKit
set_option linter.unusedVariables false

def IsArg (e : Ending) : Prop := ∃ k n p : Int, -2000000000 ≤ n ∧ n ≤ 2000000000 ∧ e = .returned (.agg #[.int .i64 k, .int .i64 n, .int .i64 p])

/-- An operand in a block of its own. -/
structure A3 (w : World) (bl : Nat) (k n p : Int) : Prop where
  c0 : w.cell? ⟨bl, 0, none⟩ = some (.int .i64 k)
  c1 : w.cell? ⟨bl, 1, none⟩ = some (.int .i64 n)
  c2 : w.cell? ⟨bl, 2, none⟩ = some (.int .i64 p)
  f0 : w.frozen? ⟨bl, 0, none⟩ = false
  f1 : w.frozen? ⟨bl, 1, none⟩ = false
  f2 : w.frozen? ⟨bl, 2, none⟩ = false

theorem A3.fresh (w : World) (k n p : Int) (t : TypeId) : A3 (w.alloc (.cells #[.int .i64 k, .int .i64 n, .int .i64 p] t)) w.heap.size k n p := ⟨by simp, by simp, by simp, by simp, by simp, by simp⟩
theorem A3.lt {w : World} {bl : Nat} {k n p : Int} (h : A3 w bl k n p) : bl < w.heap.size := World.block_lt_of_cell? _ _ h.c0
theorem A3.grown {w w' : World} {bl : Nat} {k n p : Int} {row : Option Nat} (h : A3 w bl k n p) (g : w.grownBy w' row) (hne : some bl ≠ row) : A3 w' bl k n p :=
  ⟨(g.cell_far _ h.lt hne).trans h.c0, (g.cell_far _ h.lt hne).trans h.c1, (g.cell_far _ h.lt hne).trans h.c2, (g.frozen_far _ h.lt hne).trans h.f0, (g.frozen_far _ h.lt hne).trans h.f1, (g.frozen_far _ h.lt hne).trans h.f2⟩
theorem A3.later {w w' : World} {bl : Nat} {k n p : Int} (h : A3 w bl k n p) (g : Below w.heap.size w w') : A3 w' bl k n p := h.grown (gb_below g) (by simp)
theorem A3.alloc {w : World} {bl : Nat} {k n p : Int} (h : A3 w bl k n p) (o : Obj) : A3 (w.alloc o) bl k n p := h.grown (World.grownBy_alloc w o none) (by simp)
theorem A3.put0 {w : World} {bl : Nat} {k n p : Int} (h : A3 w bl k n p) (k' : Int) : A3 (w.setCell ⟨bl, 0, none⟩ (.int .i64 k')) bl k' n p :=
  ⟨World.cell?_setCell_same _ _ _ h.c0, (World.cell?_setCell_other _ _ _ _ (by simp)).trans h.c1, (World.cell?_setCell_other _ _ _ _ (by simp)).trans h.c2, by simpa using h.f0, by simpa using h.f1, by simpa using h.f2⟩
theorem A3.put1 {w : World} {bl : Nat} {k n p : Int} (h : A3 w bl k n p) (n' : Int) : A3 (w.setCell ⟨bl, 1, none⟩ (.int .i64 n')) bl k n' p :=
  ⟨(World.cell?_setCell_other _ _ _ _ (by simp)).trans h.c0, World.cell?_setCell_same _ _ _ h.c1, (World.cell?_setCell_other _ _ _ _ (by simp)).trans h.c2, by simpa using h.f0, by simpa using h.f1, by simpa using h.f2⟩
theorem A3.put2 {w : World} {bl : Nat} {k n p : Int} (h : A3 w bl k n p) (p' : Int) : A3 (w.setCell ⟨bl, 2, none⟩ (.int .i64 p')) bl k n p' :=
  ⟨(World.cell?_setCell_other _ _ _ _ (by simp)).trans h.c0, (World.cell?_setCell_other _ _ _ _ (by simp)).trans h.c1, World.cell?_setCell_same _ _ _ h.c2, by simpa using h.f0, by simpa using h.f1, by simpa using h.f2⟩
theorem A3.set {w : World} {bl : Nat} {k n p : Int} (h : A3 w bl k n p) (k' n' p' : Int) : A3 (((w.setCell ⟨bl, 0, none⟩ (.int .i64 k')).setCell ⟨bl, 1, none⟩ (.int .i64 n')).setCell ⟨bl, 2, none⟩ (.int .i64 p')) bl k' n' p' := ((h.put0 k').put1 n').put2 p'
theorem A3.other {w : World} {bl : Nat} {k n p : Int} (h : A3 w bl k n p) (bl' o : Nat) (hne : bl' ≠ bl) (u : Value) : A3 (w.setCell ⟨bl', o, none⟩ u) bl k n p :=
  ⟨(World.cell?_setCell_other _ _ _ _ (by simp)).trans h.c0, (World.cell?_setCell_other _ _ _ _ (by simp)).trans h.c1, (World.cell?_setCell_other _ _ _ _ (by simp)).trans h.c2, by simpa using h.f0, by simpa using h.f1, by simpa using h.f2⟩

theorem cells_row2 (w : World) (o : Obj) (xs : List Int) (t : TypeId) : ∀ j x, xs[j]? = some x → ((w.alloc o).alloc (.cells (xs.map (Value.int .i64)).toArray t)).cell? ⟨w.heap.size + 1, j, none⟩ = some (.int .i64 x) := by
  have h := cells_row (w.alloc o) xs t
  rwa [World.size_alloc] at h

/-- The end of a draw: the answer stands in its block. -/
theorem put_end {B R q bl : Nat} {w W : World} {k0 n0 p0 : Int} (k n p : Int) (hS : A3 W bl k0 n0 p0) (hR : Reader B W R q) (hG : w.grownBy W (some R)) (hB : B ≤ bl) (hb : w.heap.size ≤ bl) :
    A3 (((W.setCell ⟨bl, 0, none⟩ (.int .i64 k)).setCell ⟨bl, 1, none⟩ (.int .i64 n)).setCell ⟨bl, 2, none⟩ (.int .i64 p)) bl k n p ∧
    Reader B (((W.setCell ⟨bl, 0, none⟩ (.int .i64 k)).setCell ⟨bl, 1, none⟩ (.int .i64 n)).setCell ⟨bl, 2, none⟩ (.int .i64 p)) R q ∧
    w.grownBy (((W.setCell ⟨bl, 0, none⟩ (.int .i64 k)).setCell ⟨bl, 1, none⟩ (.int .i64 n)).setCell ⟨bl, 2, none⟩ (.int .i64 p)) (some R) :=
  ⟨hS.set k n p, ((hR.set _ _ _ hB).set _ _ _ hB).set _ _ _ hB, gb_put (gb_put (gb_put hG hb) hb) hb⟩

set_option maxHeartbeats 1000000 in
theorem arg_int (B R p : Nat) (w : World) (h : Reader B w R p) (hp : p < 9900000) :
    Calls Tryd.prog 92 #[.pointer (some ⟨R, 0, none⟩), .int .i64 11] w fun e w' => IsArg e ∧ (∃ q, q ≤ p + 4 ∧ Reader B w' R q) ∧ w.grownBy w' (some R) := by
  have hRB := h.1
  have hBw := h.2.1
  go_enter Tryd.func92, Tryd.ntmps92
  go_wp2_with fail
  refine (num_r B R p (w.heap.size + 1) [0, 1, 2, 3, 5, -1, -7, 10, 100, 32767, -32768, 1000] 12 _ ((h.alloc _).alloc _) (by decide) (by decide) (by omega) (by omega) (by exact cells_row2 w _ [0, 1, 2, 3, 5, -1, -7, 10, 100, 32767, -32768, 1000] 3)).mono ?_
  rintro e w1 ⟨v, hv, rfl, h1, g1⟩
  have bv : -2000000000 ≤ v ∧ v ≤ 2000000000 := by simp at hv; omega
  have G1 : w.grownBy w1 (some R) := gb_pick (gb_alloc (gb_alloc (gb_refl _ _) _) _) g1
  have s1 : A3 w1 w.heap.size 0 0 0 := ((A3.fresh w 0 0 0 87).alloc _).grown g1 (by simp; omega)
  obtain ⟨t1, t2, t3⟩ := put_end 11 v 0 s1 h1 G1 hBw (Nat.le_refl _)
  clear g1 hv
  obtain ⟨c0, c1, c2, f0, f1, f2⟩ := s1
  obtain ⟨q0, q1, q2, _, _, _⟩ := t1
  go_wp2
  exact bodyPost_ret (v := .agg #[.int .i64 11, .int .i64 v, .int .i64 0]) (by simp [results, Tryd.results92, go_sem, q0, q1, q2]) rfl ⟨⟨_, _, _, by omega, by omega, rfl⟩, ⟨_, by omega, t2⟩, t3⟩

set_option maxHeartbeats 1000000 in
theorem arg_dec (B R p : Nat) (w : World) (h : Reader B w R p) (hp : p < 9900000) :
    Calls Tryd.prog 92 #[.pointer (some ⟨R, 0, none⟩), .int .i64 12] w fun e w' => IsArg e ∧ (∃ q, q ≤ p + 4 ∧ Reader B w' R q) ∧ w.grownBy w' (some R) := by
  have hRB := h.1
  have hBw := h.2.1
  go_enter Tryd.func92, Tryd.ntmps92
  go_wp2_with fail
  refine (num_r B R p (w.heap.size + 1) [0, 1, 5, -5, 25, -15, 999999999, -999999999, 3, 1001, 7] 11 _ ((h.alloc _).alloc _) (by decide) (by decide) (by omega) (by omega) (by exact cells_row2 w _ [0, 1, 5, -5, 25, -15, 999999999, -999999999, 3, 1001, 7] 3)).mono ?_
  rintro e w1 ⟨v, hv, rfl, h1, g1⟩
  have bv : -2000000000 ≤ v ∧ v ≤ 2000000000 := by simp at hv; omega
  have G1 : w.grownBy w1 (some R) := gb_pick (gb_alloc (gb_alloc (gb_refl _ _) _) _) g1
  have s1 : A3 w1 w.heap.size 0 0 0 := ((A3.fresh w 0 0 0 87).alloc _).grown g1 (by simp; omega)
  clear g1 hv
  go_wp2_with fail
  refine (pick_r B R (p + 1) 6 _ h1 (by omega) (by omega) (by omega)).mono ?_
  rintro e w2 ⟨r, r1, rfl, h2, g2⟩
  have G2 : w.grownBy w2 (some R) := gb_pick G1 g2
  have s2 : A3 w2 w.heap.size 0 0 0 := s1.grown g2 (by simp; omega)
  clear g2 G1 s1 h1
  obtain ⟨m, HM⟩ : ∃ m, Hid (m = v.tmod 10) := ⟨_, rfl⟩
  by_cases hm : m = 0
  · obtain ⟨t1, t2, t3⟩ := put_end 12 v 1 s2 h2 G2 hBw (Nat.le_refl _)
    obtain ⟨c0, c1, c2, f0, f1, f2⟩ := s2
    obtain ⟨q0, q1, q2, _, _, _⟩ := t1
    have hm' : v.tmod 10 = 0 := by rw [← HM.out]; exact hm
    have hm2 : (v.tmod 10 == 0) = true := by rw [hm']; rfl
    clear HM
    go_wp2
    exact bodyPost_ret (v := .agg #[.int .i64 12, .int .i64 v, .int .i64 1]) (by simp [results, Tryd.results92, go_sem, q0, q1, q2]) rfl ⟨⟨_, _, _, by omega, by omega, rfl⟩, ⟨_, by omega, t2⟩, t3⟩
  · obtain ⟨t1, t2, t3⟩ := put_end 12 v (1 + r) s2 h2 G2 hBw (Nat.le_refl _)
    obtain ⟨c0, c1, c2, f0, f1, f2⟩ := s2
    obtain ⟨q0, q1, q2, _, _, _⟩ := t1
    have hm2 : (v.tmod 10 == 0) = false := by rw [← HM.out]; simp [hm]
    clear HM
    go_wp2
    exact bodyPost_ret (v := .agg #[.int .i64 12, .int .i64 v, .int .i64 (1 + r)]) (by simp [results, Tryd.results92, go_sem, q0, q1, q2]) rfl ⟨⟨_, _, _, by omega, by omega, rfl⟩, ⟨_, by omega, t2⟩, t3⟩

set_option maxHeartbeats 1000000 in
theorem arg_word (B R p : Nat) (w : World) (h : Reader B w R p) (hp : p < 9900000) :
    Calls Tryd.prog 92 #[.pointer (some ⟨R, 0, none⟩), .int .i64 13] w fun e w' => IsArg e ∧ (∃ q, q ≤ p + 4 ∧ Reader B w' R q) ∧ w.grownBy w' (some R) := by
  have hRB := h.1
  have hBw := h.2.1
  go_enter Tryd.func92, Tryd.ntmps92
  go_wp2_with fail
  refine (pick_r B R p 4 _ (h.alloc _) (by omega) (by omega) (by omega)).mono ?_
  rintro e w1 ⟨v, hv, rfl, h1, g1⟩
  have G1 : w.grownBy w1 (some R) := gb_pick (gb_alloc (gb_refl _ _) _) g1
  have s1 : A3 w1 w.heap.size 0 0 0 := (A3.fresh w 0 0 0 87).grown g1 (by simp; omega)
  obtain ⟨t1, t2, t3⟩ := put_end 13 v 0 s1 h1 G1 hBw (Nat.le_refl _)
  clear g1
  obtain ⟨c0, c1, c2, f0, f1, f2⟩ := s1
  obtain ⟨q0, q1, q2, _, _, _⟩ := t1
  go_wp2
  exact bodyPost_ret (v := .agg #[.int .i64 13, .int .i64 v, .int .i64 0]) (by simp [results, Tryd.results92, go_sem, q0, q1, q2]) rfl ⟨⟨_, _, _, by omega, by omega, rfl⟩, ⟨_, by omega, t2⟩, t3⟩

theorem kS_in (k : Int) (k1 : 1 ≤ k) (k2 : k ≤ 10) : 5 ≤ kS k ∧ kS k ≤ 64 := by
  rcases k_cases k with h | rfl | rfl | rfl | rfl | rfl | rfl | rfl | rfl | rfl | rfl
  · omega
  all_goals decide

set_option maxHeartbeats 2000000 in
theorem arg_dev (B R p : Nat) (k : Int) (w : World) (h : Reader B w R p) (hp : p < 9900000) (k1 : 1 ≤ k) (k2 : k ≤ 10) :
    Calls Tryd.prog 92 #[.pointer (some ⟨R, 0, none⟩), .int .i64 k] w fun e w' => IsArg e ∧ (∃ q, q ≤ p + 4 ∧ Reader B w' R q) ∧ w.grownBy w' (some R) := by
  have hRB := h.1
  have hBw := h.2.1
  have hz := kS_in k k1 k2
  have HS : Hid (∀ W : World, Calls Tryd.prog 101 #[.int .i64 k] W fun e w' => e = .returned (.int .i64 (kS k)) ∧ w' = W) := fun W => spec_size k W
  obtain ⟨z, HZ⟩ : ∃ z, Hid (z = kS k) := ⟨_, rfl⟩
  rw [← HZ.out] at HS hz
  clear HZ
  have e1 : (k == 11) = false := by simp; omega
  have e2 : (k == 12) = false := by simp; omega
  have e3 : (k == 13) = false := by simp; omega
  go_enter Tryd.func92, Tryd.ntmps92
  go_wp2_with fail
  refine (pick_r B R p 4 _ (h.alloc _) (by omega) (by omega) (by omega)).mono ?_
  rintro e w1 ⟨v, hv, rfl, h1, g1⟩
  have G1 : w.grownBy w1 (some R) := gb_pick (gb_alloc (gb_refl _ _) _) g1
  have s1 : A3 w1 w.heap.size 0 0 0 := (A3.fresh w 0 0 0 87).grown g1 (by simp; omega)
  clear g1
  go_wp2_with fail
  refine (pick_r B R (p + 1) 6 _ h1 (by omega) (by omega) (by omega)).mono ?_
  rintro e w2 ⟨r, r1, rfl, h2, g2⟩
  have G2 : w.grownBy w2 (some R) := gb_pick G1 g2
  have s2 : A3 w2 w.heap.size 0 0 0 := s1.grown g2 (by simp; omega)
  clear g2 G1 s1 h1
  by_cases hr : r = 0
  · subst hr
    go_wp2_with fail
    refine (HS.out _).mono ?_
    rintro e w2b ⟨rfl, rfl⟩
    go_wp2_with fail
    refine (pick_r B R (p + 1 + 1) z _ h2 (by omega) (by omega) (by omega)).mono ?_
    rintro e w3 ⟨u, u1, rfl, h3, g3⟩
    have G3 : w.grownBy w3 (some R) := gb_pick G2 g3
    have s3 : A3 w3 w.heap.size 0 0 0 := s2.grown g3 (by simp; omega)
    clear g3 G2 s2 h2
    go_wp2_with fail
    refine (HS.out _).mono ?_
    rintro e w3b ⟨rfl, rfl⟩
    obtain ⟨t1, t2, t3⟩ := put_end k u 0 s3 h3 G3 hBw (Nat.le_refl _)
    obtain ⟨c0, c1, c2, f0, f1, f2⟩ := s3
    obtain ⟨q0, q1, q2, _, _, _⟩ := t1
    go_wp2
    exact bodyPost_ret (v := .agg #[.int .i64 k, .int .i64 u, .int .i64 0]) (by simp [results, Tryd.results92, go_sem, q0, q1, q2]) rfl ⟨⟨_, _, _, by omega, by omega, rfl⟩, ⟨_, by omega, t2⟩, t3⟩
  · have hr' : ((r : Int) == 0) = false := by simp; omega
    go_wp2_with fail
    refine (HS.out _).mono ?_
    rintro e w2b ⟨rfl, rfl⟩
    obtain ⟨t1, t2, t3⟩ := put_end k v 0 s2 h2 G2 hBw (Nat.le_refl _)
    obtain ⟨c0, c1, c2, f0, f1, f2⟩ := s2
    obtain ⟨q0, q1, q2, _, _, _⟩ := t1
    go_wp2
    exact bodyPost_ret (v := .agg #[.int .i64 k, .int .i64 v, .int .i64 0]) (by simp [results, Tryd.results92, go_sem, q0, q1, q2]) rfl ⟨⟨_, _, _, by omega, by omega, rfl⟩, ⟨_, by omega, t2⟩, t3⟩

theorem arg_r (B R p : Nat) (k : Int) (w : World) (h : Reader B w R p) (hp : p < 9900000) (k1 : 1 ≤ k) (k2 : k ≤ 13) :
    Calls Tryd.prog 92 #[.pointer (some ⟨R, 0, none⟩), .int .i64 k] w fun e w' => IsArg e ∧ (∃ q, q ≤ p + 4 ∧ Reader B w' R q) ∧ w.grownBy w' (some R) := by
  by_cases e1 : k = 11
  · subst e1; exact arg_int B R p w h hp
  by_cases e2 : k = 12
  · subst e2; exact arg_dec B R p w h hp
  by_cases e3 : k = 13
  · subst e3; exact arg_word B R p w h hp
  exact arg_dev B R p k w h hp k1 (by omega)
end Go.Proofs.YtcihplachlokiaaDoor.Rr
