/- The table of kinds, and the walks of devKindOf, DevSize and DevLetter (the program's and the specification's). -/
import Derived.Test.YtcihplachlokiaaGreatDoorRows
import Derived.WalkKit
import Derived.ProofKit
import Derived.Handy
import Derived.WalkLawsBesides
import Derived.Deep.QuietTactic
import Derived.BigQuiet
import Derived.Lib.LaidU8
import Derived.OpenVars
import Derived.Deep.RegionWith
import Derived.WalkSpells
import Derived.Deep.WholeRow
import Derived.Great.Walk
import Derived.Laws.CopyOwn
import Derived.Laws.EntriesVeiled
namespace Go.Proofs.YtcihplachlokiaaGreatDoor
open Go.RowKit
set_option linter.unusedVariables false

def kL (k : Int) : ByteArray := if k = 1 then ⟨#[88]⟩ else if k = 2 then ⟨#[89]⟩ else if k = 3 then ⟨#[77]⟩ else if k = 4 then ⟨#[83]⟩ else if k = 5 then ⟨#[69]⟩ else if k = 6 then ⟨#[71]⟩ else if k = 7 then ⟨#[84]⟩ else if k = 8 then ⟨#[67]⟩ else if k = 9 then ⟨#[68]⟩ else if k = 10 then ⟨#[82]⟩ else ⟨#[]⟩
def kS (k : Int) : Int := if k = 1 then 32 else if k = 2 then 32 else if k = 3 then 64 else if k = 4 then 16 else if k = 5 then 32 else if k = 6 then 5 else if k = 7 then 16 else if k = 8 then 16 else if k = 9 then 32 else if k = 10 then 16 else 0
def kB (k : Int) : Bool := decide (k = 1) || decide (k = 2) || decide (k = 3) || decide (k = 4) || decide (k = 6) || decide (k = 7) || decide (k = 8)
def kW (k : Int) : Bool := decide (k = 7) || decide (k = 8) || decide (k = 9) || decide (k = 11)
def kR (k : Int) : Bool := decide (k = 10) || decide (k = 12) || decide (k = 13)

theorem kL_out (k : Int) (h : k ≤ 0 ∨ 11 ≤ k) : kL k = ⟨#[]⟩ := by
  unfold kL
  rw [if_neg (by omega), if_neg (by omega), if_neg (by omega), if_neg (by omega), if_neg (by omega), if_neg (by omega), if_neg (by omega), if_neg (by omega), if_neg (by omega), if_neg (by omega)]
theorem kS_out (k : Int) (h : k ≤ 0 ∨ 11 ≤ k) : kS k = 0 := by
  unfold kS
  rw [if_neg (by omega), if_neg (by omega), if_neg (by omega), if_neg (by omega), if_neg (by omega), if_neg (by omega), if_neg (by omega), if_neg (by omega), if_neg (by omega), if_neg (by omega)]
theorem kB_out (k : Int) (h : k ≤ 0 ∨ 14 ≤ k) : kB k = false := by simp [kB]; omega
theorem kW_out (k : Int) (h : k ≤ 0 ∨ 14 ≤ k) : kW k = false := by simp [kW]; omega
theorem kR_out (k : Int) (h : k ≤ 0 ∨ 14 ≤ k) : kR k = false := by simp [kR]; omega

/-- The table of kinds stands in the memory. -/
def KT (w : World) : Prop := ∀ i : Nat, i < 14 → w.cell? ⟨0, i * 5, none⟩ = some (.string (kL i)) ∧ w.cell? ⟨0, i * 5 + 1, none⟩ = some (.int .i64 (kS i)) ∧ w.cell? ⟨0, i * 5 + 2, none⟩ = some (.bool (kB i)) ∧ w.cell? ⟨0, i * 5 + 3, none⟩ = some (.bool (kW i)) ∧ w.cell? ⟨0, i * 5 + 4, none⟩ = some (.bool (kR i))

theorem KT.lt {w : World} (h : KT w) : 0 < w.heap.size := World.block_lt_of_cell? _ _ (h 0 (by omega)).1
theorem KT.below {w w' : World} (h : KT w) {B : Nat} (hB : 0 < B) (g : Below B w w') : KT w' := fun i hi => by
  have := h i hi
  refine ⟨?_, ?_, ?_, ?_, ?_⟩
  · exact (g.cell (p := ⟨0, i * 5, none⟩) hB).trans this.1
  · exact (g.cell (p := ⟨0, i * 5 + 1, none⟩) hB).trans this.2.1
  · exact (g.cell (p := ⟨0, i * 5 + 2, none⟩) hB).trans this.2.2.1
  · exact (g.cell (p := ⟨0, i * 5 + 3, none⟩) hB).trans this.2.2.2.1
  · exact (g.cell (p := ⟨0, i * 5 + 4, none⟩) hB).trans this.2.2.2.2
theorem KT.later {w w' : World} (h : KT w) (g : Below w.heap.size w w') : KT w' := h.below h.lt g
theorem KT.alloc {w : World} (h : KT w) (o : Obj) : KT (w.alloc o) := h.later ((Below.refl _ _).alloc (Nat.le_refl _) _)

set_option maxHeartbeats 1000000 in
theorem kind_out (k : Int) (w : World) (h : k < 0 ∨ 14 ≤ k) :
    Calls Tryz.prog 97 #[.int .i64 k] w fun e w' => e = .returned (.agg #[.string ⟨#[]⟩, .int .i64 0, .bool false, .bool false, .bool false]) ∧ Below w.heap.size w w' := by
  by_cases h0 : k < 0
  · go_enter Tryz.func97, Tryz.ntmps97
    go_wp2
    go_returns
    exact ⟨rfl, by go_grown⟩
  · have h1 : 14 ≤ k := by omega
    go_enter Tryz.func97, Tryz.ntmps97
    go_wp2
    go_returns
    exact ⟨rfl, by go_grown⟩

set_option maxHeartbeats 1000000 in
theorem kind_in (i : Nat) (S : ByteArray) (z : Int) (a b c : Bool) (w : World) (hi : i < 14)
   (h0 : w.cell? ⟨0, i * 5, none⟩ = some (.string S)) (h1 : w.cell? ⟨0, i * 5 + 1, none⟩ = some (.int .i64 z)) (h2 : w.cell? ⟨0, i * 5 + 2, none⟩ = some (.bool a)) (h3 : w.cell? ⟨0, i * 5 + 3, none⟩ = some (.bool b)) (h4 : w.cell? ⟨0, i * 5 + 4, none⟩ = some (.bool c)) :
    Calls Tryz.prog 97 #[.int .i64 i] w fun e w' => e = .returned (.agg #[.string S, .int .i64 z, .bool a, .bool b, .bool c]) ∧ Below w.heap.size w w' := by
  have i0 : ¬ ((i : Int) < 0) := by omega
  have i1 : (i : Int) < 14 := by omega
  have hl : 0 < w.heap.size := World.block_lt_of_cell? _ _ h0
  have q0 : ∀ o : Obj, (w.alloc o).cell? ⟨0, i * 5, none⟩ = some (.string S) := fun o => (World.cell?_alloc_past _ _ _ hl).trans h0
  have q1 : ∀ o : Obj, (w.alloc o).cell? ⟨0, i * 5 + 1, none⟩ = some (.int .i64 z) := fun o => (World.cell?_alloc_past _ _ _ hl).trans h1
  have q2 : ∀ o : Obj, (w.alloc o).cell? ⟨0, i * 5 + 2, none⟩ = some (.bool a) := fun o => (World.cell?_alloc_past _ _ _ hl).trans h2
  have q3 : ∀ o : Obj, (w.alloc o).cell? ⟨0, i * 5 + 3, none⟩ = some (.bool b) := fun o => (World.cell?_alloc_past _ _ _ hl).trans h3
  have q4 : ∀ o : Obj, (w.alloc o).cell? ⟨0, i * 5 + 4, none⟩ = some (.bool c) := fun o => (World.cell?_alloc_past _ _ _ hl).trans h4
  go_enter Tryz.func97, Tryz.ntmps97
  go_wp2
  go_returns
  exact ⟨rfl, by go_grown⟩

theorem kind_of (k : Int) (w : World) (h : KT w) :
    Calls Tryz.prog 97 #[.int .i64 k] w fun e w' => e = .returned (.agg #[.string (kL k), .int .i64 (kS k), .bool (kB k), .bool (kW k), .bool (kR k)]) ∧ Below w.heap.size w w' := by
  by_cases h0 : k < 0 ∨ 14 ≤ k
  · rw [kL_out k (by omega), kS_out k (by omega), kB_out k (by omega), kW_out k (by omega), kR_out k (by omega)]
    exact kind_out k w h0
  · obtain ⟨i, rfl⟩ := Int.eq_ofNat_of_zero_le (by omega : 0 ≤ k)
    obtain ⟨h1, h2, h3, h4, h5⟩ := h i (by omega)
    exact kind_in i _ _ _ _ _ w (by omega) h1 h2 h3 h4 h5

theorem field0 (a b c d e : Value) (w : World) : (Instr.field 110 (.agg #[a, b, c, d, e]) 0).run Tryz.prog w = .ok a w := by kernel_rfl
theorem field1 (a b c d e : Value) (w : World) : (Instr.field 110 (.agg #[a, b, c, d, e]) 1).run Tryz.prog w = .ok b w := by kernel_rfl
theorem field2 (a b c d e : Value) (w : World) : (Instr.field 110 (.agg #[a, b, c, d, e]) 2).run Tryz.prog w = .ok c w := by kernel_rfl
theorem field3 (a b c d e : Value) (w : World) : (Instr.field 110 (.agg #[a, b, c, d, e]) 3).run Tryz.prog w = .ok d w := by kernel_rfl
theorem field4 (a b c d e : Value) (w : World) : (Instr.field 110 (.agg #[a, b, c, d, e]) 4).run Tryz.prog w = .ok e w := by kernel_rfl
attribute [go_sem] field0 field1 field2 field3 field4

set_option maxHeartbeats 1000000 in
theorem impl_size (k : Int) (w : World) (h : KT w) :
    Calls Tryz.prog 100 #[.int .i64 k] w fun e w' => e = .returned (.int .i64 (kS k)) ∧ Below w.heap.size w w' := by
  go_enter Tryz.func100, Tryz.ntmps100
  go_wp2_with fail
  refine (kind_of k _ h).mono ?_
  rintro e w1 ⟨rfl, g1⟩
  go_wp2
  go_ret
  exact ⟨rfl, g1⟩

theorem k_cases (k : Int) : (k ≤ 0 ∨ 11 ≤ k) ∨ k = 1 ∨ k = 2 ∨ k = 3 ∨ k = 4 ∨ k = 5 ∨ k = 6 ∨ k = 7 ∨ k = 8 ∨ k = 9 ∨ k = 10 := by omega

set_option maxHeartbeats 2000000 in
theorem spec_size (k : Int) (w : World) :
    Calls Tryz.prog 75 #[.int .i64 k] w fun e w' => e = .returned (.int .i64 (kS k)) ∧ w' = w := by
  rcases k_cases k with h | rfl | rfl | rfl | rfl | rfl | rfl | rfl | rfl | rfl | rfl
  · rw [kS_out k h]
    have n1 : (k == 1) = false := by simp; omega
    have n2 : (k == 2) = false := by simp; omega
    have n3 : (k == 3) = false := by simp; omega
    have n4 : (k == 4) = false := by simp; omega
    have n5 : (k == 5) = false := by simp; omega
    have n6 : (k == 6) = false := by simp; omega
    have n7 : (k == 7) = false := by simp; omega
    have n8 : (k == 8) = false := by simp; omega
    have n9 : (k == 9) = false := by simp; omega
    have n10 : (k == 10) = false := by simp; omega
    go_enter Tryz.func75, Tryz.ntmps75
    go_wp2
    go_ret
    exact ⟨rfl, rfl⟩
  all_goals
    go_enter Tryz.func75, Tryz.ntmps75
    go_wp2
    go_ret
    exact ⟨rfl, rfl⟩

end Go.Proofs.YtcihplachlokiaaGreatDoor
/- What the listed variables hold gives the walks their tables. -/
namespace Go.Proofs.YtcihplachlokiaaGreatDoor
open Go.RowKit Go.Lib
set_option linter.unusedVariables false

theorem g1_named : Tryz.prog.globalNamed "loop.example/stile/impl.devKinds" = some 0 := by kernel_rfl
theorem g1_type : (Tryz.prog.globals[0]?).map (·.type) = some 113 := by kernel_rfl
theorem cellsK : Tryz.prog.cellsOf 110 = 5 := by kernel_rfl
theorem cells9 : Tryz.prog.cellsOf 9 = 1 := by kernel_rfl
theorem cells3 : Tryz.prog.cellsOf 3 = 1 := by kernel_rfl
theorem cells4 : Tryz.prog.cellsOf 4 = 1 := by kernel_rfl

theorem ba_list {s : ByteArray} {l : List UInt8} (h : s.data.toList = l) : s = ⟨l.toArray⟩ := by rw [← h, Lib.mk_data]

set_option maxRecDepth 100000 in
theorem row5 {w : World} {base : Nat} {sp : Nat → Bool} {fuel : Nat} {cs : List Value} {s : List UInt8} {z : Int} {a b c : Bool} {p : List MemPlace}
    (h : DataW.trod (fun _ => ()) Tryz.prog w base sp false fuel 110 cs = some (.agg [.lit (.string s), .lit (.int .i64 z), .lit (.bool a), .lit (.bool b), .lit (.bool c)], p)) :
    cs = [.string ⟨s.toArray⟩, .int .i64 z, .bool a, .bool b, .bool c] := by
  obtain ⟨xs, n, rfl, hx, hl, hxl, hall⟩ := DataW.trod_struct Tryz.underlying110 h
  rw [cellsK] at hl
  have hxs := congrArg Prod.fst hx
  simp only [DataW.agg.injEq] at hxs
  match cs, hl with
  | [c0, c1, c2, c3, c4], _ =>
    match xs, hxs with
    | [x0, x1, x2, x3, x4], hxs =>
      have h0 : DataW.trod (fun _ => ()) Tryz.prog w base sp false n 9 (([c0, c1, c2, c3, c4].drop 0).take (Tryz.prog.cellsOf 9)) = [x0, x1, x2, x3, x4][0]? := hall 0 _ rfl
      have h1 : DataW.trod (fun _ => ()) Tryz.prog w base sp false n 3 (([c0, c1, c2, c3, c4].drop 1).take (Tryz.prog.cellsOf 3)) = [x0, x1, x2, x3, x4][1]? := hall 1 _ rfl
      have h2 : DataW.trod (fun _ => ()) Tryz.prog w base sp false n 4 (([c0, c1, c2, c3, c4].drop 2).take (Tryz.prog.cellsOf 4)) = [x0, x1, x2, x3, x4][2]? := hall 2 _ rfl
      have h3 : DataW.trod (fun _ => ()) Tryz.prog w base sp false n 4 (([c0, c1, c2, c3, c4].drop 3).take (Tryz.prog.cellsOf 4)) = [x0, x1, x2, x3, x4][3]? := hall 3 _ rfl
      have h4 : DataW.trod (fun _ => ()) Tryz.prog w base sp false n 4 (([c0, c1, c2, c3, c4].drop 4).take (Tryz.prog.cellsOf 4)) = [x0, x1, x2, x3, x4][4]? := hall 4 _ rfl
      simp only [cells9, cells3, cells4, List.drop_zero, List.drop_succ_cons, List.take_succ_cons, List.take_zero, List.getElem?_cons_zero, List.getElem?_cons_succ] at h0 h1 h2 h3 h4
      obtain ⟨v0, e0, rfl, _⟩ := DataW.trod_string Tryz.underlying9 h0
      obtain ⟨v1, e1, rfl, _⟩ := DataW.trod_int Tryz.underlying3 h1
      obtain ⟨v2, e2, rfl⟩ := DataW.trod_bool Tryz.underlying4 h2
      obtain ⟨v3, e3, rfl⟩ := DataW.trod_bool Tryz.underlying4 h3
      obtain ⟨v4, e4, rfl⟩ := DataW.trod_bool Tryz.underlying4 h4
      simp only [List.map_cons, List.map_nil, List.cons.injEq, DataW.lit.injEq, Lit.string.injEq, Lit.int.injEq, Lit.bool.injEq, true_and, and_true] at hxs e0 e1 e2 e3 e4
      obtain ⟨f0, f1, f2, f3, f4⟩ := hxs
      rw [e0, e1, e2, e3, e4, f1, f2, f3, f4, ba_list f0.symm]

theorem at5 {W : World} {cs : Array Value} {n : String} {g : Nat} (hg : Tryz.prog.globalNamed n = some g) (hv : W.var? Tryz.prog n = some cs) {i : Nat} {a b c d e : Value} (h : (cs.toList.drop (i * 5)).take 5 = [a, b, c, d, e]) :
    W.cell? ⟨g, i * 5, none⟩ = some a ∧ W.cell? ⟨g, i * 5 + 1, none⟩ = some b ∧ W.cell? ⟨g, i * 5 + 2, none⟩ = some c ∧ W.cell? ⟨g, i * 5 + 3, none⟩ = some d ∧ W.cell? ⟨g, i * 5 + 4, none⟩ = some e := by
  have key : ∀ j, j < 5 → W.cell? ⟨g, i * 5 + j, none⟩ = [a, b, c, d, e][j]? := fun j hj => by
    rw [World.var?_cell hg hv, ← h, List.getElem?_take, if_pos hj, List.getElem?_drop]
    simp
  exact ⟨key 0 (by omega), key 1 (by omega), key 2 (by omega), key 3 (by omega), key 4 (by omega)⟩

theorem c14 (i : Nat) (h : i < 14) : i = 0 ∨ i = 1 ∨ i = 2 ∨ i = 3 ∨ i = 4 ∨ i = 5 ∨ i = 6 ∨ i = 7 ∨ i = 8 ∨ i = 9 ∨ i = 10 ∨ i = 11 ∨ i = 12 ∨ i = 13 := by omega

theorem kt_of_reads {W : World} (h : VarReads Tryz.prog W "loop.example/stile/impl.devKinds" Rows.laid_loop_example_stile_impl_devKinds) : KT W := by
  obtain ⟨g, t, cs, fuel, p, hg, ht, hv, hd⟩ := h
  obtain rfl := Option.some.inj (g1_named.symm.trans hg)
  obtain rfl := Option.some.inj (g1_type.symm.trans ht)
  intro i hi
  unfold Rows.laid_loop_example_stile_impl_devKinds at hd
  obtain ⟨f', d, q, hdi, hr⟩ := Lib.array_elem Tryz.underlying113 hd i hi
  rw [cellsK] at hr
  rcases c14 i hi with rfl | rfl | rfl | rfl | rfl | rfl | rfl | rfl | rfl | rfl | rfl | rfl | rfl | rfl
  all_goals
    obtain rfl := Option.some.inj hdi
    have := at5 hg hv (row5 hr)
    exact this
end Go.Proofs.YtcihplachlokiaaGreatDoor
/- Walks of DevOk (the program's and the specification's), of devDecOk and of toDevArg. -/
namespace Go.Proofs.YtcihplachlokiaaGreatDoor
open Go.RowKit
set_option linter.unusedVariables false

def okD (n p : Int) : Bool := decide (-999999999 ≤ n ∧ n ≤ 999999999 ∧ 1 ≤ p ∧ p ≤ 6 ∧ (p = 1 ∨ n.tmod 10 ≠ 0))
/-- An operand is ok. -/
def okA (k n p : Int) : Bool :=
  if k = 12 then okD n p else if k = 11 then decide (-32768 ≤ n ∧ n ≤ 32767 ∧ p = 0) else if k = 13 then decide (0 ≤ n ∧ n ≤ 3 ∧ p = 0) else decide (0 ≤ n ∧ n < kS k ∧ p = 0)

theorem ret_bool {a b : Bool} (h : a = b) : Ending.returned (.bool a) = .returned (.bool b) := by rw [h]

set_option maxHeartbeats 1000000 in
theorem dec_ok (k n p : Int) (w : World) :
    Calls Tryz.prog 99 #[.agg #[.int .i64 k, .int .i64 n, .int .i64 p]] w fun e w' => e = .returned (.bool (okD n p)) ∧ Below w.heap.size w w' := by
  by_cases h1 : n < -999999999
  · go_enter Tryz.func99, Tryz.ntmps99
    go_wp2
    go_ret
    exact ⟨ret_bool (by simp [okD]; omega), by go_grown⟩
  by_cases h2 : 999999999 < n
  · go_enter Tryz.func99, Tryz.ntmps99
    go_wp2
    go_ret
    exact ⟨ret_bool (by simp [okD]; omega), by go_grown⟩
  by_cases h3 : p < 1
  · go_enter Tryz.func99, Tryz.ntmps99
    go_wp2
    go_ret
    exact ⟨ret_bool (by simp [okD]; omega), by go_grown⟩
  by_cases h4 : 6 < p
  · go_enter Tryz.func99, Tryz.ntmps99
    go_wp2
    go_ret
    exact ⟨ret_bool (by simp [okD]; omega), by go_grown⟩
  by_cases h5 : p = 1
  · subst h5
    go_enter Tryz.func99, Tryz.ntmps99
    go_wp2
    go_ret
    exact ⟨ret_bool (by simp [okD]; omega), by go_grown⟩
  · have h6 : (p == 1) = false := by simp [h5]
    go_enter Tryz.func99, Tryz.ntmps99
    go_wp2
    go_ret
    have e : okD n p = decide (¬ n.tmod 10 = 0) := by
      have a1 : -999999999 ≤ n := by omega
      have a2 : n ≤ 999999999 := by omega
      have a3 : 1 ≤ p := by omega
      have a4 : p ≤ 6 := by omega
      simp [okD, a1, a2, a3, a4, h5]
    rw [e]
    exact ⟨ret_bool (by simp; rfl), by go_grown⟩

theorem okA_dec (n p : Int) : okA 12 n p = okD n p := by simp [okA]

set_option maxHeartbeats 1000000 in
theorem impl_ok_dec (n p : Int) (w : World) :
    Calls Tryz.prog 96 #[.agg #[.int .i64 12, .int .i64 n, .int .i64 p]] w fun e w' => e = .returned (.bool (okA 12 n p)) ∧ Below w.heap.size w w' := by
  rw [okA_dec]
  go_enter Tryz.func96, Tryz.ntmps96
  go_wp2_with fail
  refine (dec_ok 12 n p _).mono ?_
  rintro e w1 ⟨rfl, g1⟩
  have b1 : Below w.heap.size w w1 := ((Below.refl _ _).alloc (Nat.le_refl _) _).trans (g1.mono (by simp))
  clear g1
  go_wp2
  go_ret
  exact ⟨rfl, b1⟩

/-- The last step of the program's DevOk. -/
theorem okA_of {k n p lo hi : Int} (h : okA k n p = decide (lo ≤ n ∧ n < hi ∧ p = 0)) (b : Bool) (hb : b = true ↔ (lo ≤ n ∧ n < hi ∧ p = 0)) : b = okA k n p := by
  rw [h, Bool.eq_iff_iff, hb]
  simp

set_option maxHeartbeats 1000000 in
theorem impl_ok_int (n p : Int) (w : World) (hT : KT w) :
    Calls Tryz.prog 96 #[.agg #[.int .i64 11, .int .i64 n, .int .i64 p]] w fun e w' => e = .returned (.bool (okA 11 n p)) ∧ Below w.heap.size w w' := by
  have ho : okA 11 n p = decide (-32768 ≤ n ∧ n ≤ 32767 ∧ p = 0) := by simp [okA]
  rw [ho]
  clear ho
  go_enter Tryz.func96, Tryz.ntmps96
  go_wp2_with fail
  refine (impl_size 11 _ (hT.alloc _)).mono ?_
  rintro e w1 ⟨rfl, g1⟩
  have c0 : w1.cell? ⟨w.heap.size, 0, none⟩ = some (.int .i64 11) := cell_later g1 (by simp)
  have c1 : w1.cell? ⟨w.heap.size, 1, none⟩ = some (.int .i64 n) := cell_later g1 (by simp)
  have c2 : w1.cell? ⟨w.heap.size, 2, none⟩ = some (.int .i64 p) := cell_later g1 (by simp)
  have b1 : Below w.heap.size w w1 := ((Below.refl _ _).alloc (Nat.le_refl _) _).trans (g1.mono (by simp))
  clear g1 hT
  by_cases h1 : -32768 ≤ n
  · by_cases h2 : n ≤ 32767
    · have h2' : n < 32768 := by omega
      go_wp2
      go_ret
      exact ⟨ret_bool (by simp [h1, h2]; rfl), b1⟩
    · have h2' : ¬ n < 32768 := by omega
      go_wp2
      go_ret
      exact ⟨ret_bool (by simp; omega), b1⟩
  · go_wp2
    go_ret
    exact ⟨ret_bool (by simp; omega), b1⟩

set_option maxHeartbeats 1000000 in
theorem impl_ok_word (n p : Int) (w : World) (hT : KT w) :
    Calls Tryz.prog 96 #[.agg #[.int .i64 13, .int .i64 n, .int .i64 p]] w fun e w' => e = .returned (.bool (okA 13 n p)) ∧ Below w.heap.size w w' := by
  have ho : okA 13 n p = decide (0 ≤ n ∧ n ≤ 3 ∧ p = 0) := by simp [okA]
  rw [ho]
  clear ho
  go_enter Tryz.func96, Tryz.ntmps96
  go_wp2_with fail
  refine (impl_size 13 _ (hT.alloc _)).mono ?_
  rintro e w1 ⟨rfl, g1⟩
  have c0 : w1.cell? ⟨w.heap.size, 0, none⟩ = some (.int .i64 13) := cell_later g1 (by simp)
  have c1 : w1.cell? ⟨w.heap.size, 1, none⟩ = some (.int .i64 n) := cell_later g1 (by simp)
  have c2 : w1.cell? ⟨w.heap.size, 2, none⟩ = some (.int .i64 p) := cell_later g1 (by simp)
  have b1 : Below w.heap.size w w1 := ((Below.refl _ _).alloc (Nat.le_refl _) _).trans (g1.mono (by simp))
  clear g1 hT
  by_cases h1 : 0 ≤ n
  · by_cases h2 : n ≤ 3
    · have h2' : n < 4 := by omega
      go_wp2
      go_ret
      exact ⟨ret_bool (by simp [h1, h2]; rfl), b1⟩
    · have h2' : ¬ n < 4 := by omega
      go_wp2
      go_ret
      exact ⟨ret_bool (by simp; omega), b1⟩
  · go_wp2
    go_ret
    exact ⟨ret_bool (by simp; omega), b1⟩

set_option maxHeartbeats 1000000 in
theorem impl_ok_dev (k n p : Int) (w : World) (hT : KT w) (k1 : k ≠ 11) (k2 : k ≠ 12) (k3 : k ≠ 13) :
    Calls Tryz.prog 96 #[.agg #[.int .i64 k, .int .i64 n, .int .i64 p]] w fun e w' => e = .returned (.bool (okA k n p)) ∧ Below w.heap.size w w' := by
  have ho : okA k n p = decide (0 ≤ n ∧ n < kS k ∧ p = 0) := by simp [okA, k1, k2, k3]
  rw [ho]
  clear ho
  have hs := impl_size k
  obtain ⟨z, HZ⟩ : ∃ z, Hid (z = kS k) := ⟨_, rfl⟩
  rw [← HZ.out] at hs ⊢
  clear HZ
  have e1 : (k == 11) = false := by simp [k1]
  have e2 : (k == 12) = false := by simp [k2]
  have e3 : (k == 13) = false := by simp [k3]
  go_enter Tryz.func96, Tryz.ntmps96
  go_wp2_with fail
  refine (hs _ (hT.alloc _)).mono ?_
  rintro e w1 ⟨rfl, g1⟩
  have c0 : w1.cell? ⟨w.heap.size, 0, none⟩ = some (.int .i64 k) := cell_later g1 (by simp)
  have c1 : w1.cell? ⟨w.heap.size, 1, none⟩ = some (.int .i64 n) := cell_later g1 (by simp)
  have c2 : w1.cell? ⟨w.heap.size, 2, none⟩ = some (.int .i64 p) := cell_later g1 (by simp)
  have b1 : Below w.heap.size w w1 := ((Below.refl _ _).alloc (Nat.le_refl _) _).trans (g1.mono (by simp))
  clear g1 hT hs
  by_cases h1 : 0 ≤ n
  · by_cases h2 : n < z
    · go_wp2
      go_ret
      exact ⟨ret_bool (by simp [h1, h2]; rfl), b1⟩
    · go_wp2
      go_ret
      exact ⟨ret_bool (by simp; omega), b1⟩
  · go_wp2
    go_ret
    exact ⟨ret_bool (by simp; omega), b1⟩

theorem impl_ok (k n p : Int) (w : World) (hT : KT w) :
    Calls Tryz.prog 96 #[.agg #[.int .i64 k, .int .i64 n, .int .i64 p]] w fun e w' => e = .returned (.bool (okA k n p)) ∧ Below w.heap.size w w' := by
  by_cases k2 : k = 12
  · subst k2; exact impl_ok_dec n p w
  by_cases k1 : k = 11
  · subst k1; exact impl_ok_int n p w hT
  by_cases k3 : k = 13
  · subst k3; exact impl_ok_word n p w hT
  exact impl_ok_dev k n p w hT k1 k2 k3
end Go.Proofs.YtcihplachlokiaaGreatDoor
/- Walks of the specification's DevOk. -/
namespace Go.Proofs.YtcihplachlokiaaGreatDoor
open Go.RowKit
set_option linter.unusedVariables false

theorem bdrew {B : Nat} {a w : World} (h : Below B a w) (n : Nat) : Below B a (w.drewN n) := ⟨h.os, h.tape, h.output, h.size, h.block⟩

end Go.Proofs.YtcihplachlokiaaGreatDoor
/- Walks of DevIsBit, DevIsWhole and DevIsReal, and the laws FnExactDevOk, FnExactDevIsBit, FnExactDevIsWhole, FnExactDevIsReal. -/
namespace Go.Proofs.YtcihplachlokiaaGreatDoor
open Go.RowKit
set_option linter.unusedVariables false

theorem ok_cases {k n p : Int} (h : okA k n p = true) : k = 1 ∨ k = 2 ∨ k = 3 ∨ k = 4 ∨ k = 5 ∨ k = 6 ∨ k = 7 ∨ k = 8 ∨ k = 9 ∨ k = 10 ∨ k = 11 ∨ k = 12 ∨ k = 13 := by
  by_cases h0 : k ≤ 0 ∨ 14 ≤ k
  · have e : okA k n p = decide (0 ≤ n ∧ n < kS k ∧ p = 0) := by
      unfold okA
      rw [if_neg (by omega), if_neg (by omega), if_neg (by omega)]
    rw [e, kS_out k (by omega)] at h
    simp at h
    omega
  · omega

set_option maxHeartbeats 1000000 in
theorem impl_isbit (k n p : Int) (w : World) (hT : KT w) :
    Calls Tryz.prog 83 #[.agg #[.int .i64 k, .int .i64 n, .int .i64 p]] w fun e w' => e = .returned (.bool (okA k n p && kB k)) ∧ Below w.heap.size w w' := by
  have hk := fun W (h : KT W) => impl_ok k n p W h
  have hd := fun W (h : KT W) => kind_of k W h
  have HK : Hid (∀ W, KT W → Calls Tryz.prog 96 #[.agg #[.int .i64 k, .int .i64 n, .int .i64 p]] W fun e w' => e = .returned (.bool (okA k n p)) ∧ Below W.heap.size W w') := hk
  have HD : Hid (∀ W, KT W → Calls Tryz.prog 97 #[.int .i64 k] W fun e w' => e = .returned (.agg #[.string (kL k), .int .i64 (kS k), .bool (kB k), .bool (kW k), .bool (kR k)]) ∧ Below W.heap.size W w') := hd
  clear hk hd
  cases ho : okA k n p with
  | false =>
    rw [ho] at HK
    go_enter Tryz.func83, Tryz.ntmps83
    go_wp2_with fail
    refine (HK.out _ (hT.alloc _)).mono ?_
    rintro e w1 ⟨rfl, g1⟩
    have b1 : Below w.heap.size w w1 := ((Below.refl _ _).alloc (Nat.le_refl _) _).trans (g1.mono (by simp))
    clear g1
    go_wp2
    go_ret
    exact ⟨rfl, b1⟩
  | true =>
    rw [ho] at HK
    go_enter Tryz.func83, Tryz.ntmps83
    go_wp2_with fail
    refine (HK.out _ (hT.alloc _)).mono ?_
    rintro e w1 ⟨rfl, g1⟩
    have hT1 : KT w1 := (hT.alloc _).later g1
    have c0 : w1.cell? ⟨w.heap.size, 0, none⟩ = some (.int .i64 k) := cell_later g1 (by simp)
    have b1 : Below w.heap.size w w1 := ((Below.refl _ _).alloc (Nat.le_refl _) _).trans (g1.mono (by simp))
    clear g1
    go_wp2_with fail
    refine (HD.out _ hT1).mono ?_
    rintro e w2 ⟨rfl, g2⟩
    have b2 : Below w.heap.size w w2 := b1.trans (g2.mono b1.size)
    clear g2 b1
    go_wp2
    go_ret
    exact ⟨by simp, b2⟩

set_option maxHeartbeats 1000000 in
theorem impl_iswhole (k n p : Int) (w : World) (hT : KT w) :
    Calls Tryz.prog 85 #[.agg #[.int .i64 k, .int .i64 n, .int .i64 p]] w fun e w' => e = .returned (.bool (okA k n p && kW k)) ∧ Below w.heap.size w w' := by
  have hk := fun W (h : KT W) => impl_ok k n p W h
  have hd := fun W (h : KT W) => kind_of k W h
  have HK : Hid (∀ W, KT W → Calls Tryz.prog 96 #[.agg #[.int .i64 k, .int .i64 n, .int .i64 p]] W fun e w' => e = .returned (.bool (okA k n p)) ∧ Below W.heap.size W w') := hk
  have HD : Hid (∀ W, KT W → Calls Tryz.prog 97 #[.int .i64 k] W fun e w' => e = .returned (.agg #[.string (kL k), .int .i64 (kS k), .bool (kB k), .bool (kW k), .bool (kR k)]) ∧ Below W.heap.size W w') := hd
  clear hk hd
  cases ho : okA k n p with
  | false =>
    rw [ho] at HK
    go_enter Tryz.func85, Tryz.ntmps85
    go_wp2_with fail
    refine (HK.out _ (hT.alloc _)).mono ?_
    rintro e w1 ⟨rfl, g1⟩
    have b1 : Below w.heap.size w w1 := ((Below.refl _ _).alloc (Nat.le_refl _) _).trans (g1.mono (by simp))
    clear g1
    go_wp2
    go_ret
    exact ⟨rfl, b1⟩
  | true =>
    rw [ho] at HK
    go_enter Tryz.func85, Tryz.ntmps85
    go_wp2_with fail
    refine (HK.out _ (hT.alloc _)).mono ?_
    rintro e w1 ⟨rfl, g1⟩
    have hT1 : KT w1 := (hT.alloc _).later g1
    have c0 : w1.cell? ⟨w.heap.size, 0, none⟩ = some (.int .i64 k) := cell_later g1 (by simp)
    have b1 : Below w.heap.size w w1 := ((Below.refl _ _).alloc (Nat.le_refl _) _).trans (g1.mono (by simp))
    clear g1
    go_wp2_with fail
    refine (HD.out _ hT1).mono ?_
    rintro e w2 ⟨rfl, g2⟩
    have b2 : Below w.heap.size w w2 := b1.trans (g2.mono b1.size)
    clear g2 b1
    go_wp2
    go_ret
    exact ⟨by simp, b2⟩

set_option maxHeartbeats 1000000 in
theorem impl_isreal (k n p : Int) (w : World) (hT : KT w) :
    Calls Tryz.prog 86 #[.agg #[.int .i64 k, .int .i64 n, .int .i64 p]] w fun e w' => e = .returned (.bool (okA k n p && kR k)) ∧ Below w.heap.size w w' := by
  have hk := fun W (h : KT W) => impl_ok k n p W h
  have hd := fun W (h : KT W) => kind_of k W h
  have HK : Hid (∀ W, KT W → Calls Tryz.prog 96 #[.agg #[.int .i64 k, .int .i64 n, .int .i64 p]] W fun e w' => e = .returned (.bool (okA k n p)) ∧ Below W.heap.size W w') := hk
  have HD : Hid (∀ W, KT W → Calls Tryz.prog 97 #[.int .i64 k] W fun e w' => e = .returned (.agg #[.string (kL k), .int .i64 (kS k), .bool (kB k), .bool (kW k), .bool (kR k)]) ∧ Below W.heap.size W w') := hd
  clear hk hd
  cases ho : okA k n p with
  | false =>
    rw [ho] at HK
    go_enter Tryz.func86, Tryz.ntmps86
    go_wp2_with fail
    refine (HK.out _ (hT.alloc _)).mono ?_
    rintro e w1 ⟨rfl, g1⟩
    have b1 : Below w.heap.size w w1 := ((Below.refl _ _).alloc (Nat.le_refl _) _).trans (g1.mono (by simp))
    clear g1
    go_wp2
    go_ret
    exact ⟨rfl, b1⟩
  | true =>
    rw [ho] at HK
    go_enter Tryz.func86, Tryz.ntmps86
    go_wp2_with fail
    refine (HK.out _ (hT.alloc _)).mono ?_
    rintro e w1 ⟨rfl, g1⟩
    have hT1 : KT w1 := (hT.alloc _).later g1
    have c0 : w1.cell? ⟨w.heap.size, 0, none⟩ = some (.int .i64 k) := cell_later g1 (by simp)
    have b1 : Below w.heap.size w w1 := ((Below.refl _ _).alloc (Nat.le_refl _) _).trans (g1.mono (by simp))
    clear g1
    go_wp2_with fail
    refine (HD.out _ hT1).mono ?_
    rintro e w2 ⟨rfl, g2⟩
    have b2 : Below w.heap.size w w2 := b1.trans (g2.mono b1.size)
    clear g2 b1
    go_wp2
    go_ret
    exact ⟨by simp, b2⟩

end Go.Proofs.YtcihplachlokiaaGreatDoor
/- Contacts and coils: the table of rules. -/
namespace Go.Proofs.YtcihplachlokiaaGreatDoor
open Go.RowKit
set_option linter.unusedVariables false

/-- What stands ahead of the operands. -/
def ahd (op : Int) : ByteArray := if op = 1 then ⟨#[]⟩ else if op = 2 then ⟨#[47]⟩ else if op = 3 then ⟨#[43]⟩ else if op = 4 then ⟨#[45]⟩ else if op = 5 then ⟨#[]⟩ else if op = 6 then ⟨#[]⟩ else if op = 7 then ⟨#[]⟩ else if op = 8 then ⟨#[]⟩ else if op = 9 then ⟨#[]⟩ else if op = 10 then ⟨#[]⟩ else if op = 21 then ⟨#[111, 117, 116, 58]⟩ else if op = 22 then ⟨#[115, 101, 116, 58]⟩ else if op = 23 then ⟨#[114, 101, 115, 101, 116, 58]⟩ else if op = 24 then ⟨#[112, 117, 108, 115, 101, 58]⟩ else if op = 25 then ⟨#[115, 116, 101, 112, 58]⟩ else if op = 26 then ⟨#[116, 105, 109, 101, 114, 58]⟩ else if op = 27 then ⟨#[104, 111, 108, 100, 58]⟩ else if op = 28 then ⟨#[108, 97, 116, 101, 58]⟩ else if op = 29 then ⟨#[99, 111, 117, 110, 116, 58]⟩ else if op = 30 then ⟨#[109, 111, 118, 101, 58]⟩ else if op = 31 then ⟨#[97, 100, 100, 58]⟩ else if op = 32 then ⟨#[115, 117, 98, 58]⟩ else if op = 33 then ⟨#[109, 117, 108, 58]⟩ else if op = 34 then ⟨#[100, 105, 118, 58]⟩ else if op = 35 then ⟨#[114, 101, 109, 58]⟩ else if op = 36 then ⟨#[114, 101, 97, 108, 58]⟩ else if op = 37 then ⟨#[119, 104, 111, 108, 101, 58]⟩ else ⟨#[]⟩
/-- What stands between them. -/
def btw (op : Int) : ByteArray := if op = 1 then ⟨#[]⟩ else if op = 2 then ⟨#[]⟩ else if op = 3 then ⟨#[58]⟩ else if op = 4 then ⟨#[58]⟩ else if op = 5 then ⟨#[60]⟩ else if op = 6 then ⟨#[60, 61]⟩ else if op = 7 then ⟨#[61]⟩ else if op = 8 then ⟨#[60, 62]⟩ else if op = 9 then ⟨#[62, 61]⟩ else if op = 10 then ⟨#[62]⟩ else if op = 21 then ⟨#[]⟩ else if op = 22 then ⟨#[]⟩ else if op = 23 then ⟨#[]⟩ else if op = 24 then ⟨#[44]⟩ else if op = 25 then ⟨#[]⟩ else if op = 26 then ⟨#[44]⟩ else if op = 27 then ⟨#[44]⟩ else if op = 28 then ⟨#[44]⟩ else if op = 29 then ⟨#[44]⟩ else if op = 30 then ⟨#[44]⟩ else if op = 31 then ⟨#[44]⟩ else if op = 32 then ⟨#[44]⟩ else if op = 33 then ⟨#[44]⟩ else if op = 34 then ⟨#[44]⟩ else if op = 35 then ⟨#[44]⟩ else if op = 36 then ⟨#[44]⟩ else if op = 37 then ⟨#[44]⟩ else ⟨#[]⟩
/-- The places that are asked for. -/
def ndP (op : Int) : List Nat := if op = 1 then [1] else if op = 2 then [1] else if op = 3 then [1, 2] else if op = 4 then [1, 2] else if op = 5 then [3, 3] else if op = 6 then [3, 3] else if op = 7 then [3, 3] else if op = 8 then [3, 3] else if op = 9 then [3, 3] else if op = 10 then [3, 3] else if op = 21 then [5] else if op = 22 then [6] else if op = 23 then [7] else if op = 24 then [5, 2] else if op = 25 then [8] else if op = 26 then [9, 10] else if op = 27 then [9, 10] else if op = 28 then [9, 10] else if op = 29 then [11, 10] else if op = 30 then [12, 3] else if op = 31 then [12, 3, 3] else if op = 32 then [12, 3, 3] else if op = 33 then [12, 3, 3] else if op = 34 then [12, 3, 3] else if op = 35 then [12, 3, 3] else if op = 36 then [13, 3] else if op = 37 then [12, 4] else []
def orP (op : Int) : List Nat := if op = 1 then [] else if op = 2 then [] else if op = 3 then [] else if op = 4 then [] else if op = 5 then [4, 4] else if op = 6 then [4, 4] else if op = 7 then [4, 4] else if op = 8 then [4, 4] else if op = 9 then [4, 4] else if op = 10 then [4, 4] else if op = 21 then [] else if op = 22 then [] else if op = 23 then [] else if op = 24 then [] else if op = 25 then [] else if op = 26 then [] else if op = 27 then [] else if op = 28 then [] else if op = 29 then [] else if op = 30 then [13, 4] else if op = 31 then [13, 4, 4] else if op = 32 then [13, 4, 4] else if op = 33 then [13, 4, 4] else if op = 34 then [13, 4, 4] else if op = 35 then [] else if op = 36 then [] else if op = 37 then [] else []
def pv (c : Nat) : Value := if c = 1 then Value.func (Fn.func 83) #[] #[] else if c = 2 then Value.func (Fn.func 84) #[] #[] else if c = 3 then Value.func (Fn.func 85) #[] #[] else if c = 4 then Value.func (Fn.func 86) #[] #[] else if c = 5 then Value.func (Fn.func 87) #[] #[] else if c = 6 then Value.func (Fn.func 88) #[] #[] else if c = 7 then Value.func (Fn.func 89) #[] #[] else if c = 8 then Value.func (Fn.func 90) #[] #[] else if c = 9 then Value.func (Fn.func 91) #[] #[] else if c = 10 then Value.func (Fn.func 92) #[] #[] else if c = 11 then Value.func (Fn.func 93) #[] #[] else if c = 12 then Value.func (Fn.func 94) #[] #[] else if c = 13 then Value.func (Fn.func 95) #[] #[] else Value.nilFunc
def p3 (l : List Nat) : List Value := [pv (l.getD 0 0), pv (l.getD 1 0), pv (l.getD 2 0)]
def rowV (op : Int) : List Value := [.string (ahd op), .string (btw op)] ++ p3 (ndP op) ++ p3 (orP op)
def RV : Array Value := ((List.range 38).flatMap fun n : Nat => rowV (n : Int)).toArray
theorem RV_size : RV.size = 304 := by kernel_rfl
theorem RV_one : RV.all (·.oneCell') = true := by kernel_rfl
theorem RV_info : (Tryz.prog.info? 107).map (·.size) = some RV.size := by kernel_rfl
theorem zero_size : Tryz.zeroCells107.size = RV.size := by kernel_rfl
theorem build_rules (w : World) : (Instr.build 107 #[(1, Value.agg #[Value.string ⟨#[]⟩, Value.string ⟨#[]⟩, Value.func (Fn.func 83) #[] #[], Value.nilFunc, Value.nilFunc, Value.nilFunc, Value.nilFunc, Value.nilFunc]), (2, Value.agg #[Value.string ⟨#[47]⟩, Value.string ⟨#[]⟩, Value.func (Fn.func 83) #[] #[], Value.nilFunc, Value.nilFunc, Value.nilFunc, Value.nilFunc, Value.nilFunc]), (3, Value.agg #[Value.string ⟨#[43]⟩, Value.string ⟨#[58]⟩, Value.func (Fn.func 83) #[] #[], Value.func (Fn.func 84) #[] #[], Value.nilFunc, Value.nilFunc, Value.nilFunc, Value.nilFunc]), (4, Value.agg #[Value.string ⟨#[45]⟩, Value.string ⟨#[58]⟩, Value.func (Fn.func 83) #[] #[], Value.func (Fn.func 84) #[] #[], Value.nilFunc, Value.nilFunc, Value.nilFunc, Value.nilFunc]), (5, Value.agg #[Value.string ⟨#[]⟩, Value.string ⟨#[60]⟩, Value.func (Fn.func 85) #[] #[], Value.func (Fn.func 85) #[] #[], Value.nilFunc, Value.func (Fn.func 86) #[] #[], Value.func (Fn.func 86) #[] #[], Value.nilFunc]), (6, Value.agg #[Value.string ⟨#[]⟩, Value.string ⟨#[60, 61]⟩, Value.func (Fn.func 85) #[] #[], Value.func (Fn.func 85) #[] #[], Value.nilFunc, Value.func (Fn.func 86) #[] #[], Value.func (Fn.func 86) #[] #[], Value.nilFunc]), (7, Value.agg #[Value.string ⟨#[]⟩, Value.string ⟨#[61]⟩, Value.func (Fn.func 85) #[] #[], Value.func (Fn.func 85) #[] #[], Value.nilFunc, Value.func (Fn.func 86) #[] #[], Value.func (Fn.func 86) #[] #[], Value.nilFunc]), (8, Value.agg #[Value.string ⟨#[]⟩, Value.string ⟨#[60, 62]⟩, Value.func (Fn.func 85) #[] #[], Value.func (Fn.func 85) #[] #[], Value.nilFunc, Value.func (Fn.func 86) #[] #[], Value.func (Fn.func 86) #[] #[], Value.nilFunc]), (9, Value.agg #[Value.string ⟨#[]⟩, Value.string ⟨#[62, 61]⟩, Value.func (Fn.func 85) #[] #[], Value.func (Fn.func 85) #[] #[], Value.nilFunc, Value.func (Fn.func 86) #[] #[], Value.func (Fn.func 86) #[] #[], Value.nilFunc]), (10, Value.agg #[Value.string ⟨#[]⟩, Value.string ⟨#[62]⟩, Value.func (Fn.func 85) #[] #[], Value.func (Fn.func 85) #[] #[], Value.nilFunc, Value.func (Fn.func 86) #[] #[], Value.func (Fn.func 86) #[] #[], Value.nilFunc]), (21, Value.agg #[Value.string ⟨#[111, 117, 116, 58]⟩, Value.string ⟨#[]⟩, Value.func (Fn.func 87) #[] #[], Value.nilFunc, Value.nilFunc, Value.nilFunc, Value.nilFunc, Value.nilFunc]), (22, Value.agg #[Value.string ⟨#[115, 101, 116, 58]⟩, Value.string ⟨#[]⟩, Value.func (Fn.func 88) #[] #[], Value.nilFunc, Value.nilFunc, Value.nilFunc, Value.nilFunc, Value.nilFunc]), (23, Value.agg #[Value.string ⟨#[114, 101, 115, 101, 116, 58]⟩, Value.string ⟨#[]⟩, Value.func (Fn.func 89) #[] #[], Value.nilFunc, Value.nilFunc, Value.nilFunc, Value.nilFunc, Value.nilFunc]), (24, Value.agg #[Value.string ⟨#[112, 117, 108, 115, 101, 58]⟩, Value.string ⟨#[44]⟩, Value.func (Fn.func 87) #[] #[], Value.func (Fn.func 84) #[] #[], Value.nilFunc, Value.nilFunc, Value.nilFunc, Value.nilFunc]), (25, Value.agg #[Value.string ⟨#[115, 116, 101, 112, 58]⟩, Value.string ⟨#[]⟩, Value.func (Fn.func 90) #[] #[], Value.nilFunc, Value.nilFunc, Value.nilFunc, Value.nilFunc, Value.nilFunc]), (26, Value.agg #[Value.string ⟨#[116, 105, 109, 101, 114, 58]⟩, Value.string ⟨#[44]⟩, Value.func (Fn.func 91) #[] #[], Value.func (Fn.func 92) #[] #[], Value.nilFunc, Value.nilFunc, Value.nilFunc, Value.nilFunc]), (27, Value.agg #[Value.string ⟨#[104, 111, 108, 100, 58]⟩, Value.string ⟨#[44]⟩, Value.func (Fn.func 91) #[] #[], Value.func (Fn.func 92) #[] #[], Value.nilFunc, Value.nilFunc, Value.nilFunc, Value.nilFunc]), (28, Value.agg #[Value.string ⟨#[108, 97, 116, 101, 58]⟩, Value.string ⟨#[44]⟩, Value.func (Fn.func 91) #[] #[], Value.func (Fn.func 92) #[] #[], Value.nilFunc, Value.nilFunc, Value.nilFunc, Value.nilFunc]), (29, Value.agg #[Value.string ⟨#[99, 111, 117, 110, 116, 58]⟩, Value.string ⟨#[44]⟩, Value.func (Fn.func 93) #[] #[], Value.func (Fn.func 92) #[] #[], Value.nilFunc, Value.nilFunc, Value.nilFunc, Value.nilFunc]), (30, Value.agg #[Value.string ⟨#[109, 111, 118, 101, 58]⟩, Value.string ⟨#[44]⟩, Value.func (Fn.func 94) #[] #[], Value.func (Fn.func 85) #[] #[], Value.nilFunc, Value.func (Fn.func 95) #[] #[], Value.func (Fn.func 86) #[] #[], Value.nilFunc]), (31, Value.agg #[Value.string ⟨#[97, 100, 100, 58]⟩, Value.string ⟨#[44]⟩, Value.func (Fn.func 94) #[] #[], Value.func (Fn.func 85) #[] #[], Value.func (Fn.func 85) #[] #[], Value.func (Fn.func 95) #[] #[], Value.func (Fn.func 86) #[] #[], Value.func (Fn.func 86) #[] #[]]), (32, Value.agg #[Value.string ⟨#[115, 117, 98, 58]⟩, Value.string ⟨#[44]⟩, Value.func (Fn.func 94) #[] #[], Value.func (Fn.func 85) #[] #[], Value.func (Fn.func 85) #[] #[], Value.func (Fn.func 95) #[] #[], Value.func (Fn.func 86) #[] #[], Value.func (Fn.func 86) #[] #[]]), (33, Value.agg #[Value.string ⟨#[109, 117, 108, 58]⟩, Value.string ⟨#[44]⟩, Value.func (Fn.func 94) #[] #[], Value.func (Fn.func 85) #[] #[], Value.func (Fn.func 85) #[] #[], Value.func (Fn.func 95) #[] #[], Value.func (Fn.func 86) #[] #[], Value.func (Fn.func 86) #[] #[]]), (34, Value.agg #[Value.string ⟨#[100, 105, 118, 58]⟩, Value.string ⟨#[44]⟩, Value.func (Fn.func 94) #[] #[], Value.func (Fn.func 85) #[] #[], Value.func (Fn.func 85) #[] #[], Value.func (Fn.func 95) #[] #[], Value.func (Fn.func 86) #[] #[], Value.func (Fn.func 86) #[] #[]]), (35, Value.agg #[Value.string ⟨#[114, 101, 109, 58]⟩, Value.string ⟨#[44]⟩, Value.func (Fn.func 94) #[] #[], Value.func (Fn.func 85) #[] #[], Value.func (Fn.func 85) #[] #[], Value.nilFunc, Value.nilFunc, Value.nilFunc]), (36, Value.agg #[Value.string ⟨#[114, 101, 97, 108, 58]⟩, Value.string ⟨#[44]⟩, Value.func (Fn.func 95) #[] #[], Value.func (Fn.func 85) #[] #[], Value.nilFunc, Value.nilFunc, Value.nilFunc, Value.nilFunc]), (37, Value.agg #[Value.string ⟨#[119, 104, 111, 108, 101, 58]⟩, Value.string ⟨#[44]⟩, Value.func (Fn.func 94) #[] #[], Value.func (Fn.func 86) #[] #[], Value.nilFunc, Value.nilFunc, Value.nilFunc, Value.nilFunc])]).run Tryz.prog w = .ok (.agg RV) w := by kernel_rfl

/-- Operations that only build values, run one behind the other. -/
def runB (P : Program) : List Oper → Act → Option Act
  | [], a => some a
  | o :: r, a =>
    match o.op with
    | .build t parts =>
      match o.guard with
      | none => (P.built t (parts.map fun (i, x) => (i, a.eval x)).toList).bind fun c => runB P r (a.put o.dst (.agg c))
      | some _ => none
    | _ => none

theorem wpList_runB {P : Program} {ops : Array Oper} {Q : Exit → Act → World → Prop} (rest : List Oper) (w : World) : ∀ (l : List Oper) (a a' : Act), runB P l a = some a' → wpList P ops Q rest a' w → wpList P ops Q (l ++ rest) a w
  | [], a, a', h, hw => by
    obtain rfl := Option.some.inj h
    exact hw
  | o :: r, a, a', h, hw => by
    unfold runB at h
    split at h
    · rename_i t parts ho
      split at h
      · rename_i hg
        obtain ⟨c, hc, hr⟩ := Option.bind_eq_some_iff.1 h
        exact wpList_buildTo hg t parts ho o.dst rfl c hc (wpList_runB rest w r _ a' hr hw)
      · cases h
    · cases h

theorem wpList_takeB {P : Program} {ops : Array Oper} {Q : Exit → Act → World → Prop} (n : Nat) (L : List Oper) (w : World) (a a' : Act) (h : runB P (L.take n) a = some a') (hw : wpList P ops Q (L.drop n) a' w) : wpList P ops Q L a w := by
  have := wpList_runB (L.drop n) w (L.take n) a a' h hw
  rwa [List.take_append_drop] at this

theorem wpList_takeK {P : Program} {ops : Array Oper} {Q : Exit → Act → World → Prop} (n : Nat) (L : List Oper) (w : World) (a : Act) (p v : Value) (x y : Operand)
    (h : ((runB P (L.take n) a).map fun a' => (a'.eval x, a'.eval y, a'.defers)) = some (p, v, []))
    (hw : ∀ a' : Act, a'.eval x = p → a'.eval y = v → a'.defers = [] → wpList P ops Q (L.drop n) a' w) : wpList P ops Q L a w := by
  obtain ⟨a', ha, he⟩ := Option.map_eq_some_iff.1 h
  simp only [Prod.mk.injEq] at he
  exact wpList_takeB n L w a a' ha (hw a' he.1 he.2.1 he.2.2)

set_option maxHeartbeats 4000000 in
set_option maxRecDepth 100000 in
theorem rules_r (w : World) :
    Calls Tryz.prog 82 #[] w fun e w' => e = .returned (.agg RV) ∧ Below w.heap.size w w' := by
  refine calls_of_wp Tryz.func82 rfl ?_
  apply wp_seq_k; intro K0 hK0
  apply wp_region_lit
  refine Go.Great.wpList_allocTo rfl (some 0) rfl (.pointer (some ⟨w.heap.size, 0, none⟩)) (.cells Tryz.zeroCells107 107) (by kernel_rfl) ?_
  apply wpList_nil
  refine hK0 _ _ ?_
  clear hK0 K0
  apply wp_seq_k; intro K1 hK1
  apply wp_region_lit
  refine wpList_takeK 66 _ _ _ (.pointer (some ⟨w.heap.size, 0, none⟩)) (.agg RV) (.tmp 0) (.tmp 66) (by kernel_rfl) ?_
  intro a' h0 h66 hd
  refine wpList_store_row (rest := []) rfl _ _ _ rfl w.heap.size RV h0 h66 107 Tryz.zeroCells107 (heap_alloc_last w _) RV_info zero_size RV_one ?_
  rw [World.setRow_alloc_new]
  apply wpList_nil
  refine hK1 _ _ ?_
  have h0' : a'.tmps[0]?.getD undef = .pointer (some ⟨w.heap.size, 0, none⟩) := by simpa [Act.eval] using h0
  refine wp_ret ⟨hd, .agg RV, ?_, rfl, ?_⟩
  · have hl := run_loadVar_new (P := Tryz.prog) w 107 RV _ _ Tryz.underlying107 RV_info
    show (results Tryz.f82 a'.tmps).run Tryz.prog _ = _
    simp [results, Tryz.results82, h0', asAddr, hl]
  · exact (Below.refl _ _).alloc (Nat.le_refl _) _
end Go.Proofs.YtcihplachlokiaaGreatDoor

/- The rule of an Op; how many places it has. -/
namespace Go.Proofs.YtcihplachlokiaaGreatDoor
open Go.RowKit
set_option linter.unusedVariables false

theorem idxR (cs : Array Value) (n : Nat) (hn : n < 38) (w : World) : (Instr.index 107 (.agg cs) (.int .i64 n)).run Tryz.prog w = .ok (.agg (cs.extract (n * 8) (n * 8 + 8))) w := by
  have h1 : (0 : Int) ≤ (n : Int) ∧ (n : Int) < ((38 : Nat) : Int) := by omega
  simp only [Instr.index, asIntOf, run_underlying Tryz.underlying107, Sem.run_bind, Result.andThen, Sem.run_pure, h1, part, Tryz.isAgg102, Tryz.sizeOf102, and_self, if_true]
  simp

theorem c38 (i : Nat) (h : i < 38) : i = 0 ∨ i = 1 ∨ i = 2 ∨ i = 3 ∨ i = 4 ∨ i = 5 ∨ i = 6 ∨ i = 7 ∨ i = 8 ∨ i = 9 ∨ i = 10 ∨ i = 11 ∨ i = 12 ∨ i = 13 ∨ i = 14 ∨ i = 15 ∨ i = 16 ∨ i = 17 ∨ i = 18 ∨ i = 19 ∨ i = 20 ∨ i = 21 ∨ i = 22 ∨ i = 23 ∨ i = 24 ∨ i = 25 ∨ i = 26 ∨ i = 27 ∨ i = 28 ∨ i = 29 ∨ i = 30 ∨ i = 31 ∨ i = 32 ∨ i = 33 ∨ i = 34 ∨ i = 35 ∨ i = 36 ∨ i = 37 := by omega
theorem RV_row (n : Nat) (hn : n < 38) : RV.extract (n * 8) (n * 8 + 8) = (rowV n).toArray := by
  rcases c38 n hn with rfl | rfl | rfl | rfl | rfl | rfl | rfl | rfl | rfl | rfl | rfl | rfl | rfl | rfl | rfl | rfl | rfl | rfl | rfl | rfl | rfl | rfl | rfl | rfl | rfl | rfl | rfl | rfl | rfl | rfl | rfl | rfl | rfl | rfl | rfl | rfl | rfl | rfl
  all_goals kernel_rfl

set_option maxHeartbeats 1000000 in
theorem ruleOf_in (n : Nat) (hn : n < 38) (A B f0 f1 f2 g0 g1 g2 : Value) (w : World) (h : RV.extract (n * 8) (n * 8 + 8) = #[A, B, f0, f1, f2, g0, g1, g2])
    (o0 : A.oneCell' = true) (o1 : B.oneCell' = true) (o2 : f0.oneCell' = true) (o3 : f1.oneCell' = true) (o4 : f2.oneCell' = true) (o5 : g0.oneCell' = true) (o6 : g1.oneCell' = true) (o7 : g2.oneCell' = true) :
    Calls Tryz.prog 76 #[.int .i64 n] w fun e w' => e = .returned (.agg #[A, B, f0, f1, f2, g0, g1, g2]) ∧ Below w.heap.size w w' := by
  have i0 : ¬ ((n : Int) < 0) := by omega
  have i1 : ¬ (37 < (n : Int)) := by omega
  have hi := fun W => idxR RV n hn W
  rw [h] at hi
  go_enter Tryz.func76, Tryz.ntmps76
  go_wp2_with fail
  refine (rules_r _).mono ?_
  rintro e w1 ⟨rfl, g1⟩
  have hh : w1.heap[w.heap.size]? = some (.cells #[.string ⟨#[]⟩, .string ⟨#[]⟩, .nilFunc, .nilFunc, .nilFunc, .nilFunc, .nilFunc, .nilFunc] 102 (0, 0)) :=
    (g1.block _ (by simp)).trans (heap_alloc_last w _)
  have hb : Below w.heap.size w w1 := ((Below.refl _ _).alloc (Nat.le_refl _) _).trans (g1.mono (by simp))
  clear g1
  rename_i K1 hK1 K2 hK2
  refine hK2 _ _ ?_
  refine Go.Great.wpList_readTo rfl (some 11) rfl (.int .i64 n) (by kernel_rfl) ?_
  refine Go.Great.wpList_readTo rfl (some 12) rfl (.agg #[A, B, f0, f1, f2, g0, g1, g2]) (by unfold execOp; simp [hi, Act.eval, Act.put]) ?_
  refine wpList_store_row rfl _ _ _ rfl w.heap.size #[A, B, f0, f1, f2, g0, g1, g2] (by kernel_rfl) (by kernel_rfl) 102 _ hh (by kernel_rfl) rfl (by simp [o0, o1, o2, o3, o4, o5, o6, o7]) ?_
  apply wpList_nil
  refine hK1 _ _ ?_
  refine wp_ret ⟨rfl, .agg #[A, B, f0, f1, f2, g0, g1, g2], ?_, rfl, below_setRow hb (Nat.le_refl _) _⟩
  refine Eq.trans ?_ (run_loadVar_row (P := Tryz.prog) (w1.setRow w.heap.size #[A, B, f0, f1, f2, g0, g1, g2]) w.heap.size 102 102 _ (0, 0) _ (setRow_heap w1 _ _ _ _ _ hh) Tryz.underlying102 rfl (by kernel_rfl))
  simp [results, Tryz.results76, Act.put, asAddr]

set_option maxHeartbeats 1000000 in
theorem ruleOf_out (k : Int) (w : World) (h : k < 0 ∨ 38 ≤ k) :
    Calls Tryz.prog 76 #[.int .i64 k] w fun e w' => e = .returned (.agg #[.string ⟨#[]⟩, .string ⟨#[]⟩, .nilFunc, .nilFunc, .nilFunc, .nilFunc, .nilFunc, .nilFunc]) ∧ Below w.heap.size w w' := by
  by_cases h0 : k < 0
  · go_enter Tryz.func76, Tryz.ntmps76
    go_wp2
    go_returns
    exact ⟨rfl, by go_grown⟩
  · have h1 : 37 < k := by omega
    go_enter Tryz.func76, Tryz.ntmps76
    go_wp2
    go_returns
    exact ⟨rfl, by go_grown⟩

theorem pc (c : Nat) : (c = 0 ∨ 14 ≤ c) ∨ c = 1 ∨ c = 2 ∨ c = 3 ∨ c = 4 ∨ c = 5 ∨ c = 6 ∨ c = 7 ∨ c = 8 ∨ c = 9 ∨ c = 10 ∨ c = 11 ∨ c = 12 ∨ c = 13 := by omega
theorem pv_out (c : Nat) (h : c = 0 ∨ 14 ≤ c) : pv c = .nilFunc := by
  unfold pv
  repeat rw [if_neg (by omega)]
theorem pv_one (c : Nat) : (pv c).oneCell' = true := by
  rcases pc c with h | rfl | rfl | rfl | rfl | rfl | rfl | rfl | rfl | rfl | rfl | rfl | rfl | rfl
  · rw [pv_out c h]; rfl
  all_goals rfl

/-- The rule of an Op, as a value. -/
def rulV (op : Int) : Array Value := #[.string (ahd op), .string (btw op), pv ((ndP op).getD 0 0), pv ((ndP op).getD 1 0), pv ((ndP op).getD 2 0), pv ((orP op).getD 0 0), pv ((orP op).getD 1 0), pv ((orP op).getD 2 0)]

theorem out_all (op : Int) (h : op < 0 ∨ 38 ≤ op) : ahd op = ⟨#[]⟩ ∧ btw op = ⟨#[]⟩ ∧ ndP op = [] ∧ orP op = [] := by
  refine ⟨?_, ?_, ?_, ?_⟩
  · unfold ahd; repeat rw [if_neg (by omega)]
  · unfold btw; repeat rw [if_neg (by omega)]
  · unfold ndP; repeat rw [if_neg (by omega)]
  · unfold orP; repeat rw [if_neg (by omega)]

theorem rule_of (op : Int) (w : World) :
    Calls Tryz.prog 76 #[.int .i64 op] w fun e w' => e = .returned (.agg (rulV op)) ∧ Below w.heap.size w w' := by
  by_cases h : op < 0 ∨ 38 ≤ op
  · obtain ⟨h1, h2, h3, h4⟩ := out_all op h
    unfold rulV
    rw [h1, h2, h3, h4]
    exact ruleOf_out op w h
  · obtain ⟨n, rfl⟩ := Int.eq_ofNat_of_zero_le (by omega : 0 ≤ op)
    exact ruleOf_in n (by omega) _ _ _ _ _ _ _ _ w (RV_row n (by omega)) rfl rfl (pv_one _) (pv_one _) (pv_one _) (pv_one _) (pv_one _) (pv_one _)


theorem neq_fn (f : Nat) (w : World) : (binOp .neq 98 (.func (.func f) #[] #[]) .nilFunc).run Tryz.prog w = .ok (.bool true) w := by kernel_rfl
theorem neq_nil (w : World) : (binOp .neq 98 .nilFunc .nilFunc).run Tryz.prog w = .ok (.bool false) w := by kernel_rfl
attribute [go_sem] neq_fn neq_nil

set_option maxRecDepth 10000 in
set_option maxHeartbeats 1000000 in
theorem count0 (w : World) :
    Calls Tryz.prog 77 #[.agg #[.nilFunc, .nilFunc, .nilFunc]] w fun e w' => e = .returned (.int .i64 0) ∧ Below w.heap.size w w' := by
  go_enter Tryz.func77, Tryz.ntmps77
  go_wp2
  go_loopg [3] 0 (fun g i wr => ∃ n : Nat, n + g = 0 ∧ i = .int .i64 n ∧ wr = w.alloc (.cells #[.nilFunc, .nilFunc, .nilFunc] 100))
  case atStart => exact ⟨0, rfl, rfl, rfl⟩
  case round =>
    obtain ⟨n, hn, rfl, rfl⟩ := hrel
    obtain rfl : n = 0 := by omega
    · go_wp2
      go_ret
      exact ⟨rfl, by go_grown⟩

set_option maxRecDepth 10000 in
set_option maxHeartbeats 1000000 in
theorem count1 (fa : Nat) (w : World) :
    Calls Tryz.prog 77 #[.agg #[.func (.func fa) #[] #[], .nilFunc, .nilFunc]] w fun e w' => e = .returned (.int .i64 1) ∧ Below w.heap.size w w' := by
  go_enter Tryz.func77, Tryz.ntmps77
  go_wp2
  go_loopg [3] 1 (fun g i wr => ∃ n : Nat, n + g = 1 ∧ i = .int .i64 n ∧ wr = w.alloc (.cells #[.func (.func fa) #[] #[], .nilFunc, .nilFunc] 100))
  case atStart => exact ⟨0, rfl, rfl, rfl⟩
  case round =>
    obtain ⟨n, hn, rfl, rfl⟩ := hrel
    obtain rfl | rfl : n = 0 ∨ n = 1 := by omega
    · go_wp2
      go_roundg 0
      case measure => omega
      case rel => exact ⟨1, rfl, rfl, rfl⟩
    · go_wp2
      go_ret
      exact ⟨rfl, by go_grown⟩

set_option maxRecDepth 10000 in
set_option maxHeartbeats 1000000 in
theorem count2 (fa fb : Nat) (w : World) :
    Calls Tryz.prog 77 #[.agg #[.func (.func fa) #[] #[], .func (.func fb) #[] #[], .nilFunc]] w fun e w' => e = .returned (.int .i64 2) ∧ Below w.heap.size w w' := by
  go_enter Tryz.func77, Tryz.ntmps77
  go_wp2
  go_loopg [3] 2 (fun g i wr => ∃ n : Nat, n + g = 2 ∧ i = .int .i64 n ∧ wr = w.alloc (.cells #[.func (.func fa) #[] #[], .func (.func fb) #[] #[], .nilFunc] 100))
  case atStart => exact ⟨0, rfl, rfl, rfl⟩
  case round =>
    obtain ⟨n, hn, rfl, rfl⟩ := hrel
    obtain rfl | rfl | rfl : n = 0 ∨ n = 1 ∨ n = 2 := by omega
    · go_wp2
      go_roundg 1
      case measure => omega
      case rel => exact ⟨1, rfl, rfl, rfl⟩
    · go_wp2
      go_roundg 0
      case measure => omega
      case rel => exact ⟨2, rfl, rfl, rfl⟩
    · go_wp2
      go_ret
      exact ⟨rfl, by go_grown⟩

set_option maxRecDepth 10000 in
set_option maxHeartbeats 1000000 in
theorem count3 (fa fb fc : Nat) (w : World) :
    Calls Tryz.prog 77 #[.agg #[.func (.func fa) #[] #[], .func (.func fb) #[] #[], .func (.func fc) #[] #[]]] w fun e w' => e = .returned (.int .i64 3) ∧ Below w.heap.size w w' := by
  go_enter Tryz.func77, Tryz.ntmps77
  go_wp2
  go_loopg [3] 3 (fun g i wr => ∃ n : Nat, n + g = 3 ∧ i = .int .i64 n ∧ wr = w.alloc (.cells #[.func (.func fa) #[] #[], .func (.func fb) #[] #[], .func (.func fc) #[] #[]] 100))
  case atStart => exact ⟨0, rfl, rfl, rfl⟩
  case round =>
    obtain ⟨n, hn, rfl, rfl⟩ := hrel
    obtain rfl | rfl | rfl | rfl : n = 0 ∨ n = 1 ∨ n = 2 ∨ n = 3 := by omega
    · go_wp2
      go_roundg 2
      case measure => omega
      case rel => exact ⟨1, rfl, rfl, rfl⟩
    · go_wp2
      go_roundg 1
      case measure => omega
      case rel => exact ⟨2, rfl, rfl, rfl⟩
    · go_wp2
      go_roundg 0
      case measure => omega
      case rel => exact ⟨3, rfl, rfl, rfl⟩
    · go_wp2
      go_ret
      exact ⟨rfl, by go_grown⟩

end Go.Proofs.YtcihplachlokiaaGreatDoor
