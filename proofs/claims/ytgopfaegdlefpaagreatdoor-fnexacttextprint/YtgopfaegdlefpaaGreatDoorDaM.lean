/- The table of kinds, and the walks of devKindOf, DevSize and DevLetter (the program's and the specification's). -/
import Derived.Test.YtgopfaegdlefpaaGreatDoorRows
import Derived.WalkKit
import Derived.ProofKit
import Derived.Handy
import Derived.WalkLawsBesides
import Derived.Deep.QuietTactic
import Derived.BigQuiet
import Derived.Lib.LaidU8
import Derived.OpenVars
import Derived.Deep.RegionWith
import Derived.WalkSpells
namespace Go.Proofs.YtgopfaegdlefpaaGreatDoor
open Go.RowKit
set_option linter.unusedVariables false

def kL (k : Int) : ByteArray := if k = 1 then ⟨#[88]⟩ else if k = 2 then ⟨#[89]⟩ else if k = 3 then ⟨#[77]⟩ else if k = 4 then ⟨#[83]⟩ else if k = 5 then ⟨#[69]⟩ else if k = 6 then ⟨#[71]⟩ else if k = 7 then ⟨#[84]⟩ else if k = 8 then ⟨#[67]⟩ else if k = 9 then ⟨#[68]⟩ else if k = 10 then ⟨#[82]⟩ else ⟨#[]⟩
def kS (k : Int) : Int := if k = 1 then 32 else if k = 2 then 32 else if k = 3 then 64 else if k = 4 then 16 else if k = 5 then 32 else if k = 6 then 5 else if k = 7 then 16 else if k = 8 then 16 else if k = 9 then 32 else if k = 10 then 16 else 0
def kB (k : Int) : Bool := decide (k = 1) || decide (k = 2) || decide (k = 3) || decide (k = 4) || decide (k = 6) || decide (k = 7) || decide (k = 8)
def kW (k : Int) : Bool := decide (k = 7) || decide (k = 8) || decide (k = 9) || decide (k = 11)
def kR (k : Int) : Bool := decide (k = 10) || decide (k = 12) || decide (k = 13)

theorem kL_out (k : Int) (h : k ≤ 0 ∨ 11 ≤ k) : kL k = ⟨#[]⟩ := by
  unfold kL
  rw [if_neg (by omega), if_neg (by omega), if_neg (by omega), if_neg (by omega), if_neg (by omega), if_neg (by omega), if_neg (by omega), if_neg (by omega), if_neg (by omega), if_neg (by omega)]
theorem kS_out (k : Int) (h : k ≤ 0 ∨ 11 ≤ k) : kS k = 0 := by
  unfold kS
  rw [if_neg (by omega), if_neg (by omega), if_neg (by omega), if_neg (by omega), if_neg (by omega), if_neg (by omega), if_neg (by omega), if_neg (by omega), if_neg (by omega), if_neg (by omega)]
theorem kB_out (k : Int) (h : k ≤ 0 ∨ 14 ≤ k) : kB k = false := by simp [kB]; omega
theorem kW_out (k : Int) (h : k ≤ 0 ∨ 14 ≤ k) : kW k = false := by simp [kW]; omega
theorem kR_out (k : Int) (h : k ≤ 0 ∨ 14 ≤ k) : kR k = false := by simp [kR]; omega

/-- The table of kinds stands in the memory. -/
def KT (w : World) : Prop := ∀ i : Nat, i < 14 → w.cell? ⟨3, i * 5, none⟩ = some (.string (kL i)) ∧ w.cell? ⟨3, i * 5 + 1, none⟩ = some (.int .i64 (kS i)) ∧ w.cell? ⟨3, i * 5 + 2, none⟩ = some (.bool (kB i)) ∧ w.cell? ⟨3, i * 5 + 3, none⟩ = some (.bool (kW i)) ∧ w.cell? ⟨3, i * 5 + 4, none⟩ = some (.bool (kR i))

theorem KT.lt {w : World} (h : KT w) : 3 < w.heap.size := World.block_lt_of_cell? _ _ (h 0 (by omega)).1
theorem KT.below {w w' : World} (h : KT w) {B : Nat} (hB : 3 < B) (g : Below B w w') : KT w' := fun i hi => by
  have := h i hi
  refine ⟨?_, ?_, ?_, ?_, ?_⟩
  · exact (g.cell (p := ⟨3, i * 5, none⟩) hB).trans this.1
  · exact (g.cell (p := ⟨3, i * 5 + 1, none⟩) hB).trans this.2.1
  · exact (g.cell (p := ⟨3, i * 5 + 2, none⟩) hB).trans this.2.2.1
  · exact (g.cell (p := ⟨3, i * 5 + 3, none⟩) hB).trans this.2.2.2.1
  · exact (g.cell (p := ⟨3, i * 5 + 4, none⟩) hB).trans this.2.2.2.2
theorem KT.later {w w' : World} (h : KT w) (g : Below w.heap.size w w') : KT w' := h.below h.lt g
theorem KT.alloc {w : World} (h : KT w) (o : Obj) : KT (w.alloc o) := h.later ((Below.refl _ _).alloc (Nat.le_refl _) _)

set_option maxHeartbeats 1000000 in
theorem kind_out (k : Int) (w : World) (h : k < 0 ∨ 14 ≤ k) :
    Calls Tryz.prog 228 #[.int .i64 k] w fun e w' => e = .returned (.agg #[.string ⟨#[]⟩, .int .i64 0, .bool false, .bool false, .bool false]) ∧ Below w.heap.size w w' := by
  by_cases h0 : k < 0
  · go_enter Tryz.func228, Tryz.ntmps228
    go_wp2
    go_returns
    exact ⟨rfl, by go_grown⟩
  · have h1 : 14 ≤ k := by omega
    go_enter Tryz.func228, Tryz.ntmps228
    go_wp2
    go_returns
    exact ⟨rfl, by go_grown⟩

set_option maxHeartbeats 1000000 in
theorem kind_in (i : Nat) (S : ByteArray) (z : Int) (a b c : Bool) (w : World) (hi : i < 14)
   (h0 : w.cell? ⟨3, i * 5, none⟩ = some (.string S)) (h1 : w.cell? ⟨3, i * 5 + 1, none⟩ = some (.int .i64 z)) (h2 : w.cell? ⟨3, i * 5 + 2, none⟩ = some (.bool a)) (h3 : w.cell? ⟨3, i * 5 + 3, none⟩ = some (.bool b)) (h4 : w.cell? ⟨3, i * 5 + 4, none⟩ = some (.bool c)) :
    Calls Tryz.prog 228 #[.int .i64 i] w fun e w' => e = .returned (.agg #[.string S, .int .i64 z, .bool a, .bool b, .bool c]) ∧ Below w.heap.size w w' := by
  have i0 : ¬ ((i : Int) < 0) := by omega
  have i1 : (i : Int) < 14 := by omega
  have hl : 3 < w.heap.size := World.block_lt_of_cell? _ _ h0
  have q0 : ∀ o : Obj, (w.alloc o).cell? ⟨3, i * 5, none⟩ = some (.string S) := fun o => (World.cell?_alloc_past _ _ _ hl).trans h0
  have q1 : ∀ o : Obj, (w.alloc o).cell? ⟨3, i * 5 + 1, none⟩ = some (.int .i64 z) := fun o => (World.cell?_alloc_past _ _ _ hl).trans h1
  have q2 : ∀ o : Obj, (w.alloc o).cell? ⟨3, i * 5 + 2, none⟩ = some (.bool a) := fun o => (World.cell?_alloc_past _ _ _ hl).trans h2
  have q3 : ∀ o : Obj, (w.alloc o).cell? ⟨3, i * 5 + 3, none⟩ = some (.bool b) := fun o => (World.cell?_alloc_past _ _ _ hl).trans h3
  have q4 : ∀ o : Obj, (w.alloc o).cell? ⟨3, i * 5 + 4, none⟩ = some (.bool c) := fun o => (World.cell?_alloc_past _ _ _ hl).trans h4
  go_enter Tryz.func228, Tryz.ntmps228
  go_wp2
  go_returns
  exact ⟨rfl, by go_grown⟩

theorem kind_of (k : Int) (w : World) (h : KT w) :
    Calls Tryz.prog 228 #[.int .i64 k] w fun e w' => e = .returned (.agg #[.string (kL k), .int .i64 (kS k), .bool (kB k), .bool (kW k), .bool (kR k)]) ∧ Below w.heap.size w w' := by
  by_cases h0 : k < 0 ∨ 14 ≤ k
  · rw [kL_out k (by omega), kS_out k (by omega), kB_out k (by omega), kW_out k (by omega), kR_out k (by omega)]
    exact kind_out k w h0
  · obtain ⟨i, rfl⟩ := Int.eq_ofNat_of_zero_le (by omega : 0 ≤ k)
    obtain ⟨h1, h2, h3, h4, h5⟩ := h i (by omega)
    exact kind_in i _ _ _ _ _ w (by omega) h1 h2 h3 h4 h5

theorem field0 (a b c d e : Value) (w : World) : (Instr.field 275 (.agg #[a, b, c, d, e]) 0).run Tryz.prog w = .ok a w := by kernel_rfl
theorem field1 (a b c d e : Value) (w : World) : (Instr.field 275 (.agg #[a, b, c, d, e]) 1).run Tryz.prog w = .ok b w := by kernel_rfl
theorem field2 (a b c d e : Value) (w : World) : (Instr.field 275 (.agg #[a, b, c, d, e]) 2).run Tryz.prog w = .ok c w := by kernel_rfl
theorem field3 (a b c d e : Value) (w : World) : (Instr.field 275 (.agg #[a, b, c, d, e]) 3).run Tryz.prog w = .ok d w := by kernel_rfl
theorem field4 (a b c d e : Value) (w : World) : (Instr.field 275 (.agg #[a, b, c, d, e]) 4).run Tryz.prog w = .ok e w := by kernel_rfl
attribute [go_sem] field0 field1 field2 field3 field4

set_option maxHeartbeats 1000000 in
theorem impl_size (k : Int) (w : World) (h : KT w) :
    Calls Tryz.prog 226 #[.int .i64 k] w fun e w' => e = .returned (.int .i64 (kS k)) ∧ Below w.heap.size w w' := by
  go_enter Tryz.func226, Tryz.ntmps226
  go_wp2_with fail
  refine (kind_of k _ h).mono ?_
  rintro e w1 ⟨rfl, g1⟩
  go_wp2
  go_ret
  exact ⟨rfl, g1⟩

set_option maxHeartbeats 1000000 in
theorem impl_letter (k : Int) (w : World) (h : KT w) :
    Calls Tryz.prog 193 #[.int .i64 k] w fun e w' => e = .returned (.string (kL k)) ∧ Below w.heap.size w w' := by
  go_enter Tryz.func193, Tryz.ntmps193
  go_wp2_with fail
  refine (kind_of k _ h).mono ?_
  rintro e w1 ⟨rfl, g1⟩
  go_wp2
  go_ret
  exact ⟨rfl, g1⟩

theorem k_cases (k : Int) : (k ≤ 0 ∨ 11 ≤ k) ∨ k = 1 ∨ k = 2 ∨ k = 3 ∨ k = 4 ∨ k = 5 ∨ k = 6 ∨ k = 7 ∨ k = 8 ∨ k = 9 ∨ k = 10 := by omega

set_option maxHeartbeats 2000000 in
theorem spec_size (k : Int) (w : World) :
    Calls Tryz.prog 175 #[.int .i64 k] w fun e w' => e = .returned (.int .i64 (kS k)) ∧ w' = w := by
  rcases k_cases k with h | rfl | rfl | rfl | rfl | rfl | rfl | rfl | rfl | rfl | rfl
  · rw [kS_out k h]
    have n1 : (k == 1) = false := by simp; omega
    have n2 : (k == 2) = false := by simp; omega
    have n3 : (k == 3) = false := by simp; omega
    have n4 : (k == 4) = false := by simp; omega
    have n5 : (k == 5) = false := by simp; omega
    have n6 : (k == 6) = false := by simp; omega
    have n7 : (k == 7) = false := by simp; omega
    have n8 : (k == 8) = false := by simp; omega
    have n9 : (k == 9) = false := by simp; omega
    have n10 : (k == 10) = false := by simp; omega
    go_enter Tryz.func175, Tryz.ntmps175
    go_wp2
    go_ret
    exact ⟨rfl, rfl⟩
  all_goals
    go_enter Tryz.func175, Tryz.ntmps175
    go_wp2
    go_ret
    exact ⟨rfl, rfl⟩

set_option maxHeartbeats 2000000 in
theorem spec_letter (k : Int) (w : World) :
    Calls Tryz.prog 160 #[.int .i64 k] w fun e w' => e = .returned (.string (kL k)) ∧ w' = w := by
  rcases k_cases k with h | rfl | rfl | rfl | rfl | rfl | rfl | rfl | rfl | rfl | rfl
  · rw [kL_out k h]
    have hs := spec_size k
    rw [kS_out k h] at hs
    go_enter Tryz.func160, Tryz.ntmps160
    go_wp2_with fail
    refine (hs _).mono ?_
    rintro e w1 ⟨rfl, rfl⟩
    go_wp2
    go_ret
    exact ⟨rfl, rfl⟩
  all_goals
    go_enter Tryz.func160, Tryz.ntmps160
    go_wp2_with fail
    refine (spec_size _ _).mono ?_
    rintro e w1 ⟨rfl, rfl⟩
    simp only [kS]
    go_wp2
    go_ret
    exact ⟨rfl, rfl⟩
end Go.Proofs.YtgopfaegdlefpaaGreatDoor
/- What the listed variables hold gives the walks their tables. -/
namespace Go.Proofs.YtgopfaegdlefpaaGreatDoor
open Go.RowKit Go.Lib
set_option linter.unusedVariables false

theorem g1_named : Tryz.prog.globalNamed "loop.example/stile/impl.devKinds" = some 3 := by kernel_rfl
theorem g1_type : (Tryz.prog.globals[3]?).map (·.type) = some 289 := by kernel_rfl
theorem cellsK : Tryz.prog.cellsOf 275 = 5 := by kernel_rfl
theorem cells9 : Tryz.prog.cellsOf 9 = 1 := by kernel_rfl
theorem cells3 : Tryz.prog.cellsOf 3 = 1 := by kernel_rfl
theorem cells4 : Tryz.prog.cellsOf 4 = 1 := by kernel_rfl

theorem ba_list {s : ByteArray} {l : List UInt8} (h : s.data.toList = l) : s = ⟨l.toArray⟩ := by rw [← h, Lib.mk_data]

set_option maxRecDepth 100000 in
theorem row5 {w : World} {base : Nat} {sp : Nat → Bool} {fuel : Nat} {cs : List Value} {s : List UInt8} {z : Int} {a b c : Bool} {p : List MemPlace}
    (h : DataW.trod (fun _ => ()) Tryz.prog w base sp false fuel 275 cs = some (.agg [.lit (.string s), .lit (.int .i64 z), .lit (.bool a), .lit (.bool b), .lit (.bool c)], p)) :
    cs = [.string ⟨s.toArray⟩, .int .i64 z, .bool a, .bool b, .bool c] := by
  obtain ⟨xs, n, rfl, hx, hl, hxl, hall⟩ := DataW.trod_struct Tryz.underlying275 h
  rw [cellsK] at hl
  have hxs := congrArg Prod.fst hx
  simp only [DataW.agg.injEq] at hxs
  match cs, hl with
  | [c0, c1, c2, c3, c4], _ =>
    match xs, hxs with
    | [x0, x1, x2, x3, x4], hxs =>
      have h0 : DataW.trod (fun _ => ()) Tryz.prog w base sp false n 9 (([c0, c1, c2, c3, c4].drop 0).take (Tryz.prog.cellsOf 9)) = [x0, x1, x2, x3, x4][0]? := hall 0 _ rfl
      have h1 : DataW.trod (fun _ => ()) Tryz.prog w base sp false n 3 (([c0, c1, c2, c3, c4].drop 1).take (Tryz.prog.cellsOf 3)) = [x0, x1, x2, x3, x4][1]? := hall 1 _ rfl
      have h2 : DataW.trod (fun _ => ()) Tryz.prog w base sp false n 4 (([c0, c1, c2, c3, c4].drop 2).take (Tryz.prog.cellsOf 4)) = [x0, x1, x2, x3, x4][2]? := hall 2 _ rfl
      have h3 : DataW.trod (fun _ => ()) Tryz.prog w base sp false n 4 (([c0, c1, c2, c3, c4].drop 3).take (Tryz.prog.cellsOf 4)) = [x0, x1, x2, x3, x4][3]? := hall 3 _ rfl
      have h4 : DataW.trod (fun _ => ()) Tryz.prog w base sp false n 4 (([c0, c1, c2, c3, c4].drop 4).take (Tryz.prog.cellsOf 4)) = [x0, x1, x2, x3, x4][4]? := hall 4 _ rfl
      simp only [cells9, cells3, cells4, List.drop_zero, List.drop_succ_cons, List.take_succ_cons, List.take_zero, List.getElem?_cons_zero, List.getElem?_cons_succ] at h0 h1 h2 h3 h4
      obtain ⟨v0, e0, rfl, _⟩ := DataW.trod_string Tryz.underlying9 h0
      obtain ⟨v1, e1, rfl, _⟩ := DataW.trod_int Tryz.underlying3 h1
      obtain ⟨v2, e2, rfl⟩ := DataW.trod_bool Tryz.underlying4 h2
      obtain ⟨v3, e3, rfl⟩ := DataW.trod_bool Tryz.underlying4 h3
      obtain ⟨v4, e4, rfl⟩ := DataW.trod_bool Tryz.underlying4 h4
      simp only [List.map_cons, List.map_nil, List.cons.injEq, DataW.lit.injEq, Lit.string.injEq, Lit.int.injEq, Lit.bool.injEq, true_and, and_true] at hxs e0 e1 e2 e3 e4
      obtain ⟨f0, f1, f2, f3, f4⟩ := hxs
      rw [e0, e1, e2, e3, e4, f1, f2, f3, f4, ba_list f0.symm]

theorem at5 {W : World} {cs : Array Value} {n : String} {g : Nat} (hg : Tryz.prog.globalNamed n = some g) (hv : W.var? Tryz.prog n = some cs) {i : Nat} {a b c d e : Value} (h : (cs.toList.drop (i * 5)).take 5 = [a, b, c, d, e]) :
    W.cell? ⟨g, i * 5, none⟩ = some a ∧ W.cell? ⟨g, i * 5 + 1, none⟩ = some b ∧ W.cell? ⟨g, i * 5 + 2, none⟩ = some c ∧ W.cell? ⟨g, i * 5 + 3, none⟩ = some d ∧ W.cell? ⟨g, i * 5 + 4, none⟩ = some e := by
  have key : ∀ j, j < 5 → W.cell? ⟨g, i * 5 + j, none⟩ = [a, b, c, d, e][j]? := fun j hj => by
    rw [World.var?_cell hg hv, ← h, List.getElem?_take, if_pos hj, List.getElem?_drop]
    simp
  exact ⟨key 0 (by omega), key 1 (by omega), key 2 (by omega), key 3 (by omega), key 4 (by omega)⟩

theorem c14 (i : Nat) (h : i < 14) : i = 0 ∨ i = 1 ∨ i = 2 ∨ i = 3 ∨ i = 4 ∨ i = 5 ∨ i = 6 ∨ i = 7 ∨ i = 8 ∨ i = 9 ∨ i = 10 ∨ i = 11 ∨ i = 12 ∨ i = 13 := by omega

theorem kt_of_reads {W : World} (h : VarReads Tryz.prog W "loop.example/stile/impl.devKinds" Rows.laid_loop_example_stile_impl_devKinds) : KT W := by
  obtain ⟨g, t, cs, fuel, p, hg, ht, hv, hd⟩ := h
  obtain rfl := Option.some.inj (g1_named.symm.trans hg)
  obtain rfl := Option.some.inj (g1_type.symm.trans ht)
  intro i hi
  unfold Rows.laid_loop_example_stile_impl_devKinds at hd
  obtain ⟨f', d, q, hdi, hr⟩ := Lib.array_elem Tryz.underlying289 hd i hi
  rw [cellsK] at hr
  rcases c14 i hi with rfl | rfl | rfl | rfl | rfl | rfl | rfl | rfl | rfl | rfl | rfl | rfl | rfl | rfl
  all_goals
    obtain rfl := Option.some.inj hdi
    have := at5 hg hv (row5 hr)
    exact this
end Go.Proofs.YtgopfaegdlefpaaGreatDoor
/- Walks of DevOk (the program's and the specification's), of devDecOk and of toDevArg. -/
namespace Go.Proofs.YtgopfaegdlefpaaGreatDoor
open Go.RowKit
set_option linter.unusedVariables false

def okD (n p : Int) : Bool := decide (-999999999 ≤ n ∧ n ≤ 999999999 ∧ 1 ≤ p ∧ p ≤ 6 ∧ (p = 1 ∨ n.tmod 10 ≠ 0))
/-- An operand is ok. -/
def okA (k n p : Int) : Bool :=
  if k = 12 then okD n p else if k = 11 then decide (-32768 ≤ n ∧ n ≤ 32767 ∧ p = 0) else if k = 13 then decide (0 ≤ n ∧ n ≤ 3 ∧ p = 0) else decide (0 ≤ n ∧ n < kS k ∧ p = 0)

theorem ret_bool {a b : Bool} (h : a = b) : Ending.returned (.bool a) = .returned (.bool b) := by rw [h]

set_option maxHeartbeats 1000000 in
theorem dec_ok (k n p : Int) (w : World) :
    Calls Tryz.prog 225 #[.agg #[.int .i64 k, .int .i64 n, .int .i64 p]] w fun e w' => e = .returned (.bool (okD n p)) ∧ Below w.heap.size w w' := by
  by_cases h1 : n < -999999999
  · go_enter Tryz.func225, Tryz.ntmps225
    go_wp2
    go_ret
    exact ⟨ret_bool (by simp [okD]; omega), by go_grown⟩
  by_cases h2 : 999999999 < n
  · go_enter Tryz.func225, Tryz.ntmps225
    go_wp2
    go_ret
    exact ⟨ret_bool (by simp [okD]; omega), by go_grown⟩
  by_cases h3 : p < 1
  · go_enter Tryz.func225, Tryz.ntmps225
    go_wp2
    go_ret
    exact ⟨ret_bool (by simp [okD]; omega), by go_grown⟩
  by_cases h4 : 6 < p
  · go_enter Tryz.func225, Tryz.ntmps225
    go_wp2
    go_ret
    exact ⟨ret_bool (by simp [okD]; omega), by go_grown⟩
  by_cases h5 : p = 1
  · subst h5
    go_enter Tryz.func225, Tryz.ntmps225
    go_wp2
    go_ret
    exact ⟨ret_bool (by simp [okD]; omega), by go_grown⟩
  · have h6 : (p == 1) = false := by simp [h5]
    go_enter Tryz.func225, Tryz.ntmps225
    go_wp2
    go_ret
    have e : okD n p = decide (¬ n.tmod 10 = 0) := by
      have a1 : -999999999 ≤ n := by omega
      have a2 : n ≤ 999999999 := by omega
      have a3 : 1 ≤ p := by omega
      have a4 : p ≤ 6 := by omega
      simp [okD, a1, a2, a3, a4, h5]
    rw [e]
    exact ⟨ret_bool (by simp; rfl), by go_grown⟩

theorem okA_dec (n p : Int) : okA 12 n p = okD n p := by simp [okA]

set_option maxHeartbeats 1000000 in
theorem impl_ok_dec (n p : Int) (w : World) :
    Calls Tryz.prog 191 #[.agg #[.int .i64 12, .int .i64 n, .int .i64 p]] w fun e w' => e = .returned (.bool (okA 12 n p)) ∧ Below w.heap.size w w' := by
  rw [okA_dec]
  go_enter Tryz.func191, Tryz.ntmps191
  go_wp2_with fail
  refine (dec_ok 12 n p _).mono ?_
  rintro e w1 ⟨rfl, g1⟩
  have b1 : Below w.heap.size w w1 := ((Below.refl _ _).alloc (Nat.le_refl _) _).trans (g1.mono (by simp))
  clear g1
  go_wp2
  go_ret
  exact ⟨rfl, b1⟩

/-- The last step of the program's DevOk. -/
theorem okA_of {k n p lo hi : Int} (h : okA k n p = decide (lo ≤ n ∧ n < hi ∧ p = 0)) (b : Bool) (hb : b = true ↔ (lo ≤ n ∧ n < hi ∧ p = 0)) : b = okA k n p := by
  rw [h, Bool.eq_iff_iff, hb]
  simp

set_option maxHeartbeats 1000000 in
theorem impl_ok_int (n p : Int) (w : World) (hT : KT w) :
    Calls Tryz.prog 191 #[.agg #[.int .i64 11, .int .i64 n, .int .i64 p]] w fun e w' => e = .returned (.bool (okA 11 n p)) ∧ Below w.heap.size w w' := by
  have ho : okA 11 n p = decide (-32768 ≤ n ∧ n ≤ 32767 ∧ p = 0) := by simp [okA]
  rw [ho]
  clear ho
  go_enter Tryz.func191, Tryz.ntmps191
  go_wp2_with fail
  refine (impl_size 11 _ (hT.alloc _)).mono ?_
  rintro e w1 ⟨rfl, g1⟩
  have c0 : w1.cell? ⟨w.heap.size, 0, none⟩ = some (.int .i64 11) := cell_later g1 (by simp)
  have c1 : w1.cell? ⟨w.heap.size, 1, none⟩ = some (.int .i64 n) := cell_later g1 (by simp)
  have c2 : w1.cell? ⟨w.heap.size, 2, none⟩ = some (.int .i64 p) := cell_later g1 (by simp)
  have b1 : Below w.heap.size w w1 := ((Below.refl _ _).alloc (Nat.le_refl _) _).trans (g1.mono (by simp))
  clear g1 hT
  by_cases h1 : -32768 ≤ n
  · by_cases h2 : n ≤ 32767
    · have h2' : n < 32768 := by omega
      go_wp2
      go_ret
      exact ⟨ret_bool (by simp [h1, h2]; rfl), b1⟩
    · have h2' : ¬ n < 32768 := by omega
      go_wp2
      go_ret
      exact ⟨ret_bool (by simp; omega), b1⟩
  · go_wp2
    go_ret
    exact ⟨ret_bool (by simp; omega), b1⟩

set_option maxHeartbeats 1000000 in
theorem impl_ok_word (n p : Int) (w : World) (hT : KT w) :
    Calls Tryz.prog 191 #[.agg #[.int .i64 13, .int .i64 n, .int .i64 p]] w fun e w' => e = .returned (.bool (okA 13 n p)) ∧ Below w.heap.size w w' := by
  have ho : okA 13 n p = decide (0 ≤ n ∧ n ≤ 3 ∧ p = 0) := by simp [okA]
  rw [ho]
  clear ho
  go_enter Tryz.func191, Tryz.ntmps191
  go_wp2_with fail
  refine (impl_size 13 _ (hT.alloc _)).mono ?_
  rintro e w1 ⟨rfl, g1⟩
  have c0 : w1.cell? ⟨w.heap.size, 0, none⟩ = some (.int .i64 13) := cell_later g1 (by simp)
  have c1 : w1.cell? ⟨w.heap.size, 1, none⟩ = some (.int .i64 n) := cell_later g1 (by simp)
  have c2 : w1.cell? ⟨w.heap.size, 2, none⟩ = some (.int .i64 p) := cell_later g1 (by simp)
  have b1 : Below w.heap.size w w1 := ((Below.refl _ _).alloc (Nat.le_refl _) _).trans (g1.mono (by simp))
  clear g1 hT
  by_cases h1 : 0 ≤ n
  · by_cases h2 : n ≤ 3
    · have h2' : n < 4 := by omega
      go_wp2
      go_ret
      exact ⟨ret_bool (by simp [h1, h2]; rfl), b1⟩
    · have h2' : ¬ n < 4 := by omega
      go_wp2
      go_ret
      exact ⟨ret_bool (by simp; omega), b1⟩
  · go_wp2
    go_ret
    exact ⟨ret_bool (by simp; omega), b1⟩

set_option maxHeartbeats 1000000 in
theorem impl_ok_dev (k n p : Int) (w : World) (hT : KT w) (k1 : k ≠ 11) (k2 : k ≠ 12) (k3 : k ≠ 13) :
    Calls Tryz.prog 191 #[.agg #[.int .i64 k, .int .i64 n, .int .i64 p]] w fun e w' => e = .returned (.bool (okA k n p)) ∧ Below w.heap.size w w' := by
  have ho : okA k n p = decide (0 ≤ n ∧ n < kS k ∧ p = 0) := by simp [okA, k1, k2, k3]
  rw [ho]
  clear ho
  have hs := impl_size k
  obtain ⟨z, HZ⟩ : ∃ z, Hid (z = kS k) := ⟨_, rfl⟩
  rw [← HZ.out] at hs ⊢
  clear HZ
  have e1 : (k == 11) = false := by simp [k1]
  have e2 : (k == 12) = false := by simp [k2]
  have e3 : (k == 13) = false := by simp [k3]
  go_enter Tryz.func191, Tryz.ntmps191
  go_wp2_with fail
  refine (hs _ (hT.alloc _)).mono ?_
  rintro e w1 ⟨rfl, g1⟩
  have c0 : w1.cell? ⟨w.heap.size, 0, none⟩ = some (.int .i64 k) := cell_later g1 (by simp)
  have c1 : w1.cell? ⟨w.heap.size, 1, none⟩ = some (.int .i64 n) := cell_later g1 (by simp)
  have c2 : w1.cell? ⟨w.heap.size, 2, none⟩ = some (.int .i64 p) := cell_later g1 (by simp)
  have b1 : Below w.heap.size w w1 := ((Below.refl _ _).alloc (Nat.le_refl _) _).trans (g1.mono (by simp))
  clear g1 hT hs
  by_cases h1 : 0 ≤ n
  · by_cases h2 : n < z
    · go_wp2
      go_ret
      exact ⟨ret_bool (by simp [h1, h2]; rfl), b1⟩
    · go_wp2
      go_ret
      exact ⟨ret_bool (by simp; omega), b1⟩
  · go_wp2
    go_ret
    exact ⟨ret_bool (by simp; omega), b1⟩

theorem impl_ok (k n p : Int) (w : World) (hT : KT w) :
    Calls Tryz.prog 191 #[.agg #[.int .i64 k, .int .i64 n, .int .i64 p]] w fun e w' => e = .returned (.bool (okA k n p)) ∧ Below w.heap.size w w' := by
  by_cases k2 : k = 12
  · subst k2; exact impl_ok_dec n p w
  by_cases k1 : k = 11
  · subst k1; exact impl_ok_int n p w hT
  by_cases k3 : k = 13
  · subst k3; exact impl_ok_word n p w hT
  exact impl_ok_dev k n p w hT k1 k2 k3
end Go.Proofs.YtgopfaegdlefpaaGreatDoor
/- Walks of the specification's DevOk. -/
namespace Go.Proofs.YtgopfaegdlefpaaGreatDoor
open Go.RowKit
set_option linter.unusedVariables false

theorem bdrew {B : Nat} {a w : World} (h : Below B a w) (n : Nat) : Below B a (w.drewN n) := ⟨h.os, h.tape, h.output, h.size, h.block⟩

set_option maxHeartbeats 1000000 in
theorem spec_ok_int (n p : Int) (w : World) :
    Calls Tryz.prog 156 #[.agg #[.int .i64 11, .int .i64 n, .int .i64 p]] w fun e w' => e = .returned (.bool (okA 11 n p)) ∧ Below w.heap.size w w' := by
  have ho : okA 11 n p = decide (-32768 ≤ n ∧ n ≤ 32767 ∧ p = 0) := by simp [okA]
  rw [ho]
  clear ho
  by_cases h1 : -32768 ≤ n
  · by_cases h2 : n ≤ 32767
    · go_enter Tryz.func156, Tryz.ntmps156
      go_wp2
      go_ret
      exact ⟨ret_bool (by simp [h1, h2]; rfl), by go_grown⟩
    · go_enter Tryz.func156, Tryz.ntmps156
      go_wp2
      go_ret
      exact ⟨ret_bool (by simp; omega), by go_grown⟩
  · go_enter Tryz.func156, Tryz.ntmps156
    go_wp2
    go_ret
    exact ⟨ret_bool (by simp; omega), by go_grown⟩

set_option maxHeartbeats 1000000 in
theorem spec_ok_word (n p : Int) (w : World) :
    Calls Tryz.prog 156 #[.agg #[.int .i64 13, .int .i64 n, .int .i64 p]] w fun e w' => e = .returned (.bool (okA 13 n p)) ∧ Below w.heap.size w w' := by
  have ho : okA 13 n p = decide (0 ≤ n ∧ n ≤ 3 ∧ p = 0) := by simp [okA]
  rw [ho]
  clear ho
  by_cases h1 : 0 ≤ n
  · by_cases h2 : n ≤ 3
    · go_enter Tryz.func156, Tryz.ntmps156
      go_wp2
      go_ret
      exact ⟨ret_bool (by simp [h1, h2]; rfl), by go_grown⟩
    · go_enter Tryz.func156, Tryz.ntmps156
      go_wp2
      go_ret
      exact ⟨ret_bool (by simp; omega), by go_grown⟩
  · go_enter Tryz.func156, Tryz.ntmps156
    go_wp2
    go_ret
    exact ⟨ret_bool (by simp; omega), by go_grown⟩

set_option maxHeartbeats 2000000 in
theorem spec_ok_dec (n p : Int) (w : World) :
    Calls Tryz.prog 156 #[.agg #[.int .i64 12, .int .i64 n, .int .i64 p]] w fun e w' => e = .returned (.bool (okA 12 n p)) ∧ Below w.heap.size w w' := by
  rw [okA_dec]
  by_cases h1 : n < -999999999
  · go_enter Tryz.func156, Tryz.ntmps156
    go_wp2
    go_ret
    exact ⟨ret_bool (by simp [okD]; omega), by go_grown⟩
  by_cases h2 : 999999999 < n
  · go_enter Tryz.func156, Tryz.ntmps156
    go_wp2
    go_ret
    exact ⟨ret_bool (by simp [okD]; omega), by go_grown⟩
  by_cases h3 : p < 1
  · go_enter Tryz.func156, Tryz.ntmps156
    go_wp2
    go_ret
    exact ⟨ret_bool (by simp [okD]; omega), by go_grown⟩
  by_cases h4 : 6 < p
  · go_enter Tryz.func156, Tryz.ntmps156
    go_wp2
    go_ret
    exact ⟨ret_bool (by simp [okD]; omega), by go_grown⟩
  have a1 : -999999999 ≤ n := by omega
  have a2 : n ≤ 999999999 := by omega
  have a3 : 1 ≤ p := by omega
  have a4 : p ≤ 6 := by omega
  by_cases h5 : p = 1
  · subst h5
    go_enter Tryz.func156, Tryz.ntmps156
    go_wp2
    go_ret
    exact ⟨ret_bool (by simp [okD]; omega), by go_grown⟩
  · have h6 : (p == 1) = false := by simp [h5]
    go_enter Tryz.func156, Tryz.ntmps156
    go_wp2
    go_ret
    have e : okD n p = decide (¬ n.tmod 10 = 0) := by
      simp [okD, a1, a2, a3, a4, h5]
    rw [e]
    exact ⟨ret_bool (by simp; rfl), by go_grown⟩

set_option maxHeartbeats 2000000 in
theorem spec_ok_dev (k n p : Int) (w : World) (k1 : k ≠ 11) (k2 : k ≠ 12) (k3 : k ≠ 13) :
    Calls Tryz.prog 156 #[.agg #[.int .i64 k, .int .i64 n, .int .i64 p]] w fun e w' => e = .returned (.bool (okA k n p)) ∧ Below w.heap.size w w' := by
  have ho : okA k n p = decide (0 ≤ n ∧ n < kS k ∧ p = 0) := by simp [okA, k1, k2, k3]
  rw [ho]
  clear ho
  have hs := spec_size k
  obtain ⟨z, HZ⟩ : ∃ z, Hid (z = kS k) := ⟨_, rfl⟩
  rw [← HZ.out] at hs ⊢
  clear HZ
  have HS : Hid (∀ w : World, Calls Tryz.prog 175 #[.int .i64 k] w fun e w' => e = .returned (.int .i64 z) ∧ w' = w) := hs
  clear hs
  have e1 : (k == 11) = false := by simp [k1]
  have e2 : (k == 12) = false := by simp [k2]
  have e3 : (k == 13) = false := by simp [k3]
  by_cases h1 : 0 ≤ n
  · by_cases h2 : n < z
    · go_enter Tryz.func156, Tryz.ntmps156
      go_wp2
      go_quiet (first | (go_at_call 175; refine Calls.quiet_of_same (HS.out _)))
      go_wp2
      go_ret
      exact ⟨ret_bool (by simp [h1, h2]; rfl), bdrew (by go_grown) _⟩
    · have d2 : decide (n < z) = false := by simp; omega
      go_enter Tryz.func156, Tryz.ntmps156
      go_wp2
      go_quiet (first | (go_at_call 175; refine Calls.quiet_of_same (HS.out _)))
      go_wp2
      go_ret
      exact ⟨ret_bool (by simp; omega), bdrew (by go_grown) _⟩
  · have d1 : decide (0 ≤ n) = false := by simp; omega
    go_enter Tryz.func156, Tryz.ntmps156
    go_wp2
    go_quiet (fail)
    go_wp2
    go_ret
    exact ⟨ret_bool (by simp; omega), bdrew (by go_grown) _⟩

theorem spec_ok (k n p : Int) (w : World) :
    Calls Tryz.prog 156 #[.agg #[.int .i64 k, .int .i64 n, .int .i64 p]] w fun e w' => e = .returned (.bool (okA k n p)) ∧ Below w.heap.size w w' := by
  by_cases k2 : k = 12
  · subst k2; exact spec_ok_dec n p w
  by_cases k1 : k = 11
  · subst k1; exact spec_ok_int n p w
  by_cases k3 : k = 13
  · subst k3; exact spec_ok_word n p w
  exact spec_ok_dev k n p w k1 k2 k3

set_option maxHeartbeats 1000000 in
theorem to_arg (k n p : Int) (w : World) :
    Calls Tryz.prog 204 #[.agg #[.int .i64 k, .int .i64 n, .int .i64 p]] w fun e w' => e = .returned (.agg #[.int .i64 k, .int .i64 n, .int .i64 p]) ∧ Below w.heap.size w w' := by
  go_enter Tryz.func204, Tryz.ntmps204
  go_wp2
  go_returns
  exact ⟨rfl, by go_grown⟩
end Go.Proofs.YtgopfaegdlefpaaGreatDoor
/- Walks of DevIsBit, DevIsWhole and DevIsReal, and the laws FnExactDevOk, FnExactDevIsBit, FnExactDevIsWhole, FnExactDevIsReal. -/
namespace Go.Proofs.YtgopfaegdlefpaaGreatDoor
open Go.RowKit
set_option linter.unusedVariables false

theorem ok_cases {k n p : Int} (h : okA k n p = true) : k = 1 ∨ k = 2 ∨ k = 3 ∨ k = 4 ∨ k = 5 ∨ k = 6 ∨ k = 7 ∨ k = 8 ∨ k = 9 ∨ k = 10 ∨ k = 11 ∨ k = 12 ∨ k = 13 := by
  by_cases h0 : k ≤ 0 ∨ 14 ≤ k
  · have e : okA k n p = decide (0 ≤ n ∧ n < kS k ∧ p = 0) := by
      unfold okA
      rw [if_neg (by omega), if_neg (by omega), if_neg (by omega)]
    rw [e, kS_out k (by omega)] at h
    simp at h
    omega
  · omega

set_option maxHeartbeats 1000000 in
theorem impl_isbit (k n p : Int) (w : World) (hT : KT w) :
    Calls Tryz.prog 211 #[.agg #[.int .i64 k, .int .i64 n, .int .i64 p]] w fun e w' => e = .returned (.bool (okA k n p && kB k)) ∧ Below w.heap.size w w' := by
  have hk := fun W (h : KT W) => impl_ok k n p W h
  have hd := fun W (h : KT W) => kind_of k W h
  have HK : Hid (∀ W, KT W → Calls Tryz.prog 191 #[.agg #[.int .i64 k, .int .i64 n, .int .i64 p]] W fun e w' => e = .returned (.bool (okA k n p)) ∧ Below W.heap.size W w') := hk
  have HD : Hid (∀ W, KT W → Calls Tryz.prog 228 #[.int .i64 k] W fun e w' => e = .returned (.agg #[.string (kL k), .int .i64 (kS k), .bool (kB k), .bool (kW k), .bool (kR k)]) ∧ Below W.heap.size W w') := hd
  clear hk hd
  cases ho : okA k n p with
  | false =>
    rw [ho] at HK
    go_enter Tryz.func211, Tryz.ntmps211
    go_wp2_with fail
    refine (HK.out _ (hT.alloc _)).mono ?_
    rintro e w1 ⟨rfl, g1⟩
    have b1 : Below w.heap.size w w1 := ((Below.refl _ _).alloc (Nat.le_refl _) _).trans (g1.mono (by simp))
    clear g1
    go_wp2
    go_ret
    exact ⟨rfl, b1⟩
  | true =>
    rw [ho] at HK
    go_enter Tryz.func211, Tryz.ntmps211
    go_wp2_with fail
    refine (HK.out _ (hT.alloc _)).mono ?_
    rintro e w1 ⟨rfl, g1⟩
    have hT1 : KT w1 := (hT.alloc _).later g1
    have c0 : w1.cell? ⟨w.heap.size, 0, none⟩ = some (.int .i64 k) := cell_later g1 (by simp)
    have b1 : Below w.heap.size w w1 := ((Below.refl _ _).alloc (Nat.le_refl _) _).trans (g1.mono (by simp))
    clear g1
    go_wp2_with fail
    refine (HD.out _ hT1).mono ?_
    rintro e w2 ⟨rfl, g2⟩
    have b2 : Below w.heap.size w w2 := b1.trans (g2.mono b1.size)
    clear g2 b1
    go_wp2
    go_ret
    exact ⟨by simp, b2⟩

set_option maxHeartbeats 4000000 in
theorem spec_isbit (k n p : Int) (w : World) :
    Calls Tryz.prog 161 #[.agg #[.int .i64 k, .int .i64 n, .int .i64 p]] w fun e w' => e = .returned (.bool (okA k n p && kB k)) ∧ Below w.heap.size w w' := by
  have HK : Hid (∀ W, Calls Tryz.prog 156 #[.agg #[.int .i64 k, .int .i64 n, .int .i64 p]] W fun e w' => e = .returned (.bool (okA k n p)) ∧ Below W.heap.size W w') := fun W => spec_ok k n p W
  cases ho : okA k n p with
  | false =>
    rw [ho] at HK
    go_enter Tryz.func161, Tryz.ntmps161
    go_wp2_with fail
    refine (HK.out _).mono ?_
    rintro e w1 ⟨rfl, g1⟩
    have b1 : Below w.heap.size w w1 := ((Below.refl _ _).alloc (Nat.le_refl _) _).trans (g1.mono (by simp))
    clear g1
    go_wp2
    go_ret
    exact ⟨rfl, b1⟩
  | true =>
    have hc := ok_cases ho
    rw [ho] at HK
    go_enter Tryz.func161, Tryz.ntmps161
    go_wp2_with fail
    refine (HK.out _).mono ?_
    rintro e w1 ⟨rfl, g1⟩
    have c0 : w1.cell? ⟨w.heap.size, 0, none⟩ = some (.int .i64 k) := cell_later g1 (by simp)
    have b1 : Below w.heap.size w w1 := ((Below.refl _ _).alloc (Nat.le_refl _) _).trans (g1.mono (by simp))
    clear g1 HK ho
    rcases hc with rfl | rfl | rfl | rfl | rfl | rfl | rfl | rfl | rfl | rfl | rfl | rfl | rfl
    all_goals
      go_wp2
      go_ret
      exact ⟨rfl, b1⟩

set_option maxHeartbeats 1000000 in
theorem impl_iswhole (k n p : Int) (w : World) (hT : KT w) :
    Calls Tryz.prog 213 #[.agg #[.int .i64 k, .int .i64 n, .int .i64 p]] w fun e w' => e = .returned (.bool (okA k n p && kW k)) ∧ Below w.heap.size w w' := by
  have hk := fun W (h : KT W) => impl_ok k n p W h
  have hd := fun W (h : KT W) => kind_of k W h
  have HK : Hid (∀ W, KT W → Calls Tryz.prog 191 #[.agg #[.int .i64 k, .int .i64 n, .int .i64 p]] W fun e w' => e = .returned (.bool (okA k n p)) ∧ Below W.heap.size W w') := hk
  have HD : Hid (∀ W, KT W → Calls Tryz.prog 228 #[.int .i64 k] W fun e w' => e = .returned (.agg #[.string (kL k), .int .i64 (kS k), .bool (kB k), .bool (kW k), .bool (kR k)]) ∧ Below W.heap.size W w') := hd
  clear hk hd
  cases ho : okA k n p with
  | false =>
    rw [ho] at HK
    go_enter Tryz.func213, Tryz.ntmps213
    go_wp2_with fail
    refine (HK.out _ (hT.alloc _)).mono ?_
    rintro e w1 ⟨rfl, g1⟩
    have b1 : Below w.heap.size w w1 := ((Below.refl _ _).alloc (Nat.le_refl _) _).trans (g1.mono (by simp))
    clear g1
    go_wp2
    go_ret
    exact ⟨rfl, b1⟩
  | true =>
    rw [ho] at HK
    go_enter Tryz.func213, Tryz.ntmps213
    go_wp2_with fail
    refine (HK.out _ (hT.alloc _)).mono ?_
    rintro e w1 ⟨rfl, g1⟩
    have hT1 : KT w1 := (hT.alloc _).later g1
    have c0 : w1.cell? ⟨w.heap.size, 0, none⟩ = some (.int .i64 k) := cell_later g1 (by simp)
    have b1 : Below w.heap.size w w1 := ((Below.refl _ _).alloc (Nat.le_refl _) _).trans (g1.mono (by simp))
    clear g1
    go_wp2_with fail
    refine (HD.out _ hT1).mono ?_
    rintro e w2 ⟨rfl, g2⟩
    have b2 : Below w.heap.size w w2 := b1.trans (g2.mono b1.size)
    clear g2 b1
    go_wp2
    go_ret
    exact ⟨by simp, b2⟩

set_option maxHeartbeats 4000000 in
theorem spec_iswhole (k n p : Int) (w : World) :
    Calls Tryz.prog 124 #[.agg #[.int .i64 k, .int .i64 n, .int .i64 p]] w fun e w' => e = .returned (.bool (okA k n p && kW k)) ∧ Below w.heap.size w w' := by
  have HK : Hid (∀ W, Calls Tryz.prog 156 #[.agg #[.int .i64 k, .int .i64 n, .int .i64 p]] W fun e w' => e = .returned (.bool (okA k n p)) ∧ Below W.heap.size W w') := fun W => spec_ok k n p W
  cases ho : okA k n p with
  | false =>
    rw [ho] at HK
    go_enter Tryz.func124, Tryz.ntmps124
    go_wp2_with fail
    refine (HK.out _).mono ?_
    rintro e w1 ⟨rfl, g1⟩
    have b1 : Below w.heap.size w w1 := ((Below.refl _ _).alloc (Nat.le_refl _) _).trans (g1.mono (by simp))
    clear g1
    go_wp2
    go_ret
    exact ⟨rfl, b1⟩
  | true =>
    have hc := ok_cases ho
    rw [ho] at HK
    go_enter Tryz.func124, Tryz.ntmps124
    go_wp2_with fail
    refine (HK.out _).mono ?_
    rintro e w1 ⟨rfl, g1⟩
    have c0 : w1.cell? ⟨w.heap.size, 0, none⟩ = some (.int .i64 k) := cell_later g1 (by simp)
    have b1 : Below w.heap.size w w1 := ((Below.refl _ _).alloc (Nat.le_refl _) _).trans (g1.mono (by simp))
    clear g1 HK ho
    rcases hc with rfl | rfl | rfl | rfl | rfl | rfl | rfl | rfl | rfl | rfl | rfl | rfl | rfl
    all_goals
      go_wp2
      go_ret
      exact ⟨rfl, b1⟩

set_option maxHeartbeats 1000000 in
theorem impl_isreal (k n p : Int) (w : World) (hT : KT w) :
    Calls Tryz.prog 214 #[.agg #[.int .i64 k, .int .i64 n, .int .i64 p]] w fun e w' => e = .returned (.bool (okA k n p && kR k)) ∧ Below w.heap.size w w' := by
  have hk := fun W (h : KT W) => impl_ok k n p W h
  have hd := fun W (h : KT W) => kind_of k W h
  have HK : Hid (∀ W, KT W → Calls Tryz.prog 191 #[.agg #[.int .i64 k, .int .i64 n, .int .i64 p]] W fun e w' => e = .returned (.bool (okA k n p)) ∧ Below W.heap.size W w') := hk
  have HD : Hid (∀ W, KT W → Calls Tryz.prog 228 #[.int .i64 k] W fun e w' => e = .returned (.agg #[.string (kL k), .int .i64 (kS k), .bool (kB k), .bool (kW k), .bool (kR k)]) ∧ Below W.heap.size W w') := hd
  clear hk hd
  cases ho : okA k n p with
  | false =>
    rw [ho] at HK
    go_enter Tryz.func214, Tryz.ntmps214
    go_wp2_with fail
    refine (HK.out _ (hT.alloc _)).mono ?_
    rintro e w1 ⟨rfl, g1⟩
    have b1 : Below w.heap.size w w1 := ((Below.refl _ _).alloc (Nat.le_refl _) _).trans (g1.mono (by simp))
    clear g1
    go_wp2
    go_ret
    exact ⟨rfl, b1⟩
  | true =>
    rw [ho] at HK
    go_enter Tryz.func214, Tryz.ntmps214
    go_wp2_with fail
    refine (HK.out _ (hT.alloc _)).mono ?_
    rintro e w1 ⟨rfl, g1⟩
    have hT1 : KT w1 := (hT.alloc _).later g1
    have c0 : w1.cell? ⟨w.heap.size, 0, none⟩ = some (.int .i64 k) := cell_later g1 (by simp)
    have b1 : Below w.heap.size w w1 := ((Below.refl _ _).alloc (Nat.le_refl _) _).trans (g1.mono (by simp))
    clear g1
    go_wp2_with fail
    refine (HD.out _ hT1).mono ?_
    rintro e w2 ⟨rfl, g2⟩
    have b2 : Below w.heap.size w w2 := b1.trans (g2.mono b1.size)
    clear g2 b1
    go_wp2
    go_ret
    exact ⟨by simp, b2⟩

set_option maxHeartbeats 4000000 in
theorem spec_isreal (k n p : Int) (w : World) :
    Calls Tryz.prog 125 #[.agg #[.int .i64 k, .int .i64 n, .int .i64 p]] w fun e w' => e = .returned (.bool (okA k n p && kR k)) ∧ Below w.heap.size w w' := by
  have HK : Hid (∀ W, Calls Tryz.prog 156 #[.agg #[.int .i64 k, .int .i64 n, .int .i64 p]] W fun e w' => e = .returned (.bool (okA k n p)) ∧ Below W.heap.size W w') := fun W => spec_ok k n p W
  cases ho : okA k n p with
  | false =>
    rw [ho] at HK
    go_enter Tryz.func125, Tryz.ntmps125
    go_wp2_with fail
    refine (HK.out _).mono ?_
    rintro e w1 ⟨rfl, g1⟩
    have b1 : Below w.heap.size w w1 := ((Below.refl _ _).alloc (Nat.le_refl _) _).trans (g1.mono (by simp))
    clear g1
    go_wp2
    go_ret
    exact ⟨rfl, b1⟩
  | true =>
    have hc := ok_cases ho
    rw [ho] at HK
    go_enter Tryz.func125, Tryz.ntmps125
    go_wp2_with fail
    refine (HK.out _).mono ?_
    rintro e w1 ⟨rfl, g1⟩
    have c0 : w1.cell? ⟨w.heap.size, 0, none⟩ = some (.int .i64 k) := cell_later g1 (by simp)
    have b1 : Below w.heap.size w w1 := ((Below.refl _ _).alloc (Nat.le_refl _) _).trans (g1.mono (by simp))
    clear g1 HK ho
    rcases hc with rfl | rfl | rfl | rfl | rfl | rfl | rfl | rfl | rfl | rfl | rfl | rfl | rfl
    all_goals
      go_wp2
      go_ret
      exact ⟨rfl, b1⟩

end Go.Proofs.YtgopfaegdlefpaaGreatDoor
