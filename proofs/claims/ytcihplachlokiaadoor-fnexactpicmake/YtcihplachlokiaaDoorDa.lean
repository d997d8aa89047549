/- The table of kinds, and the walks of devKindOf, DevSize and DevLetter (the program's and the specification's). -/
import Derived.Test.YtcihplachlokiaaDoorRows
import Derived.WalkKit
import Derived.ProofKit
import Derived.Handy
import Derived.WalkLawsBesides
import Derived.Deep.QuietTactic
import Derived.BigQuiet
namespace Go.Proofs.YtcihplachlokiaaDoor
open Go.RowKit
set_option linter.unusedVariables false

def kL (k : Int) : ByteArray := if k = 1 then ⟨#[88]⟩ else if k = 2 then ⟨#[89]⟩ else if k = 3 then ⟨#[77]⟩ else if k = 4 then ⟨#[83]⟩ else if k = 5 then ⟨#[69]⟩ else if k = 6 then ⟨#[71]⟩ else if k = 7 then ⟨#[84]⟩ else if k = 8 then ⟨#[67]⟩ else if k = 9 then ⟨#[68]⟩ else if k = 10 then ⟨#[82]⟩ else ⟨#[]⟩
def kS (k : Int) : Int := if k = 1 then 32 else if k = 2 then 32 else if k = 3 then 64 else if k = 4 then 16 else if k = 5 then 32 else if k = 6 then 5 else if k = 7 then 16 else if k = 8 then 16 else if k = 9 then 32 else if k = 10 then 16 else 0
def kB (k : Int) : Bool := decide (k = 1) || decide (k = 2) || decide (k = 3) || decide (k = 4) || decide (k = 6) || decide (k = 7) || decide (k = 8)
def kW (k : Int) : Bool := decide (k = 7) || decide (k = 8) || decide (k = 9) || decide (k = 11)
def kR (k : Int) : Bool := decide (k = 10) || decide (k = 12) || decide (k = 13)

theorem kL_out (k : Int) (h : k ≤ 0 ∨ 11 ≤ k) : kL k = ⟨#[]⟩ := by
  unfold kL
  rw [if_neg (by omega), if_neg (by omega), if_neg (by omega), if_neg (by omega), if_neg (by omega), if_neg (by omega), if_neg (by omega), if_neg (by omega), if_neg (by omega), if_neg (by omega)]
theorem kS_out (k : Int) (h : k ≤ 0 ∨ 11 ≤ k) : kS k = 0 := by
  unfold kS
  rw [if_neg (by omega), if_neg (by omega), if_neg (by omega), if_neg (by omega), if_neg (by omega), if_neg (by omega), if_neg (by omega), if_neg (by omega), if_neg (by omega), if_neg (by omega)]
theorem kB_out (k : Int) (h : k ≤ 0 ∨ 14 ≤ k) : kB k = false := by simp [kB]; omega
theorem kW_out (k : Int) (h : k ≤ 0 ∨ 14 ≤ k) : kW k = false := by simp [kW]; omega
theorem kR_out (k : Int) (h : k ≤ 0 ∨ 14 ≤ k) : kR k = false := by simp [kR]; omega

/-- The table of kinds stands in the memory. -/
def KT (w : World) : Prop := ∀ i : Nat, i < 14 → w.cell? ⟨0, i * 5, none⟩ = some (.string (kL i)) ∧ w.cell? ⟨0, i * 5 + 1, none⟩ = some (.int .i64 (kS i)) ∧ w.cell? ⟨0, i * 5 + 2, none⟩ = some (.bool (kB i)) ∧ w.cell? ⟨0, i * 5 + 3, none⟩ = some (.bool (kW i)) ∧ w.cell? ⟨0, i * 5 + 4, none⟩ = some (.bool (kR i))

theorem KT.lt {w : World} (h : KT w) : 0 < w.heap.size := World.block_lt_of_cell? _ _ (h 0 (by omega)).1
theorem KT.below {w w' : World} (h : KT w) {B : Nat} (hB : 0 < B) (g : Below B w w') : KT w' := fun i hi => by
  have := h i hi
  refine ⟨?_, ?_, ?_, ?_, ?_⟩
  · exact (g.cell (p := ⟨0, i * 5, none⟩) hB).trans this.1
  · exact (g.cell (p := ⟨0, i * 5 + 1, none⟩) hB).trans this.2.1
  · exact (g.cell (p := ⟨0, i * 5 + 2, none⟩) hB).trans this.2.2.1
  · exact (g.cell (p := ⟨0, i * 5 + 3, none⟩) hB).trans this.2.2.2.1
  · exact (g.cell (p := ⟨0, i * 5 + 4, none⟩) hB).trans this.2.2.2.2
theorem KT.later {w w' : World} (h : KT w) (g : Below w.heap.size w w') : KT w' := h.below h.lt g
theorem KT.alloc {w : World} (h : KT w) (o : Obj) : KT (w.alloc o) := h.later ((Below.refl _ _).alloc (Nat.le_refl _) _)

set_option maxHeartbeats 1000000 in
theorem kind_out (k : Int) (w : World) (h : k < 0 ∨ 14 ≤ k) :
    Calls Tryd.prog 116 #[.int .i64 k] w fun e w' => e = .returned (.agg #[.string ⟨#[]⟩, .int .i64 0, .bool false, .bool false, .bool false]) ∧ Below w.heap.size w w' := by
  by_cases h0 : k < 0
  · go_enter Tryd.func116, Tryd.ntmps116
    go_wp2
    go_returns
    exact ⟨rfl, by go_grown⟩
  · have h1 : 14 ≤ k := by omega
    go_enter Tryd.func116, Tryd.ntmps116
    go_wp2
    go_returns
    exact ⟨rfl, by go_grown⟩

set_option maxHeartbeats 1000000 in
theorem kind_in (i : Nat) (S : ByteArray) (z : Int) (a b c : Bool) (w : World) (hi : i < 14)
   (h0 : w.cell? ⟨0, i * 5, none⟩ = some (.string S)) (h1 : w.cell? ⟨0, i * 5 + 1, none⟩ = some (.int .i64 z)) (h2 : w.cell? ⟨0, i * 5 + 2, none⟩ = some (.bool a)) (h3 : w.cell? ⟨0, i * 5 + 3, none⟩ = some (.bool b)) (h4 : w.cell? ⟨0, i * 5 + 4, none⟩ = some (.bool c)) :
    Calls Tryd.prog 116 #[.int .i64 i] w fun e w' => e = .returned (.agg #[.string S, .int .i64 z, .bool a, .bool b, .bool c]) ∧ Below w.heap.size w w' := by
  have i0 : ¬ ((i : Int) < 0) := by omega
  have i1 : (i : Int) < 14 := by omega
  have hl : 0 < w.heap.size := World.block_lt_of_cell? _ _ h0
  have q0 : ∀ o : Obj, (w.alloc o).cell? ⟨0, i * 5, none⟩ = some (.string S) := fun o => (World.cell?_alloc_past _ _ _ hl).trans h0
  have q1 : ∀ o : Obj, (w.alloc o).cell? ⟨0, i * 5 + 1, none⟩ = some (.int .i64 z) := fun o => (World.cell?_alloc_past _ _ _ hl).trans h1
  have q2 : ∀ o : Obj, (w.alloc o).cell? ⟨0, i * 5 + 2, none⟩ = some (.bool a) := fun o => (World.cell?_alloc_past _ _ _ hl).trans h2
  have q3 : ∀ o : Obj, (w.alloc o).cell? ⟨0, i * 5 + 3, none⟩ = some (.bool b) := fun o => (World.cell?_alloc_past _ _ _ hl).trans h3
  have q4 : ∀ o : Obj, (w.alloc o).cell? ⟨0, i * 5 + 4, none⟩ = some (.bool c) := fun o => (World.cell?_alloc_past _ _ _ hl).trans h4
  go_enter Tryd.func116, Tryd.ntmps116
  go_wp2
  go_returns
  exact ⟨rfl, by go_grown⟩

theorem kind_of (k : Int) (w : World) (h : KT w) :
    Calls Tryd.prog 116 #[.int .i64 k] w fun e w' => e = .returned (.agg #[.string (kL k), .int .i64 (kS k), .bool (kB k), .bool (kW k), .bool (kR k)]) ∧ Below w.heap.size w w' := by
  by_cases h0 : k < 0 ∨ 14 ≤ k
  · rw [kL_out k (by omega), kS_out k (by omega), kB_out k (by omega), kW_out k (by omega), kR_out k (by omega)]
    exact kind_out k w h0
  · obtain ⟨i, rfl⟩ := Int.eq_ofNat_of_zero_le (by omega : 0 ≤ k)
    obtain ⟨h1, h2, h3, h4, h5⟩ := h i (by omega)
    exact kind_in i _ _ _ _ _ w (by omega) h1 h2 h3 h4 h5

theorem field0 (a b c d e : Value) (w : World) : (Instr.field 130 (.agg #[a, b, c, d, e]) 0).run Tryd.prog w = .ok a w := by kernel_rfl
theorem field1 (a b c d e : Value) (w : World) : (Instr.field 130 (.agg #[a, b, c, d, e]) 1).run Tryd.prog w = .ok b w := by kernel_rfl
theorem field2 (a b c d e : Value) (w : World) : (Instr.field 130 (.agg #[a, b, c, d, e]) 2).run Tryd.prog w = .ok c w := by kernel_rfl
theorem field3 (a b c d e : Value) (w : World) : (Instr.field 130 (.agg #[a, b, c, d, e]) 3).run Tryd.prog w = .ok d w := by kernel_rfl
theorem field4 (a b c d e : Value) (w : World) : (Instr.field 130 (.agg #[a, b, c, d, e]) 4).run Tryd.prog w = .ok e w := by kernel_rfl
attribute [go_sem] field0 field1 field2 field3 field4

set_option maxHeartbeats 1000000 in
theorem impl_size (k : Int) (w : World) (h : KT w) :
    Calls Tryd.prog 119 #[.int .i64 k] w fun e w' => e = .returned (.int .i64 (kS k)) ∧ Below w.heap.size w w' := by
  go_enter Tryd.func119, Tryd.ntmps119
  go_wp2_with fail
  refine (kind_of k _ h).mono ?_
  rintro e w1 ⟨rfl, g1⟩
  go_wp2
  go_ret
  exact ⟨rfl, g1⟩

theorem k_cases (k : Int) : (k ≤ 0 ∨ 11 ≤ k) ∨ k = 1 ∨ k = 2 ∨ k = 3 ∨ k = 4 ∨ k = 5 ∨ k = 6 ∨ k = 7 ∨ k = 8 ∨ k = 9 ∨ k = 10 := by omega

set_option maxHeartbeats 2000000 in
theorem spec_size (k : Int) (w : World) :
    Calls Tryd.prog 101 #[.int .i64 k] w fun e w' => e = .returned (.int .i64 (kS k)) ∧ w' = w := by
  rcases k_cases k with h | rfl | rfl | rfl | rfl | rfl | rfl | rfl | rfl | rfl | rfl
  · rw [kS_out k h]
    have n1 : (k == 1) = false := by simp; omega
    have n2 : (k == 2) = false := by simp; omega
    have n3 : (k == 3) = false := by simp; omega
    have n4 : (k == 4) = false := by simp; omega
    have n5 : (k == 5) = false := by simp; omega
    have n6 : (k == 6) = false := by simp; omega
    have n7 : (k == 7) = false := by simp; omega
    have n8 : (k == 8) = false := by simp; omega
    have n9 : (k == 9) = false := by simp; omega
    have n10 : (k == 10) = false := by simp; omega
    go_enter Tryd.func101, Tryd.ntmps101
    go_wp2
    go_ret
    exact ⟨rfl, rfl⟩
  all_goals
    go_enter Tryd.func101, Tryd.ntmps101
    go_wp2
    go_ret
    exact ⟨rfl, rfl⟩

end Go.Proofs.YtcihplachlokiaaDoor
