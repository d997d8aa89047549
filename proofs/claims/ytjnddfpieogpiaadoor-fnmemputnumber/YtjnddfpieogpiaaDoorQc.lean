/- A memory without real numbers is the same as itself. -/
import Derived.Test.YtjnddfpieogpiaaDoorQb
namespace Go.Proofs.YtjnddfpieogpiaaDoor
open Go.RowKit
set_option linter.unusedVariables false

/-- The memory with its real numbers taken off. -/
def noReal (c : Array Value) : Array Value := putAt c 117 (List.replicate 16 (.float .f64 0))
theorem noReal_size (c : Array Value) : (noReal c).size = c.size := putAt_size _ _ _
theorem noReal_get {c : Array Value} (hc : MemOk c) (i : Nat) : (noReal c)[i]? = if 117 ≤ i ∧ i < 133 then some (.float .f64 0) else c[i]? := by
  unfold noReal
  rw [putAt_get _ _ _ (by rw [List.length_replicate, hc.size]; omega), List.length_replicate]
  by_cases h : 117 ≤ i ∧ i < 117 + 16
  · rw [if_pos h, if_pos (by omega), List.getElem?_replicate, if_pos (by omega)]
  · rw [if_neg h, if_neg (by omega)]

theorem mem_fields : (Tryd.prog.fieldsOf 37).toList.map (fun f => (f.type, f.offset)) = [(23, 0), (23, 1), (24, 2), (25, 3), (23, 4), (28, 5), (31, 37), (33, 85), (35, 117), (23, 133), (4, 134), (4, 135)] := by kernel_rfl
theorem timer_fields : (Tryd.prog.fieldsOf 27).toList.map (fun f => (f.type, f.offset)) = [(4, 0), (25, 1)] := by kernel_rfl
theorem counter_fields : (Tryd.prog.fieldsOf 30).toList.map (fun f => (f.type, f.offset)) = [(4, 0), (4, 1), (25, 2)] := by kernel_rfl

theorem ex_get (c : Array Value) (n m i : Nat) (h : i < m - n) : (c.extract n m)[i]? = c[n + i]? := ext_get c n m i h

theorem eqR_timer (d : Nat) {x : Array Value} {b : Bool} {n : Int} (h0 : x[0]? = some (.bool b)) (h1 : x[1]? = some (.int .u16 n)) : EqR Tryd.prog (d + 1 + 1) 27 (.agg x) := by
  refine eqR_struct (by kernel_rfl) (by kernel_rfl) fun f hf => ?_
  have hm : (f.type, f.offset) ∈ (Tryd.prog.fieldsOf 27).toList.map (fun f => (f.type, f.offset)) := List.mem_map.2 ⟨f, hf, rfl⟩
  rw [timer_fields] at hm
  simp only [List.mem_cons, Prod.mk.injEq, List.not_mem_nil, or_false] at hm
  rcases hm with ⟨e1, e2⟩ | ⟨e1, e2⟩
  · rw [e1, e2]; exact ⟨_, part_cell Tryd.underlying4 rfl h0, eqR_bool Tryd.underlying4⟩
  · rw [e1, e2]; exact ⟨_, part_cell Tryd.underlying25 rfl h1, eqR_int Tryd.underlying25⟩
theorem eqR_counter (d : Nat) {x : Array Value} {b l : Bool} {n : Int} (h0 : x[0]? = some (.bool b)) (h1 : x[1]? = some (.bool l)) (h2 : x[2]? = some (.int .u16 n)) : EqR Tryd.prog (d + 1 + 1) 30 (.agg x) := by
  refine eqR_struct (by kernel_rfl) (by kernel_rfl) fun f hf => ?_
  have hm : (f.type, f.offset) ∈ (Tryd.prog.fieldsOf 30).toList.map (fun f => (f.type, f.offset)) := List.mem_map.2 ⟨f, hf, rfl⟩
  rw [counter_fields] at hm
  simp only [List.mem_cons, Prod.mk.injEq, List.not_mem_nil, or_false] at hm
  rcases hm with ⟨e1, e2⟩ | ⟨e1, e2⟩ | ⟨e1, e2⟩
  · rw [e1, e2]; exact ⟨_, part_cell Tryd.underlying4 rfl h0, eqR_bool Tryd.underlying4⟩
  · rw [e1, e2]; exact ⟨_, part_cell Tryd.underlying4 rfl h1, eqR_bool Tryd.underlying4⟩
  · rw [e1, e2]; exact ⟨_, part_cell Tryd.underlying25 rfl h2, eqR_int Tryd.underlying25⟩
theorem cells_timer : Tryd.prog.cellsOf 27 = 2 := by kernel_rfl
theorem cells_counter : Tryd.prog.cellsOf 30 = 3 := by kernel_rfl
theorem cells_i16 : Tryd.prog.cellsOf 32 = 1 := by kernel_rfl
theorem cells_f64 : Tryd.prog.cellsOf 34 = 1 := by kernel_rfl
theorem cells_u64 : Tryd.prog.cellsOf 24 = 1 := by kernel_rfl
theorem some_info {t n : Nat} (h : (Tryd.prog.info? t).map (·.size) = some n) : ∃ i, Tryd.prog.info? t = some i ∧ i.size = n := Option.map_eq_some_iff.1 h

set_option maxRecDepth 100000 in
theorem eqR_mem {c : Array Value} (hc : MemOk c) : EqR Tryd.prog 10000 37 (.agg (noReal c)) := by
  refine eqR_struct (d := 9999) (by kernel_rfl) (by kernel_rfl) fun f hf => ?_
  have hm : (f.type, f.offset) ∈ (Tryd.prog.fieldsOf 37).toList.map (fun f => (f.type, f.offset)) := List.mem_map.2 ⟨f, hf, rfl⟩
  rw [mem_fields] at hm
  have lo : ∀ i, i < 117 ∨ 133 ≤ i → (noReal c)[i]? = c[i]? := fun i hi => by rw [noReal_get hc, if_neg (by omega)]
  have u32 : ∀ i, i < 136 → kd i = 32 → ∃ v, PartIs Tryd.prog 23 (noReal c) i v ∧ EqR Tryd.prog 9999 23 v := fun i hi hk => by
    obtain ⟨n, hn, _⟩ := hc.u32 hi hk
    have h117 : i < 117 ∨ 133 ≤ i := by
      rcases Nat.lt_or_ge i 117 with h | h
      · exact .inl h
      · rcases Nat.lt_or_ge i 133 with h' | h'
        · exfalso
          have := kd_r (k := i - 117) (by omega)
          rw [show 117 + (i - 117) = i by omega, hk] at this
          exact absurd this (by decide)
        · exact .inr h'
    exact ⟨_, part_cell Tryd.underlying23 rfl ((lo i h117).trans hn), eqR_int Tryd.underlying23⟩
  simp only [List.mem_cons, Prod.mk.injEq, List.not_mem_nil, or_false] at hm
  rcases hm with ⟨e1, e2⟩ | ⟨e1, e2⟩ | ⟨e1, e2⟩ | ⟨e1, e2⟩ | ⟨e1, e2⟩ | ⟨e1, e2⟩ | ⟨e1, e2⟩ | ⟨e1, e2⟩ | ⟨e1, e2⟩ | ⟨e1, e2⟩ | ⟨e1, e2⟩ | ⟨e1, e2⟩ <;> rw [e1, e2]
  · exact u32 0 (by omega) rfl
  · exact u32 1 (by omega) rfl
  · obtain ⟨n, hn, _⟩ := hc.u64 (i := 2) (by omega) rfl
    exact ⟨_, part_cell Tryd.underlying24 rfl ((lo 2 (by omega)).trans hn), eqR_int Tryd.underlying24⟩
  · obtain ⟨n, hn, _⟩ := hc.u16 (i := 3) (by omega) rfl
    exact ⟨_, part_cell Tryd.underlying25 rfl ((lo 3 (by omega)).trans hn), eqR_int Tryd.underlying25⟩
  · exact u32 4 (by omega) rfl
  · obtain ⟨i, hi, hs⟩ := some_info (t := 28) (n := 32) (by kernel_rfl)
    obtain ⟨i2, hi2, hs2⟩ := some_info (t := 27) (n := 2) (by kernel_rfl)
    refine ⟨_, part_row Tryd.underlying28 rfl hi hs, eqR_array (d := 9998) Tryd.underlying28 hi2 fun j hj => ?_⟩
    obtain ⟨b, hb⟩ := hc.bool (i := 5 + 2 * j) (by omega) (kd_t hj).1
    obtain ⟨n, hn, _⟩ := hc.u16 (i := 5 + 2 * j + 1) (by omega) (kd_t hj).2
    refine ⟨_, part_row Tryd.underlying27 rfl hi2 hs2, eqR_timer 9996 (b := b) (n := n) ?_ ?_⟩
    · rw [cells_timer, ex_get _ _ _ _ (by omega), ex_get _ _ _ _ (by omega), lo _ (by omega), show 5 + (j * 2 + 0) = 5 + 2 * j by omega]; exact hb
    · rw [cells_timer, ex_get _ _ _ _ (by omega), ex_get _ _ _ _ (by omega), lo _ (by omega), show 5 + (j * 2 + 1) = 5 + 2 * j + 1 by omega]; exact hn
  · obtain ⟨i, hi, hs⟩ := some_info (t := 31) (n := 48) (by kernel_rfl)
    obtain ⟨i2, hi2, hs2⟩ := some_info (t := 30) (n := 3) (by kernel_rfl)
    refine ⟨_, part_row Tryd.underlying31 rfl hi hs, eqR_array (d := 9998) Tryd.underlying31 hi2 fun j hj => ?_⟩
    obtain ⟨b, hb⟩ := hc.bool (i := 37 + 3 * j) (by omega) (kd_c hj).1
    obtain ⟨l, hl⟩ := hc.bool (i := 37 + 3 * j + 1) (by omega) (kd_c hj).2.1
    obtain ⟨n, hn, _⟩ := hc.u16 (i := 37 + 3 * j + 2) (by omega) (kd_c hj).2.2
    refine ⟨_, part_row Tryd.underlying30 rfl hi2 hs2, eqR_counter 9996 (b := b) (l := l) (n := n) ?_ ?_ ?_⟩
    · rw [cells_counter, ex_get _ _ _ _ (by omega), ex_get _ _ _ _ (by omega), lo _ (by omega), show 37 + (j * 3 + 0) = 37 + 3 * j by omega]; exact hb
    · rw [cells_counter, ex_get _ _ _ _ (by omega), ex_get _ _ _ _ (by omega), lo _ (by omega), show 37 + (j * 3 + 1) = 37 + 3 * j + 1 by omega]; exact hl
    · rw [cells_counter, ex_get _ _ _ _ (by omega), ex_get _ _ _ _ (by omega), lo _ (by omega), show 37 + (j * 3 + 2) = 37 + 3 * j + 2 by omega]; exact hn
  · obtain ⟨i, hi, hs⟩ := some_info (t := 33) (n := 32) (by kernel_rfl)
    obtain ⟨i2, hi2, hs2⟩ := some_info (t := 32) (n := 1) (by kernel_rfl)
    refine ⟨_, part_row Tryd.underlying33 rfl hi hs, eqR_array (d := 9998) Tryd.underlying33 hi2 fun j hj => ?_⟩
    obtain ⟨n, hn, _⟩ := hc.i16 (i := 85 + j) (by omega) (kd_d hj)
    refine ⟨_, part_cell Tryd.underlying32 rfl (?_ : _ = some (.int .i16 n)), eqR_int (d := 9997) Tryd.underlying32⟩
    rw [cells_i16, ex_get _ _ _ _ (by omega), lo _ (by omega), Nat.mul_one]; exact hn
  · obtain ⟨i, hi, hs⟩ := some_info (t := 35) (n := 16) (by kernel_rfl)
    obtain ⟨i2, hi2, hs2⟩ := some_info (t := 34) (n := 1) (by kernel_rfl)
    refine ⟨_, part_row Tryd.underlying35 rfl hi hs, eqR_array (d := 9998) Tryd.underlying35 hi2 fun j hj => ?_⟩
    refine ⟨_, part_cell Tryd.underlying34 rfl (?_ : _ = some (.float .f64 0)), eqR_zero (d := 9997) Tryd.underlying34⟩
    rw [cells_f64, ex_get _ _ _ _ (by omega), noReal_get hc, if_pos (by omega)]
  · exact u32 133 (by omega) rfl
  · obtain ⟨b, hb⟩ := hc.bool (i := 134) (by omega) rfl
    exact ⟨_, part_cell Tryd.underlying4 rfl ((lo 134 (by omega)).trans hb), eqR_bool Tryd.underlying4⟩
  · obtain ⟨b, hb⟩ := hc.bool (i := 135) (by omega) rfl
    exact ⟨_, part_cell Tryd.underlying4 rfl ((lo 135 (by omega)).trans hb), eqR_bool Tryd.underlying4⟩
end Go.Proofs.YtjnddfpieogpiaaDoor
