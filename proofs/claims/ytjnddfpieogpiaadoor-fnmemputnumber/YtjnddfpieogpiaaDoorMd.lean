/- A memory copied field by field: toMem of the laws. -/
import Derived.Test.YtjnddfpieogpiaaDoorMc
namespace Go.Proofs.YtjnddfpieogpiaaDoor
open Go.RowKit
set_option linter.unusedVariables false

def zc (k : Nat) : Value := if k = 1 then .bool false else if k = 16 then .int .u16 0 else if k = 32 then .int .u32 0 else if k = 64 then .int .u64 0 else if k = 116 then .int .i16 0 else .float .f64 0
def memZero : Array Value := ((List.range 136).map fun i => zc (kd i)).toArray

theorem memZero_size : memZero.size = 136 := by simp [memZero]
theorem memZero_get {i : Nat} (h : i < 136) : memZero[i]? = some (zc (kd i)) := by simp [memZero, h]

theorem zero_mem : (∀ w, (zeroValue 37).run Tryd.prog w = .ok (.agg memZero) w) ∧ (Tryd.prog.info? 37).map (·.size) = some 136 := zero_of_info (by kernel_rfl)

/-- What the copying of a row has done so far: the first n cells are the old ones. -/
structure Upto (c D : Array Value) (n : Nat) : Prop where
  size : D.size = c.size
  same : ∀ j, j < n → D[j]? = c[j]?

theorem Upto.all {c D : Array Value} {n : Nat} (h : Upto c D n) (hn : c.size ≤ n) : D = c := by
  apply Array.ext_getElem?
  intro j
  by_cases hj : j < n
  · exact h.same j hj
  · have := h.size
    rw [Array.getElem?_eq_none (by omega), Array.getElem?_eq_none (by omega)]
theorem Upto.put {c D : Array Value} {n : Nat} (h : Upto c D n) (m : Nat) (hm : m ≤ c.size) (hn : n ≤ m) : Upto c (putAt D n (c.extract n m).toList) m := by
  have hl : (c.extract n m).toList.length = m - n := by simp; omega
  refine ⟨by rw [putAt_size]; exact h.size, fun j hj => ?_⟩
  rw [putAt_get _ _ _ (by rw [hl, h.size]; omega), hl]
  split
  · rename_i h1
    rw [Array.getElem?_toList, Array.getElem?_extract, if_pos (by omega)]
    congr 1; omega
  · exact h.same j (by omega)
theorem Upto.set {c D : Array Value} {n : Nat} (h : Upto c D n) {v : Value} (hv : c[n]? = some v) : Upto c (D.setIfInBounds n v) (n + 1) := by
  have hn : n < c.size := (Array.getElem?_eq_some_iff.1 hv).1
  refine ⟨by simpa using h.size, fun j hj => ?_⟩
  by_cases hjn : j = n
  · subst hjn
    rw [Array.getElem?_setIfInBounds_self_of_lt (by rw [h.size]; exact hn)]
    exact hv.symm
  · rw [Array.getElem?_setIfInBounds_ne (by omega)]
    exact h.same j (by omega)

theorem ext_get (c : Array Value) (n m i : Nat) (h : i < m - n) : (c.extract n m)[i]? = c[n + i]? := by
  by_cases hs : n + i < c.size
  · rw [Array.getElem?_extract, if_pos (by omega)]
  · rw [Array.getElem?_extract, if_neg (by omega), Array.getElem?_eq_none (by omega)]
theorem mem_t {c : Array Value} (h : MemOk c) : ∀ k, k < 16 → ∃ b m, (c.extract 5 37)[2 * k]? = some (.bool b) ∧ (c.extract 5 37)[2 * k + 1]? = some (.int .u16 m) := fun k hk => by
  obtain ⟨b, hb⟩ := h.bool (i := 5 + 2 * k) (by omega) (kd_t hk).1
  obtain ⟨m, hm, -⟩ := h.u16 (i := 5 + 2 * k + 1) (by omega) (kd_t hk).2
  exact ⟨b, m, by rw [ext_get _ _ _ _ (by omega)]; exact hb, by rw [ext_get _ _ _ _ (by omega)]; exact hm⟩
theorem mem_c {c : Array Value} (h : MemOk c) : ∀ k, k < 16 → ∃ b l m, (c.extract 37 85)[3 * k]? = some (.bool b) ∧ (c.extract 37 85)[3 * k + 1]? = some (.bool l) ∧ (c.extract 37 85)[3 * k + 2]? = some (.int .u16 m) := fun k hk => by
  obtain ⟨b, hb⟩ := h.bool (i := 37 + 3 * k) (by omega) (kd_c hk).1
  obtain ⟨l, hl⟩ := h.bool (i := 37 + 3 * k + 1) (by omega) (kd_c hk).2.1
  obtain ⟨m, hm, -⟩ := h.u16 (i := 37 + 3 * k + 2) (by omega) (kd_c hk).2.2
  exact ⟨b, l, m, by rw [ext_get _ _ _ _ (by omega)]; exact hb, by rw [ext_get _ _ _ _ (by omega)]; exact hl, by rw [ext_get _ _ _ _ (by omega)]; exact hm⟩
theorem mem_d {c : Array Value} (h : MemOk c) : ∀ k, k < 32 → ∃ m, (c.extract 85 117)[k]? = some (.int .i16 m) := fun k hk => by
  obtain ⟨m, hm, -⟩ := h.i16 (i := 85 + k) (by omega) (kd_d hk)
  exact ⟨m, by rw [ext_get _ _ _ _ (by omega)]; exact hm⟩
theorem mem_r {c : Array Value} (h : MemOk c) : ∀ k, k < 16 → ∃ x, (c.extract 117 133)[k]? = some (.float .f64 x) := fun k hk => by
  obtain ⟨m, hm, -⟩ := h.f64 (i := 117 + k) (by omega) (kd_r hk)
  exact ⟨m, by rw [ext_get _ _ _ _ (by omega)]; exact hm⟩
theorem MemOk.esize {c : Array Value} (h : MemOk c) (n m : Nat) (hm : m ≤ 136) : (c.extract n m).size = m - n := by
  have := h.size
  simp; omega

end Go.Proofs.YtjnddfpieogpiaaDoor
