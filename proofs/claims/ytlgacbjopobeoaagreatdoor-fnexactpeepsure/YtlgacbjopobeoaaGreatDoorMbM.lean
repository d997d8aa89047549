/- The memory as a row of 136 cells: what lies in which. -/
import Derived.Test.YtlgacbjopobeoaaGreatDoorMa
import Derived.WideShapes
import Derived.Test.YtlgacbjopobeoaaGreatDoorRows
import Derived.WalkKit
import Derived.ProofKit
import Derived.Handy
import Derived.WalkLawsBesides
import Derived.Deep.QuietTactic
import Derived.BigQuiet
import Derived.Deep.RegionWith
import Derived.WalkSpells
import Derived.Deep.LoopGhost
namespace Go.Proofs.YtlgacbjopobeoaaGreatDoor
open Go.RowKit
set_option linter.unusedVariables false

/-- What kind of cell lies at a place of a memory. -/
def kd (i : Nat) : Nat :=
  if i = 2 then 64 else if i = 3 then 16 else if i < 5 then 32
  else if i < 37 then (if i % 2 = 1 then 1 else 16)
  else if i < 85 then (if (i - 37) % 3 = 2 then 16 else 1)
  else if i < 117 then 116 else if i < 133 then 99 else if i = 133 then 32 else 1

def CellIs (k : Nat) (v : Value) : Prop :=
  (k = 1 → ∃ b, v = .bool b) ∧ (k = 16 → ∃ n, v = .int .u16 n ∧ 0 ≤ n ∧ n < 65536) ∧ (k = 32 → ∃ n, v = .int .u32 n ∧ 0 ≤ n ∧ n < 4294967296) ∧
  (k = 64 → ∃ n, v = .int .u64 n ∧ 0 ≤ n ∧ n < 18446744073709551616) ∧ (k = 116 → ∃ n, v = .int .i16 n ∧ -32768 ≤ n ∧ n < 32768) ∧
  (k = 99 → ∃ x, v = .float .f64 x ∧ FloatKind.has .f64 x) ∧ v.oneCell' = true

def codeOf : Option TypeDesc → Nat
  | some .bool => 1
  | some (.int .u16) => 16
  | some (.int .u32) => 32
  | some (.int .u64) => 64
  | some (.int .i16) => 116
  | some (.float .f64) => 99
  | _ => 0

structure MemOk (c : Array Value) : Prop where
  size : c.size = 136
  cell : ∀ i v, c[i]? = some v → CellIs (kd i) v

theorem cellIs_of_ok {P : Program} {w : World} {r : Reach} {base : Nat} {u : TypeId} {v : Value} (h : Cell.okWide P w r base u v) {k : Nat} (hk : codeOf (P.underlying u) = k) (h0 : k ≠ 0) : CellIs k v := by
  unfold Cell.okWide at h
  revert hk h
  cases hu : P.underlying u with
  | none => intro h hk; exact absurd hk.symm h0
  | some d =>
    cases d with
    | bool =>
      intro h hk
      cases v <;> simp [Cell.ok, hu, codeOf] at h hk
      subst hk
      simp [CellIs, Value.oneCell']
    | int k' =>
      intro h hk
      cases v <;> simp [Cell.ok, hu] at h
      obtain ⟨rfl, h1⟩ := h
      rename_i kk n
      cases kk <;> simp [codeOf] at hk <;> subst hk <;> first | exact absurd rfl h0 | skip
      all_goals simp [CellIs, Value.oneCell']
      all_goals (have := h1; simp [IntKind.has, IntKind.min, IntKind.max, IntKind.bits, IntKind.signed] at this; omega)
    | float k' =>
      intro h hk
      cases v <;> simp [Cell.ok, hu] at h
      obtain ⟨rfl, h1⟩ := h
      rename_i kk n
      cases kk <;> simp [codeOf] at hk <;> subst hk <;> first | exact absurd rfl h0 | skip
      simpa [CellIs, Value.oneCell'] using h1
    | _ => intro h hk; exact absurd hk.symm (by simpa [codeOf] using h0)

theorem memOk_of_okWide {P : Program} {w : World} {r : Reach} {base : Nat} {t : TypeId} {v : Value} {d : TypeDesc} (hu : P.underlying t = some d) (hd : d.isRow = true) (hc : P.cellsOf t = 136)
    (ts : List TypeId) (hts : P.cellTypes P.depth t = some ts) (hk : ts.map (fun u => codeOf (P.underlying u)) = (List.range 136).map kd) (h : Value.okWide P w r base t v) : ∃ c, v = .agg c ∧ MemOk c := by
  have h2 : ∃ cs, v = .agg cs ∧ cs.size = P.cellsOf t ∧ Row.okWide P w r base t cs := by
    unfold Value.okWide at h
    rw [hu] at h
    cases d <;> simp [TypeDesc.isRow] at hd <;> exact h
  obtain ⟨cs, rfl, hs, ts', hts', _, hcell⟩ := h2
  obtain rfl : ts = ts' := Option.some.inj (hts.symm.trans hts')
  have hl : ts.length = 136 := by have := congrArg List.length hk; simpa using this
  refine ⟨cs, rfl, by omega, fun i v hv => ?_⟩
  have hi : i < 136 := by have := (Array.getElem?_eq_some_iff.1 hv).1; omega
  obtain ⟨u, hu', hok⟩ := hcell i v hv
  rw [hl, Nat.mod_eq_of_lt hi] at hu'
  have hc' : codeOf (P.underlying u) = kd i := by
    have := congrArg (fun l => l[i]?) hk
    simp [hu', hi] at this
    exact this
  refine cellIs_of_ok hok hc' ?_
  have : (List.range 136).all (fun i => kd i != 0) = true := by decide
  have := List.all_eq_true.1 this i (by simpa using hi)
  simpa using this

section
variable {c : Array Value}
theorem MemOk.get (h : MemOk c) {i : Nat} (hi : i < 136) : ∃ v, c[i]? = some v ∧ CellIs (kd i) v :=
  ⟨_, Array.getElem?_eq_getElem (by rw [h.size]; exact hi), h.cell i _ (Array.getElem?_eq_getElem (by rw [h.size]; exact hi))⟩
theorem MemOk.u32 (h : MemOk c) {i : Nat} (hi : i < 136) (hk : kd i = 32) : ∃ n, c[i]? = some (.int .u32 n) ∧ 0 ≤ n ∧ n < 4294967296 := by
  obtain ⟨v, hv, hc⟩ := h.get hi
  obtain ⟨n, rfl, h1⟩ := hc.2.2.1 hk
  exact ⟨n, hv, h1⟩
theorem MemOk.u16 (h : MemOk c) {i : Nat} (hi : i < 136) (hk : kd i = 16) : ∃ n, c[i]? = some (.int .u16 n) ∧ 0 ≤ n ∧ n < 65536 := by
  obtain ⟨v, hv, hc⟩ := h.get hi
  obtain ⟨n, rfl, h1⟩ := hc.2.1 hk
  exact ⟨n, hv, h1⟩
theorem MemOk.u64 (h : MemOk c) {i : Nat} (hi : i < 136) (hk : kd i = 64) : ∃ n, c[i]? = some (.int .u64 n) ∧ 0 ≤ n ∧ n < 18446744073709551616 := by
  obtain ⟨v, hv, hc⟩ := h.get hi
  obtain ⟨n, rfl, h1⟩ := hc.2.2.2.1 hk
  exact ⟨n, hv, h1⟩
theorem MemOk.i16 (h : MemOk c) {i : Nat} (hi : i < 136) (hk : kd i = 116) : ∃ n, c[i]? = some (.int .i16 n) ∧ -32768 ≤ n ∧ n < 32768 := by
  obtain ⟨v, hv, hc⟩ := h.get hi
  obtain ⟨n, rfl, h1⟩ := hc.2.2.2.2.1 hk
  exact ⟨n, hv, h1⟩
theorem MemOk.f64 (h : MemOk c) {i : Nat} (hi : i < 136) (hk : kd i = 99) : ∃ n, c[i]? = some (.float .f64 n) ∧ FloatKind.has .f64 n := by
  obtain ⟨v, hv, hc⟩ := h.get hi
  obtain ⟨n, rfl, h1⟩ := hc.2.2.2.2.2.1 hk
  exact ⟨n, hv, h1⟩
theorem MemOk.bool (h : MemOk c) {i : Nat} (hi : i < 136) (hk : kd i = 1) : ∃ b, c[i]? = some (.bool b) := by
  obtain ⟨v, hv, hc⟩ := h.get hi
  obtain ⟨n, rfl⟩ := hc.1 hk
  exact ⟨n, hv⟩
theorem kd_t {k : Nat} (hk : k < 16) : kd (5 + 2 * k) = 1 ∧ kd (5 + 2 * k + 1) = 16 := by
  unfold kd
  constructor
  · repeat' split
    all_goals omega
  · repeat' split
    all_goals omega
theorem kd_c {k : Nat} (hk : k < 16) : kd (37 + 3 * k) = 1 ∧ kd (37 + 3 * k + 1) = 1 ∧ kd (37 + 3 * k + 2) = 16 := by
  unfold kd
  refine ⟨?_, ?_, ?_⟩
  all_goals repeat' split
  all_goals omega
theorem kd_d {k : Nat} (hk : k < 32) : kd (85 + k) = 116 := by
  unfold kd
  repeat' split
  all_goals omega
theorem kd_r {k : Nat} (hk : k < 16) : kd (117 + k) = 99 := by
  unfold kd
  repeat' split
  all_goals omega
theorem MemOk.one (h : MemOk c) : c.all (·.oneCell') = true := by
  rw [Array.all_eq_true_iff_forall_mem]
  intro v hv
  obtain ⟨i, hi, rfl⟩ := Array.mem_iff_getElem.1 hv
  exact (h.cell i _ (Array.getElem?_eq_getElem hi)).2.2.2.2.2.2
theorem one_extract {D : Array Value} (h : D.all (·.oneCell') = true) (o n : Nat) : (D.extract o n).all (·.oneCell') = true := by
  rw [Array.all_eq_true_iff_forall_mem] at h ⊢
  intro v hv
  refine h v ?_
  obtain ⟨i, hi, rfl⟩ := Array.mem_iff_getElem.1 hv
  rw [Array.getElem_extract]
  exact Array.getElem_mem _
end
end Go.Proofs.YtlgacbjopobeoaaGreatDoor
/- A memory copied field by field: toMem, toDevArg of the laws. -/
namespace Go.Proofs.YtlgacbjopobeoaaGreatDoor
open Go.RowKit
set_option linter.unusedVariables false

end Go.Proofs.YtlgacbjopobeoaaGreatDoor
/- A memory copied field by field: toMem of the laws. -/
namespace Go.Proofs.YtlgacbjopobeoaaGreatDoor
open Go.RowKit
set_option linter.unusedVariables false

def zc (k : Nat) : Value := if k = 1 then .bool false else if k = 16 then .int .u16 0 else if k = 32 then .int .u32 0 else if k = 64 then .int .u64 0 else if k = 116 then .int .i16 0 else .float .f64 0
def memZero : Array Value := ((List.range 136).map fun i => zc (kd i)).toArray

theorem memZero_size : memZero.size = 136 := by simp [memZero]
theorem memZero_get {i : Nat} (h : i < 136) : memZero[i]? = some (zc (kd i)) := by simp [memZero, h]

theorem zero_mem : (∀ w, (zeroValue 39).run Tryz.prog w = .ok (.agg memZero) w) ∧ (Tryz.prog.info? 39).map (·.size) = some 136 := zero_of_info (by kernel_rfl)

/-- What the copying of a row has done so far: the first n cells are the old ones. -/
structure Upto (c D : Array Value) (n : Nat) : Prop where
  size : D.size = c.size
  same : ∀ j, j < n → D[j]? = c[j]?

theorem Upto.all {c D : Array Value} {n : Nat} (h : Upto c D n) (hn : c.size ≤ n) : D = c := by
  apply Array.ext_getElem?
  intro j
  by_cases hj : j < n
  · exact h.same j hj
  · have := h.size
    rw [Array.getElem?_eq_none (by omega), Array.getElem?_eq_none (by omega)]
theorem Upto.put {c D : Array Value} {n : Nat} (h : Upto c D n) (m : Nat) (hm : m ≤ c.size) (hn : n ≤ m) : Upto c (putAt D n (c.extract n m).toList) m := by
  have hl : (c.extract n m).toList.length = m - n := by simp; omega
  refine ⟨by rw [putAt_size]; exact h.size, fun j hj => ?_⟩
  rw [putAt_get _ _ _ (by rw [hl, h.size]; omega), hl]
  split
  · rename_i h1
    rw [Array.getElem?_toList, Array.getElem?_extract, if_pos (by omega)]
    congr 1; omega
  · exact h.same j (by omega)
theorem Upto.set {c D : Array Value} {n : Nat} (h : Upto c D n) {v : Value} (hv : c[n]? = some v) : Upto c (D.setIfInBounds n v) (n + 1) := by
  have hn : n < c.size := (Array.getElem?_eq_some_iff.1 hv).1
  refine ⟨by simpa using h.size, fun j hj => ?_⟩
  by_cases hjn : j = n
  · subst hjn
    rw [Array.getElem?_setIfInBounds_self_of_lt (by rw [h.size]; exact hn)]
    exact hv.symm
  · rw [Array.getElem?_setIfInBounds_ne (by omega)]
    exact h.same j (by omega)

theorem ext_get (c : Array Value) (n m i : Nat) (h : i < m - n) : (c.extract n m)[i]? = c[n + i]? := by
  by_cases hs : n + i < c.size
  · rw [Array.getElem?_extract, if_pos (by omega)]
  · rw [Array.getElem?_extract, if_neg (by omega), Array.getElem?_eq_none (by omega)]
theorem mem_t {c : Array Value} (h : MemOk c) : ∀ k, k < 16 → ∃ b m, (c.extract 5 37)[2 * k]? = some (.bool b) ∧ (c.extract 5 37)[2 * k + 1]? = some (.int .u16 m) := fun k hk => by
  obtain ⟨b, hb⟩ := h.bool (i := 5 + 2 * k) (by omega) (kd_t hk).1
  obtain ⟨m, hm, -⟩ := h.u16 (i := 5 + 2 * k + 1) (by omega) (kd_t hk).2
  exact ⟨b, m, by rw [ext_get _ _ _ _ (by omega)]; exact hb, by rw [ext_get _ _ _ _ (by omega)]; exact hm⟩
theorem mem_c {c : Array Value} (h : MemOk c) : ∀ k, k < 16 → ∃ b l m, (c.extract 37 85)[3 * k]? = some (.bool b) ∧ (c.extract 37 85)[3 * k + 1]? = some (.bool l) ∧ (c.extract 37 85)[3 * k + 2]? = some (.int .u16 m) := fun k hk => by
  obtain ⟨b, hb⟩ := h.bool (i := 37 + 3 * k) (by omega) (kd_c hk).1
  obtain ⟨l, hl⟩ := h.bool (i := 37 + 3 * k + 1) (by omega) (kd_c hk).2.1
  obtain ⟨m, hm, -⟩ := h.u16 (i := 37 + 3 * k + 2) (by omega) (kd_c hk).2.2
  exact ⟨b, l, m, by rw [ext_get _ _ _ _ (by omega)]; exact hb, by rw [ext_get _ _ _ _ (by omega)]; exact hl, by rw [ext_get _ _ _ _ (by omega)]; exact hm⟩
theorem mem_d {c : Array Value} (h : MemOk c) : ∀ k, k < 32 → ∃ m, (c.extract 85 117)[k]? = some (.int .i16 m) := fun k hk => by
  obtain ⟨m, hm, -⟩ := h.i16 (i := 85 + k) (by omega) (kd_d hk)
  exact ⟨m, by rw [ext_get _ _ _ _ (by omega)]; exact hm⟩
theorem mem_r {c : Array Value} (h : MemOk c) : ∀ k, k < 16 → ∃ x, (c.extract 117 133)[k]? = some (.float .f64 x) := fun k hk => by
  obtain ⟨m, hm, -⟩ := h.f64 (i := 117 + k) (by omega) (kd_r hk)
  exact ⟨m, by rw [ext_get _ _ _ _ (by omega)]; exact hm⟩
theorem MemOk.esize {c : Array Value} (h : MemOk c) (n m : Nat) (hm : m ≤ 136) : (c.extract n m).size = m - n := by
  have := h.size
  simp; omega

end Go.Proofs.YtlgacbjopobeoaaGreatDoor
