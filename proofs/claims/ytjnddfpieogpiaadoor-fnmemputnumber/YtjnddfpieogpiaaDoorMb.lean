/- The memory as a row of 136 cells: what lies in which. -/
import Derived.Test.YtjnddfpieogpiaaDoorMa
import Derived.WideShapes
namespace Go.Proofs.YtjnddfpieogpiaaDoor
open Go.RowKit
set_option linter.unusedVariables false

/-- What kind of cell lies at a place of a memory. -/
def kd (i : Nat) : Nat :=
  if i = 2 then 64 else if i = 3 then 16 else if i < 5 then 32
  else if i < 37 then (if i % 2 = 1 then 1 else 16)
  else if i < 85 then (if (i - 37) % 3 = 2 then 16 else 1)
  else if i < 117 then 116 else if i < 133 then 99 else if i = 133 then 32 else 1

def CellIs (k : Nat) (v : Value) : Prop :=
  (k = 1 → ∃ b, v = .bool b) ∧ (k = 16 → ∃ n, v = .int .u16 n ∧ 0 ≤ n ∧ n < 65536) ∧ (k = 32 → ∃ n, v = .int .u32 n ∧ 0 ≤ n ∧ n < 4294967296) ∧
  (k = 64 → ∃ n, v = .int .u64 n ∧ 0 ≤ n ∧ n < 18446744073709551616) ∧ (k = 116 → ∃ n, v = .int .i16 n ∧ -32768 ≤ n ∧ n < 32768) ∧
  (k = 99 → ∃ x, v = .float .f64 x ∧ FloatKind.has .f64 x) ∧ v.oneCell' = true

def codeOf : Option TypeDesc → Nat
  | some .bool => 1
  | some (.int .u16) => 16
  | some (.int .u32) => 32
  | some (.int .u64) => 64
  | some (.int .i16) => 116
  | some (.float .f64) => 99
  | _ => 0

structure MemOk (c : Array Value) : Prop where
  size : c.size = 136
  cell : ∀ i v, c[i]? = some v → CellIs (kd i) v

theorem cellIs_of_ok {P : Program} {w : World} {r : Reach} {base : Nat} {u : TypeId} {v : Value} (h : Cell.okWide P w r base u v) {k : Nat} (hk : codeOf (P.underlying u) = k) (h0 : k ≠ 0) : CellIs k v := by
  unfold Cell.okWide at h
  revert hk h
  cases hu : P.underlying u with
  | none => intro h hk; exact absurd hk.symm h0
  | some d =>
    cases d with
    | bool =>
      intro h hk
      cases v <;> simp [Cell.ok, hu, codeOf] at h hk
      subst hk
      simp [CellIs, Value.oneCell']
    | int k' =>
      intro h hk
      cases v <;> simp [Cell.ok, hu] at h
      obtain ⟨rfl, h1⟩ := h
      rename_i kk n
      cases kk <;> simp [codeOf] at hk <;> subst hk <;> first | exact absurd rfl h0 | skip
      all_goals simp [CellIs, Value.oneCell']
      all_goals (have := h1; simp [IntKind.has, IntKind.min, IntKind.max, IntKind.bits, IntKind.signed] at this; omega)
    | float k' =>
      intro h hk
      cases v <;> simp [Cell.ok, hu] at h
      obtain ⟨rfl, h1⟩ := h
      rename_i kk n
      cases kk <;> simp [codeOf] at hk <;> subst hk <;> first | exact absurd rfl h0 | skip
      simpa [CellIs, Value.oneCell'] using h1
    | _ => intro h hk; exact absurd hk.symm (by simpa [codeOf] using h0)

theorem memOk_of_okWide {P : Program} {w : World} {r : Reach} {base : Nat} {t : TypeId} {v : Value} {d : TypeDesc} (hu : P.underlying t = some d) (hd : d.isRow = true) (hc : P.cellsOf t = 136)
    (ts : List TypeId) (hts : P.cellTypes P.depth t = some ts) (hk : ts.map (fun u => codeOf (P.underlying u)) = (List.range 136).map kd) (h : Value.okWide P w r base t v) : ∃ c, v = .agg c ∧ MemOk c := by
  have h2 : ∃ cs, v = .agg cs ∧ cs.size = P.cellsOf t ∧ Row.okWide P w r base t cs := by
    unfold Value.okWide at h
    rw [hu] at h
    cases d <;> simp [TypeDesc.isRow] at hd <;> exact h
  obtain ⟨cs, rfl, hs, ts', hts', _, hcell⟩ := h2
  obtain rfl : ts = ts' := Option.some.inj (hts.symm.trans hts')
  have hl : ts.length = 136 := by have := congrArg List.length hk; simpa using this
  refine ⟨cs, rfl, by omega, fun i v hv => ?_⟩
  have hi : i < 136 := by have := (Array.getElem?_eq_some_iff.1 hv).1; omega
  obtain ⟨u, hu', hok⟩ := hcell i v hv
  rw [hl, Nat.mod_eq_of_lt hi] at hu'
  have hc' : codeOf (P.underlying u) = kd i := by
    have := congrArg (fun l => l[i]?) hk
    simp [hu', hi] at this
    exact this
  refine cellIs_of_ok hok hc' ?_
  have : (List.range 136).all (fun i => kd i != 0) = true := by decide
  have := List.all_eq_true.1 this i (by simpa using hi)
  simpa using this

section
variable {c : Array Value}
theorem MemOk.get (h : MemOk c) {i : Nat} (hi : i < 136) : ∃ v, c[i]? = some v ∧ CellIs (kd i) v :=
  ⟨_, Array.getElem?_eq_getElem (by rw [h.size]; exact hi), h.cell i _ (Array.getElem?_eq_getElem (by rw [h.size]; exact hi))⟩
theorem MemOk.u32 (h : MemOk c) {i : Nat} (hi : i < 136) (hk : kd i = 32) : ∃ n, c[i]? = some (.int .u32 n) ∧ 0 ≤ n ∧ n < 4294967296 := by
  obtain ⟨v, hv, hc⟩ := h.get hi
  obtain ⟨n, rfl, h1⟩ := hc.2.2.1 hk
  exact ⟨n, hv, h1⟩
theorem MemOk.u16 (h : MemOk c) {i : Nat} (hi : i < 136) (hk : kd i = 16) : ∃ n, c[i]? = some (.int .u16 n) ∧ 0 ≤ n ∧ n < 65536 := by
  obtain ⟨v, hv, hc⟩ := h.get hi
  obtain ⟨n, rfl, h1⟩ := hc.2.1 hk
  exact ⟨n, hv, h1⟩
theorem MemOk.u64 (h : MemOk c) {i : Nat} (hi : i < 136) (hk : kd i = 64) : ∃ n, c[i]? = some (.int .u64 n) ∧ 0 ≤ n ∧ n < 18446744073709551616 := by
  obtain ⟨v, hv, hc⟩ := h.get hi
  obtain ⟨n, rfl, h1⟩ := hc.2.2.2.1 hk
  exact ⟨n, hv, h1⟩
theorem MemOk.i16 (h : MemOk c) {i : Nat} (hi : i < 136) (hk : kd i = 116) : ∃ n, c[i]? = some (.int .i16 n) ∧ -32768 ≤ n ∧ n < 32768 := by
  obtain ⟨v, hv, hc⟩ := h.get hi
  obtain ⟨n, rfl, h1⟩ := hc.2.2.2.2.1 hk
  exact ⟨n, hv, h1⟩
theorem MemOk.f64 (h : MemOk c) {i : Nat} (hi : i < 136) (hk : kd i = 99) : ∃ n, c[i]? = some (.float .f64 n) ∧ FloatKind.has .f64 n := by
  obtain ⟨v, hv, hc⟩ := h.get hi
  obtain ⟨n, rfl, h1⟩ := hc.2.2.2.2.2.1 hk
  exact ⟨n, hv, h1⟩
theorem MemOk.bool (h : MemOk c) {i : Nat} (hi : i < 136) (hk : kd i = 1) : ∃ b, c[i]? = some (.bool b) := by
  obtain ⟨v, hv, hc⟩ := h.get hi
  obtain ⟨n, rfl⟩ := hc.1 hk
  exact ⟨n, hv⟩
theorem kd_t {k : Nat} (hk : k < 16) : kd (5 + 2 * k) = 1 ∧ kd (5 + 2 * k + 1) = 16 := by
  unfold kd
  constructor
  · repeat' split
    all_goals omega
  · repeat' split
    all_goals omega
theorem kd_c {k : Nat} (hk : k < 16) : kd (37 + 3 * k) = 1 ∧ kd (37 + 3 * k + 1) = 1 ∧ kd (37 + 3 * k + 2) = 16 := by
  unfold kd
  refine ⟨?_, ?_, ?_⟩
  all_goals repeat' split
  all_goals omega
theorem kd_d {k : Nat} (hk : k < 32) : kd (85 + k) = 116 := by
  unfold kd
  repeat' split
  all_goals omega
theorem kd_r {k : Nat} (hk : k < 16) : kd (117 + k) = 99 := by
  unfold kd
  repeat' split
  all_goals omega
theorem MemOk.one (h : MemOk c) : c.all (·.oneCell') = true := by
  rw [Array.all_eq_true_iff_forall_mem]
  intro v hv
  obtain ⟨i, hi, rfl⟩ := Array.mem_iff_getElem.1 hv
  exact (h.cell i _ (Array.getElem?_eq_getElem hi)).2.2.2.2.2.2
theorem one_extract {D : Array Value} (h : D.all (·.oneCell') = true) (o n : Nat) : (D.extract o n).all (·.oneCell') = true := by
  rw [Array.all_eq_true_iff_forall_mem] at h ⊢
  intro v hv
  refine h v ?_
  obtain ⟨i, hi, rfl⟩ := Array.mem_iff_getElem.1 hv
  rw [Array.getElem_extract]
  exact Array.getElem_mem _
end
end Go.Proofs.YtjnddfpieogpiaaDoor
