/- A memory that is handed in: its cells. -/
import Derived.Test.YteekbhhlgicpeaaDoorMd
namespace Go.Proofs.YteekbhhlgicpeaaDoor
set_option linter.unusedVariables false

set_option maxRecDepth 100000 in
theorem mem_types : (Tryd.prog.cellTypes Tryd.prog.depth 48).map (fun ts => ts.map fun u => codeOf (Tryd.prog.underlying u)) = some ((List.range 136).map kd) := by kernel_rfl

set_option maxRecDepth 100000 in
theorem mem_open {w : World} {r : Reach} {base : Nat} {v : Value} (h : Value.okWide Tryd.prog w r base 48 v) : ∃ c, v = .agg c ∧ MemOk c := by
  obtain ⟨ts, hts, hk⟩ := Option.map_eq_some_iff.1 mem_types
  exact memOk_of_okWide Tryd.underlying48 rfl (by kernel_rfl) ts hts hk h
end Go.Proofs.YteekbhhlgicpeaaDoor
