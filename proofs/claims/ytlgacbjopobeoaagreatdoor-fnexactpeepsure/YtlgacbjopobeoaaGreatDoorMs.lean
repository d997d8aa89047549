/- The laws FnExactMemPutWhole and FnExactMemPutReal. -/
import Derived.Test.YtlgacbjopobeoaaGreatDoorMq
import Derived.Test.YtlgacbjopobeoaaGreatDoorMj
import Derived.Test.YtlgacbjopobeoaaGreatDoorMmM
import Derived.Deep.Cut
namespace Go.Proofs.YtlgacbjopobeoaaGreatDoor
open Go.RowKit Go.Shelf
set_option linter.unusedVariables false

theorem arg_info : (Tryz.prog.info? 211).map (·.size) = some 3 := by kernel_rfl
theorem memOk_set {c : Array Value} (hc : MemOk c) (i : Nat) {v : Value} (hv : CellIs (kd i) v) : MemOk (c.setIfInBounds i v) :=
  ⟨by simpa using hc.size, fun j u hu => by
    by_cases hji : i = j
    · subst hji
      have hl : i < c.size := by have := (Array.getElem?_eq_some_iff.1 hu).1; simpa using this
      rw [Array.getElem?_setIfInBounds_self_of_lt hl] at hu
      exact Option.some.inj hu ▸ hv
    · rw [Array.getElem?_setIfInBounds_ne hji] at hu
      exact hc.cell j u hu⟩


theorem i16_wf {v : Int} (h : (Lit.int .i16 v).wf = true) : -32768 ≤ v ∧ v < 32768 := by
  simp [Lit.wf, IntKind.min, IntKind.max, IntKind.bits, IntKind.signed] at h
  omega
theorem has_wf {v : Nat} (h : (Lit.float .f64 v).wf = true) : FloatKind.has .f64 v := by
  simpa [Lit.wf, FloatKind.has] using h

theorem memOk_putw {c : Array Value} (hc : MemOk c) (k n : Int) {v : Int} (hv : -32768 ≤ v ∧ v < 32768) : MemOk (putk c 9 85 k n (.int .i16 v)) := by
  unfold putk
  split
  · rename_i hk
    subst hk
    obtain ⟨q0, q1⟩ := pl_lt 9 n (by decide)
    rw [show kZ 9 = 32 from rfl] at q1
    refine memOk_set hc _ ?_
    rw [kd_d (by omega)]
    simp [CellIs, Value.oneCell']
    exact hv
  · exact hc


theorem memOk_putr {c : Array Value} (hc : MemOk c) (k n : Int) {v : Nat} (hv : FloatKind.has .f64 v) : MemOk (putk c 10 117 k n (.float .f64 v)) := by
  unfold putk
  split
  · rename_i hk
    subst hk
    obtain ⟨q0, q1⟩ := pl_lt 10 n (by decide)
    rw [show kZ 10 = 16 from rfl] at q1
    refine memOk_set hc _ ?_
    rw [kd_r (by omega)]
    simp [CellIs, Value.oneCell']
    exact hv
  · exact hc


end Go.Proofs.YtlgacbjopobeoaaGreatDoor
