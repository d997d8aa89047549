/- The law FnExactBitOk: walks. -/
import Derived.Test.YtlpeianinlnbeaaA
import Derived.WalkSpells
namespace Go.Proofs.Ytlpeianinlnbeaa
open Go.RowKit
set_option linter.unusedVariables false

set_option maxHeartbeats 400000 in
theorem law8 (b n : Int) (w : World) (hb0 : 0 ≤ b) (hb1 : b ≤ 65535) :
    Calls Try.prog 8 #[.agg #[.int .u16 b, .int .i64 n]] w fun e w' => e = .returned (.bool true) ∧ Below w.heap.size w w' := by
  go_enter Try.func8, Try.ntmps8
  go_wp2_with fail
  refine (to_stack b n _).mono ?_
  rintro e w1 ⟨rfl, g1⟩
  have a0 : w1.cell? ⟨w.heap.size, 0, none⟩ = some (.int .u16 b) := cell_later g1 (by simp)
  have a1 : w1.cell? ⟨w.heap.size, 1, none⟩ = some (.int .i64 n) := cell_later g1 (by simp)
  have z1 : w.heap.size + 1 ≤ w1.heap.size := by have := g1.size; simpa using this
  have b1 : Below w.heap.size w w1 := ((Below.refl _ _).alloc (Nat.le_refl _) _).trans (g1.mono (by simp))
  clear g1
  go_wp2_with fail
  refine (spec_ok b n _ hb0 hb1).mono ?_
  rintro e w2 ⟨rfl, g2⟩
  have c0 := cell_later g2 a0
  have c1 := cell_later g2 a1
  have b2 : Below w.heap.size w w2 := b1.trans (g2.mono (by omega))
  have z2 : w.heap.size + 1 ≤ w2.heap.size := by have := g2.size; omega
  clear g2 a0 a1 b1 z1
  go_wp2_with fail
  refine (to_stack b n _).mono ?_
  rintro e w3 ⟨rfl, g3⟩
  have b3 : Below w.heap.size w w3 := b2.trans (g3.mono (by omega))
  have z3 : w.heap.size + 1 ≤ w3.heap.size := by have := g3.size; omega
  clear g3 b2
  go_wp2_with fail
  refine (impl_ok b n _ hb0 hb1).mono ?_
  rintro e w4 ⟨rfl, g4⟩
  have b4 : Below w.heap.size w w4 := b3.trans (g4.mono (by omega))
  clear g4 b3
  go_wp2
  go_ret
  exact ⟨rfl, b4⟩

theorem walk8 (b n : Int) (w : World) (hb : (Lit.int .u16 b).wf = true) (hn : (Lit.int .i64 n).wf = true) :
    Calls Try.prog 8 #[.agg #[.int .u16 b, .int .i64 n]] w fun e w' => e = .returned (.bool true) ∧ Below w.heap.size w w' := by
  have h := bounds_u16 hb
  exact law8 b n w h.1 (by omega)
end Go.Proofs.Ytlpeianinlnbeaa
