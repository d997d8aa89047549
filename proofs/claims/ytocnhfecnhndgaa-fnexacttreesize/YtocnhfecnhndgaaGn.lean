/- The parts of a ladder: the closure over arms. -/
import Derived.Test.YtocnhfecnhndgaaGm
namespace Go.Proofs.Ytocnhfecnhndgaa
open Go.RowKit Go.Shelf
set_option linter.unusedVariables false

set_option maxHeartbeats 1000000 in
theorem nothing_i (op : Int) (a : Option Addr) (l c : Nat) (w : World) (hl : l ≤ 9223372036854775807) :
    Calls Try.prog 77 #[.agg #[.int .i64 op, .slice a l c]] w fun e w' => e = .returned (.bool (decide (op = 0) && decide (l = 0))) ∧ Below w.heap.size w w' := by
  have b0 : ∀ A, Below w.heap.size w (w.alloc A) := fun A => (Below.refl _ _).alloc (Nat.le_refl _) _
  by_cases h1 : op = 0
  · subst h1
    by_cases h2 : l = 0
    · subst h2
      go_enter Try.func77, Try.ntmps77
      go_wp2
      go_ret
      exact ⟨by simp, b0 _⟩
    · have e1 : ((l : Int) == 0) = false := by simp; omega
      go_enter Try.func77, Try.ntmps77
      go_wp2
      go_ret
      exact ⟨by simp [h2], b0 _⟩
  · have e1 : (op == 0) = false := by simp [h1]
    go_enter Try.func77, Try.ntmps77
    go_wp2
    go_ret
    exact ⟨by simp [h1], b0 _⟩

set_option maxHeartbeats 1000000 in
theorem none_i (k op : Int) (a1 : Option Addr) (l1 c1 : Nat) (a2 : Option Addr) (l2 c2 : Nat) (w : World) (h1 : l1 ≤ 9223372036854775807) (h2 : l2 ≤ 9223372036854775807) :
    Calls Try.prog 60 #[.agg #[.int .i64 k, .int .i64 op, .slice a1 l1 c1, .slice a2 l2 c2]] w fun e w' => e = .returned (.bool (decide (k = 0) && decide (op = 0) && decide (l1 = 0) && decide (l2 = 0))) ∧ Below w.heap.size w w' := by
  have HN : Hid (∀ W, Calls Try.prog 77 #[.agg #[.int .i64 op, .slice a1 l1 c1]] W fun e w' => e = .returned (.bool (decide (op = 0) && decide (l1 = 0))) ∧ Below W.heap.size W w') := fun W => nothing_i op a1 l1 c1 W h1
  rw [Bool.and_assoc (decide (k = 0)) (decide (op = 0)) (decide (l1 = 0))]
  generalize (decide (op = 0) && decide (l1 = 0)) = r at HN ⊢
  have b0 : Below w.heap.size w (w.alloc (.cells #[.int .i64 k, .int .i64 op, .slice a1 l1 c1, .slice a2 l2 c2] 48)) := (Below.refl _ _).alloc (Nat.le_refl _) _
  by_cases hk : k = 0
  · subst hk
    have k0 := heap_alloc_last w (.cells #[.int .i64 0, .int .i64 op, .slice a1 l1 c1, .slice a2 l2 c2] 48)
    have K0 : Hid ((w.alloc (.cells #[.int .i64 0, .int .i64 op, .slice a1 l1 c1, .slice a2 l2 c2] 48)).heap[w.heap.size]? = some (.cells #[.int .i64 0, .int .i64 op, .slice a1 l1 c1, .slice a2 l2 c2] 48 (0, 0))) := k0
    clear k0
    go_enter Try.func60, Try.ntmps60
    go_wp2_with fail
    refine (HN.out _).mono ?_
    rintro e w1 ⟨rfl, g1⟩
    have c3 : w1.cell? ⟨w.heap.size, 3, none⟩ = some (.slice a2 l2 c2) := (cell_of_row _ _ _ _ _ _ ((g1.block _ (by simp)).trans K0.out)).trans rfl
    have b1 := b0.trans (g1.mono b0.size)
    clear g1 b0 K0
    cases r with
    | false =>
      clear c3
      go_wp2
      go_ret
      exact ⟨by simp, b1⟩
    | true =>
      by_cases hl : l2 = 0
      · subst hl
        go_wp2
        go_ret
        exact ⟨by simp, b1⟩
      · have e1 : ((l2 : Int) == 0) = false := by simp; omega
        go_wp2
        go_ret
        exact ⟨by simp [hl], b1⟩
  · have e1 : (k == 0) = false := by simp [hk]
    go_enter Try.func60, Try.ntmps60
    go_wp2
    go_ret
    exact ⟨by simp [hk], b0⟩

/-- The closure over one net, in its variable. -/
def MB (W : World) (By Bn : Nat) : Prop := W.heap[Bn]? = some (.cells #[.func (.func 57) #[] #[.pointer (some ⟨By, 0, none⟩)]] 82 (0, 0))
def AB (W : World) (By Bn Ba : Nat) : Prop := W.heap[Ba]? = some (.cells #[.func (.func 59) #[] #[.pointer (some ⟨Bn, 0, none⟩), .pointer (some ⟨By, 0, none⟩), .pointer (some ⟨Ba, 0, none⟩)]] 90 (0, 0))
end Go.Proofs.Ytocnhfecnhndgaa
