/- ActTest of the specification. -/
import Derived.Test.YtjnddfpieogpiaaGreatDoorYeM
import Derived.Test.YtjnddfpieogpiaaGreatDoorYi
import Derived.Test.YtjnddfpieogpiaaGreatDoorYj
import Derived.Test.YtjnddfpieogpiaaGreatDoorYk
namespace Go.Proofs.YtjnddfpieogpiaaGreatDoor
open Go.RowKit Go.Shelf Rr Ee
set_option linter.unusedVariables false

theorem spec_test (op : Int) (a : Option Addr) (len cap : Nat) (xs : List Arg) (c : Array Value) (hc : MemOk c) (w : World) (hl : len = xs.length) (hx : Sl w a xs) :
    Calls Tryz.prog 14 #[.agg c, .agg #[.int .i64 op, .slice a len cap]] w fun e w' => e = .returned (.tuple #[.agg (tM c op xs), .bool (tB c op xs)]) ∧ Below w.heap.size w w' := by
  have HA0 : ∀ op', Hid (∀ W, Below w.heap.size w W → Calls Tryz.prog 40 #[.agg #[.int .i64 op', .slice a len cap], .int .i64 0] W fun e w' => e = .returned (.agg #[.int .i64 (ag xs 0).1, .int .i64 (ag xs 0).2.1, .int .i64 (ag xs 0).2.2]) ∧ Below W.heap.size W w') := fun op' W hW => larg0 op' a len cap xs W hl (hx.later hW)
  have HA1 : ∀ op', Hid (∀ W, Below w.heap.size w W → Calls Tryz.prog 40 #[.agg #[.int .i64 op', .slice a len cap], .int .i64 1] W fun e w' => e = .returned (.agg #[.int .i64 (ag xs 1).1, .int .i64 (ag xs 1).2.1, .int .i64 (ag xs 1).2.2]) ∧ Below W.heap.size W w') := fun op' W hW => larg1 op' a len cap xs W hl (hx.later hW)

  by_cases h1 : op = 1
  · subst h1; exact st_1 (ag xs 0).1 (ag xs 0).2.1 (ag xs 0).2.2 (ag xs 1).1 (ag xs 1).2.1 (ag xs 1).2.2 a len cap c hc w (HA0 _) (HA1 _)
  by_cases h2 : op = 2
  · subst h2; exact st_2 (ag xs 0).1 (ag xs 0).2.1 (ag xs 0).2.2 (ag xs 1).1 (ag xs 1).2.1 (ag xs 1).2.2 a len cap c hc w (HA0 _) (HA1 _)
  by_cases h3 : op = 3
  · subst h3
    show Calls _ _ _ w fun e w' => e = .returned (.tuple #[.agg (remOf c (ag xs 1).1 (ag xs 1).2.1 (mbit c (ag xs 0).1 (ag xs 0).2.1)), .bool (mbit c (ag xs 0).1 (ag xs 0).2.1 && !wasOf c (ag xs 1).1 (ag xs 1).2.1)]) ∧ _
    have H0 := HA0 3
    have H1 := HA1 3
    generalize ag xs 0 = x at H0 ⊢
    generalize ag xs 1 = y at H1 ⊢
    obtain ⟨k, n, m⟩ := x
    obtain ⟨k1, n1, m1⟩ := y
    by_cases h5 : k1 = 5
    · subst h5
      have e1 : wasOf c 5 n1 = mbit c 5 n1 := by simp [wasOf]
      have e2 : remOf c 5 n1 (mbit c k n) = putb c 5 n1 (mbit c k n) := by simp [remOf]
      have h := st_3e k n m n1 m1 a len cap c hc w H0 H1
      simp only [e1, e2]
      exact h
    · have e1 : wasOf c k1 n1 = false := by simp [wasOf, h5]
      have e2 : remOf c k1 n1 (mbit c k n) = c := by simp [remOf, h5]
      have h := st_3o k n m k1 n1 m1 h5 a len cap c hc w H0 H1
      simp only [e1, e2, Bool.not_false, Bool.and_true]
      exact h
  by_cases h4 : op = 4
  · subst h4
    show Calls _ _ _ w fun e w' => e = .returned (.tuple #[.agg (remOf c (ag xs 1).1 (ag xs 1).2.1 (mbit c (ag xs 0).1 (ag xs 0).2.1)), .bool (!mbit c (ag xs 0).1 (ag xs 0).2.1 && wasOf c (ag xs 1).1 (ag xs 1).2.1)]) ∧ _
    have H0 := HA0 4
    have H1 := HA1 4
    generalize ag xs 0 = x at H0 ⊢
    generalize ag xs 1 = y at H1 ⊢
    obtain ⟨k, n, m⟩ := x
    obtain ⟨k1, n1, m1⟩ := y
    by_cases h5 : k1 = 5
    · subst h5
      have e1 : wasOf c 5 n1 = mbit c 5 n1 := by simp [wasOf]
      have e2 : remOf c 5 n1 (mbit c k n) = putb c 5 n1 (mbit c k n) := by simp [remOf]
      have h := st_4e k n m n1 m1 a len cap c hc w H0 H1
      simp only [e1, e2]
      exact h
    · have e1 : wasOf c k1 n1 = false := by simp [wasOf, h5]
      have e2 : remOf c k1 n1 (mbit c k n) = c := by simp [remOf, h5]
      have h := st_4o k n m k1 n1 m1 h5 a len cap c hc w H0 H1
      simp only [e1, e2, Bool.and_false]
      exact h
  by_cases hc5 : 5 ≤ op ∧ op ≤ 10
  · have e : tB c op xs = cmpB c (op - 4) (ag xs 0).1 (ag xs 0).2.1 (ag xs 0).2.2 (ag xs 1).1 (ag xs 1).2.1 (ag xs 1).2.2 := by
      unfold tB
      rw [if_neg h1, if_neg h2, if_neg h3, if_neg h4, if_pos hc5]
    rw [tM_out h3 h4, e]
    by_cases hk : (ag xs 0).1 = 10 ∨ (ag xs 0).1 = 12 ∨ (ag xs 0).1 = 13
    · exact st_cr op (ag xs 0).1 (ag xs 0).2.1 (ag xs 0).2.2 (ag xs 1).1 (ag xs 1).2.1 (ag xs 1).2.2 hc5.1 hc5.2 hk a len cap c hc w (HA0 _) (HA1 _)
    · exact st_cw op (ag xs 0).1 (ag xs 0).2.1 (ag xs 0).2.2 (ag xs 1).1 (ag xs 1).2.1 (ag xs 1).2.2 hc5.1 hc5.2 hk a len cap c hc w (HA0 _) (HA1 _)
  rw [tM_out h3 h4, tB_out (by omega)]
  exact st_none op (ag xs 0).1 (ag xs 0).2.1 (ag xs 0).2.2 (ag xs 1).1 (ag xs 1).2.1 (ag xs 1).2.2 (by omega) a len cap c hc w (HA0 _) (HA1 _)
end Go.Proofs.YtjnddfpieogpiaaGreatDoor
