/- Two real numbers held against each other by laws.wrSame. -/
import Derived.Test.YtjnddfpieogpiaaDoorK
import Derived.Test.YtjnddfpieogpiaaDoorFmF
namespace Go.Proofs.YtjnddfpieogpiaaDoor
open Go.RowKit
set_option linter.unusedVariables false

/-- One real number. -/
def Ws (x y : Nat) : Prop := (Fm.isN x ∧ Fm.isN y) ∨ (¬ Fm.isN x ∧ ¬ Fm.isN y ∧ Fm.sv x = Fm.sv y ∧ (Fm.sv x ≠ 0 ∨ Fm.sg x = Fm.sg y))
instance (x y : Nat) : Decidable (Ws x y) := inferInstanceAs (Decidable (_ ∨ _))

theorem inf_gt (s : Bool) : (Fm.F.order (Ieee.double.word s Fm.infR) 0 == some .gt) = !s := by
  cases s <;> decide +kernel

set_option maxHeartbeats 2000000 in
theorem ws_r (x y : Nat) (w : World) :
    Calls Tryd.prog 11 #[.float .f64 x, .float .f64 y] w fun e w' => e = .returned (.bool (decide (Ws x y))) ∧ w' = w := by
  have e1 := Fm.self_ne x
  have e2 := Fm.self_ne y
  by_cases hx : Fm.isN x
  · rw [decide_eq_true hx] at e1
    by_cases hy : Fm.isN y
    · rw [decide_eq_true hy] at e2
      have hv : decide (Ws x y) = true := decide_eq_true (.inl ⟨hx, hy⟩)
      rw [hv]
      clear hv hx hy
      go_enter Tryd.func11, Tryd.ntmps11
      go_wp2
      go_ret
      exact ⟨rfl, rfl⟩
    · rw [decide_eq_false hy] at e2
      have hv : decide (Ws x y) = false := decide_eq_false (fun h => by
        rcases h with h | h
        · exact hy h.2
        · exact h.1 hx)
      rw [hv]
      clear hv hx hy
      go_enter Tryd.func11, Tryd.ntmps11
      go_wp2
      go_ret
      exact ⟨rfl, rfl⟩
  · rw [decide_eq_false hx] at e1
    by_cases hy : Fm.isN y
    · rw [decide_eq_true hy] at e2
      have hv : decide (Ws x y) = false := decide_eq_false (fun h => by
        rcases h with h | h
        · exact hx h.1
        · exact h.2.1 hy)
      rw [hv]
      clear hv hx hy
      go_enter Tryd.func11, Tryd.ntmps11
      go_wp2
      go_ret
      exact ⟨rfl, rfl⟩
    · rw [decide_eq_false hy] at e2
      have e3 := Fm.eq_b hx hy
      have e4 := Fm.ne_b hx notN0
      rw [sv0] at e4
      by_cases hs : Fm.sv x = Fm.sv y
      · rw [decide_eq_true hs] at e3
        by_cases h0 : Fm.sv x = 0
        · rw [decide_eq_false (by simp [h0])] at e4
          have q1 := quo_zero (sv_zero h0)
          have q2 := quo_zero (sv_zero (hs.symm.trans h0))
          have g1 := inf_gt (Fm.sg x)
          have g2 := inf_gt (Fm.sg y)
          by_cases hg : Fm.sg x = Fm.sg y
          · have hv : decide (Ws x y) = true := decide_eq_true (.inr ⟨hx, hy, hs, .inr hg⟩)
            rw [hv]
            rw [hg] at q1 g1
            generalize Ieee.double.word (Fm.sg y) Fm.infR = a at q1 q2 g1 g2
            generalize (!Fm.sg y) = b at g1 g2
            clear hv hx hy hs h0 hg
            go_enter Tryd.func11, Tryd.ntmps11
            go_wp2
            go_ret
            exact ⟨rfl, rfl⟩
          · have hv : decide (Ws x y) = false := decide_eq_false (fun h => by
              rcases h with h | h
              · exact hx h.1
              · rcases h.2.2.2 with h | h
                · exact h h0
                · exact hg h)
            rw [hv]
            have hg2 : (!Fm.sg y) = !(!Fm.sg x) := by
              cases hA : Fm.sg x <;> cases hB : Fm.sg y <;> rw [hA, hB] at hg <;> first | rfl | (exact absurd rfl hg)
            rw [hg2] at g2
            generalize Ieee.double.word (Fm.sg x) Fm.infR = a at q1 g1
            generalize Ieee.double.word (Fm.sg y) Fm.infR = c at q2 g2
            generalize (!Fm.sg x) = b at g1 g2
            clear hv hx hy hs h0 hg hg2
            cases b
            · go_enter Tryd.func11, Tryd.ntmps11
              go_wp2
              go_ret
              exact ⟨rfl, rfl⟩
            · go_enter Tryd.func11, Tryd.ntmps11
              go_wp2
              go_ret
              exact ⟨rfl, rfl⟩
        · rw [decide_eq_true h0] at e4
          have hv : decide (Ws x y) = true := decide_eq_true (.inr ⟨hx, hy, hs, .inl h0⟩)
          rw [hv]
          clear hv hx hy hs h0
          go_enter Tryd.func11, Tryd.ntmps11
          go_wp2
          go_ret
          exact ⟨rfl, rfl⟩
      · rw [decide_eq_false hs] at e3
        have hv : decide (Ws x y) = false := decide_eq_false (fun h => by
          rcases h with h | h
          · exact hx h.1
          · exact hs h.2.2.1)
        rw [hv]
        clear hv hx hy hs e4
        go_enter Tryd.func11, Tryd.ntmps11
        go_wp2
        go_ret
        exact ⟨rfl, rfl⟩

theorem ws_of_same {x y : Nat} (h : Same x y) : Ws x y := by
  rcases h with rfl | h
  · by_cases hx : Fm.isN x
    · exact .inl ⟨hx, hx⟩
    · exact .inr ⟨hx, hx, rfl, .inr rfl⟩
  · exact .inl h
end Go.Proofs.YtjnddfpieogpiaaDoor
