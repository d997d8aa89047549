/- The heights of the two stacks behind an instruction: the program's behind. -/
import Derived.Test.YtcmmiamnbefefaaDoorZa
namespace Go.Proofs.YtcmmiamnbefefaaDoor
open Go.RowKit
set_option linter.unusedVariables false

/-- The heights behind an instruction of a Code. -/
def bhB (b c : Int) : Int := if c = 1 then b + 1 else if c = 4 ∨ c = 5 ∨ c = 11 then b - 1 else b
def bhF (f c : Int) : Int := if c = 7 then f + 1 else if c = 9 then f - 1 else f
theorem bhB_in (b c : Int) : b - 1 ≤ bhB b c ∧ bhB b c ≤ b + 1 := by
  unfold bhB
  split
  · omega
  · split <;> omega
theorem bhF_in (f c : Int) : f - 1 ≤ bhF f c ∧ bhF f c ≤ f + 1 := by
  unfold bhF
  split
  · omega
  · split <;> omega

set_option maxRecDepth 10000 in
set_option maxHeartbeats 2000000 in
theorem behind_i (b f c : Int) (w : World) (hb0 : -2000 ≤ b) (hb1 : b ≤ 2000) (hf0 : -2000 ≤ f) (hf1 : f ≤ 2000) :
    Calls Tryd.prog 44 #[.agg #[.int .i64 b, .int .i64 f], .int .i64 c] w fun e w' => e = .returned (.agg #[.int .i64 (bhB b c), .int .i64 (bhF f c)]) ∧ Below w.heap.size w w' := by
  by_cases h1 : c = 1
  · subst h1
    rw [show bhB b 1 = b + 1 from rfl, show bhF f 1 = f from rfl]
    go_enter Tryd.func44, Tryd.ntmps44
    go_wp2
    exact bodyPost_ret (v := .agg #[.int .i64 (b + 1), .int .i64 f]) (by simp [results, Tryd.results44, go_sem]) rfl ⟨rfl, ((Below.refl _ _).alloc (Nat.le_refl _) _).alloc (by simp) _⟩
  by_cases h4 : c = 4
  · subst h4
    rw [show bhB b 4 = b - 1 from rfl, show bhF f 4 = f from rfl]
    go_enter Tryd.func44, Tryd.ntmps44
    go_wp2
    exact bodyPost_ret (v := .agg #[.int .i64 (b - 1), .int .i64 f]) (by simp [results, Tryd.results44, go_sem]) rfl ⟨rfl, ((Below.refl _ _).alloc (Nat.le_refl _) _).alloc (by simp) _⟩
  by_cases h5 : c = 5
  · subst h5
    rw [show bhB b 5 = b - 1 from rfl, show bhF f 5 = f from rfl]
    go_enter Tryd.func44, Tryd.ntmps44
    go_wp2
    exact bodyPost_ret (v := .agg #[.int .i64 (b - 1), .int .i64 f]) (by simp [results, Tryd.results44, go_sem]) rfl ⟨rfl, ((Below.refl _ _).alloc (Nat.le_refl _) _).alloc (by simp) _⟩
  by_cases h11 : c = 11
  · subst h11
    rw [show bhB b 11 = b - 1 from rfl, show bhF f 11 = f from rfl]
    go_enter Tryd.func44, Tryd.ntmps44
    go_wp2
    exact bodyPost_ret (v := .agg #[.int .i64 (b - 1), .int .i64 f]) (by simp [results, Tryd.results44, go_sem]) rfl ⟨rfl, ((Below.refl _ _).alloc (Nat.le_refl _) _).alloc (by simp) _⟩
  by_cases h7 : c = 7
  · subst h7
    rw [show bhB b 7 = b from rfl, show bhF f 7 = f + 1 from rfl]
    go_enter Tryd.func44, Tryd.ntmps44
    go_wp2
    exact bodyPost_ret (v := .agg #[.int .i64 b, .int .i64 (f + 1)]) (by simp [results, Tryd.results44, go_sem]) rfl ⟨rfl, ((Below.refl _ _).alloc (Nat.le_refl _) _).alloc (by simp) _⟩
  by_cases h9 : c = 9
  · subst h9
    rw [show bhB b 9 = b from rfl, show bhF f 9 = f - 1 from rfl]
    go_enter Tryd.func44, Tryd.ntmps44
    go_wp2
    exact bodyPost_ret (v := .agg #[.int .i64 b, .int .i64 (f - 1)]) (by simp [results, Tryd.results44, go_sem]) rfl ⟨rfl, ((Below.refl _ _).alloc (Nat.le_refl _) _).alloc (by simp) _⟩
  rw [show bhB b c = b by unfold bhB; rw [if_neg h1, if_neg (by omega)], show bhF f c = f by unfold bhF; rw [if_neg h7, if_neg h9]]
  go_enter Tryd.func44, Tryd.ntmps44
  go_wp2
  exact bodyPost_ret (v := .agg #[.int .i64 b, .int .i64 f]) (by simp [results, Tryd.results44, go_sem]) rfl ⟨rfl, ((Below.refl _ _).alloc (Nat.le_refl _) _).alloc (by simp) _⟩
end Go.Proofs.YtcmmiamnbefefaaDoor
