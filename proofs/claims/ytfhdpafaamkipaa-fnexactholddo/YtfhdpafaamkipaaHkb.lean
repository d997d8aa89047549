/- Stores as arguments: their size, compared. -/
import Derived.Test.YtfhdpafaamkipaaHka
namespace Go.Proofs.Ytfhdpafaamkipaa
open Go.RowKit
set_option linter.unusedVariables false
set_option linter.unusedSimpArgs false

def szL (k : Int) (n : Nat) : Int := if k - n < 0 then -1 else k - n
set_option maxHeartbeats 1000000 in
theorem sz_bytes (a : Option Addr) (n c : Nat) (k : Int) (w : World) (hk : 0 ≤ k ∧ k ≤ 1048576) (hn : n ≤ 9223372036854775807) :
    Calls Try.prog 69 #[.slice a n c, .int .i64 k] w fun e w' => e = .returned (.int .i64 (szL k n)) ∧ Below w.heap.size w w' := by
  unfold szL
  by_cases h : k - n < 0
  · rw [if_pos h]
    go_enter Try.func69, Try.ntmps69
    go_wp2
    go_ret
    exact ⟨rfl, Below.refl _ _⟩
  · rw [if_neg h]
    go_enter Try.func69, Try.ntmps69
    go_wp2
    go_ret
    exact ⟨rfl, Below.refl _ _⟩
set_option maxHeartbeats 1000000 in
theorem sz_slot (m t : Nat) (a : Option Addr) (n c : Nat) (k : Int) (w : World) (hk : 0 ≤ k ∧ k ≤ 1048576) (hn : n ≤ 9223372036854775807) :
    Calls Try.prog 56 #[.agg #[.int .u8 m, .int .u8 t, .slice a n c], .int .i64 k] w fun e w' => e = .returned (.int .i64 (szL k n)) ∧ Below w.heap.size w w' := by
  have HB : Hid (∀ W, Calls Try.prog 69 #[.slice a n c, .int .i64 k] W fun e w' => e = .returned (.int .i64 (szL k n)) ∧ Below W.heap.size W w') := fun W => sz_bytes a n c k W hk hn
  have b0 : Below w.heap.size w (w.alloc (.cells #[.int .u8 m, .int .u8 t, .slice a n c] 43)) := (Below.refl _ _).alloc (Nat.le_refl _) _
  obtain ⟨S, HS⟩ : ∃ S, Hid (S = szL k n) := ⟨_, rfl⟩
  have hS : S < 0 → S = -1 := fun h => by rw [HS.out] at h ⊢; unfold szL at h ⊢; split at h <;> split <;> omega
  rw [← HS.out] at HB ⊢
  clear HS
  go_enter Try.func56, Try.ntmps56
  go_wp2_with fail
  refine (HB.out _).mono ?_
  rintro e w1 ⟨rfl, g1⟩
  have b1 : Hid (Below w.heap.size w w1) := b0.trans (g1.mono b0.size)
  clear g1 HB b0
  by_cases h : S < 0
  · have e := hS h
    subst e
    clear hS h
    go_wp2
    go_ret
    exact ⟨rfl, b1.out⟩
  · clear hS
    go_wp2
    go_ret
    exact ⟨rfl, b1.out⟩
set_option maxHeartbeats 1000000 in
theorem eq_slot (m t : Nat) (a1 a2 : Option Addr) (n c1 c2 : Nat) (f : Nat → Nat) (w : World) (hn : n ≤ 1048576) (h1 : Bt w a1 n f) (h2 : Bt w a2 n f) :
    Calls Try.prog 59 #[.agg #[.int .u8 m, .int .u8 t, .slice a1 n c1], .agg #[.int .u8 m, .int .u8 t, .slice a2 n c2]] w fun e w' => e = .returned (.bool true) ∧ Below w.heap.size w w' := by
  have b0 : Below w.heap.size w ((w.alloc (.cells #[.int .u8 m, .int .u8 t, .slice a1 n c1] 24)).alloc (.cells #[.int .u8 m, .int .u8 t, .slice a2 n c2] 24)) := ((Below.refl _ _).alloc (Nat.le_refl _) _).alloc (by simp) _
  have HE : Hid (Calls Try.prog 35 #[.slice a1 n c1, .slice a2 n c2] ((w.alloc (.cells #[.int .u8 m, .int .u8 t, .slice a1 n c1] 24)).alloc (.cells #[.int .u8 m, .int .u8 t, .slice a2 n c2] 24)) fun e w' => e = .returned (.bool true) ∧ Below ((w.alloc (.cells #[.int .u8 m, .int .u8 t, .slice a1 n c1] 24)).alloc (.cells #[.int .u8 m, .int .u8 t, .slice a2 n c2] 24)).heap.size ((w.alloc (.cells #[.int .u8 m, .int .u8 t, .slice a1 n c1] 24)).alloc (.cells #[.int .u8 m, .int .u8 t, .slice a2 n c2] 24)) w') := eq_bytes a1 a2 n c1 c2 f _ (h1.later b0 (Nat.le_refl _)) (h2.later b0 (Nat.le_refl _)) hn
  have hb0 : Hid (Below w.heap.size w ((w.alloc (.cells #[.int .u8 m, .int .u8 t, .slice a1 n c1] 24)).alloc (.cells #[.int .u8 m, .int .u8 t, .slice a2 n c2] 24))) := b0
  clear h1 h2 b0
  go_enter Try.func59, Try.ntmps59
  go_wp2_with fail
  refine HE.out.mono ?_
  rintro e w1 ⟨rfl, g1⟩
  have b1 : Hid (Below w.heap.size w w1) := hb0.out.trans (g1.mono hb0.out.size)
  clear g1 HE
  go_wp2
  go_ret
  exact ⟨rfl, b1.out⟩
end Go.Proofs.Ytfhdpafaamkipaa
