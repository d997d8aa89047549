/- Walks of DevOk (the program's and the specification's), of devDecOk and of toDevArg. -/
import Derived.Test.YtcihplachlokiaaDoorDt
import Derived.Deep.RegionWith
import Derived.WalkSpells
namespace Go.Proofs.YtcihplachlokiaaDoor
open Go.RowKit
set_option linter.unusedVariables false

def okD (n p : Int) : Bool := decide (-999999999 ≤ n ∧ n ≤ 999999999 ∧ 1 ≤ p ∧ p ≤ 6 ∧ (p = 1 ∨ n.tmod 10 ≠ 0))
/-- An operand is ok. -/
def okA (k n p : Int) : Bool :=
  if k = 12 then okD n p else if k = 11 then decide (-32768 ≤ n ∧ n ≤ 32767 ∧ p = 0) else if k = 13 then decide (0 ≤ n ∧ n ≤ 3 ∧ p = 0) else decide (0 ≤ n ∧ n < kS k ∧ p = 0)

theorem ret_bool {a b : Bool} (h : a = b) : Ending.returned (.bool a) = .returned (.bool b) := by rw [h]

set_option maxHeartbeats 1000000 in
theorem dec_ok (k n p : Int) (w : World) :
    Calls Tryd.prog 118 #[.agg #[.int .i64 k, .int .i64 n, .int .i64 p]] w fun e w' => e = .returned (.bool (okD n p)) ∧ Below w.heap.size w w' := by
  by_cases h1 : n < -999999999
  · go_enter Tryd.func118, Tryd.ntmps118
    go_wp2
    go_ret
    exact ⟨ret_bool (by simp [okD]; omega), by go_grown⟩
  by_cases h2 : 999999999 < n
  · go_enter Tryd.func118, Tryd.ntmps118
    go_wp2
    go_ret
    exact ⟨ret_bool (by simp [okD]; omega), by go_grown⟩
  by_cases h3 : p < 1
  · go_enter Tryd.func118, Tryd.ntmps118
    go_wp2
    go_ret
    exact ⟨ret_bool (by simp [okD]; omega), by go_grown⟩
  by_cases h4 : 6 < p
  · go_enter Tryd.func118, Tryd.ntmps118
    go_wp2
    go_ret
    exact ⟨ret_bool (by simp [okD]; omega), by go_grown⟩
  by_cases h5 : p = 1
  · subst h5
    go_enter Tryd.func118, Tryd.ntmps118
    go_wp2
    go_ret
    exact ⟨ret_bool (by simp [okD]; omega), by go_grown⟩
  · have h6 : (p == 1) = false := by simp [h5]
    go_enter Tryd.func118, Tryd.ntmps118
    go_wp2
    go_ret
    have e : okD n p = decide (¬ n.tmod 10 = 0) := by
      have a1 : -999999999 ≤ n := by omega
      have a2 : n ≤ 999999999 := by omega
      have a3 : 1 ≤ p := by omega
      have a4 : p ≤ 6 := by omega
      simp [okD, a1, a2, a3, a4, h5]
    rw [e]
    exact ⟨ret_bool (by simp; rfl), by go_grown⟩

theorem okA_dec (n p : Int) : okA 12 n p = okD n p := by simp [okA]

set_option maxHeartbeats 1000000 in
theorem impl_ok_dec (n p : Int) (w : World) :
    Calls Tryd.prog 115 #[.agg #[.int .i64 12, .int .i64 n, .int .i64 p]] w fun e w' => e = .returned (.bool (okA 12 n p)) ∧ Below w.heap.size w w' := by
  rw [okA_dec]
  go_enter Tryd.func115, Tryd.ntmps115
  go_wp2_with fail
  refine (dec_ok 12 n p _).mono ?_
  rintro e w1 ⟨rfl, g1⟩
  have b1 : Below w.heap.size w w1 := ((Below.refl _ _).alloc (Nat.le_refl _) _).trans (g1.mono (by simp))
  clear g1
  go_wp2
  go_ret
  exact ⟨rfl, b1⟩

/-- The last step of the program's DevOk. -/
theorem okA_of {k n p lo hi : Int} (h : okA k n p = decide (lo ≤ n ∧ n < hi ∧ p = 0)) (b : Bool) (hb : b = true ↔ (lo ≤ n ∧ n < hi ∧ p = 0)) : b = okA k n p := by
  rw [h, Bool.eq_iff_iff, hb]
  simp

set_option maxHeartbeats 1000000 in
theorem impl_ok_int (n p : Int) (w : World) (hT : KT w) :
    Calls Tryd.prog 115 #[.agg #[.int .i64 11, .int .i64 n, .int .i64 p]] w fun e w' => e = .returned (.bool (okA 11 n p)) ∧ Below w.heap.size w w' := by
  have ho : okA 11 n p = decide (-32768 ≤ n ∧ n ≤ 32767 ∧ p = 0) := by simp [okA]
  rw [ho]
  clear ho
  go_enter Tryd.func115, Tryd.ntmps115
  go_wp2_with fail
  refine (impl_size 11 _ (hT.alloc _)).mono ?_
  rintro e w1 ⟨rfl, g1⟩
  have c0 : w1.cell? ⟨w.heap.size, 0, none⟩ = some (.int .i64 11) := cell_later g1 (by simp)
  have c1 : w1.cell? ⟨w.heap.size, 1, none⟩ = some (.int .i64 n) := cell_later g1 (by simp)
  have c2 : w1.cell? ⟨w.heap.size, 2, none⟩ = some (.int .i64 p) := cell_later g1 (by simp)
  have b1 : Below w.heap.size w w1 := ((Below.refl _ _).alloc (Nat.le_refl _) _).trans (g1.mono (by simp))
  clear g1 hT
  by_cases h1 : -32768 ≤ n
  · by_cases h2 : n ≤ 32767
    · have h2' : n < 32768 := by omega
      go_wp2
      go_ret
      exact ⟨ret_bool (by simp [h1, h2]; rfl), b1⟩
    · have h2' : ¬ n < 32768 := by omega
      go_wp2
      go_ret
      exact ⟨ret_bool (by simp; omega), b1⟩
  · go_wp2
    go_ret
    exact ⟨ret_bool (by simp; omega), b1⟩

set_option maxHeartbeats 1000000 in
theorem impl_ok_word (n p : Int) (w : World) (hT : KT w) :
    Calls Tryd.prog 115 #[.agg #[.int .i64 13, .int .i64 n, .int .i64 p]] w fun e w' => e = .returned (.bool (okA 13 n p)) ∧ Below w.heap.size w w' := by
  have ho : okA 13 n p = decide (0 ≤ n ∧ n ≤ 3 ∧ p = 0) := by simp [okA]
  rw [ho]
  clear ho
  go_enter Tryd.func115, Tryd.ntmps115
  go_wp2_with fail
  refine (impl_size 13 _ (hT.alloc _)).mono ?_
  rintro e w1 ⟨rfl, g1⟩
  have c0 : w1.cell? ⟨w.heap.size, 0, none⟩ = some (.int .i64 13) := cell_later g1 (by simp)
  have c1 : w1.cell? ⟨w.heap.size, 1, none⟩ = some (.int .i64 n) := cell_later g1 (by simp)
  have c2 : w1.cell? ⟨w.heap.size, 2, none⟩ = some (.int .i64 p) := cell_later g1 (by simp)
  have b1 : Below w.heap.size w w1 := ((Below.refl _ _).alloc (Nat.le_refl _) _).trans (g1.mono (by simp))
  clear g1 hT
  by_cases h1 : 0 ≤ n
  · by_cases h2 : n ≤ 3
    · have h2' : n < 4 := by omega
      go_wp2
      go_ret
      exact ⟨ret_bool (by simp [h1, h2]; rfl), b1⟩
    · have h2' : ¬ n < 4 := by omega
      go_wp2
      go_ret
      exact ⟨ret_bool (by simp; omega), b1⟩
  · go_wp2
    go_ret
    exact ⟨ret_bool (by simp; omega), b1⟩

set_option maxHeartbeats 1000000 in
theorem impl_ok_dev (k n p : Int) (w : World) (hT : KT w) (k1 : k ≠ 11) (k2 : k ≠ 12) (k3 : k ≠ 13) :
    Calls Tryd.prog 115 #[.agg #[.int .i64 k, .int .i64 n, .int .i64 p]] w fun e w' => e = .returned (.bool (okA k n p)) ∧ Below w.heap.size w w' := by
  have ho : okA k n p = decide (0 ≤ n ∧ n < kS k ∧ p = 0) := by simp [okA, k1, k2, k3]
  rw [ho]
  clear ho
  have hs := impl_size k
  obtain ⟨z, HZ⟩ : ∃ z, Hid (z = kS k) := ⟨_, rfl⟩
  rw [← HZ.out] at hs ⊢
  clear HZ
  have e1 : (k == 11) = false := by simp [k1]
  have e2 : (k == 12) = false := by simp [k2]
  have e3 : (k == 13) = false := by simp [k3]
  go_enter Tryd.func115, Tryd.ntmps115
  go_wp2_with fail
  refine (hs _ (hT.alloc _)).mono ?_
  rintro e w1 ⟨rfl, g1⟩
  have c0 : w1.cell? ⟨w.heap.size, 0, none⟩ = some (.int .i64 k) := cell_later g1 (by simp)
  have c1 : w1.cell? ⟨w.heap.size, 1, none⟩ = some (.int .i64 n) := cell_later g1 (by simp)
  have c2 : w1.cell? ⟨w.heap.size, 2, none⟩ = some (.int .i64 p) := cell_later g1 (by simp)
  have b1 : Below w.heap.size w w1 := ((Below.refl _ _).alloc (Nat.le_refl _) _).trans (g1.mono (by simp))
  clear g1 hT hs
  by_cases h1 : 0 ≤ n
  · by_cases h2 : n < z
    · go_wp2
      go_ret
      exact ⟨ret_bool (by simp [h1, h2]; rfl), b1⟩
    · go_wp2
      go_ret
      exact ⟨ret_bool (by simp; omega), b1⟩
  · go_wp2
    go_ret
    exact ⟨ret_bool (by simp; omega), b1⟩

theorem impl_ok (k n p : Int) (w : World) (hT : KT w) :
    Calls Tryd.prog 115 #[.agg #[.int .i64 k, .int .i64 n, .int .i64 p]] w fun e w' => e = .returned (.bool (okA k n p)) ∧ Below w.heap.size w w' := by
  by_cases k2 : k = 12
  · subst k2; exact impl_ok_dec n p w
  by_cases k1 : k = 11
  · subst k1; exact impl_ok_int n p w hT
  by_cases k3 : k = 13
  · subst k3; exact impl_ok_word n p w hT
  exact impl_ok_dev k n p w hT k1 k2 k3
end Go.Proofs.YtcihplachlokiaaDoor
