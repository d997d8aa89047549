/- Walks of DevIsBit, DevIsWhole and DevIsReal, and the laws FnExactDevOk, FnExactDevIsBit, FnExactDevIsWhole, FnExactDevIsReal. -/
import Derived.Test.YtcihplachlokiaaDoorDe
namespace Go.Proofs.YtcihplachlokiaaDoor
open Go.RowKit
set_option linter.unusedVariables false

theorem ok_cases {k n p : Int} (h : okA k n p = true) : k = 1 ∨ k = 2 ∨ k = 3 ∨ k = 4 ∨ k = 5 ∨ k = 6 ∨ k = 7 ∨ k = 8 ∨ k = 9 ∨ k = 10 ∨ k = 11 ∨ k = 12 ∨ k = 13 := by
  by_cases h0 : k ≤ 0 ∨ 14 ≤ k
  · have e : okA k n p = decide (0 ≤ n ∧ n < kS k ∧ p = 0) := by
      unfold okA
      rw [if_neg (by omega), if_neg (by omega), if_neg (by omega)]
    rw [e, kS_out k (by omega)] at h
    simp at h
    omega
  · omega

set_option maxHeartbeats 1000000 in
theorem impl_isbit (k n p : Int) (w : World) (hT : KT w) :
    Calls Tryd.prog 102 #[.agg #[.int .i64 k, .int .i64 n, .int .i64 p]] w fun e w' => e = .returned (.bool (okA k n p && kB k)) ∧ Below w.heap.size w w' := by
  have hk := fun W (h : KT W) => impl_ok k n p W h
  have hd := fun W (h : KT W) => kind_of k W h
  have HK : Hid (∀ W, KT W → Calls Tryd.prog 115 #[.agg #[.int .i64 k, .int .i64 n, .int .i64 p]] W fun e w' => e = .returned (.bool (okA k n p)) ∧ Below W.heap.size W w') := hk
  have HD : Hid (∀ W, KT W → Calls Tryd.prog 116 #[.int .i64 k] W fun e w' => e = .returned (.agg #[.string (kL k), .int .i64 (kS k), .bool (kB k), .bool (kW k), .bool (kR k)]) ∧ Below W.heap.size W w') := hd
  clear hk hd
  cases ho : okA k n p with
  | false =>
    rw [ho] at HK
    go_enter Tryd.func102, Tryd.ntmps102
    go_wp2_with fail
    refine (HK.out _ (hT.alloc _)).mono ?_
    rintro e w1 ⟨rfl, g1⟩
    have b1 : Below w.heap.size w w1 := ((Below.refl _ _).alloc (Nat.le_refl _) _).trans (g1.mono (by simp))
    clear g1
    go_wp2
    go_ret
    exact ⟨rfl, b1⟩
  | true =>
    rw [ho] at HK
    go_enter Tryd.func102, Tryd.ntmps102
    go_wp2_with fail
    refine (HK.out _ (hT.alloc _)).mono ?_
    rintro e w1 ⟨rfl, g1⟩
    have hT1 : KT w1 := (hT.alloc _).later g1
    have c0 : w1.cell? ⟨w.heap.size, 0, none⟩ = some (.int .i64 k) := cell_later g1 (by simp)
    have b1 : Below w.heap.size w w1 := ((Below.refl _ _).alloc (Nat.le_refl _) _).trans (g1.mono (by simp))
    clear g1
    go_wp2_with fail
    refine (HD.out _ hT1).mono ?_
    rintro e w2 ⟨rfl, g2⟩
    have b2 : Below w.heap.size w w2 := b1.trans (g2.mono b1.size)
    clear g2 b1
    go_wp2
    go_ret
    exact ⟨by simp, b2⟩

set_option maxHeartbeats 1000000 in
theorem impl_iswhole (k n p : Int) (w : World) (hT : KT w) :
    Calls Tryd.prog 104 #[.agg #[.int .i64 k, .int .i64 n, .int .i64 p]] w fun e w' => e = .returned (.bool (okA k n p && kW k)) ∧ Below w.heap.size w w' := by
  have hk := fun W (h : KT W) => impl_ok k n p W h
  have hd := fun W (h : KT W) => kind_of k W h
  have HK : Hid (∀ W, KT W → Calls Tryd.prog 115 #[.agg #[.int .i64 k, .int .i64 n, .int .i64 p]] W fun e w' => e = .returned (.bool (okA k n p)) ∧ Below W.heap.size W w') := hk
  have HD : Hid (∀ W, KT W → Calls Tryd.prog 116 #[.int .i64 k] W fun e w' => e = .returned (.agg #[.string (kL k), .int .i64 (kS k), .bool (kB k), .bool (kW k), .bool (kR k)]) ∧ Below W.heap.size W w') := hd
  clear hk hd
  cases ho : okA k n p with
  | false =>
    rw [ho] at HK
    go_enter Tryd.func104, Tryd.ntmps104
    go_wp2_with fail
    refine (HK.out _ (hT.alloc _)).mono ?_
    rintro e w1 ⟨rfl, g1⟩
    have b1 : Below w.heap.size w w1 := ((Below.refl _ _).alloc (Nat.le_refl _) _).trans (g1.mono (by simp))
    clear g1
    go_wp2
    go_ret
    exact ⟨rfl, b1⟩
  | true =>
    rw [ho] at HK
    go_enter Tryd.func104, Tryd.ntmps104
    go_wp2_with fail
    refine (HK.out _ (hT.alloc _)).mono ?_
    rintro e w1 ⟨rfl, g1⟩
    have hT1 : KT w1 := (hT.alloc _).later g1
    have c0 : w1.cell? ⟨w.heap.size, 0, none⟩ = some (.int .i64 k) := cell_later g1 (by simp)
    have b1 : Below w.heap.size w w1 := ((Below.refl _ _).alloc (Nat.le_refl _) _).trans (g1.mono (by simp))
    clear g1
    go_wp2_with fail
    refine (HD.out _ hT1).mono ?_
    rintro e w2 ⟨rfl, g2⟩
    have b2 : Below w.heap.size w w2 := b1.trans (g2.mono b1.size)
    clear g2 b1
    go_wp2
    go_ret
    exact ⟨by simp, b2⟩

set_option maxHeartbeats 1000000 in
theorem impl_isreal (k n p : Int) (w : World) (hT : KT w) :
    Calls Tryd.prog 105 #[.agg #[.int .i64 k, .int .i64 n, .int .i64 p]] w fun e w' => e = .returned (.bool (okA k n p && kR k)) ∧ Below w.heap.size w w' := by
  have hk := fun W (h : KT W) => impl_ok k n p W h
  have hd := fun W (h : KT W) => kind_of k W h
  have HK : Hid (∀ W, KT W → Calls Tryd.prog 115 #[.agg #[.int .i64 k, .int .i64 n, .int .i64 p]] W fun e w' => e = .returned (.bool (okA k n p)) ∧ Below W.heap.size W w') := hk
  have HD : Hid (∀ W, KT W → Calls Tryd.prog 116 #[.int .i64 k] W fun e w' => e = .returned (.agg #[.string (kL k), .int .i64 (kS k), .bool (kB k), .bool (kW k), .bool (kR k)]) ∧ Below W.heap.size W w') := hd
  clear hk hd
  cases ho : okA k n p with
  | false =>
    rw [ho] at HK
    go_enter Tryd.func105, Tryd.ntmps105
    go_wp2_with fail
    refine (HK.out _ (hT.alloc _)).mono ?_
    rintro e w1 ⟨rfl, g1⟩
    have b1 : Below w.heap.size w w1 := ((Below.refl _ _).alloc (Nat.le_refl _) _).trans (g1.mono (by simp))
    clear g1
    go_wp2
    go_ret
    exact ⟨rfl, b1⟩
  | true =>
    rw [ho] at HK
    go_enter Tryd.func105, Tryd.ntmps105
    go_wp2_with fail
    refine (HK.out _ (hT.alloc _)).mono ?_
    rintro e w1 ⟨rfl, g1⟩
    have hT1 : KT w1 := (hT.alloc _).later g1
    have c0 : w1.cell? ⟨w.heap.size, 0, none⟩ = some (.int .i64 k) := cell_later g1 (by simp)
    have b1 : Below w.heap.size w w1 := ((Below.refl _ _).alloc (Nat.le_refl _) _).trans (g1.mono (by simp))
    clear g1
    go_wp2_with fail
    refine (HD.out _ hT1).mono ?_
    rintro e w2 ⟨rfl, g2⟩
    have b2 : Below w.heap.size w w2 := b1.trans (g2.mono b1.size)
    clear g2 b1
    go_wp2
    go_ret
    exact ⟨by simp, b2⟩

end Go.Proofs.YtcihplachlokiaaDoor
