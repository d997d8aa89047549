/- Walks of DevIsBit, DevIsWhole and DevIsReal, and the laws FnExactDevOk, FnExactDevIsBit, FnExactDevIsWhole, FnExactDevIsReal. -/
import Derived.Test.YtkaoajihpclpiaaDoorE
namespace Go.Proofs.YtkaoajihpclpiaaDoor
open Go.RowKit
set_option linter.unusedVariables false

theorem ok_cases {k n p : Int} (h : okA k n p = true) : k = 1 ∨ k = 2 ∨ k = 3 ∨ k = 4 ∨ k = 5 ∨ k = 6 ∨ k = 7 ∨ k = 8 ∨ k = 9 ∨ k = 10 ∨ k = 11 ∨ k = 12 ∨ k = 13 := by
  by_cases h0 : k ≤ 0 ∨ 14 ≤ k
  · have e : okA k n p = decide (0 ≤ n ∧ n < kS k ∧ p = 0) := by
      unfold okA
      rw [if_neg (by omega), if_neg (by omega), if_neg (by omega)]
    rw [e, kS_out k (by omega)] at h
    simp at h
    omega
  · omega

set_option maxHeartbeats 1000000 in
theorem impl_isbit (k n p : Int) (w : World) (hT : KT w) :
    Calls Tryd.prog 21 #[.agg #[.int .i64 k, .int .i64 n, .int .i64 p]] w fun e w' => e = .returned (.bool (okA k n p && kB k)) ∧ Below w.heap.size w w' := by
  have hk := fun W (h : KT W) => impl_ok k n p W h
  have hd := fun W (h : KT W) => kind_of k W h
  have HK : Hid (∀ W, KT W → Calls Tryd.prog 16 #[.agg #[.int .i64 k, .int .i64 n, .int .i64 p]] W fun e w' => e = .returned (.bool (okA k n p)) ∧ Below W.heap.size W w') := hk
  have HD : Hid (∀ W, KT W → Calls Tryd.prog 47 #[.int .i64 k] W fun e w' => e = .returned (.agg #[.string (kL k), .int .i64 (kS k), .bool (kB k), .bool (kW k), .bool (kR k)]) ∧ Below W.heap.size W w') := hd
  clear hk hd
  cases ho : okA k n p with
  | false =>
    rw [ho] at HK
    go_enter Tryd.func21, Tryd.ntmps21
    go_wp2_with fail
    refine (HK.out _ (hT.alloc _)).mono ?_
    rintro e w1 ⟨rfl, g1⟩
    have b1 : Below w.heap.size w w1 := ((Below.refl _ _).alloc (Nat.le_refl _) _).trans (g1.mono (by simp))
    clear g1
    go_wp2
    go_ret
    exact ⟨rfl, b1⟩
  | true =>
    rw [ho] at HK
    go_enter Tryd.func21, Tryd.ntmps21
    go_wp2_with fail
    refine (HK.out _ (hT.alloc _)).mono ?_
    rintro e w1 ⟨rfl, g1⟩
    have hT1 : KT w1 := (hT.alloc _).later g1
    have c0 : w1.cell? ⟨w.heap.size, 0, none⟩ = some (.int .i64 k) := cell_later g1 (by simp)
    have b1 : Below w.heap.size w w1 := ((Below.refl _ _).alloc (Nat.le_refl _) _).trans (g1.mono (by simp))
    clear g1
    go_wp2_with fail
    refine (HD.out _ hT1).mono ?_
    rintro e w2 ⟨rfl, g2⟩
    have b2 : Below w.heap.size w w2 := b1.trans (g2.mono b1.size)
    clear g2 b1
    go_wp2
    go_ret
    exact ⟨by simp, b2⟩

set_option maxHeartbeats 4000000 in
theorem spec_isbit (k n p : Int) (w : World) :
    Calls Tryd.prog 25 #[.agg #[.int .i64 k, .int .i64 n, .int .i64 p]] w fun e w' => e = .returned (.bool (okA k n p && kB k)) ∧ Below w.heap.size w w' := by
  have HK : Hid (∀ W, Calls Tryd.prog 24 #[.agg #[.int .i64 k, .int .i64 n, .int .i64 p]] W fun e w' => e = .returned (.bool (okA k n p)) ∧ Below W.heap.size W w') := fun W => spec_ok k n p W
  cases ho : okA k n p with
  | false =>
    rw [ho] at HK
    go_enter Tryd.func25, Tryd.ntmps25
    go_wp2_with fail
    refine (HK.out _).mono ?_
    rintro e w1 ⟨rfl, g1⟩
    have b1 : Below w.heap.size w w1 := ((Below.refl _ _).alloc (Nat.le_refl _) _).trans (g1.mono (by simp))
    clear g1
    go_wp2
    go_ret
    exact ⟨rfl, b1⟩
  | true =>
    have hc := ok_cases ho
    rw [ho] at HK
    go_enter Tryd.func25, Tryd.ntmps25
    go_wp2_with fail
    refine (HK.out _).mono ?_
    rintro e w1 ⟨rfl, g1⟩
    have c0 : w1.cell? ⟨w.heap.size, 0, none⟩ = some (.int .i64 k) := cell_later g1 (by simp)
    have b1 : Below w.heap.size w w1 := ((Below.refl _ _).alloc (Nat.le_refl _) _).trans (g1.mono (by simp))
    clear g1 HK ho
    rcases hc with rfl | rfl | rfl | rfl | rfl | rfl | rfl | rfl | rfl | rfl | rfl | rfl | rfl
    all_goals
      go_wp2
      go_ret
      exact ⟨rfl, b1⟩

set_option maxHeartbeats 1000000 in
theorem impl_iswhole (k n p : Int) (w : World) (hT : KT w) :
    Calls Tryd.prog 22 #[.agg #[.int .i64 k, .int .i64 n, .int .i64 p]] w fun e w' => e = .returned (.bool (okA k n p && kW k)) ∧ Below w.heap.size w w' := by
  have hk := fun W (h : KT W) => impl_ok k n p W h
  have hd := fun W (h : KT W) => kind_of k W h
  have HK : Hid (∀ W, KT W → Calls Tryd.prog 16 #[.agg #[.int .i64 k, .int .i64 n, .int .i64 p]] W fun e w' => e = .returned (.bool (okA k n p)) ∧ Below W.heap.size W w') := hk
  have HD : Hid (∀ W, KT W → Calls Tryd.prog 47 #[.int .i64 k] W fun e w' => e = .returned (.agg #[.string (kL k), .int .i64 (kS k), .bool (kB k), .bool (kW k), .bool (kR k)]) ∧ Below W.heap.size W w') := hd
  clear hk hd
  cases ho : okA k n p with
  | false =>
    rw [ho] at HK
    go_enter Tryd.func22, Tryd.ntmps22
    go_wp2_with fail
    refine (HK.out _ (hT.alloc _)).mono ?_
    rintro e w1 ⟨rfl, g1⟩
    have b1 : Below w.heap.size w w1 := ((Below.refl _ _).alloc (Nat.le_refl _) _).trans (g1.mono (by simp))
    clear g1
    go_wp2
    go_ret
    exact ⟨rfl, b1⟩
  | true =>
    rw [ho] at HK
    go_enter Tryd.func22, Tryd.ntmps22
    go_wp2_with fail
    refine (HK.out _ (hT.alloc _)).mono ?_
    rintro e w1 ⟨rfl, g1⟩
    have hT1 : KT w1 := (hT.alloc _).later g1
    have c0 : w1.cell? ⟨w.heap.size, 0, none⟩ = some (.int .i64 k) := cell_later g1 (by simp)
    have b1 : Below w.heap.size w w1 := ((Below.refl _ _).alloc (Nat.le_refl _) _).trans (g1.mono (by simp))
    clear g1
    go_wp2_with fail
    refine (HD.out _ hT1).mono ?_
    rintro e w2 ⟨rfl, g2⟩
    have b2 : Below w.heap.size w w2 := b1.trans (g2.mono b1.size)
    clear g2 b1
    go_wp2
    go_ret
    exact ⟨by simp, b2⟩

set_option maxHeartbeats 4000000 in
theorem spec_iswhole (k n p : Int) (w : World) :
    Calls Tryd.prog 26 #[.agg #[.int .i64 k, .int .i64 n, .int .i64 p]] w fun e w' => e = .returned (.bool (okA k n p && kW k)) ∧ Below w.heap.size w w' := by
  have HK : Hid (∀ W, Calls Tryd.prog 24 #[.agg #[.int .i64 k, .int .i64 n, .int .i64 p]] W fun e w' => e = .returned (.bool (okA k n p)) ∧ Below W.heap.size W w') := fun W => spec_ok k n p W
  cases ho : okA k n p with
  | false =>
    rw [ho] at HK
    go_enter Tryd.func26, Tryd.ntmps26
    go_wp2_with fail
    refine (HK.out _).mono ?_
    rintro e w1 ⟨rfl, g1⟩
    have b1 : Below w.heap.size w w1 := ((Below.refl _ _).alloc (Nat.le_refl _) _).trans (g1.mono (by simp))
    clear g1
    go_wp2
    go_ret
    exact ⟨rfl, b1⟩
  | true =>
    have hc := ok_cases ho
    rw [ho] at HK
    go_enter Tryd.func26, Tryd.ntmps26
    go_wp2_with fail
    refine (HK.out _).mono ?_
    rintro e w1 ⟨rfl, g1⟩
    have c0 : w1.cell? ⟨w.heap.size, 0, none⟩ = some (.int .i64 k) := cell_later g1 (by simp)
    have b1 : Below w.heap.size w w1 := ((Below.refl _ _).alloc (Nat.le_refl _) _).trans (g1.mono (by simp))
    clear g1 HK ho
    rcases hc with rfl | rfl | rfl | rfl | rfl | rfl | rfl | rfl | rfl | rfl | rfl | rfl | rfl
    all_goals
      go_wp2
      go_ret
      exact ⟨rfl, b1⟩

set_option maxHeartbeats 1000000 in
theorem impl_isreal (k n p : Int) (w : World) (hT : KT w) :
    Calls Tryd.prog 23 #[.agg #[.int .i64 k, .int .i64 n, .int .i64 p]] w fun e w' => e = .returned (.bool (okA k n p && kR k)) ∧ Below w.heap.size w w' := by
  have hk := fun W (h : KT W) => impl_ok k n p W h
  have hd := fun W (h : KT W) => kind_of k W h
  have HK : Hid (∀ W, KT W → Calls Tryd.prog 16 #[.agg #[.int .i64 k, .int .i64 n, .int .i64 p]] W fun e w' => e = .returned (.bool (okA k n p)) ∧ Below W.heap.size W w') := hk
  have HD : Hid (∀ W, KT W → Calls Tryd.prog 47 #[.int .i64 k] W fun e w' => e = .returned (.agg #[.string (kL k), .int .i64 (kS k), .bool (kB k), .bool (kW k), .bool (kR k)]) ∧ Below W.heap.size W w') := hd
  clear hk hd
  cases ho : okA k n p with
  | false =>
    rw [ho] at HK
    go_enter Tryd.func23, Tryd.ntmps23
    go_wp2_with fail
    refine (HK.out _ (hT.alloc _)).mono ?_
    rintro e w1 ⟨rfl, g1⟩
    have b1 : Below w.heap.size w w1 := ((Below.refl _ _).alloc (Nat.le_refl _) _).trans (g1.mono (by simp))
    clear g1
    go_wp2
    go_ret
    exact ⟨rfl, b1⟩
  | true =>
    rw [ho] at HK
    go_enter Tryd.func23, Tryd.ntmps23
    go_wp2_with fail
    refine (HK.out _ (hT.alloc _)).mono ?_
    rintro e w1 ⟨rfl, g1⟩
    have hT1 : KT w1 := (hT.alloc _).later g1
    have c0 : w1.cell? ⟨w.heap.size, 0, none⟩ = some (.int .i64 k) := cell_later g1 (by simp)
    have b1 : Below w.heap.size w w1 := ((Below.refl _ _).alloc (Nat.le_refl _) _).trans (g1.mono (by simp))
    clear g1
    go_wp2_with fail
    refine (HD.out _ hT1).mono ?_
    rintro e w2 ⟨rfl, g2⟩
    have b2 : Below w.heap.size w w2 := b1.trans (g2.mono b1.size)
    clear g2 b1
    go_wp2
    go_ret
    exact ⟨by simp, b2⟩

set_option maxHeartbeats 4000000 in
theorem spec_isreal (k n p : Int) (w : World) :
    Calls Tryd.prog 32 #[.agg #[.int .i64 k, .int .i64 n, .int .i64 p]] w fun e w' => e = .returned (.bool (okA k n p && kR k)) ∧ Below w.heap.size w w' := by
  have HK : Hid (∀ W, Calls Tryd.prog 24 #[.agg #[.int .i64 k, .int .i64 n, .int .i64 p]] W fun e w' => e = .returned (.bool (okA k n p)) ∧ Below W.heap.size W w') := fun W => spec_ok k n p W
  cases ho : okA k n p with
  | false =>
    rw [ho] at HK
    go_enter Tryd.func32, Tryd.ntmps32
    go_wp2_with fail
    refine (HK.out _).mono ?_
    rintro e w1 ⟨rfl, g1⟩
    have b1 : Below w.heap.size w w1 := ((Below.refl _ _).alloc (Nat.le_refl _) _).trans (g1.mono (by simp))
    clear g1
    go_wp2
    go_ret
    exact ⟨rfl, b1⟩
  | true =>
    have hc := ok_cases ho
    rw [ho] at HK
    go_enter Tryd.func32, Tryd.ntmps32
    go_wp2_with fail
    refine (HK.out _).mono ?_
    rintro e w1 ⟨rfl, g1⟩
    have c0 : w1.cell? ⟨w.heap.size, 0, none⟩ = some (.int .i64 k) := cell_later g1 (by simp)
    have b1 : Below w.heap.size w w1 := ((Below.refl _ _).alloc (Nat.le_refl _) _).trans (g1.mono (by simp))
    clear g1 HK ho
    rcases hc with rfl | rfl | rfl | rfl | rfl | rfl | rfl | rfl | rfl | rfl | rfl | rfl | rfl
    all_goals
      go_wp2
      go_ret
      exact ⟨rfl, b1⟩

set_option maxHeartbeats 1000000 in
theorem law7 (k n p : Int) (B : Bool) (w : World) (hT : KT w)
    (hs : Hid (∀ W : World, Calls Tryd.prog 24 #[.agg #[.int .i64 k, .int .i64 n, .int .i64 p]] W fun e w' => e = .returned (.bool B) ∧ Below W.heap.size W w'))
    (hi : Hid (∀ W : World, KT W → Calls Tryd.prog 16 #[.agg #[.int .i64 k, .int .i64 n, .int .i64 p]] W fun e w' => e = .returned (.bool B) ∧ Below W.heap.size W w')) :
    Calls Tryd.prog 7 #[.agg #[.int .i64 k, .int .i64 n, .int .i64 p]] w fun e w' => e = .returned (.bool true) ∧ Below w.heap.size w w' := by
  go_enter Tryd.func7, Tryd.ntmps7
  go_wp2_with fail
  refine (to_arg k n p _).mono ?_
  rintro e w1 ⟨rfl, g1⟩
  have a0 : w1.cell? ⟨w.heap.size, 0, none⟩ = some (.int .i64 k) := cell_later g1 (by simp)
  have a1 : w1.cell? ⟨w.heap.size, 1, none⟩ = some (.int .i64 n) := cell_later g1 (by simp)
  have a2 : w1.cell? ⟨w.heap.size, 2, none⟩ = some (.int .i64 p) := cell_later g1 (by simp)
  have z1 : w.heap.size + 1 ≤ w1.heap.size := by have := g1.size; simpa using this
  have b1 : Below w.heap.size w w1 := ((Below.refl _ _).alloc (Nat.le_refl _) _).trans (g1.mono (by simp))
  clear g1
  go_wp2_with fail
  refine (hs.out _).mono ?_
  rintro e w2 ⟨rfl, g2⟩
  have c0 := cell_later g2 a0
  have c1 := cell_later g2 a1
  have c2 := cell_later g2 a2
  have b2 : Below w.heap.size w w2 := b1.trans (g2.mono (by omega))
  have z2 : w.heap.size + 1 ≤ w2.heap.size := by have := g2.size; omega
  clear g2 a0 a1 a2 b1 z1
  go_wp2_with fail
  refine (to_arg k n p _).mono ?_
  rintro e w3 ⟨rfl, g3⟩
  have b3 : Below w.heap.size w w3 := b2.trans (g3.mono (by omega))
  have hT3 : KT w3 := hT.later b3
  clear g3 b2
  go_wp2_with fail
  refine (hi.out _ hT3).mono ?_
  rintro e w4 ⟨rfl, g4⟩
  have b4 : Below w.heap.size w w4 := b3.trans (g4.mono b3.size)
  clear g4 b3
  go_wp2
  go_ret
  exact ⟨rfl, b4⟩

theorem walk7 (k n p : Int) (w : World) (hk : (Lit.int .i64 k).wf = true) (hn : (Lit.int .i64 n).wf = true) (hp : (Lit.int .i64 p).wf = true) (hT : KT w) :
    Calls Tryd.prog 7 #[.agg #[.int .i64 k, .int .i64 n, .int .i64 p]] w fun e w' => e = .returned (.bool true) ∧ Below w.heap.size w w' :=
  law7 k n p (okA k n p) w hT (fun W => spec_ok k n p W) (fun W h => impl_ok k n p W h)

set_option maxHeartbeats 1000000 in
theorem law8 (k n p : Int) (B : Bool) (w : World) (hT : KT w)
    (hs : Hid (∀ W : World, Calls Tryd.prog 25 #[.agg #[.int .i64 k, .int .i64 n, .int .i64 p]] W fun e w' => e = .returned (.bool B) ∧ Below W.heap.size W w'))
    (hi : Hid (∀ W : World, KT W → Calls Tryd.prog 21 #[.agg #[.int .i64 k, .int .i64 n, .int .i64 p]] W fun e w' => e = .returned (.bool B) ∧ Below W.heap.size W w')) :
    Calls Tryd.prog 8 #[.agg #[.int .i64 k, .int .i64 n, .int .i64 p]] w fun e w' => e = .returned (.bool true) ∧ Below w.heap.size w w' := by
  go_enter Tryd.func8, Tryd.ntmps8
  go_wp2_with fail
  refine (to_arg k n p _).mono ?_
  rintro e w1 ⟨rfl, g1⟩
  have a0 : w1.cell? ⟨w.heap.size, 0, none⟩ = some (.int .i64 k) := cell_later g1 (by simp)
  have a1 : w1.cell? ⟨w.heap.size, 1, none⟩ = some (.int .i64 n) := cell_later g1 (by simp)
  have a2 : w1.cell? ⟨w.heap.size, 2, none⟩ = some (.int .i64 p) := cell_later g1 (by simp)
  have z1 : w.heap.size + 1 ≤ w1.heap.size := by have := g1.size; simpa using this
  have b1 : Below w.heap.size w w1 := ((Below.refl _ _).alloc (Nat.le_refl _) _).trans (g1.mono (by simp))
  clear g1
  go_wp2_with fail
  refine (hs.out _).mono ?_
  rintro e w2 ⟨rfl, g2⟩
  have c0 := cell_later g2 a0
  have c1 := cell_later g2 a1
  have c2 := cell_later g2 a2
  have b2 : Below w.heap.size w w2 := b1.trans (g2.mono (by omega))
  have z2 : w.heap.size + 1 ≤ w2.heap.size := by have := g2.size; omega
  clear g2 a0 a1 a2 b1 z1
  go_wp2_with fail
  refine (to_arg k n p _).mono ?_
  rintro e w3 ⟨rfl, g3⟩
  have b3 : Below w.heap.size w w3 := b2.trans (g3.mono (by omega))
  have hT3 : KT w3 := hT.later b3
  clear g3 b2
  go_wp2_with fail
  refine (hi.out _ hT3).mono ?_
  rintro e w4 ⟨rfl, g4⟩
  have b4 : Below w.heap.size w w4 := b3.trans (g4.mono b3.size)
  clear g4 b3
  go_wp2
  go_ret
  exact ⟨rfl, b4⟩

theorem walk8 (k n p : Int) (w : World) (hk : (Lit.int .i64 k).wf = true) (hn : (Lit.int .i64 n).wf = true) (hp : (Lit.int .i64 p).wf = true) (hT : KT w) :
    Calls Tryd.prog 8 #[.agg #[.int .i64 k, .int .i64 n, .int .i64 p]] w fun e w' => e = .returned (.bool true) ∧ Below w.heap.size w w' :=
  law8 k n p (okA k n p && kB k) w hT (fun W => spec_isbit k n p W) (fun W h => impl_isbit k n p W h)

set_option maxHeartbeats 1000000 in
theorem law9 (k n p : Int) (B : Bool) (w : World) (hT : KT w)
    (hs : Hid (∀ W : World, Calls Tryd.prog 26 #[.agg #[.int .i64 k, .int .i64 n, .int .i64 p]] W fun e w' => e = .returned (.bool B) ∧ Below W.heap.size W w'))
    (hi : Hid (∀ W : World, KT W → Calls Tryd.prog 22 #[.agg #[.int .i64 k, .int .i64 n, .int .i64 p]] W fun e w' => e = .returned (.bool B) ∧ Below W.heap.size W w')) :
    Calls Tryd.prog 9 #[.agg #[.int .i64 k, .int .i64 n, .int .i64 p]] w fun e w' => e = .returned (.bool true) ∧ Below w.heap.size w w' := by
  go_enter Tryd.func9, Tryd.ntmps9
  go_wp2_with fail
  refine (to_arg k n p _).mono ?_
  rintro e w1 ⟨rfl, g1⟩
  have a0 : w1.cell? ⟨w.heap.size, 0, none⟩ = some (.int .i64 k) := cell_later g1 (by simp)
  have a1 : w1.cell? ⟨w.heap.size, 1, none⟩ = some (.int .i64 n) := cell_later g1 (by simp)
  have a2 : w1.cell? ⟨w.heap.size, 2, none⟩ = some (.int .i64 p) := cell_later g1 (by simp)
  have z1 : w.heap.size + 1 ≤ w1.heap.size := by have := g1.size; simpa using this
  have b1 : Below w.heap.size w w1 := ((Below.refl _ _).alloc (Nat.le_refl _) _).trans (g1.mono (by simp))
  clear g1
  go_wp2_with fail
  refine (hs.out _).mono ?_
  rintro e w2 ⟨rfl, g2⟩
  have c0 := cell_later g2 a0
  have c1 := cell_later g2 a1
  have c2 := cell_later g2 a2
  have b2 : Below w.heap.size w w2 := b1.trans (g2.mono (by omega))
  have z2 : w.heap.size + 1 ≤ w2.heap.size := by have := g2.size; omega
  clear g2 a0 a1 a2 b1 z1
  go_wp2_with fail
  refine (to_arg k n p _).mono ?_
  rintro e w3 ⟨rfl, g3⟩
  have b3 : Below w.heap.size w w3 := b2.trans (g3.mono (by omega))
  have hT3 : KT w3 := hT.later b3
  clear g3 b2
  go_wp2_with fail
  refine (hi.out _ hT3).mono ?_
  rintro e w4 ⟨rfl, g4⟩
  have b4 : Below w.heap.size w w4 := b3.trans (g4.mono b3.size)
  clear g4 b3
  go_wp2
  go_ret
  exact ⟨rfl, b4⟩

theorem walk9 (k n p : Int) (w : World) (hk : (Lit.int .i64 k).wf = true) (hn : (Lit.int .i64 n).wf = true) (hp : (Lit.int .i64 p).wf = true) (hT : KT w) :
    Calls Tryd.prog 9 #[.agg #[.int .i64 k, .int .i64 n, .int .i64 p]] w fun e w' => e = .returned (.bool true) ∧ Below w.heap.size w w' :=
  law9 k n p (okA k n p && kW k) w hT (fun W => spec_iswhole k n p W) (fun W h => impl_iswhole k n p W h)

set_option maxHeartbeats 1000000 in
theorem law10 (k n p : Int) (B : Bool) (w : World) (hT : KT w)
    (hs : Hid (∀ W : World, Calls Tryd.prog 32 #[.agg #[.int .i64 k, .int .i64 n, .int .i64 p]] W fun e w' => e = .returned (.bool B) ∧ Below W.heap.size W w'))
    (hi : Hid (∀ W : World, KT W → Calls Tryd.prog 23 #[.agg #[.int .i64 k, .int .i64 n, .int .i64 p]] W fun e w' => e = .returned (.bool B) ∧ Below W.heap.size W w')) :
    Calls Tryd.prog 10 #[.agg #[.int .i64 k, .int .i64 n, .int .i64 p]] w fun e w' => e = .returned (.bool true) ∧ Below w.heap.size w w' := by
  go_enter Tryd.func10, Tryd.ntmps10
  go_wp2_with fail
  refine (to_arg k n p _).mono ?_
  rintro e w1 ⟨rfl, g1⟩
  have a0 : w1.cell? ⟨w.heap.size, 0, none⟩ = some (.int .i64 k) := cell_later g1 (by simp)
  have a1 : w1.cell? ⟨w.heap.size, 1, none⟩ = some (.int .i64 n) := cell_later g1 (by simp)
  have a2 : w1.cell? ⟨w.heap.size, 2, none⟩ = some (.int .i64 p) := cell_later g1 (by simp)
  have z1 : w.heap.size + 1 ≤ w1.heap.size := by have := g1.size; simpa using this
  have b1 : Below w.heap.size w w1 := ((Below.refl _ _).alloc (Nat.le_refl _) _).trans (g1.mono (by simp))
  clear g1
  go_wp2_with fail
  refine (hs.out _).mono ?_
  rintro e w2 ⟨rfl, g2⟩
  have c0 := cell_later g2 a0
  have c1 := cell_later g2 a1
  have c2 := cell_later g2 a2
  have b2 : Below w.heap.size w w2 := b1.trans (g2.mono (by omega))
  have z2 : w.heap.size + 1 ≤ w2.heap.size := by have := g2.size; omega
  clear g2 a0 a1 a2 b1 z1
  go_wp2_with fail
  refine (to_arg k n p _).mono ?_
  rintro e w3 ⟨rfl, g3⟩
  have b3 : Below w.heap.size w w3 := b2.trans (g3.mono (by omega))
  have hT3 : KT w3 := hT.later b3
  clear g3 b2
  go_wp2_with fail
  refine (hi.out _ hT3).mono ?_
  rintro e w4 ⟨rfl, g4⟩
  have b4 : Below w.heap.size w w4 := b3.trans (g4.mono b3.size)
  clear g4 b3
  go_wp2
  go_ret
  exact ⟨rfl, b4⟩

theorem walk10 (k n p : Int) (w : World) (hk : (Lit.int .i64 k).wf = true) (hn : (Lit.int .i64 n).wf = true) (hp : (Lit.int .i64 p).wf = true) (hT : KT w) :
    Calls Tryd.prog 10 #[.agg #[.int .i64 k, .int .i64 n, .int .i64 p]] w fun e w' => e = .returned (.bool true) ∧ Below w.heap.size w w' :=
  law10 k n p (okA k n p && kR k) w hT (fun W => spec_isreal k n p W) (fun W h => impl_isreal k n p W h)
end Go.Proofs.YtkaoajihpclpiaaDoor
