/- The real number of an operand. -/
import Derived.Test.YtlgacbjopobeoaaGreatDoorDaM
import Derived.Test.YtlgacbjopobeoaaGreatDoorAM
import Derived.Test.YtlgacbjopobeoaaGreatDoorFmAM
import Derived.Lib.QuietBelow
import Derived.Test.YtlgacbjopobeoaaGreatDoorR
namespace Go.Proofs.YtlgacbjopobeoaaGreatDoor
open Go.RowKit
set_option linter.unusedVariables false

theorem unary_fneg' (b : Nat) : Op.unary .neg (.float .f64 b) = pure (.float .f64 (Op.negFloat .f64 b)) := rfl
attribute [go_sem] unary_fneg'

set_option maxHeartbeats 1000000 in
theorem spec_inf' (w : World) :
    Calls Tryz.prog 182 #[] w fun e w' => e = .returned (.float .f64 9218868437227405312) ∧ w' = w := by
  have hq : ∀ (t : TypeId) (w : World), (binOp .quo t (.float .f64 4607182418800017408) (.float .f64 0)).run Tryz.prog w = .ok (.float .f64 9218868437227405312) w := fun t w => run_float_arith w .quo t .f64 _ _ _ (by decide +kernel)
  go_enter Tryz.func182, Tryz.ntmps182
  go_wp2
  go_ret
  exact ⟨rfl, rfl⟩

set_option maxHeartbeats 1000000 in
theorem inf_pos (w : World) : Calls Tryz.prog 356 #[.int .i64 1] w fun e w' => e = .returned (.float .f64 9218868437227405312) ∧ w' = w := by
  go_enter Tryz.func356, Tryz.ntmps356
  go_wp2
  go_ret
  exact ⟨rfl, rfl⟩
set_option maxHeartbeats 1000000 in
theorem inf_neg (w : World) : Calls Tryz.prog 356 #[.int .i64 (-1)] w fun e w' => e = .returned (.float .f64 18442240474082181120) ∧ w' = w := by
  go_enter Tryz.func356, Tryz.ntmps356
  go_wp2
  go_ret
  exact ⟨rfl, rfl⟩

set_option maxHeartbeats 1000000 in
theorem impl_words (w : World) :
    Calls Tryz.prog 348 #[] w fun e w' => e = .returned (.agg #[.float .f64 9221120237041090561, .float .f64 9218868437227405312, .float .f64 18442240474082181120, .float .f64 9223372036854775808]) ∧ Below w.heap.size w w' := by
  have hq : ∀ (t : TypeId) (w : World), (binOp .quo t (.float .f64 4607182418800017408) (.float .f64 18442240474082181120)).run Tryz.prog w = .ok (.float .f64 9223372036854775808) w := fun t w => run_float_arith w .quo t .f64 _ _ _ (by decide +kernel)
  go_enter Tryz.func348, Tryz.ntmps348
  go_wp2_with fail
  refine (impl_nan _).mono ?_
  rintro e w1 ⟨rfl, rfl⟩
  go_wp2_with fail
  refine (inf_pos _).mono ?_
  rintro e w1 ⟨rfl, rfl⟩
  go_wp2_with fail
  refine (inf_neg _).mono ?_
  rintro e w1 ⟨rfl, rfl⟩
  go_wp2_with fail
  refine (inf_neg _).mono ?_
  rintro e w1 ⟨rfl, rfl⟩
  go_wp2
  go_returns
  exact ⟨rfl, by go_grown⟩

/-- The bits of 10 to the j. -/
def tenB : Nat → Nat
  | 0 => 4607182418800017408
  | 1 => 4621819117588971520
  | 2 => 4636737291354636288
  | 3 => 4652007308841189376
  | 4 => 4666723172467343360
  | 5 => 4681608360884174848
  | _ => 4696837146684686336
theorem tenB_mul (j : Nat) (h : j < 6) : floatBits .mul .f64 (tenB j) 4621819117588971520 = some (tenB (j + 1)) := by
  have hj : j = 0 ∨ j = 1 ∨ j = 2 ∨ j = 3 ∨ j = 4 ∨ j = 5 := by omega
  rcases hj with rfl | rfl | rfl | rfl | rfl | rfl <;> decide +kernel
theorem tenB_of (j : Nat) (h : j ≤ 6) : floatOfInt .f64 ((10 : Int) ^ j) = tenB j := by
  have hj : j = 0 ∨ j = 1 ∨ j = 2 ∨ j = 3 ∨ j = 4 ∨ j = 5 ∨ j = 6 := by omega
  rcases hj with rfl | rfl | rfl | rfl | rfl | rfl | rfl <;> decide +kernel
theorem tenB_fin (j : Nat) : Fm.rg (tenB j) < Fm.infR ∧ 0 < Fm.R (Fm.rg (tenB j)) := by
  unfold tenB
  split <;> exact ⟨by decide, by decide +kernel⟩
theorem good_ten (n : Int) (j : Nat) : Fm.Good .quo (floatOfInt .f64 n) (tenB j) := Fm.div_some (Fm.whole_notN n) (tenB_fin j).1 (tenB_fin j).2

/-- N by 10 to the P. -/
def decB (n : Int) (p : Nat) : Nat := Fm.opB .quo (floatOfInt .f64 n) (tenB p)

set_option maxHeartbeats 1000000 in
theorem impl_dec (k n : Int) (p : Nat) (hp : p ≤ 6) (w : World) :
    Calls Tryz.prog 349 #[.agg #[.int .i64 k, .int .i64 n, .int .i64 p]] w fun e w' => e = .returned (.float .f64 (decB n p)) ∧ Below w.heap.size w w' := by
  have hq := fun (j : Nat) (h : j < 6) (t : TypeId) (w : World) => run_float_arith (P := Tryz.prog) w .mul t .f64 _ _ _ (tenB_mul j h)
  have hq2 := fun (t : TypeId) (w : World) => (good_ten n p).run (P := Tryz.prog) t w
  unfold decB
  obtain ⟨X, HX⟩ : ∃ X, Hid (X = Fm.opB .quo (floatOfInt .f64 n) (tenB p)) := ⟨_, rfl⟩
  rw [← HX.out] at hq2 ⊢
  clear HX
  have HQ : Hid (∀ (j : Nat), j < 6 → ∀ (t : TypeId) (w : World), (binOp .mul t (.float .f64 (tenB j)) (.float .f64 4621819117588971520)).run Tryz.prog w = .ok (.float .f64 (tenB (j + 1))) w) := hq
  clear hq
  go_enter Tryz.func349, Tryz.ntmps349
  go_wp2
  go_loopg [3, 6] p (fun g x i wr => ∃ (j : Nat), j + g = p ∧ i = .int .i64 j ∧ x = .float .f64 (tenB j) ∧ wr = w.alloc (.cells #[.int .i64 k, .int .i64 n, .int .i64 p] 78))
  case atStart => exact ⟨0, by omega, rfl, rfl, rfl⟩
  case round =>
    obtain ⟨j, hj, rfl, rfl, rfl⟩ := hrel
    by_cases hlt : j < p
    · have hq := HQ.out j (by omega)
      clear hq2
      go_wp2
      go_roundg (gk - 1)
      case measure => omega
      case rel => exact ⟨j + 1, by omega, by go_num, rfl, rfl⟩
    · obtain rfl : j = p := by omega
      go_wp2
      go_ret
      exact ⟨rfl, by go_grown⟩

/-- The real number of a word. -/
def WordV (n : Int) (v : Nat) : Prop := (n = 0 ∧ Fm.isN v) ∨ (n = 1 ∧ v = 9218868437227405312) ∨ (n = 2 ∧ v = 18442240474082181120) ∨ (n = 3 ∧ v = 9223372036854775808)
/-- The real number of an operand. -/
def ArgV (k n p : Int) (v : Nat) : Prop :=
  (okA k n p = false ∧ v = 0) ∨ (okA k n p = true ∧ k = 13 ∧ WordV n v) ∨ (okA k n p = true ∧ k = 12 ∧ v = decB n p.toNat) ∨ (okA k n p = true ∧ k ≠ 12 ∧ k ≠ 13 ∧ v = 0)

theorem arg_same {k n p : Int} {x y : Nat} (hx : ArgV k n p x) (hy : ArgV k n p y) : Same x y := by
  rcases hx with ⟨a, rfl⟩ | ⟨a, b, c⟩ | ⟨a, b, rfl⟩ | ⟨a, b, c, rfl⟩
  · rcases hy with ⟨a', rfl⟩ | ⟨a', b', c'⟩ | ⟨a', b', rfl⟩ | ⟨a', b', c', rfl⟩
    · exact .inl rfl
    · rw [a] at a'; cases a'
    · rw [a] at a'; cases a'
    · rw [a] at a'; cases a'
  · rcases hy with ⟨a', rfl⟩ | ⟨a', b', c'⟩ | ⟨a', b', rfl⟩ | ⟨a', b', c', rfl⟩
    · rw [a] at a'; cases a'
    · rcases c with ⟨c, d⟩ | ⟨c, d⟩ | ⟨c, d⟩ | ⟨c, d⟩ <;> rcases c' with ⟨c', d'⟩ | ⟨c', d'⟩ | ⟨c', d'⟩ | ⟨c', d'⟩
      all_goals first | (exfalso; omega) | exact .inr ⟨d, d'⟩ | exact .inl (d.trans d'.symm)
    · omega
    · omega
  · rcases hy with ⟨a', rfl⟩ | ⟨a', b', c'⟩ | ⟨a', b', rfl⟩ | ⟨a', b', c', rfl⟩
    · rw [a] at a'; cases a'
    · omega
    · exact .inl rfl
    · omega
  · rcases hy with ⟨a', rfl⟩ | ⟨a', b', c'⟩ | ⟨a', b', rfl⟩ | ⟨a', b', c', rfl⟩
    · rw [a] at a'; cases a'
    · omega
    · omega
    · exact .inl rfl

theorem arg_wf {k n p : Int} {x : Nat} (hx : ArgV k n p x) (hN : Fm.isN x → (Lit.float .f64 x).wf = true) : (Lit.float .f64 x).wf = true := by
  rcases hx with ⟨a, rfl⟩ | ⟨a, b, c⟩ | ⟨a, b, rfl⟩ | ⟨a, b, c, rfl⟩
  · decide
  · rcases c with ⟨c, d⟩ | ⟨c, rfl⟩ | ⟨c, rfl⟩ | ⟨c, rfl⟩
    · exact hN d
    · decide
    · decide
    · decide
  · exact wf_of_lt64 (good_ten n _).lt
  · decide

theorem pow10_6 (i : Nat) (h : i ≤ 6) : (10 : Int) ^ i ≤ 1000000 := by
  have : ∀ j : Fin 7, (10 : Int) ^ j.val ≤ 1000000 := by decide
  exact this ⟨i, by omega⟩
theorem ok_dec_p {n p : Int} (h : okA 12 n p = true) : 1 ≤ p ∧ p ≤ 6 ∧ -999999999 ≤ n ∧ n ≤ 999999999 := by
  simp [okA, okD] at h
  omega
theorem ok_word_n {n p : Int} (h : okA 13 n p = true) : n = 0 ∨ n = 1 ∨ n = 2 ∨ n = 3 := by
  simp [okA] at h
  omega

theorem idx71_0 (a b c d : Value) (w : World) : (Instr.index 54 (.agg #[a, b, c, d]) (.int .i64 0)).run Tryz.prog w = .ok a w := by kernel_rfl
theorem idx71_1 (a b c d : Value) (w : World) : (Instr.index 54 (.agg #[a, b, c, d]) (.int .i64 1)).run Tryz.prog w = .ok b w := by kernel_rfl
theorem idx71_2 (a b c d : Value) (w : World) : (Instr.index 54 (.agg #[a, b, c, d]) (.int .i64 2)).run Tryz.prog w = .ok c w := by kernel_rfl
theorem idx71_3 (a b c d : Value) (w : World) : (Instr.index 54 (.agg #[a, b, c, d]) (.int .i64 3)).run Tryz.prog w = .ok d w := by kernel_rfl
attribute [go_sem] idx71_0 idx71_1 idx71_2 idx71_3

set_option maxHeartbeats 1000000 in
theorem spec_word (n : Int) (hn : n = 0 ∨ n = 1 ∨ n = 2 ∨ n = 3) (w : World) :
    Calls Tryz.prog 285 #[.int .i64 n] w fun e w' => ∃ v, e = .returned (.float .f64 v) ∧ WordV n v ∧ (Lit.float .f64 v).wf = true ∧ Below w.heap.size w w' := by
  rcases hn with rfl | rfl | rfl | rfl
  · go_enter Tryz.func285, Tryz.ntmps285
    go_wp2_with fail
    refine (spec_nan _).mono ?_
    rintro e w1 ⟨v, rfl, hv, hf, g1⟩
    have HV : Hid (Fm.isN v ∧ (Lit.float .f64 v).wf = true) := ⟨hv, hf⟩
    clear hv hf
    go_wp2
    go_ret
    exact ⟨v, rfl, .inl ⟨rfl, HV.out.1⟩, HV.out.2, g1⟩
  · go_enter Tryz.func285, Tryz.ntmps285
    go_wp2_with fail
    refine (spec_inf' _).mono ?_
    rintro e w1 ⟨rfl, rfl⟩
    go_wp2
    go_ret
    exact ⟨_, rfl, .inr (.inl ⟨rfl, rfl⟩), by decide, Below.refl _ _⟩
  · go_enter Tryz.func285, Tryz.ntmps285
    go_wp2_with fail
    refine (spec_inf' _).mono ?_
    rintro e w1 ⟨rfl, rfl⟩
    go_wp2
    go_ret
    exact ⟨_, rfl, .inr (.inr (.inl ⟨rfl, by decide +kernel⟩)), by decide +kernel, Below.refl _ _⟩
  · go_enter Tryz.func285, Tryz.ntmps285
    go_wp2
    go_ret
    exact ⟨_, rfl, .inr (.inr (.inr ⟨rfl, by decide +kernel⟩)), by decide +kernel, Below.refl _ _⟩

set_option maxHeartbeats 2000000 in
theorem spec_arg (k n p : Int) (w : World) :
    Calls Tryz.prog 260 #[.agg #[.int .i64 k, .int .i64 n, .int .i64 p]] w fun e w' => ∃ v, e = .returned (.float .f64 v) ∧ ArgV k n p v ∧ (Lit.float .f64 v).wf = true ∧ Below w.heap.size w w' := by
  have ho := spec_ok k n p
  cases hk : okA k n p with
  | false =>
    rw [hk] at ho
    have HV : Hid (ArgV k n p 0) := .inl ⟨hk, rfl⟩
    clear hk
    go_enter Tryz.func260, Tryz.ntmps260
    go_wp2_with fail
    refine (ho _).mono ?_
    rintro e w1 ⟨rfl, g1⟩
    have b1 : Below w.heap.size w w1 := ((Below.refl _ _).alloc (Nat.le_refl _) _).trans (g1.mono (by simp))
    clear g1
    go_wp2
    go_ret
    exact ⟨0, rfl, HV.out, by decide, b1⟩
  | true =>
    rw [hk] at ho
    by_cases k3 : k = 13
    · subst k3
      have hn := ok_word_n hk
      have HV : Hid (∀ v, WordV n v → ArgV 13 n p v) := fun v h => .inr (.inl ⟨hk, rfl, h⟩)
      clear hk
      go_enter Tryz.func260, Tryz.ntmps260
      go_wp2_with fail
      refine (ho _).mono ?_
      rintro e w1 ⟨rfl, g1⟩
      have c0 : w1.cell? ⟨w.heap.size, 0, none⟩ = some (.int .i64 13) := cell_later g1 (by simp)
      have c1 : w1.cell? ⟨w.heap.size, 1, none⟩ = some (.int .i64 n) := cell_later g1 (by simp)
      have b1 : Below w.heap.size w w1 := ((Below.refl _ _).alloc (Nat.le_refl _) _).trans (g1.mono (by simp))
      clear g1
      go_wp2_with fail
      refine (spec_word n hn _).mono ?_
      rintro e w2 ⟨v, rfl, hv, hf, g2⟩
      have HW : Hid (WordV n v ∧ (Lit.float .f64 v).wf = true) := ⟨hv, hf⟩
      have b2 := b1.trans (g2.mono b1.size)
      clear hv hf hn g2
      go_wp2
      go_ret
      exact ⟨v, rfl, HV.out v HW.out.1, HW.out.2, b2⟩
    · have e3 : (k == 13) = false := by simp [k3]
      by_cases k2 : k = 12
      · subst k2
        obtain ⟨p1, p2, -, -⟩ := ok_dec_p hk
        obtain ⟨q, rfl⟩ := Int.eq_ofNat_of_zero_le (by omega : 0 ≤ p)
        have HV : Hid (ArgV 12 n q (decB n q)) := .inr (.inr (.inl ⟨hk, rfl, rfl⟩))
        have hq2 := fun (t : TypeId) (w : World) => (good_ten n q).run (P := Tryz.prog) t w
        have h6 := tenB_of q (by omega)
        have HL : Hid (decB n q < 18446744073709551616) := (good_ten n q).lt
        unfold decB at HV HL
        obtain ⟨X, HX⟩ : ∃ X, Hid (X = Fm.opB .quo (floatOfInt .f64 n) (tenB q)) := ⟨_, rfl⟩
        rw [← HX.out] at hq2 HV HL
        rw [← h6] at hq2
        obtain ⟨T, HT⟩ : ∃ T : Int, Hid (T = (10 : Int) ^ q) := ⟨_, rfl⟩
        rw [← HT.out] at hq2
        clear hk HX h6 e3 k3
        go_enter Tryz.func260, Tryz.ntmps260
        go_wp2_with fail
        refine (ho _).mono ?_
        rintro e w1 ⟨rfl, g1⟩
        have c0 : w1.cell? ⟨w.heap.size, 0, none⟩ = some (.int .i64 12) := cell_later g1 (by simp)
        have c1 : w1.cell? ⟨w.heap.size, 1, none⟩ = some (.int .i64 n) := cell_later g1 (by simp)
        have c2 : w1.cell? ⟨w.heap.size, 2, none⟩ = some (.int .i64 q) := cell_later g1 (by simp)
        have b1 : Below w.heap.size w w1 := ((Below.refl _ _).alloc (Nat.le_refl _) _).trans (g1.mono (by simp))
        clear g1
        go_wp2
        go_loopg [3, 4] q (fun g x i wr => ∃ (j : Nat) (y : Int), j + g = q ∧ i = .int .i64 j ∧ x = .int .i64 y ∧ Hid (y = (10 : Int) ^ j) ∧ (0 ≤ y ∧ y ≤ 1000000) ∧ wr = w1)
        case atStart => exact ⟨0, 1, by omega, rfl, rfl, rfl, by omega, rfl⟩
        case round =>
          obtain ⟨j, y, hj, rfl, rfl, Hy, ⟨y0, y1⟩, rfl⟩ := hrel
          by_cases hlt : j < q
          · have HN : Hid (y * 10 = (10 : Int) ^ (j + 1)) := by rw [Hy.out, Int.pow_succ]; rfl
            have hb := pow10_6 (j + 1) (by omega)
            have hb2 : y * 10 ≤ 1000000 := by rw [HN.out]; exact hb
            clear hq2 hb Hy
            go_wp2
            go_roundg (gk - 1)
            case measure => omega
            case rel => exact ⟨j + 1, y * 10, by omega, by go_num, by go_num, HN, by omega, rfl⟩
          · obtain rfl : j = q := by omega
            obtain rfl : y = T := by rw [Hy.out, HT.out]
            clear Hy HT
            go_wp2
            go_ret
            exact ⟨X, rfl, HV.out, wf_of_lt64 HL.out, b1⟩
      · have e2 : (k != 12) = true := by simp [k2]
        have HV : Hid (ArgV k n p 0) := .inr (.inr (.inr ⟨hk, k2, k3, rfl⟩))
        clear hk
        go_enter Tryz.func260, Tryz.ntmps260
        go_wp2_with fail
        refine (ho _).mono ?_
        rintro e w1 ⟨rfl, g1⟩
        have c0 : w1.cell? ⟨w.heap.size, 0, none⟩ = some (.int .i64 k) := cell_later g1 (by simp)
        have b1 : Below w.heap.size w w1 := ((Below.refl _ _).alloc (Nat.le_refl _) _).trans (g1.mono (by simp))
        clear g1
        go_wp2
        go_ret
        exact ⟨0, rfl, HV.out, by decide, b1⟩

set_option maxHeartbeats 2000000 in
theorem impl_arg (k n p : Int) (w : World) (hT : KT w) :
    Calls Tryz.prog 339 #[.agg #[.int .i64 k, .int .i64 n, .int .i64 p]] w fun e w' => ∃ v, e = .returned (.float .f64 v) ∧ ArgV k n p v ∧ (Lit.float .f64 v).wf = true ∧ Below w.heap.size w w' := by
  have ho := fun w => impl_ok k n p w
  cases hk : okA k n p with
  | false =>
    rw [hk] at ho
    have HV : Hid (ArgV k n p 0) := .inl ⟨hk, rfl⟩
    clear hk
    go_enter Tryz.func339, Tryz.ntmps339
    go_wp2_with fail
    refine (ho _ (hT.alloc _)).mono ?_
    rintro e w1 ⟨rfl, g1⟩
    have b1 : Below w.heap.size w w1 := ((Below.refl _ _).alloc (Nat.le_refl _) _).trans (g1.mono (by simp))
    clear g1 hT
    go_wp2
    go_ret
    exact ⟨0, rfl, HV.out, by decide, b1⟩
  | true =>
    rw [hk] at ho
    by_cases k3 : k = 13
    · subst k3
      have hn := ok_word_n hk
      have HV : Hid (∀ v, WordV n v → ArgV 13 n p v) := fun v h => .inr (.inl ⟨hk, rfl, h⟩)
      clear hk
      go_enter Tryz.func339, Tryz.ntmps339
      go_wp2_with fail
      refine (ho _ (hT.alloc _)).mono ?_
      rintro e w1 ⟨rfl, g1⟩
      have c0 : w1.cell? ⟨w.heap.size, 0, none⟩ = some (.int .i64 13) := cell_later g1 (by simp)
      have c1 : w1.cell? ⟨w.heap.size, 1, none⟩ = some (.int .i64 n) := cell_later g1 (by simp)
      have b1 : Below w.heap.size w w1 := ((Below.refl _ _).alloc (Nat.le_refl _) _).trans (g1.mono (by simp))
      clear g1 hT ho
      rcases hn with rfl | rfl | rfl | rfl
      all_goals
        go_upto_region 4 with fail
        have k1 := cell_regrown c1
        have cW : ∀ d os, Calls Tryz.prog 348 #[] (Sort.grow (redrawn w1 d) os) fun e w'' => e = .returned (.agg #[.float .f64 9221120237041090561, .float .f64 9218868437227405312, .float .f64 18442240474082181120, .float .f64 9223372036854775808]) ∧ ∃ p : Regrown, w'' = Sort.grow (redrawn w1 p.d) p.os := fun d os => Calls.regrown_of (impl_words _)
        refine wp_region_quiet_below (by kernel_rfl) (by kernel_rfl) ?_
        repeat (go_big_quiet_step (exact cW _ _))
        refine wpQuiet_nil ?_
        intro _ hw'
        obtain ⟨⟨dq, osq⟩, hw''⟩ := hw'
        subst hw''
        go_wp2
        go_ret
        refine ⟨_, rfl, HV.out _ ?_, by decide, b1.trans ((below_regrown w1 dq osq).mono b1.size)⟩
        first | exact .inl ⟨rfl, by decide⟩ | exact .inr (.inl ⟨rfl, rfl⟩) | exact .inr (.inr (.inl ⟨rfl, rfl⟩)) | exact .inr (.inr (.inr ⟨rfl, rfl⟩))
    · have e3 : (k == 13) = false := by simp [k3]
      by_cases k2 : k = 12
      · subst k2
        obtain ⟨p1, p2, -, -⟩ := ok_dec_p hk
        obtain ⟨q, rfl⟩ := Int.eq_ofNat_of_zero_le (by omega : 0 ≤ p)
        have HV : Hid (ArgV 12 n q (decB n q)) := .inr (.inr (.inl ⟨hk, rfl, rfl⟩))
        have HL : Hid (decB n q < 18446744073709551616) := (good_ten n q).lt
        have hd := impl_dec 12 n q (by omega)
        generalize decB n q = X at HV HL hd
        clear hk e3 k3
        go_enter Tryz.func339, Tryz.ntmps339
        go_wp2_with fail
        refine (ho _ (hT.alloc _)).mono ?_
        rintro e w1 ⟨rfl, g1⟩
        have c0 : w1.cell? ⟨w.heap.size, 0, none⟩ = some (.int .i64 12) := cell_later g1 (by simp)
        have c1 : w1.cell? ⟨w.heap.size, 1, none⟩ = some (.int .i64 n) := cell_later g1 (by simp)
        have c2 : w1.cell? ⟨w.heap.size, 2, none⟩ = some (.int .i64 q) := cell_later g1 (by simp)
        have b1 : Below w.heap.size w w1 := ((Below.refl _ _).alloc (Nat.le_refl _) _).trans (g1.mono (by simp))
        clear g1 hT ho
        go_wp2_with fail
        refine (hd _).mono ?_
        rintro e w2 ⟨rfl, g2⟩
        have b2 := b1.trans (g2.mono b1.size)
        clear g2
        go_wp2
        go_ret
        exact ⟨X, rfl, HV.out, wf_of_lt64 HL.out, b2⟩
      · have e2 : (k == 12) = false := by simp [k2]
        have HV : Hid (ArgV k n p 0) := .inr (.inr (.inr ⟨hk, k2, k3, rfl⟩))
        clear hk
        go_enter Tryz.func339, Tryz.ntmps339
        go_wp2_with fail
        refine (ho _ (hT.alloc _)).mono ?_
        rintro e w1 ⟨rfl, g1⟩
        have c0 : w1.cell? ⟨w.heap.size, 0, none⟩ = some (.int .i64 k) := cell_later g1 (by simp)
        have b1 : Below w.heap.size w w1 := ((Below.refl _ _).alloc (Nat.le_refl _) _).trans (g1.mono (by simp))
        clear g1 hT ho
        go_wp2
        go_ret
        exact ⟨0, rfl, HV.out, by decide, b1⟩

end Go.Proofs.YtlgacbjopobeoaaGreatDoor
