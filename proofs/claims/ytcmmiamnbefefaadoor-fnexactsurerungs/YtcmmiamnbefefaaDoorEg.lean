/- ElemIsContact of the specification. -/
import Derived.Test.YtcmmiamnbefefaaDoorEf
namespace Go.Proofs.YtcmmiamnbefefaaDoor
open Go.RowKit Go.Shelf
set_option linter.unusedVariables false

theorem ar_or (op : Int) : orP op = [] ∨ (orP op).length = (ndP op).length := by
  rcases op_cases op with h | ⟨n, hn, rfl⟩
  · exact .inl (out_all op h).2.2.2
  · rcases c38 n hn with rfl | rfl | rfl | rfl | rfl | rfl | rfl | rfl | rfl | rfl | rfl | rfl | rfl | rfl | rfl | rfl | rfl | rfl | rfl | rfl | rfl | rfl | rfl | rfl | rfl | rfl | rfl | rfl | rfl | rfl | rfl | rfl | rfl | rfl | rfl | rfl | rfl | rfl
    all_goals first | exact .inl rfl | exact .inr rfl
theorem rtk_len {op : Int} {xs : List Arg} (h : rtk op xs = true) : (xs.length : Int) = arN op ∧ xs ≠ [] := by
  unfold rtk tk at h
  simp only [Bool.or_eq_true, Bool.and_eq_true, decide_eq_true_eq] at h
  unfold arN
  rcases h with ⟨⟨h1, h2⟩, _⟩ | ⟨⟨h1, h2⟩, _⟩
  · exact ⟨by omega, fun e => by subst e; simp at h1⟩
  · refine ⟨?_, fun e => by subst e; simp at h1⟩
    rcases ar_or op with e | e
    · rw [e] at h2
      have := List.length_eq_zero_iff.1 h2
      subst this; simp at h1
    · omega
theorem rtk_no {op : Int} {xs : List Arg} (h : (xs.length : Int) ≠ arN op) : rtk op xs = false := by
  cases hr : rtk op xs with
  | false => rfl
  | true => exact absurd (rtk_len hr).1 h
theorem nd_none (op : Int) (h : ndP op = []) (xs : List Arg) : rtk op xs = false := by
  cases hr : rtk op xs with
  | false => rfl
  | true =>
    obtain ⟨h1, h2⟩ := rtk_len hr
    unfold arN at h1
    rw [h] at h1
    exact absurd (List.length_eq_zero_iff.1 (by simpa using h1)) h2

theorem spec_arity' (op : Int) (W : World) : Calls Tryd.prog 66 #[.int .i64 op] W fun e w' => e = .returned (.int .i64 (arN op)) ∧ Below W.heap.size W w' :=
  (spec_arity op W).mono fun e w' ⟨h1, h2⟩ => ⟨h1, by rw [h2]; exact Below.refl _ _⟩

set_option maxRecDepth 10000 in
set_option maxHeartbeats 1000000 in
theorem scontact_no (op N : Int) (a : Option Addr) (len cap : Nat) (w : World) (h : op < 1 ∨ 10 < op ∨ (len : Int) ≠ N)
    (hA : Hid (∀ W, Calls Tryd.prog 66 #[.int .i64 op] W fun e w' => e = .returned (.int .i64 N) ∧ Below W.heap.size W w')) :
    Calls Tryd.prog 45 #[.agg #[.int .i64 op, .slice a len cap]] w fun e w' => e = .returned (.bool false) ∧ Below w.heap.size w w' := by
  have hb0 : Below w.heap.size w (w.alloc (.cells #[.int .i64 op, .slice a len cap] 48)) := (Below.refl _ _).alloc (Nat.le_refl _) _
  have k0 := cell_regrown (w := w.alloc (.cells #[.int .i64 op, .slice a len cap] 48)) (a := ⟨w.heap.size, 0, none⟩) (v := .int .i64 op) (by simp)
  have k1 := cell_regrown (w := w.alloc (.cells #[.int .i64 op, .slice a len cap] 48)) (a := ⟨w.heap.size, 1, none⟩) (v := .slice a len cap) (by simp)
  have cA : ∀ d os, Calls Tryd.prog 66 #[.int .i64 op] (Sort.grow (redrawn (w.alloc (.cells #[.int .i64 op, .slice a len cap] 48)) d) os) fun e w'' => e = .returned (.int .i64 N) ∧ ∃ p : Regrown, w'' = Sort.grow (redrawn (w.alloc (.cells #[.int .i64 op, .slice a len cap] 48)) p.d) p.os :=
    fun d os => Calls.regrown_of (hA.out _)
  clear hA
  by_cases h1 : op < 1
  · clear h
    go_enter Tryd.func45, Tryd.ntmps45
    go_upto_region 1 with fail
    refine wp_region_quiet_below (by kernel_rfl) (by kernel_rfl) ?_
    repeat (go_big_quiet_step (first | exact cA _ _))
    refine wpQuiet_nil ?_
    intro _ hw'
    obtain ⟨⟨dq, osq⟩, hw''⟩ := hw'
    subst hw''
    go_wp2
    go_ret
    exact ⟨rfl, hb0.trans ((below_regrown _ dq osq).mono hb0.size)⟩
  · by_cases h2 : 10 < op
    · clear h
      go_enter Tryd.func45, Tryd.ntmps45
      go_upto_region 1 with fail
      refine wp_region_quiet_below (by kernel_rfl) (by kernel_rfl) ?_
      repeat (go_big_quiet_step (first | exact cA _ _))
      refine wpQuiet_nil ?_
      intro _ hw'
      obtain ⟨⟨dq, osq⟩, hw''⟩ := hw'
      subst hw''
      go_wp2
      go_ret
      exact ⟨rfl, hb0.trans ((below_regrown _ dq osq).mono hb0.size)⟩
    · have h3 : ((len : Int) == N) = false := by rw [beq_eq_false_iff_ne]; omega
      clear h
      go_enter Tryd.func45, Tryd.ntmps45
      go_upto_region 1 with fail
      refine wp_region_quiet_below (by kernel_rfl) (by kernel_rfl) ?_
      repeat (go_big_quiet_step (first | exact cA _ _))
      refine wpQuiet_nil ?_
      intro _ hw'
      obtain ⟨⟨dq, osq⟩, hw''⟩ := hw'
      subst hw''
      go_wp2
      go_ret
      exact ⟨rfl, hb0.trans ((below_regrown _ dq osq).mono hb0.size)⟩

set_option maxRecDepth 10000 in
set_option maxHeartbeats 1000000 in
theorem scontact1 (op k n p : Int) (r : Bool) (b o cap : Nat) (w : World) (ho1 : 1 ≤ op) (ho2 : op ≤ 2) (hx : Ops w b o [(k, n, p)])
    (hA : Hid (∀ W, Calls Tryd.prog 66 #[.int .i64 op] W fun e w' => e = .returned (.int .i64 1) ∧ Below W.heap.size W w'))
    (hB : Hid (∀ W, Calls Tryd.prog 67 #[.agg #[.int .i64 k, .int .i64 n, .int .i64 p]] W fun e w' => e = .returned (.bool r) ∧ Below W.heap.size W w')) :
    Calls Tryd.prog 45 #[.agg #[.int .i64 op, .slice (some ⟨b, o, none⟩) 1 cap]] w fun e w' => e = .returned (.bool r) ∧ Below w.heap.size w w' := by
  have hb0 : Below w.heap.size w (w.alloc (.cells #[.int .i64 op, .slice (some ⟨b, o, none⟩) 1 cap] 48)) := (Below.refl _ _).alloc (Nat.le_refl _) _
  have k0 := cell_regrown (w := w.alloc (.cells #[.int .i64 op, .slice (some ⟨b, o, none⟩) 1 cap] 48)) (a := ⟨w.heap.size, 0, none⟩) (v := .int .i64 op) (by simp)
  have k1 := cell_regrown (w := w.alloc (.cells #[.int .i64 op, .slice (some ⟨b, o, none⟩) 1 cap] 48)) (a := ⟨w.heap.size, 1, none⟩) (v := .slice (some ⟨b, o, none⟩) 1 cap) (by simp)
  have cA : ∀ d os, Calls Tryd.prog 66 #[.int .i64 op] (Sort.grow (redrawn (w.alloc (.cells #[.int .i64 op, .slice (some ⟨b, o, none⟩) 1 cap] 48)) d) os) fun e w'' => e = .returned (.int .i64 1) ∧ ∃ p : Regrown, w'' = Sort.grow (redrawn (w.alloc (.cells #[.int .i64 op, .slice (some ⟨b, o, none⟩) 1 cap] 48)) p.d) p.os :=
    fun d os => Calls.regrown_of (hA.out _)
  clear hA
  have h1 : ¬ (op < 1) := by omega
  have h2 : ¬ (10 < op) := by omega
  go_enter Tryd.func45, Tryd.ntmps45
  go_upto_region 1 with fail
  refine wp_region_quiet_below (by kernel_rfl) (by kernel_rfl) ?_
  repeat (go_big_quiet_step (first | exact cA _ _))
  refine wpQuiet_nil ?_
  intro _ hw'
  obtain ⟨⟨dq, osq⟩, hw''⟩ := hw'
  subst hw''
  have e0 := k0 dq osq
  have e1 := k1 dq osq
  have hb1 := hb0.trans ((below_regrown (w.alloc (.cells #[.int .i64 op, .slice (some ⟨b, o, none⟩) 1 cap] 48)) dq osq).mono hb0.size)
  have hx1 := hx.later hb1
  dsimp only at e0 e1 hb1 hx1 ⊢
  generalize Sort.grow (redrawn (w.alloc (.cells #[.int .i64 op, .slice (some ⟨b, o, none⟩) 1 cap] 48)) dq) osq = w2 at e0 e1 hb1 hx1 ⊢
  clear cA k0 k1 hb0 hx
  have x0 := (hx1 0 _ rfl).1
  have x1 := (hx1 0 _ rfl).2.1
  have x2 := (hx1 0 _ rfl).2.2
  simp only [Nat.zero_mul, Nat.add_zero] at x0 x1 x2
  go_wp2_with fail
  refine (hB.out _).mono ?_
  rintro e w3 ⟨rfl, g3⟩
  have b3 := hb1.trans (g3.mono hb1.size)
  clear g3
  go_wp2
  go_ret
  exact ⟨rfl, b3⟩
end Go.Proofs.YtcmmiamnbefefaaDoor
