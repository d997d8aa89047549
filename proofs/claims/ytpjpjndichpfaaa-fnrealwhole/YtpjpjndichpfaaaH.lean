/- A real number cut to a whole one. -/
import Derived.Test.YtpjpjndichpfaaaA
namespace Go.Proofs.Ytpjpjndichpfaaa
open Go.RowKit
set_option linter.unusedVariables false

theorem sv_lo : Fm.sv 13898108587504304128 = -(32769 * (Fm.U : Int)) := by decide +kernel
theorem sv_hi : Fm.sv 4674736413210574848 = 32768 * (Fm.U : Int) := by decide +kernel
theorem notN_lo : ¬ Fm.isN 13898108587504304128 := by decide
theorem notN_hi : ¬ Fm.isN 4674736413210574848 := by decide

/-- Cut towards 0. -/
def cutR (x : Nat) : Int := (if Fm.sg x then -1 else 1) * ((Fm.R (Fm.rg x) / Fm.U : Nat) : Int)
/-- May be cut. -/
def CanCut (x : Nat) : Prop := ¬ Fm.isN x ∧ -(32769 * (Fm.U : Int)) < Fm.sv x ∧ Fm.sv x < 32768 * (Fm.U : Int)

theorem can_fin {x : Nat} (h : CanCut x) : Fm.rg x < Fm.infR ∧ Fm.R (Fm.rg x) < 32769 * Fm.U := by
  obtain ⟨h1, h2, h3⟩ := h
  have hR : Fm.R (Fm.rg x) < 32769 * Fm.U := by
    have hU := Fm.U_pos
    unfold Fm.sv at h2 h3
    generalize Fm.U = u at hU h2 h3 ⊢
    generalize Fm.R (Fm.rg x) = r at h2 h3 ⊢
    split at h2 <;> split at h3 <;> first | omega | contradiction
  refine ⟨?_, hR⟩
  unfold Fm.isN at h1
  by_cases h : Fm.rg x < Fm.infR
  · exact h
  · exfalso
    have e : Fm.rg x = Fm.infR := by omega
    rw [e, Fm.R_inf] at hR
    have : 32769 * Fm.U ≤ Fm.Kinf := Nat.le_of_ble_eq_true (by decide +kernel)
    omega

theorem cut_bd {x : Nat} (h : CanCut x) : -32768 ≤ cutR x ∧ cutR x ≤ 32767 := by
  have h0 := can_fin h
  obtain ⟨h1, h2, h3⟩ := h
  have hU := Fm.U_pos
  have hlt : Fm.R (Fm.rg x) / Fm.U < 32769 := (Nat.div_lt_iff_lt_mul hU).2 h0.2
  unfold cutR
  unfold Fm.sv at h2 h3
  clear h2
  by_cases hs : Fm.sg x = true
  · rw [hs, if_pos rfl]
    generalize Fm.R (Fm.rg x) / Fm.U = q at hlt ⊢
    omega
  · have hs : Fm.sg x = false := by simpa using hs
    rw [hs] at h3
    simp only [Bool.false_eq_true, if_false] at h3
    have hlt2 : Fm.R (Fm.rg x) / Fm.U < 32768 := (Nat.div_lt_iff_lt_mul hU).2 (by omega)
    rw [hs]
    simp only [Bool.false_eq_true, if_false]
    generalize Fm.R (Fm.rg x) / Fm.U = q at hlt hlt2 ⊢
    omega

theorem cut_conv {x : Nat} (h : CanCut x) (t : TypeId) (ht : (Try.prog.underlying t).isSome = true) (d : TypeId) (hd : Try.prog.underlying d = some (.int .i64)) (w : World) :
    (convert t d (.float .f64 x)).run Try.prog w = .ok (.int .i64 (cutR x)) w := by
  have h0 := can_fin h
  refine run_convert_float_int w t d .f64 .i64 x _ ht hd (Fm.toInt64 h0.1 ?_)
  have hlt : Fm.R (Fm.rg x) / Fm.U < 32769 := (Nat.div_lt_iff_lt_mul Fm.U_pos).2 h0.2
  exact Nat.lt_trans hlt (by decide)

theorem gt_lo {x : Nat} (hn : ¬ Fm.isN x) : (Fm.F.order x 13898108587504304128 == some .gt) = decide (-(32769 * (Fm.U : Int)) < Fm.sv x) := by
  rw [Fm.gt_b hn notN_lo, sv_lo]
theorem lt_hi {x : Nat} (hn : ¬ Fm.isN x) : (Fm.F.order x 4674736413210574848 == some .lt) = decide (Fm.sv x < 32768 * (Fm.U : Int)) := by
  rw [Fm.lt_b hn notN_hi, sv_hi]

set_option maxHeartbeats 1000000 in
theorem impl_whole_in (x : Nat) (w : World) (h : CanCut x) :
    Calls Try.prog 13 #[.float .f64 x] w fun e w' => e = .returned (.tuple #[.int .i16 (cutR x), .bool true]) ∧ w' = w := by
  obtain ⟨b1, b2⟩ := cut_bd h
  have e1 := (gt_lo h.1).trans (decide_eq_true h.2.1)
  have e2 := (lt_hi h.1).trans (decide_eq_true h.2.2)
  have cv := cut_conv h
  clear h
  generalize cutR x = n at b1 b2 cv ⊢
  go_enter Try.func13, Try.ntmps13
  go_wp2
  go_ret2
  exact ⟨rfl, rfl⟩

set_option maxHeartbeats 1000000 in
theorem impl_whole_out (x : Nat) (w : World) (h : ¬ CanCut x) :
    Calls Try.prog 13 #[.float .f64 x] w fun e w' => e = .returned (.tuple #[.int .i16 0, .bool false]) ∧ w' = w := by
  by_cases hn : Fm.isN x
  · have e1 : (Fm.F.order x 13898108587504304128 == some .gt) = false := by rw [Fm.ord_n (.inl hn)]; rfl
    clear h hn
    go_enter Try.func13, Try.ntmps13
    go_wp2
    go_ret2
    exact ⟨rfl, rfl⟩
  · by_cases h1 : -(32769 * (Fm.U : Int)) < Fm.sv x
    · have h2 : ¬ Fm.sv x < 32768 * (Fm.U : Int) := fun h2 => h ⟨hn, h1, h2⟩
      have e1 := (gt_lo hn).trans (decide_eq_true h1)
      have e2 := (lt_hi hn).trans (decide_eq_false h2)
      clear h hn h1 h2
      go_enter Try.func13, Try.ntmps13
      go_wp2
      go_ret2
      exact ⟨rfl, rfl⟩
    · have e1 := (gt_lo hn).trans (decide_eq_false h1)
      clear h hn h1
      go_enter Try.func13, Try.ntmps13
      go_wp2
      go_ret2
      exact ⟨rfl, rfl⟩

set_option maxHeartbeats 1000000 in
theorem spec_whole_in (x : Nat) (w : World) (h : CanCut x) :
    Calls Try.prog 23 #[.float .f64 x] w fun e w' => e = .returned (.tuple #[.int .i16 (cutR x), .bool true]) ∧ w' = w := by
  obtain ⟨b1, b2⟩ := cut_bd h
  have e1 := (gt_lo h.1).trans (decide_eq_true h.2.1)
  have e2 := (lt_hi h.1).trans (decide_eq_true h.2.2)
  have cv := cut_conv h
  clear h
  generalize cutR x = n at b1 b2 cv ⊢
  go_enter Try.func23, Try.ntmps23
  go_wp2
  go_ret2
  exact ⟨rfl, rfl⟩

set_option maxHeartbeats 1000000 in
theorem spec_whole_out (x : Nat) (w : World) (h : ¬ CanCut x) :
    Calls Try.prog 23 #[.float .f64 x] w fun e w' => e = .returned (.tuple #[.int .i16 0, .bool false]) ∧ w' = w := by
  by_cases hn : Fm.isN x
  · have e1 : (Fm.F.order x 13898108587504304128 == some .gt) = false := by rw [Fm.ord_n (.inl hn)]; rfl
    clear h hn
    go_enter Try.func23, Try.ntmps23
    go_wp2
    go_ret2
    exact ⟨rfl, rfl⟩
  · by_cases h1 : -(32769 * (Fm.U : Int)) < Fm.sv x
    · have h2 : ¬ Fm.sv x < 32768 * (Fm.U : Int) := fun h2 => h ⟨hn, h1, h2⟩
      have e1 := (gt_lo hn).trans (decide_eq_true h1)
      have e2 := (lt_hi hn).trans (decide_eq_false h2)
      clear h hn h1 h2
      go_enter Try.func23, Try.ntmps23
      go_wp2
      go_ret2
      exact ⟨rfl, rfl⟩
    · have e1 := (gt_lo hn).trans (decide_eq_false h1)
      clear h hn h1
      go_enter Try.func23, Try.ntmps23
      go_wp2
      go_ret2
      exact ⟨rfl, rfl⟩

instance (x : Nat) : Decidable (CanCut x) := inferInstanceAs (Decidable (_ ∧ _ ∧ _))
def wholeN (x : Nat) : Int := if CanCut x then cutR x else 0
def wholeB (x : Nat) : Bool := decide (CanCut x)
theorem impl_whole (x : Nat) (w : World) : Calls Try.prog 13 #[.float .f64 x] w fun e w' => e = .returned (.tuple #[.int .i16 (wholeN x), .bool (wholeB x)]) ∧ w' = w := by
  unfold wholeN wholeB
  by_cases h : CanCut x
  · rw [if_pos h, decide_eq_true h]; exact impl_whole_in x w h
  · rw [if_neg h, decide_eq_false h]; exact impl_whole_out x w h
theorem spec_whole (x : Nat) (w : World) : Calls Try.prog 23 #[.float .f64 x] w fun e w' => e = .returned (.tuple #[.int .i16 (wholeN x), .bool (wholeB x)]) ∧ w' = w := by
  unfold wholeN wholeB
  by_cases h : CanCut x
  · rw [if_pos h, decide_eq_true h]; exact spec_whole_in x w h
  · rw [if_neg h, decide_eq_false h]; exact spec_whole_out x w h

set_option maxHeartbeats 1000000 in
theorem walk_rwhole (x : Nat) (w : World) (h0 : (Lit.float .f64 x).wf = true) :
    Calls Try.prog 9 #[.float .f64 x] w fun e w' => e = .returned (.bool true) ∧ Below w.heap.size w w' := by
  have s1 := spec_whole x
  have s2 := impl_whole x
  clear h0
  generalize wholeN x = r at s1 s2
  generalize wholeB x = o at s1 s2
  go_enter Try.func9, Try.ntmps9
  go_wp2_with fail
  refine (s1 _).mono ?_
  rintro e w1 ⟨rfl, rfl⟩
  go_wp2_with fail
  refine (s2 _).mono ?_
  rintro e w2 ⟨rfl, rfl⟩
  go_wp2
  go_ret
  exact ⟨rfl, Below.refl _ _⟩
end Go.Proofs.Ytpjpjndichpfaaa
