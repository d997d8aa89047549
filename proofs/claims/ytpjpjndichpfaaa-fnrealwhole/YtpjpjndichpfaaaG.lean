/- Calculations with real numbers: the walk of FnExactRealCalc. -/
import Derived.Test.YtpjpjndichpfaaaE
import Derived.Below
import Derived.Laws.Externs
namespace Go.Proofs.Ytpjpjndichpfaaa
open Go.RowKit
set_option linter.unusedVariables false

theorem below_drew (w : World) : Below w.heap.size w w.drew := ⟨rfl, rfl, rfl, Nat.le_refl _, fun _ _ => rfl⟩
theorem wf_of_lt64 {x : Nat} (h : x < 18446744073709551616) : (Lit.float .f64 x).wf = true := wf_of_lt .f64 x h

set_option maxHeartbeats 1000000 in
theorem spec_nan (w : World) :
    Calls Try.prog 32 #[] w fun e w' => ∃ v, e = .returned (.float .f64 v) ∧ Fm.isN v ∧ (Lit.float .f64 v).wf = true ∧ Below w.heap.size w w' := by
  have hq : ∀ (t : TypeId) (w : World), (binOp .quo t (.float .f64 0) (.float .f64 0)).run Try.prog w = .ok (.float .f64 (Fm.nanOf (w.tape w.drawn (.nanBits .f64 0 0)))) w.drew := fun t w => Fm.run_none w .quo t 0 0 (by simp) (by decide +kernel)
  have h1 := Fm.nanOf_isN (w.tape w.drawn (.nanBits .f64 0 0))
  have h2 := Fm.nanOf_lt (w.tape w.drawn (.nanBits .f64 0 0))
  have H1 : Hid (Fm.isN (Fm.nanOf (w.tape w.drawn (.nanBits .f64 0 0))) ∧ Fm.nanOf (w.tape w.drawn (.nanBits .f64 0 0)) < 18446744073709551616) := ⟨h1, h2⟩
  clear h1 h2
  go_enter Try.func32, Try.ntmps32
  go_wp2
  go_ret
  exact ⟨_, rfl, H1.out.1, wf_of_lt64 H1.out.2, below_drew w⟩

theorem frombits (n : Int) (w : World) : (callFunc 49 #[.int .u64 n]).run Try.prog w = .ok (.value (.float .f64 n.toNat)) w :=
  (run_callFunc_extern Try.func49 (by kernel_rfl) (by kernel_rfl) (by kernel_rfl) (e := Extern.MathFloatBits.float64frombits) (by kernel_rfl) _ w).trans rfl
attribute [go_sem] frombits

set_option maxHeartbeats 1000000 in
theorem impl_nan (w : World) :
    Calls Try.prog 33 #[] w fun e w' => e = .returned (.float .f64 9221120237041090561) ∧ w' = w := by
  go_enter Try.func33, Try.ntmps33
  go_wp2
  go_ret
  exact ⟨rfl, rfl⟩

def opOf (op : Int) : BinOp := if op = 1 then .add else if op = 2 then .sub else if op = 3 then .mul else .quo
/-- What is reckoned of two real numbers. -/
def Cal (op : Int) (a b v : Nat) : Prop := (Lit.float .f64 v).wf = true ∧ ((1 ≤ op ∧ op ≤ 4) ∧ floatBits (opOf op) .f64 a b = some v ∨ ((op < 1 ∨ 5 ≤ op) ∨ floatBits (opOf op) .f64 a b = none) ∧ Fm.isN v)

theorem cal_same {op : Int} {a b x y : Nat} (hx : Cal op a b x) (hy : Cal op a b y) : Same x y := by
  obtain ⟨-, hx | hx⟩ := hx
  · obtain ⟨-, hy | hy⟩ := hy
    · left
      have := hx.2.symm.trans hy.2
      exact Option.some.inj this
    · exfalso
      obtain ⟨h | h, -⟩ := hy
      · have := hx.1; omega
      · rw [hx.2] at h; cases h
  · obtain ⟨-, hy | hy⟩ := hy
    · exfalso
      obtain ⟨h | h, -⟩ := hx
      · have := hy.1; omega
      · rw [hy.2] at h; cases h
    · exact .inr ⟨hx.2, hy.2⟩

theorem four (op : Int) : (op < 1 ∨ 5 ≤ op) ∨ op = 1 ∨ op = 2 ∨ op = 3 ∨ op = 4 := by omega

set_option maxHeartbeats 1000000 in
theorem spec_rcalc (op : Int) (a b : Nat) (w : World) :
    Calls Try.prog 20 #[.int .i64 op, .float .f64 a, .float .f64 b] w fun e w' => ∃ v, e = .returned (.float .f64 v) ∧ Cal op a b v ∧ Below w.heap.size w w' := by
  rcases four op with h | rfl | rfl | rfl | rfl
  · have n1 : (op == 1) = false := by simp; omega
    have n2 : (op == 2) = false := by simp; omega
    have n3 : (op == 3) = false := by simp; omega
    have n4 : (op == 4) = false := by simp; omega
    go_enter Try.func20, Try.ntmps20
    go_wp2_with fail
    refine (spec_nan _).mono ?_
    rintro e w1 ⟨v, rfl, hv, hf, g1⟩
    have HC : Hid (Cal op a b v) := ⟨hf, .inr ⟨.inl h, hv⟩⟩
    go_wp2
    go_ret
    exact ⟨v, rfl, HC.out, g1⟩
  · cases hr : floatBits .add .f64 a b with
    | some r =>
      have hq := fun (t : TypeId) (w : World) => run_float_arith (P := Try.prog) w .add t .f64 a b r hr
      have HC : Hid (Cal 1 a b r) := ⟨floatBits_wf hr, .inl ⟨by omega, hr⟩⟩
      clear hr
      go_enter Try.func20, Try.ntmps20
      go_wp2
      go_ret
      exact ⟨r, rfl, HC.out, Below.refl _ _⟩
    | none =>
      have hq := fun (t : TypeId) (w : World) => Fm.run_none (P := Try.prog) w .add t a b (by simp) hr
      have HC : Hid (Cal 1 a b (Fm.nanOf (w.tape w.drawn (.nanBits .f64 a b)))) := ⟨wf_of_lt64 (Fm.nanOf_lt _), .inr ⟨.inr hr, Fm.nanOf_isN _⟩⟩
      clear hr
      go_enter Try.func20, Try.ntmps20
      go_wp2
      go_ret
      exact ⟨_, rfl, HC.out, below_drew w⟩
  · cases hr : floatBits .sub .f64 a b with
    | some r =>
      have hq := fun (t : TypeId) (w : World) => run_float_arith (P := Try.prog) w .sub t .f64 a b r hr
      have HC : Hid (Cal 2 a b r) := ⟨floatBits_wf hr, .inl ⟨by omega, hr⟩⟩
      clear hr
      go_enter Try.func20, Try.ntmps20
      go_wp2
      go_ret
      exact ⟨r, rfl, HC.out, Below.refl _ _⟩
    | none =>
      have hq := fun (t : TypeId) (w : World) => Fm.run_none (P := Try.prog) w .sub t a b (by simp) hr
      have HC : Hid (Cal 2 a b (Fm.nanOf (w.tape w.drawn (.nanBits .f64 a b)))) := ⟨wf_of_lt64 (Fm.nanOf_lt _), .inr ⟨.inr hr, Fm.nanOf_isN _⟩⟩
      clear hr
      go_enter Try.func20, Try.ntmps20
      go_wp2
      go_ret
      exact ⟨_, rfl, HC.out, below_drew w⟩
  · cases hr : floatBits .mul .f64 a b with
    | some r =>
      have hq := fun (t : TypeId) (w : World) => run_float_arith (P := Try.prog) w .mul t .f64 a b r hr
      have HC : Hid (Cal 3 a b r) := ⟨floatBits_wf hr, .inl ⟨by omega, hr⟩⟩
      clear hr
      go_enter Try.func20, Try.ntmps20
      go_wp2
      go_ret
      exact ⟨r, rfl, HC.out, Below.refl _ _⟩
    | none =>
      have hq := fun (t : TypeId) (w : World) => Fm.run_none (P := Try.prog) w .mul t a b (by simp) hr
      have HC : Hid (Cal 3 a b (Fm.nanOf (w.tape w.drawn (.nanBits .f64 a b)))) := ⟨wf_of_lt64 (Fm.nanOf_lt _), .inr ⟨.inr hr, Fm.nanOf_isN _⟩⟩
      clear hr
      go_enter Try.func20, Try.ntmps20
      go_wp2
      go_ret
      exact ⟨_, rfl, HC.out, below_drew w⟩
  · cases hr : floatBits .quo .f64 a b with
    | some r =>
      have hq := fun (t : TypeId) (w : World) => run_float_arith (P := Try.prog) w .quo t .f64 a b r hr
      have HC : Hid (Cal 4 a b r) := ⟨floatBits_wf hr, .inl ⟨by omega, hr⟩⟩
      clear hr
      go_enter Try.func20, Try.ntmps20
      go_wp2
      go_ret
      exact ⟨r, rfl, HC.out, Below.refl _ _⟩
    | none =>
      have hq := fun (t : TypeId) (w : World) => Fm.run_none (P := Try.prog) w .quo t a b (by simp) hr
      have HC : Hid (Cal 4 a b (Fm.nanOf (w.tape w.drawn (.nanBits .f64 a b)))) := ⟨wf_of_lt64 (Fm.nanOf_lt _), .inr ⟨.inr hr, Fm.nanOf_isN _⟩⟩
      clear hr
      go_enter Try.func20, Try.ntmps20
      go_wp2
      go_ret
      exact ⟨_, rfl, HC.out, below_drew w⟩

set_option maxHeartbeats 1000000 in
theorem impl_rcalc (op : Int) (a b : Nat) (w : World) :
    Calls Try.prog 21 #[.int .i64 op, .float .f64 a, .float .f64 b] w fun e w' => ∃ v, e = .returned (.float .f64 v) ∧ Cal op a b v ∧ Below w.heap.size w w' := by
  rcases four op with h | rfl | rfl | rfl | rfl
  · have n1 : (op == 1) = false := by simp; omega
    have n2 : (op == 2) = false := by simp; omega
    have n3 : (op == 3) = false := by simp; omega
    have n4 : (op == 4) = false := by simp; omega
    have HC : Hid (Cal op a b 9221120237041090561) := ⟨by decide, .inr ⟨.inl h, by decide⟩⟩
    go_enter Try.func21, Try.ntmps21
    go_wp2_with fail
    refine (impl_nan _).mono ?_
    rintro e w1 ⟨rfl, rfl⟩
    go_wp2
    go_ret
    exact ⟨_, rfl, HC.out, Below.refl _ _⟩
  · cases hr : floatBits .add .f64 a b with
    | some r =>
      have hq := fun (t : TypeId) (w : World) => run_float_arith (P := Try.prog) w .add t .f64 a b r hr
      have HC : Hid (Cal 1 a b r) := ⟨floatBits_wf hr, .inl ⟨by omega, hr⟩⟩
      clear hr
      go_enter Try.func21, Try.ntmps21
      go_wp2
      go_ret
      exact ⟨r, rfl, HC.out, Below.refl _ _⟩
    | none =>
      have hq := fun (t : TypeId) (w : World) => Fm.run_none (P := Try.prog) w .add t a b (by simp) hr
      have HC : Hid (Cal 1 a b (Fm.nanOf (w.tape w.drawn (.nanBits .f64 a b)))) := ⟨wf_of_lt64 (Fm.nanOf_lt _), .inr ⟨.inr hr, Fm.nanOf_isN _⟩⟩
      clear hr
      go_enter Try.func21, Try.ntmps21
      go_wp2
      go_ret
      exact ⟨_, rfl, HC.out, below_drew w⟩
  · cases hr : floatBits .sub .f64 a b with
    | some r =>
      have hq := fun (t : TypeId) (w : World) => run_float_arith (P := Try.prog) w .sub t .f64 a b r hr
      have HC : Hid (Cal 2 a b r) := ⟨floatBits_wf hr, .inl ⟨by omega, hr⟩⟩
      clear hr
      go_enter Try.func21, Try.ntmps21
      go_wp2
      go_ret
      exact ⟨r, rfl, HC.out, Below.refl _ _⟩
    | none =>
      have hq := fun (t : TypeId) (w : World) => Fm.run_none (P := Try.prog) w .sub t a b (by simp) hr
      have HC : Hid (Cal 2 a b (Fm.nanOf (w.tape w.drawn (.nanBits .f64 a b)))) := ⟨wf_of_lt64 (Fm.nanOf_lt _), .inr ⟨.inr hr, Fm.nanOf_isN _⟩⟩
      clear hr
      go_enter Try.func21, Try.ntmps21
      go_wp2
      go_ret
      exact ⟨_, rfl, HC.out, below_drew w⟩
  · cases hr : floatBits .mul .f64 a b with
    | some r =>
      have hq := fun (t : TypeId) (w : World) => run_float_arith (P := Try.prog) w .mul t .f64 a b r hr
      have HC : Hid (Cal 3 a b r) := ⟨floatBits_wf hr, .inl ⟨by omega, hr⟩⟩
      clear hr
      go_enter Try.func21, Try.ntmps21
      go_wp2
      go_ret
      exact ⟨r, rfl, HC.out, Below.refl _ _⟩
    | none =>
      have hq := fun (t : TypeId) (w : World) => Fm.run_none (P := Try.prog) w .mul t a b (by simp) hr
      have HC : Hid (Cal 3 a b (Fm.nanOf (w.tape w.drawn (.nanBits .f64 a b)))) := ⟨wf_of_lt64 (Fm.nanOf_lt _), .inr ⟨.inr hr, Fm.nanOf_isN _⟩⟩
      clear hr
      go_enter Try.func21, Try.ntmps21
      go_wp2
      go_ret
      exact ⟨_, rfl, HC.out, below_drew w⟩
  · cases hr : floatBits .quo .f64 a b with
    | some r =>
      have hq := fun (t : TypeId) (w : World) => run_float_arith (P := Try.prog) w .quo t .f64 a b r hr
      have HC : Hid (Cal 4 a b r) := ⟨floatBits_wf hr, .inl ⟨by omega, hr⟩⟩
      clear hr
      go_enter Try.func21, Try.ntmps21
      go_wp2
      go_ret
      exact ⟨r, rfl, HC.out, Below.refl _ _⟩
    | none =>
      have hq := fun (t : TypeId) (w : World) => Fm.run_none (P := Try.prog) w .quo t a b (by simp) hr
      have HC : Hid (Cal 4 a b (Fm.nanOf (w.tape w.drawn (.nanBits .f64 a b)))) := ⟨wf_of_lt64 (Fm.nanOf_lt _), .inr ⟨.inr hr, Fm.nanOf_isN _⟩⟩
      clear hr
      go_enter Try.func21, Try.ntmps21
      go_wp2
      go_ret
      exact ⟨_, rfl, HC.out, below_drew w⟩

set_option maxHeartbeats 1000000 in
theorem walk_rcalc (op : Int) (a b : Nat) (w : World) (h0 : (Lit.int .i64 op).wf = true) (h1 : (Lit.float .f64 a).wf = true) (h2 : (Lit.float .f64 b).wf = true) :
    Calls Try.prog 8 #[.int .i64 op, .float .f64 a, .float .f64 b] w fun e w' => e = .returned (.bool true) ∧ Below w.heap.size w w' := by
  clear h0 h1 h2
  go_enter Try.func8, Try.ntmps8
  go_wp2_with fail
  refine (spec_rcalc op a b _).mono ?_
  rintro e w1 ⟨x, rfl, hx, g1⟩
  have HX : Hid (Cal op a b x) := hx
  clear hx
  go_wp2_with fail
  refine (impl_rcalc op a b _).mono ?_
  rintro e w2 ⟨y, rfl, hy, g2⟩
  have HY : Hid (Cal op a b y) := hy
  clear hy
  go_wp2_with fail
  refine (same_r y x _ HY.out.1 (cal_same HY.out HX.out)).mono ?_
  rintro e w3 ⟨rfl, rfl⟩
  go_wp2
  go_ret
  exact ⟨rfl, g1.trans (g2.mono g1.size)⟩
end Go.Proofs.Ytpjpjndichpfaaa
