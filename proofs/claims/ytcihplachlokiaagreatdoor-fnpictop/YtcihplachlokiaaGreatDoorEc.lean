/- ElemArity and ElemName, the program's and the specification's. -/
import Derived.Test.YtcihplachlokiaaGreatDoorDaM
import Derived.Test.YtcihplachlokiaaGreatDoorLy
namespace Go.Proofs.YtcihplachlokiaaGreatDoor
open Go.RowKit Go.Shelf
set_option linter.unusedVariables false

theorem op_cases (op : Int) : (op < 0 ∨ 38 ≤ op) ∨ ∃ n : Nat, n < 38 ∧ op = n := by
  by_cases h : op < 0 ∨ 38 ≤ op
  · exact .inl h
  · exact .inr ⟨op.toNat, by omega, by omega⟩

def okPl (l : List Nat) : Bool := decide (l.length ≤ 3) && l.all fun c => decide (1 ≤ c) && decide (c ≤ 13)
theorem nd_ok (op : Int) : okPl (ndP op) = true := by
  rcases op_cases op with h | ⟨n, hn, rfl⟩
  · rw [(out_all op h).2.2.1]; rfl
  · rcases c38 n hn with rfl | rfl | rfl | rfl | rfl | rfl | rfl | rfl | rfl | rfl | rfl | rfl | rfl | rfl | rfl | rfl | rfl | rfl | rfl | rfl | rfl | rfl | rfl | rfl | rfl | rfl | rfl | rfl | rfl | rfl | rfl | rfl | rfl | rfl | rfl | rfl | rfl | rfl
    all_goals rfl
theorem or_ok (op : Int) : okPl (orP op) = true := by
  rcases op_cases op with h | ⟨n, hn, rfl⟩
  · rw [(out_all op h).2.2.2]; rfl
  · rcases c38 n hn with rfl | rfl | rfl | rfl | rfl | rfl | rfl | rfl | rfl | rfl | rfl | rfl | rfl | rfl | rfl | rfl | rfl | rfl | rfl | rfl | rfl | rfl | rfl | rfl | rfl | rfl | rfl | rfl | rfl | rfl | rfl | rfl | rfl | rfl | rfl | rfl | rfl | rfl
    all_goals rfl

theorem pv_fn (c : Nat) (h1 : 1 ≤ c) (h2 : c ≤ 13) : ∃ f, pv c = .func (.func f) #[] #[] := by
  rcases pc c with h | rfl | rfl | rfl | rfl | rfl | rfl | rfl | rfl | rfl | rfl | rfl | rfl | rfl
  · omega
  all_goals exact ⟨_, rfl⟩

/-- The places of a list, as a value. -/
def plV (l : List Nat) : Value := .agg #[pv (l.getD 0 0), pv (l.getD 1 0), pv (l.getD 2 0)]

theorem count_of (l : List Nat) (h : okPl l = true) (w : World) :
    Calls Tryz.prog 77 #[plV l] w fun e w' => e = .returned (.int .i64 (l.length : Int)) ∧ Below w.heap.size w w' := by
  simp only [okPl, Bool.and_eq_true, decide_eq_true_eq, List.all_eq_true] at h
  obtain ⟨h3, ha⟩ := h
  match l, h3, ha with
  | [], _, _ => exact count0 w
  | [a], _, ha =>
    obtain ⟨f, hf⟩ := pv_fn a (ha a (by simp)).1 (ha a (by simp)).2
    have := count1 f w
    rw [← hf] at this
    exact this
  | [a, b], _, ha =>
    obtain ⟨f, hf⟩ := pv_fn a (ha a (by simp)).1 (ha a (by simp)).2
    obtain ⟨g, hg⟩ := pv_fn b (ha b (by simp)).1 (ha b (by simp)).2
    have := count2 f g w
    rw [← hf, ← hg] at this
    exact this
  | [a, b, c], _, ha =>
    obtain ⟨f, hf⟩ := pv_fn a (ha a (by simp)).1 (ha a (by simp)).2
    obtain ⟨g, hg⟩ := pv_fn b (ha b (by simp)).1 (ha b (by simp)).2
    obtain ⟨k, hk⟩ := pv_fn c (ha c (by simp)).1 (ha c (by simp)).2
    have := count3 f g k w
    rw [← hf, ← hg, ← hk] at this
    exact this
  | _ :: _ :: _ :: _ :: _, h3, _ => simp at h3

theorem fieldR0 (a b c d e f g h : Value) (w : World) : (Instr.field 102 (.agg #[a, b, c, d, e, f, g, h]) 0).run Tryz.prog w = .ok a w := by kernel_rfl
theorem fieldR1 (a b c d e f g h : Value) (w : World) : (Instr.field 102 (.agg #[a, b, c, d, e, f, g, h]) 1).run Tryz.prog w = .ok b w := by kernel_rfl
theorem fieldR2 (a b c d e f g h : Value) (w : World) : (Instr.field 102 (.agg #[a, b, c, d, e, f, g, h]) 2).run Tryz.prog w = .ok (.agg #[c, d, e]) w := by kernel_rfl
theorem fieldR3 (a b c d e f g h : Value) (w : World) : (Instr.field 102 (.agg #[a, b, c, d, e, f, g, h]) 3).run Tryz.prog w = .ok (.agg #[f, g, h]) w := by kernel_rfl
attribute [go_sem] fieldR0 fieldR1 fieldR2 fieldR3

set_option maxHeartbeats 1000000 in
theorem impl_arity (op : Int) (w : World) :
    Calls Tryz.prog 63 #[.int .i64 op] w fun e w' => e = .returned (.int .i64 ((ndP op).length : Int)) ∧ Below w.heap.size w w' := by
  have HR : Hid (∀ W, Calls Tryz.prog 76 #[.int .i64 op] W fun e w' => e = .returned (.agg (rulV op)) ∧ Below W.heap.size W w') := fun W => rule_of op W
  have HC : Hid (∀ W, Calls Tryz.prog 77 #[plV (ndP op)] W fun e w' => e = .returned (.int .i64 ((ndP op).length : Int)) ∧ Below W.heap.size W w') := fun W => count_of _ (nd_ok op) W
  unfold plV at HC
  unfold rulV at HR
  generalize (ndP op).length = N at HC ⊢
  generalize pv ((ndP op).getD 0 0) = f0 at HC HR
  generalize pv ((ndP op).getD 1 0) = f1 at HC HR
  generalize pv ((ndP op).getD 2 0) = f2 at HC HR
  generalize pv ((orP op).getD 0 0) = k0 at HR
  generalize pv ((orP op).getD 1 0) = k1 at HR
  generalize pv ((orP op).getD 2 0) = k2 at HR
  generalize ahd op = A at HR
  generalize btw op = B at HR
  go_enter Tryz.func63, Tryz.ntmps63
  go_wp2_with fail
  refine (HR.out _).mono ?_
  rintro e w1 ⟨rfl, g1⟩
  go_wp2_with fail
  refine (HC.out _).mono ?_
  rintro e w2 ⟨rfl, g2⟩
  have b2 := g1.trans (g2.mono g1.size)
  clear g1 g2
  go_wp2
  go_ret
  exact ⟨rfl, b2⟩

/-- How many operands. -/
def arN (op : Int) : Int := ((ndP op).length : Int)

set_option maxHeartbeats 4000000 in
theorem spec_arity (op : Int) (w : World) :
    Calls Tryz.prog 43 #[.int .i64 op] w fun e w' => e = .returned (.int .i64 (arN op)) ∧ w' = w := by
  rcases op_cases op with h | ⟨n, hn, rfl⟩
  · have e0 : arN op = 0 := by unfold arN; rw [(out_all op h).2.2.1]; rfl
    rw [e0]
    have n1 : (op == 1) = false := by simp; omega
    have n2 : (op == 2) = false := by simp; omega
    have n21 : (op == 21) = false := by simp; omega
    have n22 : (op == 22) = false := by simp; omega
    have n23 : (op == 23) = false := by simp; omega
    have n25 : (op == 25) = false := by simp; omega
    have n31 : (op == 31) = false := by simp; omega
    have n32 : (op == 32) = false := by simp; omega
    have n33 : (op == 33) = false := by simp; omega
    have n34 : (op == 34) = false := by simp; omega
    have n35 : (op == 35) = false := by simp; omega
    rcases h with h | h
    · have h1 : ¬ (1 ≤ op) := by omega
      have h2 : ¬ (21 ≤ op) := by omega
      go_enter Tryz.func43, Tryz.ntmps43
      go_wp2
      go_ret
      exact ⟨rfl, rfl⟩
    · have h1 : 1 ≤ op := by omega
      have h2 : 21 ≤ op := by omega
      have h3 : ¬ (op ≤ 10) := by omega
      have h4 : ¬ (op ≤ 37) := by omega
      go_enter Tryz.func43, Tryz.ntmps43
      go_wp2
      go_ret
      exact ⟨rfl, rfl⟩
  · rcases c38 n hn with rfl | rfl | rfl | rfl | rfl | rfl | rfl | rfl | rfl | rfl | rfl | rfl | rfl | rfl | rfl | rfl | rfl | rfl | rfl | rfl | rfl | rfl | rfl | rfl | rfl | rfl | rfl | rfl | rfl | rfl | rfl | rfl | rfl | rfl | rfl | rfl | rfl | rfl
    all_goals
      go_enter Tryz.func43, Tryz.ntmps43
      go_wp2
      go_ret
      exact ⟨rfl, rfl⟩

/-- The name of a coil. -/
def nmE (op : Int) : ByteArray := if op = 21 then ⟨#[111, 117, 116]⟩ else if op = 22 then ⟨#[115, 101, 116]⟩ else if op = 23 then ⟨#[114, 101, 115, 101, 116]⟩ else if op = 24 then ⟨#[112, 117, 108, 115, 101]⟩ else if op = 25 then ⟨#[115, 116, 101, 112]⟩ else if op = 26 then ⟨#[116, 105, 109, 101, 114]⟩ else if op = 27 then ⟨#[104, 111, 108, 100]⟩ else if op = 28 then ⟨#[108, 97, 116, 101]⟩ else if op = 29 then ⟨#[99, 111, 117, 110, 116]⟩ else if op = 30 then ⟨#[109, 111, 118, 101]⟩ else if op = 31 then ⟨#[97, 100, 100]⟩ else if op = 32 then ⟨#[115, 117, 98]⟩ else if op = 33 then ⟨#[109, 117, 108]⟩ else if op = 34 then ⟨#[100, 105, 118]⟩ else if op = 35 then ⟨#[114, 101, 109]⟩ else if op = 36 then ⟨#[114, 101, 97, 108]⟩ else if op = 37 then ⟨#[119, 104, 111, 108, 101]⟩ else ⟨#[]⟩
theorem nm_out (op : Int) (h : op < 21 ∨ 38 ≤ op) : nmE op = ⟨#[]⟩ := by unfold nmE; repeat rw [if_neg (by omega)]
theorem c17 (op : Int) (h1 : 21 ≤ op) (h2 : op < 38) : op = 21 ∨ op = 22 ∨ op = 23 ∨ op = 24 ∨ op = 25 ∨ op = 26 ∨ op = 27 ∨ op = 28 ∨ op = 29 ∨ op = 30 ∨ op = 31 ∨ op = 32 ∨ op = 33 ∨ op = 34 ∨ op = 35 ∨ op = 36 ∨ op = 37 := by omega
theorem nm_trim (op : Int) (h1 : 21 ≤ op) : Lib.trimSuffix (ahd op).data.toList [58] = (nmE op).data.toList := by
  by_cases h2 : op < 38
  · rcases c17 op h1 h2 with rfl | rfl | rfl | rfl | rfl | rfl | rfl | rfl | rfl | rfl | rfl | rfl | rfl | rfl | rfl | rfl | rfl
    all_goals rfl
  · rw [nm_out op (by omega), (out_all op (by omega)).1]; rfl
theorem ahd_size (op : Int) : (ahd op).size ≤ 6 := by
  rcases op_cases op with h | ⟨n, hn, rfl⟩
  · rw [(out_all op h).1]; decide
  · rcases c38 n hn with rfl | rfl | rfl | rfl | rfl | rfl | rfl | rfl | rfl | rfl | rfl | rfl | rfl | rfl | rfl | rfl | rfl | rfl | rfl | rfl | rfl | rfl | rfl | rfl | rfl | rfl | rfl | rfl | rfl | rfl | rfl | rfl | rfl | rfl | rfl | rfl | rfl | rfl
    all_goals decide

end Go.Proofs.YtcihplachlokiaaGreatDoor
