/- The rule of an Op; how many places it has. -/
import Derived.Test.YtcihplachlokiaaDoorDaM
import Derived.Laws.CopyOwn
import Derived.Laws.EntriesVeiled
namespace Go.Proofs.YtcihplachlokiaaDoor
open Go.RowKit
set_option linter.unusedVariables false

theorem idxR (cs : Array Value) (n : Nat) (hn : n < 38) (w : World) : (Instr.index 126 (.agg cs) (.int .i64 n)).run Tryd.prog w = .ok (.agg (cs.extract (n * 8) (n * 8 + 8))) w := by
  have h1 : (0 : Int) ≤ (n : Int) ∧ (n : Int) < ((38 : Nat) : Int) := by omega
  simp only [Instr.index, asIntOf, run_underlying Tryd.underlying126, Sem.run_bind, Result.andThen, Sem.run_pure, h1, part, Tryd.isAgg115, Tryd.sizeOf115, and_self, if_true]
  simp

theorem c38 (i : Nat) (h : i < 38) : i = 0 ∨ i = 1 ∨ i = 2 ∨ i = 3 ∨ i = 4 ∨ i = 5 ∨ i = 6 ∨ i = 7 ∨ i = 8 ∨ i = 9 ∨ i = 10 ∨ i = 11 ∨ i = 12 ∨ i = 13 ∨ i = 14 ∨ i = 15 ∨ i = 16 ∨ i = 17 ∨ i = 18 ∨ i = 19 ∨ i = 20 ∨ i = 21 ∨ i = 22 ∨ i = 23 ∨ i = 24 ∨ i = 25 ∨ i = 26 ∨ i = 27 ∨ i = 28 ∨ i = 29 ∨ i = 30 ∨ i = 31 ∨ i = 32 ∨ i = 33 ∨ i = 34 ∨ i = 35 ∨ i = 36 ∨ i = 37 := by omega
theorem RV_row (n : Nat) (hn : n < 38) : RV.extract (n * 8) (n * 8 + 8) = (rowV n).toArray := by
  rcases c38 n hn with rfl | rfl | rfl | rfl | rfl | rfl | rfl | rfl | rfl | rfl | rfl | rfl | rfl | rfl | rfl | rfl | rfl | rfl | rfl | rfl | rfl | rfl | rfl | rfl | rfl | rfl | rfl | rfl | rfl | rfl | rfl | rfl | rfl | rfl | rfl | rfl | rfl | rfl
  all_goals kernel_rfl

set_option maxHeartbeats 1000000 in
theorem ruleOf_in (n : Nat) (hn : n < 38) (A B f0 f1 f2 g0 g1 g2 : Value) (w : World) (h : RV.extract (n * 8) (n * 8 + 8) = #[A, B, f0, f1, f2, g0, g1, g2])
    (o0 : A.oneCell' = true) (o1 : B.oneCell' = true) (o2 : f0.oneCell' = true) (o3 : f1.oneCell' = true) (o4 : f2.oneCell' = true) (o5 : g0.oneCell' = true) (o6 : g1.oneCell' = true) (o7 : g2.oneCell' = true) :
    Calls Tryd.prog 84 #[.int .i64 n] w fun e w' => e = .returned (.agg #[A, B, f0, f1, f2, g0, g1, g2]) ∧ Below w.heap.size w w' := by
  have i0 : ¬ ((n : Int) < 0) := by omega
  have i1 : ¬ (37 < (n : Int)) := by omega
  have hi := fun W => idxR RV n hn W
  rw [h] at hi
  go_enter Tryd.func84, Tryd.ntmps84
  go_wp2_with fail
  refine (rules_r _).mono ?_
  rintro e w1 ⟨rfl, g1⟩
  have hh : w1.heap[w.heap.size]? = some (.cells #[.string ⟨#[]⟩, .string ⟨#[]⟩, .nilFunc, .nilFunc, .nilFunc, .nilFunc, .nilFunc, .nilFunc] 115 (0, 0)) :=
    (g1.block _ (by simp)).trans (heap_alloc_last w _)
  have hb : Below w.heap.size w w1 := ((Below.refl _ _).alloc (Nat.le_refl _) _).trans (g1.mono (by simp))
  clear g1
  rename_i K1 hK1 K2 hK2
  refine hK2 _ _ ?_
  refine Go.Great.wpList_readTo rfl (some 11) rfl (.int .i64 n) (by kernel_rfl) ?_
  refine Go.Great.wpList_readTo rfl (some 12) rfl (.agg #[A, B, f0, f1, f2, g0, g1, g2]) (by unfold execOp; simp [hi, Act.eval, Act.put]) ?_
  refine wpList_store_row rfl _ _ _ rfl w.heap.size #[A, B, f0, f1, f2, g0, g1, g2] (by kernel_rfl) (by kernel_rfl) 115 _ hh (by kernel_rfl) rfl (by simp [o0, o1, o2, o3, o4, o5, o6, o7]) ?_
  apply wpList_nil
  refine hK1 _ _ ?_
  refine wp_ret ⟨rfl, .agg #[A, B, f0, f1, f2, g0, g1, g2], ?_, rfl, below_setRow hb (Nat.le_refl _) _⟩
  refine Eq.trans ?_ (run_loadVar_row (P := Tryd.prog) (w1.setRow w.heap.size #[A, B, f0, f1, f2, g0, g1, g2]) w.heap.size 115 115 _ (0, 0) _ (setRow_heap w1 _ _ _ _ _ hh) Tryd.underlying115 rfl (by kernel_rfl))
  simp [results, Tryd.results84, Act.put, asAddr]

set_option maxHeartbeats 1000000 in
theorem ruleOf_out (k : Int) (w : World) (h : k < 0 ∨ 38 ≤ k) :
    Calls Tryd.prog 84 #[.int .i64 k] w fun e w' => e = .returned (.agg #[.string ⟨#[]⟩, .string ⟨#[]⟩, .nilFunc, .nilFunc, .nilFunc, .nilFunc, .nilFunc, .nilFunc]) ∧ Below w.heap.size w w' := by
  by_cases h0 : k < 0
  · go_enter Tryd.func84, Tryd.ntmps84
    go_wp2
    go_returns
    exact ⟨rfl, by go_grown⟩
  · have h1 : 37 < k := by omega
    go_enter Tryd.func84, Tryd.ntmps84
    go_wp2
    go_returns
    exact ⟨rfl, by go_grown⟩

theorem pc (c : Nat) : (c = 0 ∨ 14 ≤ c) ∨ c = 1 ∨ c = 2 ∨ c = 3 ∨ c = 4 ∨ c = 5 ∨ c = 6 ∨ c = 7 ∨ c = 8 ∨ c = 9 ∨ c = 10 ∨ c = 11 ∨ c = 12 ∨ c = 13 := by omega
theorem pv_out (c : Nat) (h : c = 0 ∨ 14 ≤ c) : pv c = .nilFunc := by
  unfold pv
  repeat rw [if_neg (by omega)]
theorem pv_one (c : Nat) : (pv c).oneCell' = true := by
  rcases pc c with h | rfl | rfl | rfl | rfl | rfl | rfl | rfl | rfl | rfl | rfl | rfl | rfl | rfl
  · rw [pv_out c h]; rfl
  all_goals rfl

/-- The rule of an Op, as a value. -/
def rulV (op : Int) : Array Value := #[.string (ahd op), .string (btw op), pv ((ndP op).getD 0 0), pv ((ndP op).getD 1 0), pv ((ndP op).getD 2 0), pv ((orP op).getD 0 0), pv ((orP op).getD 1 0), pv ((orP op).getD 2 0)]

theorem out_all (op : Int) (h : op < 0 ∨ 38 ≤ op) : ahd op = ⟨#[]⟩ ∧ btw op = ⟨#[]⟩ ∧ ndP op = [] ∧ orP op = [] := by
  refine ⟨?_, ?_, ?_, ?_⟩
  · unfold ahd; repeat rw [if_neg (by omega)]
  · unfold btw; repeat rw [if_neg (by omega)]
  · unfold ndP; repeat rw [if_neg (by omega)]
  · unfold orP; repeat rw [if_neg (by omega)]

theorem rule_of (op : Int) (w : World) :
    Calls Tryd.prog 84 #[.int .i64 op] w fun e w' => e = .returned (.agg (rulV op)) ∧ Below w.heap.size w w' := by
  by_cases h : op < 0 ∨ 38 ≤ op
  · obtain ⟨h1, h2, h3, h4⟩ := out_all op h
    unfold rulV
    rw [h1, h2, h3, h4]
    exact ruleOf_out op w h
  · obtain ⟨n, rfl⟩ := Int.eq_ofNat_of_zero_le (by omega : 0 ≤ op)
    exact ruleOf_in n (by omega) _ _ _ _ _ _ _ _ w (RV_row n (by omega)) rfl rfl (pv_one _) (pv_one _) (pv_one _) (pv_one _) (pv_one _) (pv_one _)


theorem neq_fn (f : Nat) (w : World) : (binOp .neq 111 (.func (.func f) #[] #[]) .nilFunc).run Tryd.prog w = .ok (.bool true) w := by kernel_rfl
theorem neq_nil (w : World) : (binOp .neq 111 .nilFunc .nilFunc).run Tryd.prog w = .ok (.bool false) w := by kernel_rfl
attribute [go_sem] neq_fn neq_nil

set_option maxRecDepth 10000 in
set_option maxHeartbeats 1000000 in
theorem count0 (w : World) :
    Calls Tryd.prog 85 #[.agg #[.nilFunc, .nilFunc, .nilFunc]] w fun e w' => e = .returned (.int .i64 0) ∧ Below w.heap.size w w' := by
  go_enter Tryd.func85, Tryd.ntmps85
  go_wp2
  go_loopg [3] 0 (fun g i wr => ∃ n : Nat, n + g = 0 ∧ i = .int .i64 n ∧ wr = w.alloc (.cells #[.nilFunc, .nilFunc, .nilFunc] 113))
  case atStart => exact ⟨0, rfl, rfl, rfl⟩
  case round =>
    obtain ⟨n, hn, rfl, rfl⟩ := hrel
    obtain rfl : n = 0 := by omega
    · go_wp2
      go_ret
      exact ⟨rfl, by go_grown⟩

set_option maxRecDepth 10000 in
set_option maxHeartbeats 1000000 in
theorem count1 (fa : Nat) (w : World) :
    Calls Tryd.prog 85 #[.agg #[.func (.func fa) #[] #[], .nilFunc, .nilFunc]] w fun e w' => e = .returned (.int .i64 1) ∧ Below w.heap.size w w' := by
  go_enter Tryd.func85, Tryd.ntmps85
  go_wp2
  go_loopg [3] 1 (fun g i wr => ∃ n : Nat, n + g = 1 ∧ i = .int .i64 n ∧ wr = w.alloc (.cells #[.func (.func fa) #[] #[], .nilFunc, .nilFunc] 113))
  case atStart => exact ⟨0, rfl, rfl, rfl⟩
  case round =>
    obtain ⟨n, hn, rfl, rfl⟩ := hrel
    obtain rfl | rfl : n = 0 ∨ n = 1 := by omega
    · go_wp2
      go_roundg 0
      case measure => omega
      case rel => exact ⟨1, rfl, rfl, rfl⟩
    · go_wp2
      go_ret
      exact ⟨rfl, by go_grown⟩

set_option maxRecDepth 10000 in
set_option maxHeartbeats 1000000 in
theorem count2 (fa fb : Nat) (w : World) :
    Calls Tryd.prog 85 #[.agg #[.func (.func fa) #[] #[], .func (.func fb) #[] #[], .nilFunc]] w fun e w' => e = .returned (.int .i64 2) ∧ Below w.heap.size w w' := by
  go_enter Tryd.func85, Tryd.ntmps85
  go_wp2
  go_loopg [3] 2 (fun g i wr => ∃ n : Nat, n + g = 2 ∧ i = .int .i64 n ∧ wr = w.alloc (.cells #[.func (.func fa) #[] #[], .func (.func fb) #[] #[], .nilFunc] 113))
  case atStart => exact ⟨0, rfl, rfl, rfl⟩
  case round =>
    obtain ⟨n, hn, rfl, rfl⟩ := hrel
    obtain rfl | rfl | rfl : n = 0 ∨ n = 1 ∨ n = 2 := by omega
    · go_wp2
      go_roundg 1
      case measure => omega
      case rel => exact ⟨1, rfl, rfl, rfl⟩
    · go_wp2
      go_roundg 0
      case measure => omega
      case rel => exact ⟨2, rfl, rfl, rfl⟩
    · go_wp2
      go_ret
      exact ⟨rfl, by go_grown⟩

set_option maxRecDepth 10000 in
set_option maxHeartbeats 1000000 in
theorem count3 (fa fb fc : Nat) (w : World) :
    Calls Tryd.prog 85 #[.agg #[.func (.func fa) #[] #[], .func (.func fb) #[] #[], .func (.func fc) #[] #[]]] w fun e w' => e = .returned (.int .i64 3) ∧ Below w.heap.size w w' := by
  go_enter Tryd.func85, Tryd.ntmps85
  go_wp2
  go_loopg [3] 3 (fun g i wr => ∃ n : Nat, n + g = 3 ∧ i = .int .i64 n ∧ wr = w.alloc (.cells #[.func (.func fa) #[] #[], .func (.func fb) #[] #[], .func (.func fc) #[] #[]] 113))
  case atStart => exact ⟨0, rfl, rfl, rfl⟩
  case round =>
    obtain ⟨n, hn, rfl, rfl⟩ := hrel
    obtain rfl | rfl | rfl | rfl : n = 0 ∨ n = 1 ∨ n = 2 ∨ n = 3 := by omega
    · go_wp2
      go_roundg 2
      case measure => omega
      case rel => exact ⟨1, rfl, rfl, rfl⟩
    · go_wp2
      go_roundg 1
      case measure => omega
      case rel => exact ⟨2, rfl, rfl, rfl⟩
    · go_wp2
      go_roundg 0
      case measure => omega
      case rel => exact ⟨3, rfl, rfl, rfl⟩
    · go_wp2
      go_ret
      exact ⟨rfl, by go_grown⟩

end Go.Proofs.YtcihplachlokiaaDoor
