/- ActTest of the program. -/
import Derived.Test.YtjnddfpieogpiaaGreatDoorYb
import Derived.Test.YtjnddfpieogpiaaGreatDoorYc
import Derived.Test.YtjnddfpieogpiaaGreatDoorYd
namespace Go.Proofs.YtjnddfpieogpiaaGreatDoor
open Go.RowKit Rr Ee
set_option linter.unusedVariables false

/-- What a contact says, and what it leaves. -/
noncomputable def tB (c : Array Value) (op : Int) (xs : List Arg) : Bool :=
  if op = 1 then mbit c (ag xs 0).1 (ag xs 0).2.1 else if op = 2 then !mbit c (ag xs 0).1 (ag xs 0).2.1
  else if op = 3 then mbit c (ag xs 0).1 (ag xs 0).2.1 && !wasOf c (ag xs 1).1 (ag xs 1).2.1 else if op = 4 then !mbit c (ag xs 0).1 (ag xs 0).2.1 && wasOf c (ag xs 1).1 (ag xs 1).2.1
  else if 5 ≤ op ∧ op ≤ 10 then cmpB c (op - 4) (ag xs 0).1 (ag xs 0).2.1 (ag xs 0).2.2 (ag xs 1).1 (ag xs 1).2.1 (ag xs 1).2.2 else false
def tM (c : Array Value) (op : Int) (xs : List Arg) : Array Value := if op = 3 ∨ op = 4 then remOf c (ag xs 1).1 (ag xs 1).2.1 (mbit c (ag xs 0).1 (ag xs 0).2.1) else c
theorem memOk_tM {c : Array Value} (hc : MemOk c) (op : Int) (xs : List Arg) : MemOk (tM c op xs) := by
  unfold tM; split
  · exact memOk_rem hc _ _ _
  · exact hc
theorem tB_out {c : Array Value} {op : Int} {xs : List Arg} (h : op < 1 ∨ 10 < op) : tB c op xs = false := by
  unfold tB; rw [if_neg (by omega), if_neg (by omega), if_neg (by omega), if_neg (by omega), if_neg (by omega)]
theorem tM_out {c : Array Value} {op : Int} {xs : List Arg} (h : op ≠ 3) (h' : op ≠ 4) : tM c op xs = c := by
  unfold tM; rw [if_neg (by omega)]

set_option maxRecDepth 10000 in
set_option maxHeartbeats 2000000 in
theorem impl_test (op : Int) (a : Option Addr) (len cap : Nat) (xs : List Arg) (c : Array Value) (hc : MemOk c) (w : World) (hT : KT w) (hl : len = xs.length) (h4 : len ≤ 9) (hx : Sl w a xs) :
    Calls Tryz.prog 13 #[.agg c, .agg #[.int .i64 op, .slice a len cap]] w fun e w' => e = .returned (.tuple #[.agg (tM c op xs), .bool (tB c op xs)]) ∧ Below w.heap.size w w' := by
  have HA : ∀ op', Hid (∀ W, Below w.heap.size w W → Calls Tryz.prog 105 #[.agg #[.int .i64 op', .slice a len cap]] W fun e w' => e = .returned (.agg #[.int .i64 (ag xs 0).1, .int .i64 (ag xs 0).2.1, .int .i64 (ag xs 0).2.2, .int .i64 (ag xs 1).1, .int .i64 (ag xs 1).2.1, .int .i64 (ag xs 1).2.2, .int .i64 (ag xs 2).1, .int .i64 (ag xs 2).2.1, .int .i64 (ag xs 2).2.2]) ∧ Below W.heap.size W w') := fun op' W hW => args_of op' a len cap xs W hl h4 (hx.later hW)
  have HA2 : ∀ op' W, Below w.heap.size w W → Hid (∀ W', Below W.heap.size W W' → Calls Tryz.prog 105 #[.agg #[.int .i64 op', .slice a len cap]] W' fun e w' => e = .returned (.agg #[.int .i64 (ag xs 0).1, .int .i64 (ag xs 0).2.1, .int .i64 (ag xs 0).2.2, .int .i64 (ag xs 1).1, .int .i64 (ag xs 1).2.1, .int .i64 (ag xs 1).2.2, .int .i64 (ag xs 2).1, .int .i64 (ag xs 2).2.1, .int .i64 (ag xs 2).2.2]) ∧ Below W'.heap.size W' w') := fun op' W hW W' hW' => (HA op').out W' (hW.trans (hW'.mono hW.size))

  by_cases h1 : op = 1
  · subst h1
    exact test_run 1 a len cap 145 (.agg #[.int .i64 (ag xs 0).1, .int .i64 (ag xs 0).2.1, .int .i64 (ag xs 0).2.2, .int .i64 (ag xs 1).1, .int .i64 (ag xs 1).2.1, .int .i64 (ag xs 1).2.2, .int .i64 (ag xs 2).1, .int .i64 (ag xs 2).2.1, .int .i64 (ag xs 2).2.2, .bool true]) (.agg #[.int .i64 (ag xs 0).1, .int .i64 (ag xs 0).2.1, .int .i64 (ag xs 0).2.2, .int .i64 (ag xs 1).1, .int .i64 (ag xs 1).2.1, .int .i64 (ag xs 1).2.2, .int .i64 (ag xs 2).1, .int .i64 (ag xs 2).2.1, .int .i64 (ag xs 2).2.2, .bool true]) 227 c (tM c 1 xs) hc (memOk_tM hc _ _) (tB c 1 xs) w (fun W hW => sort_1 a len cap (ag xs 0).1 (ag xs 0).2.1 (ag xs 0).2.2 (ag xs 1).1 (ag xs 1).2.1 (ag xs 1).2.2 (ag xs 2).1 (ag xs 2).2.1 (ag xs 2).2.2 W (HA2 1 W hW)) (fun W => by kernel_rfl) (enters_of Tryz.func227 (by kernel_rfl) rfl) (fun W hW => bit_true (ag xs 0).1 (ag xs 0).2.1 (ag xs 0).2.2 (ag xs 1).1 (ag xs 1).2.1 (ag xs 1).2.2 (ag xs 2).1 (ag xs 2).2.1 (ag xs 2).2.2 c hc W (hT.later hW))
  by_cases h2 : op = 2
  · subst h2
    exact test_run 2 a len cap 145 (.agg #[.int .i64 (ag xs 0).1, .int .i64 (ag xs 0).2.1, .int .i64 (ag xs 0).2.2, .int .i64 (ag xs 1).1, .int .i64 (ag xs 1).2.1, .int .i64 (ag xs 1).2.2, .int .i64 (ag xs 2).1, .int .i64 (ag xs 2).2.1, .int .i64 (ag xs 2).2.2, .bool false]) (.agg #[.int .i64 (ag xs 0).1, .int .i64 (ag xs 0).2.1, .int .i64 (ag xs 0).2.2, .int .i64 (ag xs 1).1, .int .i64 (ag xs 1).2.1, .int .i64 (ag xs 1).2.2, .int .i64 (ag xs 2).1, .int .i64 (ag xs 2).2.1, .int .i64 (ag xs 2).2.2, .bool false]) 227 c (tM c 2 xs) hc (memOk_tM hc _ _) (tB c 2 xs) w (fun W hW => sort_2 a len cap (ag xs 0).1 (ag xs 0).2.1 (ag xs 0).2.2 (ag xs 1).1 (ag xs 1).2.1 (ag xs 1).2.2 (ag xs 2).1 (ag xs 2).2.1 (ag xs 2).2.2 W (HA2 2 W hW)) (fun W => by kernel_rfl) (enters_of Tryz.func227 (by kernel_rfl) rfl) (fun W hW => bit_false (ag xs 0).1 (ag xs 0).2.1 (ag xs 0).2.2 (ag xs 1).1 (ag xs 1).2.1 (ag xs 1).2.2 (ag xs 2).1 (ag xs 2).2.1 (ag xs 2).2.2 c hc W (hT.later hW))
  by_cases h3 : op = 3
  · subst h3
    exact test_run 3 a len cap 146 (.agg #[.int .i64 (ag xs 0).1, .int .i64 (ag xs 0).2.1, .int .i64 (ag xs 0).2.2, .int .i64 (ag xs 1).1, .int .i64 (ag xs 1).2.1, .int .i64 (ag xs 1).2.2, .int .i64 (ag xs 2).1, .int .i64 (ag xs 2).2.1, .int .i64 (ag xs 2).2.2, .bool true]) (.agg #[.int .i64 (ag xs 0).1, .int .i64 (ag xs 0).2.1, .int .i64 (ag xs 0).2.2, .int .i64 (ag xs 1).1, .int .i64 (ag xs 1).2.1, .int .i64 (ag xs 1).2.2, .int .i64 (ag xs 2).1, .int .i64 (ag xs 2).2.1, .int .i64 (ag xs 2).2.2, .bool true]) 228 c (tM c 3 xs) hc (memOk_tM hc _ _) (tB c 3 xs) w (fun W hW => sort_3 a len cap (ag xs 0).1 (ag xs 0).2.1 (ag xs 0).2.2 (ag xs 1).1 (ag xs 1).2.1 (ag xs 1).2.2 (ag xs 2).1 (ag xs 2).2.1 (ag xs 2).2.2 W (HA2 3 W hW)) (fun W => by kernel_rfl) (enters_of Tryz.func228 (by kernel_rfl) rfl) (fun W hW => edgeA_true (ag xs 0).1 (ag xs 0).2.1 (ag xs 0).2.2 (ag xs 1).1 (ag xs 1).2.1 (ag xs 1).2.2 (ag xs 2).1 (ag xs 2).2.1 (ag xs 2).2.2 c hc W (hT.later hW))
  by_cases h4' : op = 4
  · subst h4'
    exact test_run 4 a len cap 146 (.agg #[.int .i64 (ag xs 0).1, .int .i64 (ag xs 0).2.1, .int .i64 (ag xs 0).2.2, .int .i64 (ag xs 1).1, .int .i64 (ag xs 1).2.1, .int .i64 (ag xs 1).2.2, .int .i64 (ag xs 2).1, .int .i64 (ag xs 2).2.1, .int .i64 (ag xs 2).2.2, .bool false]) (.agg #[.int .i64 (ag xs 0).1, .int .i64 (ag xs 0).2.1, .int .i64 (ag xs 0).2.2, .int .i64 (ag xs 1).1, .int .i64 (ag xs 1).2.1, .int .i64 (ag xs 1).2.2, .int .i64 (ag xs 2).1, .int .i64 (ag xs 2).2.1, .int .i64 (ag xs 2).2.2, .bool false]) 228 c (tM c 4 xs) hc (memOk_tM hc _ _) (tB c 4 xs) w (fun W hW => sort_4 a len cap (ag xs 0).1 (ag xs 0).2.1 (ag xs 0).2.2 (ag xs 1).1 (ag xs 1).2.1 (ag xs 1).2.2 (ag xs 2).1 (ag xs 2).2.1 (ag xs 2).2.2 W (HA2 4 W hW)) (fun W => by kernel_rfl) (enters_of Tryz.func228 (by kernel_rfl) rfl) (fun W hW => edgeA_false (ag xs 0).1 (ag xs 0).2.1 (ag xs 0).2.2 (ag xs 1).1 (ag xs 1).2.1 (ag xs 1).2.2 (ag xs 2).1 (ag xs 2).2.1 (ag xs 2).2.2 c hc W (hT.later hW))
  by_cases h5 : op = 5
  · subst h5
    exact test_run 5 a len cap 148 (.agg #[.int .i64 (ag xs 0).1, .int .i64 (ag xs 0).2.1, .int .i64 (ag xs 0).2.2, .int .i64 (ag xs 1).1, .int .i64 (ag xs 1).2.1, .int .i64 (ag xs 1).2.2, .int .i64 (ag xs 2).1, .int .i64 (ag xs 2).2.1, .int .i64 (ag xs 2).2.2, .int .i64 1]) (.agg #[.int .i64 (ag xs 0).1, .int .i64 (ag xs 0).2.1, .int .i64 (ag xs 0).2.2, .int .i64 (ag xs 1).1, .int .i64 (ag xs 1).2.1, .int .i64 (ag xs 1).2.2, .int .i64 (ag xs 2).1, .int .i64 (ag xs 2).2.1, .int .i64 (ag xs 2).2.2, .int .i64 1]) 231 c (tM c 5 xs) hc (memOk_tM hc _ _) (tB c 5 xs) w (fun W hW => sort_5 a len cap (ag xs 0).1 (ag xs 0).2.1 (ag xs 0).2.2 (ag xs 1).1 (ag xs 1).2.1 (ag xs 1).2.2 (ag xs 2).1 (ag xs 2).2.1 (ag xs 2).2.2 W (HA2 5 W hW)) (fun W => by kernel_rfl) (enters_of Tryz.func231 (by kernel_rfl) rfl) (fun W hW => cmp_all 1 (ag xs 0).1 (ag xs 0).2.1 (ag xs 0).2.2 (ag xs 1).1 (ag xs 1).2.1 (ag xs 1).2.2 (ag xs 2).1 (ag xs 2).2.1 (ag xs 2).2.2 c hc W (hT.later hW))
  by_cases h6 : op = 6
  · subst h6
    exact test_run 6 a len cap 148 (.agg #[.int .i64 (ag xs 0).1, .int .i64 (ag xs 0).2.1, .int .i64 (ag xs 0).2.2, .int .i64 (ag xs 1).1, .int .i64 (ag xs 1).2.1, .int .i64 (ag xs 1).2.2, .int .i64 (ag xs 2).1, .int .i64 (ag xs 2).2.1, .int .i64 (ag xs 2).2.2, .int .i64 2]) (.agg #[.int .i64 (ag xs 0).1, .int .i64 (ag xs 0).2.1, .int .i64 (ag xs 0).2.2, .int .i64 (ag xs 1).1, .int .i64 (ag xs 1).2.1, .int .i64 (ag xs 1).2.2, .int .i64 (ag xs 2).1, .int .i64 (ag xs 2).2.1, .int .i64 (ag xs 2).2.2, .int .i64 2]) 231 c (tM c 6 xs) hc (memOk_tM hc _ _) (tB c 6 xs) w (fun W hW => sort_6 a len cap (ag xs 0).1 (ag xs 0).2.1 (ag xs 0).2.2 (ag xs 1).1 (ag xs 1).2.1 (ag xs 1).2.2 (ag xs 2).1 (ag xs 2).2.1 (ag xs 2).2.2 W (HA2 6 W hW)) (fun W => by kernel_rfl) (enters_of Tryz.func231 (by kernel_rfl) rfl) (fun W hW => cmp_all 2 (ag xs 0).1 (ag xs 0).2.1 (ag xs 0).2.2 (ag xs 1).1 (ag xs 1).2.1 (ag xs 1).2.2 (ag xs 2).1 (ag xs 2).2.1 (ag xs 2).2.2 c hc W (hT.later hW))
  by_cases h7 : op = 7
  · subst h7
    exact test_run 7 a len cap 148 (.agg #[.int .i64 (ag xs 0).1, .int .i64 (ag xs 0).2.1, .int .i64 (ag xs 0).2.2, .int .i64 (ag xs 1).1, .int .i64 (ag xs 1).2.1, .int .i64 (ag xs 1).2.2, .int .i64 (ag xs 2).1, .int .i64 (ag xs 2).2.1, .int .i64 (ag xs 2).2.2, .int .i64 3]) (.agg #[.int .i64 (ag xs 0).1, .int .i64 (ag xs 0).2.1, .int .i64 (ag xs 0).2.2, .int .i64 (ag xs 1).1, .int .i64 (ag xs 1).2.1, .int .i64 (ag xs 1).2.2, .int .i64 (ag xs 2).1, .int .i64 (ag xs 2).2.1, .int .i64 (ag xs 2).2.2, .int .i64 3]) 231 c (tM c 7 xs) hc (memOk_tM hc _ _) (tB c 7 xs) w (fun W hW => sort_7 a len cap (ag xs 0).1 (ag xs 0).2.1 (ag xs 0).2.2 (ag xs 1).1 (ag xs 1).2.1 (ag xs 1).2.2 (ag xs 2).1 (ag xs 2).2.1 (ag xs 2).2.2 W (HA2 7 W hW)) (fun W => by kernel_rfl) (enters_of Tryz.func231 (by kernel_rfl) rfl) (fun W hW => cmp_all 3 (ag xs 0).1 (ag xs 0).2.1 (ag xs 0).2.2 (ag xs 1).1 (ag xs 1).2.1 (ag xs 1).2.2 (ag xs 2).1 (ag xs 2).2.1 (ag xs 2).2.2 c hc W (hT.later hW))
  by_cases h8 : op = 8
  · subst h8
    exact test_run 8 a len cap 148 (.agg #[.int .i64 (ag xs 0).1, .int .i64 (ag xs 0).2.1, .int .i64 (ag xs 0).2.2, .int .i64 (ag xs 1).1, .int .i64 (ag xs 1).2.1, .int .i64 (ag xs 1).2.2, .int .i64 (ag xs 2).1, .int .i64 (ag xs 2).2.1, .int .i64 (ag xs 2).2.2, .int .i64 4]) (.agg #[.int .i64 (ag xs 0).1, .int .i64 (ag xs 0).2.1, .int .i64 (ag xs 0).2.2, .int .i64 (ag xs 1).1, .int .i64 (ag xs 1).2.1, .int .i64 (ag xs 1).2.2, .int .i64 (ag xs 2).1, .int .i64 (ag xs 2).2.1, .int .i64 (ag xs 2).2.2, .int .i64 4]) 231 c (tM c 8 xs) hc (memOk_tM hc _ _) (tB c 8 xs) w (fun W hW => sort_8 a len cap (ag xs 0).1 (ag xs 0).2.1 (ag xs 0).2.2 (ag xs 1).1 (ag xs 1).2.1 (ag xs 1).2.2 (ag xs 2).1 (ag xs 2).2.1 (ag xs 2).2.2 W (HA2 8 W hW)) (fun W => by kernel_rfl) (enters_of Tryz.func231 (by kernel_rfl) rfl) (fun W hW => cmp_all 4 (ag xs 0).1 (ag xs 0).2.1 (ag xs 0).2.2 (ag xs 1).1 (ag xs 1).2.1 (ag xs 1).2.2 (ag xs 2).1 (ag xs 2).2.1 (ag xs 2).2.2 c hc W (hT.later hW))
  by_cases h9 : op = 9
  · subst h9
    exact test_run 9 a len cap 148 (.agg #[.int .i64 (ag xs 0).1, .int .i64 (ag xs 0).2.1, .int .i64 (ag xs 0).2.2, .int .i64 (ag xs 1).1, .int .i64 (ag xs 1).2.1, .int .i64 (ag xs 1).2.2, .int .i64 (ag xs 2).1, .int .i64 (ag xs 2).2.1, .int .i64 (ag xs 2).2.2, .int .i64 5]) (.agg #[.int .i64 (ag xs 0).1, .int .i64 (ag xs 0).2.1, .int .i64 (ag xs 0).2.2, .int .i64 (ag xs 1).1, .int .i64 (ag xs 1).2.1, .int .i64 (ag xs 1).2.2, .int .i64 (ag xs 2).1, .int .i64 (ag xs 2).2.1, .int .i64 (ag xs 2).2.2, .int .i64 5]) 231 c (tM c 9 xs) hc (memOk_tM hc _ _) (tB c 9 xs) w (fun W hW => sort_9 a len cap (ag xs 0).1 (ag xs 0).2.1 (ag xs 0).2.2 (ag xs 1).1 (ag xs 1).2.1 (ag xs 1).2.2 (ag xs 2).1 (ag xs 2).2.1 (ag xs 2).2.2 W (HA2 9 W hW)) (fun W => by kernel_rfl) (enters_of Tryz.func231 (by kernel_rfl) rfl) (fun W hW => cmp_all 5 (ag xs 0).1 (ag xs 0).2.1 (ag xs 0).2.2 (ag xs 1).1 (ag xs 1).2.1 (ag xs 1).2.2 (ag xs 2).1 (ag xs 2).2.1 (ag xs 2).2.2 c hc W (hT.later hW))
  by_cases h10 : op = 10
  · subst h10
    exact test_run 10 a len cap 148 (.agg #[.int .i64 (ag xs 0).1, .int .i64 (ag xs 0).2.1, .int .i64 (ag xs 0).2.2, .int .i64 (ag xs 1).1, .int .i64 (ag xs 1).2.1, .int .i64 (ag xs 1).2.2, .int .i64 (ag xs 2).1, .int .i64 (ag xs 2).2.1, .int .i64 (ag xs 2).2.2, .int .i64 6]) (.agg #[.int .i64 (ag xs 0).1, .int .i64 (ag xs 0).2.1, .int .i64 (ag xs 0).2.2, .int .i64 (ag xs 1).1, .int .i64 (ag xs 1).2.1, .int .i64 (ag xs 1).2.2, .int .i64 (ag xs 2).1, .int .i64 (ag xs 2).2.1, .int .i64 (ag xs 2).2.2, .int .i64 6]) 231 c (tM c 10 xs) hc (memOk_tM hc _ _) (tB c 10 xs) w (fun W hW => sort_10 a len cap (ag xs 0).1 (ag xs 0).2.1 (ag xs 0).2.2 (ag xs 1).1 (ag xs 1).2.1 (ag xs 1).2.2 (ag xs 2).1 (ag xs 2).2.1 (ag xs 2).2.2 W (HA2 10 W hW)) (fun W => by kernel_rfl) (enters_of Tryz.func231 (by kernel_rfl) rfl) (fun W hW => cmp_all 6 (ag xs 0).1 (ag xs 0).2.1 (ag xs 0).2.2 (ag xs 1).1 (ag xs 1).2.1 (ag xs 1).2.2 (ag xs 2).1 (ag xs 2).2.1 (ag xs 2).2.2 c hc W (hT.later hW))
  by_cases h21 : op = 21
  · subst h21
    rw [tM_out (by decide) (by decide), tB_out (by decide)]
    exact test_run 21 a len cap 150 (.agg #[.int .i64 (ag xs 0).1, .int .i64 (ag xs 0).2.1, .int .i64 (ag xs 0).2.2, .int .i64 (ag xs 1).1, .int .i64 (ag xs 1).2.1, .int .i64 (ag xs 1).2.2, .int .i64 (ag xs 2).1, .int .i64 (ag xs 2).2.1, .int .i64 (ag xs 2).2.2]) (.agg #[.int .i64 (ag xs 0).1, .int .i64 (ag xs 0).2.1, .int .i64 (ag xs 0).2.2, .int .i64 (ag xs 1).1, .int .i64 (ag xs 1).2.1, .int .i64 (ag xs 1).2.2, .int .i64 (ag xs 2).1, .int .i64 (ag xs 2).2.1, .int .i64 (ag xs 2).2.2]) 226 c c hc hc false w (fun W hW => sort_21 a len cap (ag xs 0).1 (ag xs 0).2.1 (ag xs 0).2.2 (ag xs 1).1 (ag xs 1).2.1 (ag xs 1).2.2 (ag xs 2).1 (ag xs 2).2.1 (ag xs 2).2.2 W (HA2 21 W hW)) (dull_21 (ag xs 0).1 (ag xs 0).2.1 (ag xs 0).2.2 (ag xs 1).1 (ag xs 1).2.1 (ag xs 1).2.2 (ag xs 2).1 (ag xs 2).2.1 (ag xs 2).2.2) (enters_of Tryz.func226 (by kernel_rfl) rfl) (fun W hW => dull_test (ag xs 0).1 (ag xs 0).2.1 (ag xs 0).2.2 (ag xs 1).1 (ag xs 1).2.1 (ag xs 1).2.2 (ag xs 2).1 (ag xs 2).2.1 (ag xs 2).2.2 c hc W)
  by_cases h24 : op = 24
  · subst h24
    rw [tM_out (by decide) (by decide), tB_out (by decide)]
    exact test_run 24 a len cap 151 (.agg #[.int .i64 (ag xs 0).1, .int .i64 (ag xs 0).2.1, .int .i64 (ag xs 0).2.2, .int .i64 (ag xs 1).1, .int .i64 (ag xs 1).2.1, .int .i64 (ag xs 1).2.2, .int .i64 (ag xs 2).1, .int .i64 (ag xs 2).2.1, .int .i64 (ag xs 2).2.2]) (.agg #[.int .i64 (ag xs 0).1, .int .i64 (ag xs 0).2.1, .int .i64 (ag xs 0).2.2, .int .i64 (ag xs 1).1, .int .i64 (ag xs 1).2.1, .int .i64 (ag xs 1).2.2, .int .i64 (ag xs 2).1, .int .i64 (ag xs 2).2.1, .int .i64 (ag xs 2).2.2]) 226 c c hc hc false w (fun W hW => sort_24 a len cap (ag xs 0).1 (ag xs 0).2.1 (ag xs 0).2.2 (ag xs 1).1 (ag xs 1).2.1 (ag xs 1).2.2 (ag xs 2).1 (ag xs 2).2.1 (ag xs 2).2.2 W (HA2 24 W hW)) (dull_24 (ag xs 0).1 (ag xs 0).2.1 (ag xs 0).2.2 (ag xs 1).1 (ag xs 1).2.1 (ag xs 1).2.2 (ag xs 2).1 (ag xs 2).2.1 (ag xs 2).2.2) (enters_of Tryz.func226 (by kernel_rfl) rfl) (fun W hW => dull_test (ag xs 0).1 (ag xs 0).2.1 (ag xs 0).2.2 (ag xs 1).1 (ag xs 1).2.1 (ag xs 1).2.2 (ag xs 2).1 (ag xs 2).2.1 (ag xs 2).2.2 c hc W)
  by_cases h26 : op = 26
  · subst h26
    rw [tM_out (by decide) (by decide), tB_out (by decide)]
    exact test_run 26 a len cap 152 (.agg #[.int .i64 (ag xs 0).1, .int .i64 (ag xs 0).2.1, .int .i64 (ag xs 0).2.2, .int .i64 (ag xs 1).1, .int .i64 (ag xs 1).2.1, .int .i64 (ag xs 1).2.2, .int .i64 (ag xs 2).1, .int .i64 (ag xs 2).2.1, .int .i64 (ag xs 2).2.2]) (.agg #[.int .i64 (ag xs 0).1, .int .i64 (ag xs 0).2.1, .int .i64 (ag xs 0).2.2, .int .i64 (ag xs 1).1, .int .i64 (ag xs 1).2.1, .int .i64 (ag xs 1).2.2, .int .i64 (ag xs 2).1, .int .i64 (ag xs 2).2.1, .int .i64 (ag xs 2).2.2]) 226 c c hc hc false w (fun W hW => sort_26 a len cap (ag xs 0).1 (ag xs 0).2.1 (ag xs 0).2.2 (ag xs 1).1 (ag xs 1).2.1 (ag xs 1).2.2 (ag xs 2).1 (ag xs 2).2.1 (ag xs 2).2.2 W (HA2 26 W hW)) (dull_26 (ag xs 0).1 (ag xs 0).2.1 (ag xs 0).2.2 (ag xs 1).1 (ag xs 1).2.1 (ag xs 1).2.2 (ag xs 2).1 (ag xs 2).2.1 (ag xs 2).2.2) (enters_of Tryz.func226 (by kernel_rfl) rfl) (fun W hW => dull_test (ag xs 0).1 (ag xs 0).2.1 (ag xs 0).2.2 (ag xs 1).1 (ag xs 1).2.1 (ag xs 1).2.2 (ag xs 2).1 (ag xs 2).2.1 (ag xs 2).2.2 c hc W)
  by_cases h28 : op = 28
  · subst h28
    rw [tM_out (by decide) (by decide), tB_out (by decide)]
    exact test_run 28 a len cap 153 (.agg #[.int .i64 (ag xs 0).1, .int .i64 (ag xs 0).2.1, .int .i64 (ag xs 0).2.2, .int .i64 (ag xs 1).1, .int .i64 (ag xs 1).2.1, .int .i64 (ag xs 1).2.2, .int .i64 (ag xs 2).1, .int .i64 (ag xs 2).2.1, .int .i64 (ag xs 2).2.2]) (.agg #[.int .i64 (ag xs 0).1, .int .i64 (ag xs 0).2.1, .int .i64 (ag xs 0).2.2, .int .i64 (ag xs 1).1, .int .i64 (ag xs 1).2.1, .int .i64 (ag xs 1).2.2, .int .i64 (ag xs 2).1, .int .i64 (ag xs 2).2.1, .int .i64 (ag xs 2).2.2]) 226 c c hc hc false w (fun W hW => sort_28 a len cap (ag xs 0).1 (ag xs 0).2.1 (ag xs 0).2.2 (ag xs 1).1 (ag xs 1).2.1 (ag xs 1).2.2 (ag xs 2).1 (ag xs 2).2.1 (ag xs 2).2.2 W (HA2 28 W hW)) (dull_28 (ag xs 0).1 (ag xs 0).2.1 (ag xs 0).2.2 (ag xs 1).1 (ag xs 1).2.1 (ag xs 1).2.2 (ag xs 2).1 (ag xs 2).2.1 (ag xs 2).2.2) (enters_of Tryz.func226 (by kernel_rfl) rfl) (fun W hW => dull_test (ag xs 0).1 (ag xs 0).2.1 (ag xs 0).2.2 (ag xs 1).1 (ag xs 1).2.1 (ag xs 1).2.2 (ag xs 2).1 (ag xs 2).2.1 (ag xs 2).2.2 c hc W)
  by_cases h29 : op = 29
  · subst h29
    rw [tM_out (by decide) (by decide), tB_out (by decide)]
    exact test_run 29 a len cap 154 (.agg #[.int .i64 (ag xs 0).1, .int .i64 (ag xs 0).2.1, .int .i64 (ag xs 0).2.2, .int .i64 (ag xs 1).1, .int .i64 (ag xs 1).2.1, .int .i64 (ag xs 1).2.2, .int .i64 (ag xs 2).1, .int .i64 (ag xs 2).2.1, .int .i64 (ag xs 2).2.2]) (.agg #[.int .i64 (ag xs 0).1, .int .i64 (ag xs 0).2.1, .int .i64 (ag xs 0).2.2, .int .i64 (ag xs 1).1, .int .i64 (ag xs 1).2.1, .int .i64 (ag xs 1).2.2, .int .i64 (ag xs 2).1, .int .i64 (ag xs 2).2.1, .int .i64 (ag xs 2).2.2]) 226 c c hc hc false w (fun W hW => sort_29 a len cap (ag xs 0).1 (ag xs 0).2.1 (ag xs 0).2.2 (ag xs 1).1 (ag xs 1).2.1 (ag xs 1).2.2 (ag xs 2).1 (ag xs 2).2.1 (ag xs 2).2.2 W (HA2 29 W hW)) (dull_29 (ag xs 0).1 (ag xs 0).2.1 (ag xs 0).2.2 (ag xs 1).1 (ag xs 1).2.1 (ag xs 1).2.2 (ag xs 2).1 (ag xs 2).2.1 (ag xs 2).2.2) (enters_of Tryz.func226 (by kernel_rfl) rfl) (fun W hW => dull_test (ag xs 0).1 (ag xs 0).2.1 (ag xs 0).2.2 (ag xs 1).1 (ag xs 1).2.1 (ag xs 1).2.2 (ag xs 2).1 (ag xs 2).2.1 (ag xs 2).2.2 c hc W)
  rw [tM_out h3 h4', tB_out (by omega)]
  obtain ⟨T, u, hd, hcall⟩ := driven_all op (ag xs 0).1 (ag xs 0).2.1 (ag xs 0).2.2 (ag xs 1).1 (ag xs 1).2.1 (ag xs 1).2.2 (ag xs 2).1 (ag xs 2).2.1 (ag xs 2).2.2
  exact test_run op a len cap 157 (.agg #[.iface T u]) (.agg #[.int .i64 (ag xs 0).1, .int .i64 (ag xs 0).2.1, .int .i64 (ag xs 0).2.2, .int .i64 (ag xs 1).1, .int .i64 (ag xs 1).2.1, .int .i64 (ag xs 1).2.2, .int .i64 (ag xs 2).1, .int .i64 (ag xs 2).2.1, .int .i64 (ag xs 2).2.2]) 226 c c hc hc false w (fun W hW => sort_driven op a len cap (ag xs 0).1 (ag xs 0).2.1 (ag xs 0).2.2 (ag xs 1).1 (ag xs 1).2.1 (ag xs 1).2.2 (ag xs 2).1 (ag xs 2).2.1 (ag xs 2).2.2 T u W (HA2 op W hW) ⟨h1, h2, h3, h4', h5, h6, h7, h8, h9, h10, h21, h24, h26, h28, h29⟩ hcall) hd (enters_of Tryz.func226 (by kernel_rfl) rfl) (fun W hW => dull_test (ag xs 0).1 (ag xs 0).2.1 (ag xs 0).2.2 (ag xs 1).1 (ag xs 1).2.1 (ag xs 1).2.2 (ag xs 2).1 (ag xs 2).2.1 (ag xs 2).2.2 c hc W)
end Go.Proofs.YtjnddfpieogpiaaGreatDoor
/- ActTest of the specification. -/
namespace Go.Proofs.YtjnddfpieogpiaaGreatDoor
open Go.RowKit Go.Shelf Rr Ee
set_option linter.unusedVariables false


set_option maxRecDepth 10000 in
set_option maxHeartbeats 1000000 in
theorem larg0_in (op k n p : Int) (b o' len cap : Nat) (w : World) (hi : (0 : Int) < (len : Int)) (x0 : w.cell? ⟨b, o' + 0, none⟩ = some (.int .i64 k)) (x1 : w.cell? ⟨b, o' + 0 + 1, none⟩ = some (.int .i64 n)) (x2 : w.cell? ⟨b, o' + 0 + 2, none⟩ = some (.int .i64 p)) :
    Calls Tryz.prog 40 #[.agg #[.int .i64 op, .slice (some ⟨b, o', none⟩) len cap], .int .i64 0] w fun e w' => e = .returned (.agg #[.int .i64 k, .int .i64 n, .int .i64 p]) ∧ Below w.heap.size w w' := by
  have lb := World.block_lt_of_cell? _ _ x0
  have bl : Below w.heap.size w ((w.alloc (.cells #[.int .i64 op, .slice (some ⟨b, o', none⟩) len cap] 47)).alloc (.cells #[.int .i64 0, .int .i64 0, .int .i64 0] 54)) := ((Below.refl _ _).alloc (Nat.le_refl _) _).alloc (by simp) _
  have y0 := (bl.cell (p := ⟨b, o' + 0, none⟩) lb).trans x0
  have y1 := (bl.cell (p := ⟨b, o' + 0 + 1, none⟩) lb).trans x1
  have y2 := (bl.cell (p := ⟨b, o' + 0 + 2, none⟩) lb).trans x2
  simp only [Nat.add_zero] at y0 y1 y2
  clear bl x0 x1 x2
  go_enter Tryz.func40, Tryz.ntmps40
  go_wp2
  exact bodyPost_ret (v := .agg #[.int .i64 k, .int .i64 n, .int .i64 p]) (by simp [results, Tryz.results40, go_sem]) rfl ⟨rfl, ((Below.refl _ _).alloc (Nat.le_refl _) _).alloc (by simp) _⟩

set_option maxRecDepth 10000 in
set_option maxHeartbeats 1000000 in
theorem larg0_out (op : Int) (a : Option Addr) (len cap : Nat) (w : World) (hi : ¬ (0 : Int) < (len : Int)) :
    Calls Tryz.prog 40 #[.agg #[.int .i64 op, .slice a len cap], .int .i64 0] w fun e w' => e = .returned (.agg #[.int .i64 0, .int .i64 0, .int .i64 0]) ∧ Below w.heap.size w w' := by
  go_enter Tryz.func40, Tryz.ntmps40
  go_wp2
  exact bodyPost_ret (v := .agg #[.int .i64 0, .int .i64 0, .int .i64 0]) (by simp [results, Tryz.results40, go_sem]) rfl ⟨rfl, ((Below.refl _ _).alloc (Nat.le_refl _) _).alloc (by simp) _⟩

theorem larg0 (op : Int) (a : Option Addr) (len cap : Nat) (xs : List Arg) (w : World) (hl : len = xs.length) (hx : Sl w a xs) :
    Calls Tryz.prog 40 #[.agg #[.int .i64 op, .slice a len cap], .int .i64 0] w fun e w' => e = .returned (.agg #[.int .i64 (ag xs 0).1, .int .i64 (ag xs 0).2.1, .int .i64 (ag xs 0).2.2]) ∧ Below w.heap.size w w' := by
  by_cases h : 0 < xs.length
  · obtain ⟨b, o', rfl, hy⟩ := hx.resolve_left (fun e => by rw [e] at h; simp at h)
    have e : ag xs 0 = xs[0] := by unfold ag; rw [List.getD_eq_getElem?_getD, List.getElem?_eq_getElem h]; rfl
    have hk := hy 0 _ (List.getElem?_eq_getElem h)
    rw [e]
    have q := larg0_in op xs[0].1 xs[0].2.1 xs[0].2.2 b o' len cap w (by omega) (by simpa using hk.1) (by simpa using hk.2.1) (by simpa using hk.2.2)
    exact q
  · have e : ag xs 0 = (0, 0, 0) := by unfold ag; rw [List.getD_eq_getElem?_getD, List.getElem?_eq_none (by omega)]; rfl
    rw [e]
    exact larg0_out op a len cap w (by omega)


set_option maxRecDepth 10000 in
set_option maxHeartbeats 1000000 in
theorem larg1_in (op k n p : Int) (b o' len cap : Nat) (w : World) (hi : (1 : Int) < (len : Int)) (x0 : w.cell? ⟨b, o' + 3, none⟩ = some (.int .i64 k)) (x1 : w.cell? ⟨b, o' + 3 + 1, none⟩ = some (.int .i64 n)) (x2 : w.cell? ⟨b, o' + 3 + 2, none⟩ = some (.int .i64 p)) :
    Calls Tryz.prog 40 #[.agg #[.int .i64 op, .slice (some ⟨b, o', none⟩) len cap], .int .i64 1] w fun e w' => e = .returned (.agg #[.int .i64 k, .int .i64 n, .int .i64 p]) ∧ Below w.heap.size w w' := by
  have lb := World.block_lt_of_cell? _ _ x0
  have bl : Below w.heap.size w ((w.alloc (.cells #[.int .i64 op, .slice (some ⟨b, o', none⟩) len cap] 47)).alloc (.cells #[.int .i64 0, .int .i64 0, .int .i64 0] 54)) := ((Below.refl _ _).alloc (Nat.le_refl _) _).alloc (by simp) _
  have y0 := (bl.cell (p := ⟨b, o' + 3, none⟩) lb).trans x0
  have y1 := (bl.cell (p := ⟨b, o' + 3 + 1, none⟩) lb).trans x1
  have y2 := (bl.cell (p := ⟨b, o' + 3 + 2, none⟩) lb).trans x2
  simp only [Nat.add_assoc, Nat.reduceAdd] at y1 y2
  clear bl x0 x1 x2
  go_enter Tryz.func40, Tryz.ntmps40
  go_wp2
  exact bodyPost_ret (v := .agg #[.int .i64 k, .int .i64 n, .int .i64 p]) (by simp [results, Tryz.results40, go_sem]) rfl ⟨rfl, ((Below.refl _ _).alloc (Nat.le_refl _) _).alloc (by simp) _⟩

set_option maxRecDepth 10000 in
set_option maxHeartbeats 1000000 in
theorem larg1_out (op : Int) (a : Option Addr) (len cap : Nat) (w : World) (hi : ¬ (1 : Int) < (len : Int)) :
    Calls Tryz.prog 40 #[.agg #[.int .i64 op, .slice a len cap], .int .i64 1] w fun e w' => e = .returned (.agg #[.int .i64 0, .int .i64 0, .int .i64 0]) ∧ Below w.heap.size w w' := by
  go_enter Tryz.func40, Tryz.ntmps40
  go_wp2
  exact bodyPost_ret (v := .agg #[.int .i64 0, .int .i64 0, .int .i64 0]) (by simp [results, Tryz.results40, go_sem]) rfl ⟨rfl, ((Below.refl _ _).alloc (Nat.le_refl _) _).alloc (by simp) _⟩

theorem larg1 (op : Int) (a : Option Addr) (len cap : Nat) (xs : List Arg) (w : World) (hl : len = xs.length) (hx : Sl w a xs) :
    Calls Tryz.prog 40 #[.agg #[.int .i64 op, .slice a len cap], .int .i64 1] w fun e w' => e = .returned (.agg #[.int .i64 (ag xs 1).1, .int .i64 (ag xs 1).2.1, .int .i64 (ag xs 1).2.2]) ∧ Below w.heap.size w w' := by
  by_cases h : 1 < xs.length
  · obtain ⟨b, o', rfl, hy⟩ := hx.resolve_left (fun e => by rw [e] at h; simp at h)
    have e : ag xs 1 = xs[1] := by unfold ag; rw [List.getD_eq_getElem?_getD, List.getElem?_eq_getElem h]; rfl
    have hk := hy 1 _ (List.getElem?_eq_getElem h)
    rw [e]
    have q := larg1_in op xs[1].1 xs[1].2.1 xs[1].2.2 b o' len cap w (by omega) (by simpa using hk.1) (by simpa using hk.2.1) (by simpa using hk.2.2)
    exact q
  · have e : ag xs 1 = (0, 0, 0) := by unfold ag; rw [List.getD_eq_getElem?_getD, List.getElem?_eq_none (by omega)]; rfl
    rw [e]
    exact larg1_out op a len cap w (by omega)


set_option maxHeartbeats 1000000 in
theorem isreal_s (k n p : Int) (w : World) : Calls Tryz.prog 42 #[.agg #[.int .i64 k, .int .i64 n, .int .i64 p]] w fun e w' => e = .returned (.bool (decide (k = 10 ∨ k = 12 ∨ k = 13))) ∧ Below w.heap.size w w' := by
  by_cases h10 : k = 10
  · subst h10
    go_enter Tryz.func42, Tryz.ntmps42
    go_wp2
    go_ret
    exact ⟨rfl, (Below.refl _ _).alloc (Nat.le_refl _) _⟩
  have e10 : (k == 10) = false := by simp [h10]
  by_cases h12 : k = 12
  · subst h12
    go_enter Tryz.func42, Tryz.ntmps42
    go_wp2
    go_ret
    exact ⟨rfl, (Below.refl _ _).alloc (Nat.le_refl _) _⟩
  have e12 : (k == 12) = false := by simp [h12]
  by_cases h13 : k = 13
  · subst h13
    go_enter Tryz.func42, Tryz.ntmps42
    go_wp2
    go_ret
    exact ⟨rfl, (Below.refl _ _).alloc (Nat.le_refl _) _⟩
  have e13 : (k == 13) = false := by simp [h13]
  rw [decide_eq_false (by omega)]
  clear h10 h12 h13
  go_enter Tryz.func42, Tryz.ntmps42
  go_wp2
  go_ret
  exact ⟨rfl, (Below.refl _ _).alloc (Nat.le_refl _) _⟩
end Go.Proofs.YtjnddfpieogpiaaGreatDoor
/- ActTest of the specification: bits. -/
namespace Go.Proofs.YtjnddfpieogpiaaGreatDoor
open Go.RowKit Go.Shelf Rr Ee
set_option linter.unusedVariables false


set_option maxRecDepth 10000 in
set_option maxHeartbeats 4000000 in
theorem st_1 (k n m k1 n1 m1 : Int) (a : Option Addr) (len cap : Nat) (c : Array Value) (hc : MemOk c) (w : World)
    (HA0 : Hid (∀ W, Below w.heap.size w W → Calls Tryz.prog 40 #[.agg #[.int .i64 1, .slice a len cap], .int .i64 0] W fun e w' => e = .returned (.agg #[.int .i64 k, .int .i64 n, .int .i64 m]) ∧ Below W.heap.size W w'))
    (HA1 : Hid (∀ W, Below w.heap.size w W → Calls Tryz.prog 40 #[.agg #[.int .i64 1, .slice a len cap], .int .i64 1] W fun e w' => e = .returned (.agg #[.int .i64 k1, .int .i64 n1, .int .i64 m1]) ∧ Below W.heap.size W w')) :
    Calls Tryz.prog 14 #[.agg c, .agg #[.int .i64 1, .slice a len cap]] w fun e w' => e = .returned (.tuple #[.agg c, .bool (mbit c k n)]) ∧ Below w.heap.size w w' := by
  have HC : Hid (MemOk c) := hc
  have hz := zero_mem.1
  obtain ⟨Z, HZ⟩ : ∃ Z, Hid (Z = memZero) := ⟨_, rfl⟩
  rw [← HZ.out] at hz
  have HZs : Hid (Z.size = 136) := (by rw [HZ.out, memZero_size] : Z.size = 136)
  have HI : Hid ((Tryz.prog.info? 37).map (·.size) = some c.size) := by rw [HC.out.size]; exact zero_mem.2
  obtain ⟨now, Hn⟩ : ∃ v, Hid (v = mbit c k n) := ⟨_, rfl⟩
  rw [← Hn.out]
  have HNow : Hid (∀ W, Calls Tryz.prog 16 #[.agg c, .agg #[.int .i64 k, .int .i64 n, .int .i64 m]] W fun e w' => e = .returned (.bool now) ∧ Below W.heap.size W w') := fun W => by rw [Hn.out]; exact mbit_s c HC.out k n m W
  clear Hn
  have r3 := rows3 w (.cells c 37) (.cells #[.int .i64 1, .slice a len cap] 47) (.cells Z 37)
  have bl : Below w.heap.size w (((w.alloc (.cells c 37)).alloc (.cells #[.int .i64 1, .slice a len cap] 47)).alloc (.cells Z 37)) := (((Below.refl _ _).alloc (Nat.le_refl _) _).alloc (by simp) _).alloc (by simp <;> omega) _
  have sz : (((w.alloc (.cells c 37)).alloc (.cells #[.int .i64 1, .slice a len cap] 47)).alloc (.cells Z 37)).heap.size = w.heap.size + 1 + 1 + 1 := by simp
  have HR3 : Hid ((((w.alloc (.cells c 37)).alloc (.cells #[.int .i64 1, .slice a len cap] 47)).alloc (.cells Z 37)).heap[w.heap.size]? = some (.cells c 37 (0, 0)) ∧ (((w.alloc (.cells c 37)).alloc (.cells #[.int .i64 1, .slice a len cap] 47)).alloc (.cells Z 37)).heap[w.heap.size + 1]? = some (.cells #[.int .i64 1, .slice a len cap] 47 (0, 0)) ∧ (((w.alloc (.cells c 37)).alloc (.cells #[.int .i64 1, .slice a len cap] 47)).alloc (.cells Z 37)).heap[w.heap.size + 1 + 1]? = some (.cells Z 37 (0, 0)) ∧ Below w.heap.size w (((w.alloc (.cells c 37)).alloc (.cells #[.int .i64 1, .slice a len cap] 47)).alloc (.cells Z 37)) ∧ (((w.alloc (.cells c 37)).alloc (.cells #[.int .i64 1, .slice a len cap] 47)).alloc (.cells Z 37)).heap.size = w.heap.size + 1 + 1 + 1) := ⟨r3.1, r3.2.1, r3.2.2, bl, sz⟩
  clear hc r3 bl sz
  go_enter Tryz.func14, Tryz.ntmps14
  go_wp2_with fail
  refine (HA0.out _ HR3.out.2.2.2.1).mono ?_
  rintro e w1 ⟨rfl, g1⟩
  have HR1 : Hid (w1.heap[w.heap.size]? = some (.cells c 37 (0, 0)) ∧ w1.heap[w.heap.size + 1]? = some (.cells #[.int .i64 1, .slice a len cap] 47 (0, 0)) ∧ w1.heap[w.heap.size + 1 + 1]? = some (.cells Z 37 (0, 0)) ∧ Below w.heap.size w w1 ∧ w.heap.size + 1 + 1 < w1.heap.size) := by
    have hs := HR3.out.2.2.2.2
    have hz := g1.size
    exact ⟨(g1.block _ (by omega)).trans HR3.out.1, (g1.block _ (by omega)).trans HR3.out.2.1, (g1.block _ (by omega)).trans HR3.out.2.2.1, HR3.out.2.2.2.1.trans (g1.mono HR3.out.2.2.2.1.size), by omega⟩
  have y0 : w1.cell? ⟨w.heap.size + 1, 0, none⟩ = some (.int .i64 1) := (cell_of_row _ _ _ _ _ _ HR1.out.2.1).trans rfl
  have y1 : w1.cell? ⟨w.heap.size + 1, 1, none⟩ = some (.slice a len cap) := (cell_of_row _ _ _ _ _ _ HR1.out.2.1).trans rfl
  have l1 : w.heap.size + 1 < w1.heap.size := by have := HR1.out.2.2.2.2; omega
  clear g1 HR3
  go_wp2_with fail
  refine (HA1.out _ (HR1.out.2.2.2.1.alloc HR1.out.2.2.2.1.size _)).mono ?_
  rintro e w2 ⟨rfl, g2⟩
  obtain ⟨gA, HgA⟩ : ∃ gA, Hid (gA = w1.heap.size) := ⟨_, rfl⟩
  rw [← HgA.out]
  have HR2 : Hid (w2.heap[w.heap.size]? = some (.cells c 37 (0, 0)) ∧ w2.heap[w.heap.size + 1]? = some (.cells #[.int .i64 1, .slice a len cap] 47 (0, 0)) ∧ w2.heap[w.heap.size + 1 + 1]? = some (.cells Z 37 (0, 0)) ∧ w2.heap[gA]? = some (.cells #[.int .i64 k, .int .i64 n, .int .i64 m] 54 (0, 0)) ∧ Below w.heap.size w w2 ∧ w.heap.size + 1 + 1 < gA ∧ gA < w2.heap.size) := by
    obtain ⟨q1, q2, q3, q4, q5⟩ := HR1.out
    have hg := HgA.out
    have hz := g2.size
    have hzz : (w1.alloc (.cells #[.int .i64 k, .int .i64 n, .int .i64 m] 54)).heap.size = w1.heap.size + 1 := by simp
    have al := (Below.refl w1.heap.size w1).alloc (Nat.le_refl _) (.cells #[.int .i64 k, .int .i64 n, .int .i64 m] 54)
    have bb := q4.alloc q4.size (.cells #[.int .i64 k, .int .i64 n, .int .i64 m] 54)
    refine ⟨(g2.block _ (by omega)).trans ((al.block _ (by omega)).trans q1), (g2.block _ (by omega)).trans ((al.block _ (by omega)).trans q2), (g2.block _ (by omega)).trans ((al.block _ (by omega)).trans q3), (g2.block _ (by omega)).trans (by rw [hg]; exact heap_alloc_last _ _), bb.trans (g2.mono bb.size), by omega, by omega⟩
  clear y0 y1 l1 g2 HR1 HgA
  have y0 : w2.cell? ⟨w.heap.size + 1, 0, none⟩ = some (.int .i64 1) := (cell_of_row _ _ _ _ _ _ HR2.out.2.1).trans rfl
  have l1 : w.heap.size + 1 < w2.heap.size := by have := HR2.out.2.2.2.2.2; omega
  have yA : w2.cell? ⟨gA, 0, none⟩ = some (.int .i64 k) := (cell_of_row _ _ _ _ _ _ HR2.out.2.2.2.1).trans rfl
  have yA1 : w2.cell? ⟨gA, 1, none⟩ = some (.int .i64 n) := (cell_of_row _ _ _ _ _ _ HR2.out.2.2.2.1).trans rfl
  have yA2 : w2.cell? ⟨gA, 2, none⟩ = some (.int .i64 m) := (cell_of_row _ _ _ _ _ _ HR2.out.2.2.2.1).trans rfl
  have lA : gA < w2.heap.size := HR2.out.2.2.2.2.2.2
  go_upto_region 4 with fail
  obtain ⟨gB, HgB⟩ : ∃ gB, Hid (gB = w2.heap.size) := ⟨_, rfl⟩
  rw [← HgB.out]
  have HR4 : Hid ((w2.alloc (.cells #[.int .i64 k1, .int .i64 n1, .int .i64 m1] 54)).heap[w.heap.size]? = some (.cells c 37 (0, 0)) ∧ (w2.alloc (.cells #[.int .i64 k1, .int .i64 n1, .int .i64 m1] 54)).heap[w.heap.size + 1]? = some (.cells #[.int .i64 1, .slice a len cap] 47 (0, 0)) ∧ (w2.alloc (.cells #[.int .i64 k1, .int .i64 n1, .int .i64 m1] 54)).heap[gA]? = some (.cells #[.int .i64 k, .int .i64 n, .int .i64 m] 54 (0, 0)) ∧ (w2.alloc (.cells #[.int .i64 k1, .int .i64 n1, .int .i64 m1] 54)).heap[gB]? = some (.cells #[.int .i64 k1, .int .i64 n1, .int .i64 m1] 54 (0, 0)) ∧ (w2.alloc (.cells #[.int .i64 k1, .int .i64 n1, .int .i64 m1] 54)).heap[w.heap.size + 1 + 1]? = some (.cells Z 37 (0, 0)) ∧ Below w.heap.size w (w2.alloc (.cells #[.int .i64 k1, .int .i64 n1, .int .i64 m1] 54)) ∧ w.heap.size + 1 + 1 < gA ∧ gA < gB) := by
    obtain ⟨q1, q2, q3, q5, q4, q6, q7⟩ := HR2.out
    have hg := HgB.out
    have al := (Below.refl w2.heap.size w2).alloc (Nat.le_refl _) (.cells #[.int .i64 k1, .int .i64 n1, .int .i64 m1] 54)
    exact ⟨(al.block _ (by omega)).trans q1, (al.block _ (by omega)).trans q2, (al.block _ (by omega)).trans q5, by rw [hg]; exact heap_alloc_last _ _, (al.block _ (by omega)).trans q3, q4.alloc q4.size _, q6, by omega⟩
  obtain ⟨h1, h2, hA, hB, h3, bl, la, lb⟩ := HR4.out
  have hla : Hid (w.heap.size + 1 + 1 < gA ∧ gA < gB) := ⟨la, lb⟩
  clear la lb HR4 HR2
  generalize (w2.alloc (.cells #[.int .i64 k1, .int .i64 n1, .int .i64 m1] 54)) = w0 at h1 h2 hA hB h3 bl ⊢
  clear HgB y0 l1 yA yA1 yA2 lA
  obtain ⟨S, HS⟩ : ∃ S : World → Prop, Hid (∀ W, S W ↔ (W.heap[w.heap.size]? = some (.cells c 37 (0, 0)) ∧ W.heap[w.heap.size + 1]? = some (.cells #[.int .i64 1, .slice a len cap] 47 (0, 0)) ∧ W.heap[gA]? = some (.cells #[.int .i64 k, .int .i64 n, .int .i64 m] 54 (0, 0)) ∧ W.heap[gB]? = some (.cells #[.int .i64 k1, .int .i64 n1, .int .i64 m1] 54 (0, 0)) ∧ (∃ D : Array Value, D.size = 136 ∧ W.heap[w.heap.size + 1 + 1]? = some (.cells D 37 (0, 0))) ∧ Below w.heap.size w W)) := ⟨_, fun W => Iff.rfl⟩
  have hSc : Hid (∀ W W', S W → Below W.heap.size W W' → S W') := fun W W' h g => by
    obtain ⟨q1, q2, qA, qB, ⟨D, hD, q3⟩, q4⟩ := (HS.out W).1 h
    have l3 := (Array.getElem?_eq_some_iff.1 q3).1
    have lA := (Array.getElem?_eq_some_iff.1 qA).1
    have lB := (Array.getElem?_eq_some_iff.1 qB).1
    exact (HS.out W').2 ⟨(g.block _ (by omega)).trans q1, (g.block _ (by omega)).trans q2, (g.block _ lA).trans qA, (g.block _ lB).trans qB, ⟨D, hD, (g.block _ (by omega)).trans q3⟩, q4.trans (g.mono q4.size)⟩
  refine region_cut (R := fun a' W => W.heap[w.heap.size + 1 + 1]? = some (.cells c 37 (0, 0)) ∧ Below w.heap.size w W ∧ a' = ⟨#[.agg c, .agg #[.int .i64 1, .slice a len cap], .pointer (some ⟨w.heap.size, 0, none⟩), .pointer (some ⟨w.heap.size + 1, 0, none⟩), .pointer (some ⟨w.heap.size + 1 + 1, 0, none⟩), .bool now, .pointer (some ⟨gA, 0, none⟩), .pointer (some ⟨gB, 0, none⟩), undef, undef, .agg #[.int .i64 1, .slice a len cap], .agg #[.int .i64 k, .int .i64 n, .int .i64 m], .agg #[.int .i64 1, .slice a len cap], .agg #[.int .i64 k1, .int .i64 n1, .int .i64 m1], .bool true, .pointer (some ⟨w.heap.size + 1, 0, none⟩), .int .i64 1, .bool true, .agg c, .agg c, .agg #[.int .i64 k, .int .i64 n, .int .i64 m], .bool now, undef, undef, undef, undef, undef, undef, undef, undef, undef, undef, undef, undef, undef, undef, undef, undef, undef, undef, undef, undef, undef, undef, undef, undef, undef, undef, undef, undef, undef, undef, undef, undef, undef, undef, undef, undef, undef, undef, undef, undef, undef, undef, undef, undef, undef, undef, undef, undef, undef, undef, undef, undef, undef, undef, undef, undef, undef, undef, undef, undef, undef, undef, undef, undef, undef, undef, undef, undef, undef, undef, undef, undef, undef, undef, undef, undef, undef, undef, undef, undef, undef, undef, undef, undef, undef, undef, undef], []⟩) ?_ ?_
  · have S0 : S w0.drew := (HS.out _).2 ⟨h1, h2, hA, hB, ⟨Z, HZs.out, h3⟩, bl.drew⟩
    refine wp_region_held_drew (S := S) (by kernel_rfl) S0 (fun S0 => ?_)
    show wpAnyH _ _ _ _ _ 6 #[false, false, false, false, false, false] _ _
    refine tk_load' (i := 0) rfl (by kernel_rfl) (by kernel_rfl) (by kernel_rfl) (fun _ _ _ _ h => nomatch h.1) rfl 37 _ rfl _ _ rfl (.agg c) (fun W hW => load_all ((HS.out W).1 hW).1 _ _ Tryz.underlying37 rfl HI.out) S0 #[true, false, false, false, false, false] rfl ⟨#[.agg c, .agg #[.int .i64 1, .slice a len cap], .pointer (some ⟨w.heap.size, 0, none⟩), .pointer (some ⟨w.heap.size + 1, 0, none⟩), .pointer (some ⟨w.heap.size + 1 + 1, 0, none⟩), .bool false, .pointer (some ⟨gA, 0, none⟩), .pointer (some ⟨gB, 0, none⟩), undef, undef, .agg #[.int .i64 1, .slice a len cap], .agg #[.int .i64 k, .int .i64 n, .int .i64 m], .agg #[.int .i64 1, .slice a len cap], .agg #[.int .i64 k1, .int .i64 n1, .int .i64 m1], .bool true, .pointer (some ⟨w.heap.size + 1, 0, none⟩), .int .i64 1, .bool true, .agg c, undef, undef, undef, undef, undef, undef, undef, undef, undef, undef, undef, undef, undef, undef, undef, undef, undef, undef, undef, undef, undef, undef, undef, undef, undef, undef, undef, undef, undef, undef, undef, undef, undef, undef, undef, undef, undef, undef, undef, undef, undef, undef, undef, undef, undef, undef, undef, undef, undef, undef, undef, undef, undef, undef, undef, undef, undef, undef, undef, undef, undef, undef, undef, undef, undef, undef, undef, undef, undef, undef, undef, undef, undef, undef, undef, undef, undef, undef, undef, undef, undef, undef, undef, undef, undef, undef, undef, undef, undef, undef], []⟩ rfl ?_
    refine tk_load' (i := 1) rfl (by kernel_rfl) (by kernel_rfl) (by kernel_rfl) (fun _ _ _ _ h => nomatch h.1) rfl 37 _ rfl _ _ rfl (.agg c) (fun W hW => load_all ((HS.out W).1 hW).1 _ _ Tryz.underlying37 rfl HI.out) S0 #[true, true, false, false, false, false] rfl ⟨#[.agg c, .agg #[.int .i64 1, .slice a len cap], .pointer (some ⟨w.heap.size, 0, none⟩), .pointer (some ⟨w.heap.size + 1, 0, none⟩), .pointer (some ⟨w.heap.size + 1 + 1, 0, none⟩), .bool false, .pointer (some ⟨gA, 0, none⟩), .pointer (some ⟨gB, 0, none⟩), undef, undef, .agg #[.int .i64 1, .slice a len cap], .agg #[.int .i64 k, .int .i64 n, .int .i64 m], .agg #[.int .i64 1, .slice a len cap], .agg #[.int .i64 k1, .int .i64 n1, .int .i64 m1], .bool true, .pointer (some ⟨w.heap.size + 1, 0, none⟩), .int .i64 1, .bool true, .agg c, .agg c, undef, undef, undef, undef, undef, undef, undef, undef, undef, undef, undef, undef, undef, undef, undef, undef, undef, undef, undef, undef, undef, undef, undef, undef, undef, undef, undef, undef, undef, undef, undef, undef, undef, undef, undef, undef, undef, undef, undef, undef, undef, undef, undef, undef, undef, undef, undef, undef, undef, undef, undef, undef, undef, undef, undef, undef, undef, undef, undef, undef, undef, undef, undef, undef, undef, undef, undef, undef, undef, undef, undef, undef, undef, undef, undef, undef, undef, undef, undef, undef, undef, undef, undef, undef, undef, undef, undef, undef, undef], []⟩ rfl ?_
    refine tk_load' (i := 2) rfl (by kernel_rfl) (by kernel_rfl) (by kernel_rfl) (fun _ _ _ _ h => nomatch h.1) rfl 54 _ rfl _ _ rfl (.agg #[.int .i64 k, .int .i64 n, .int .i64 m]) (fun W hW => load_all ((HS.out W).1 hW).2.2.1 _ _ Tryz.underlying54 rfl da_size) S0 #[true, true, true, false, false, false] rfl ⟨#[.agg c, .agg #[.int .i64 1, .slice a len cap], .pointer (some ⟨w.heap.size, 0, none⟩), .pointer (some ⟨w.heap.size + 1, 0, none⟩), .pointer (some ⟨w.heap.size + 1 + 1, 0, none⟩), .bool false, .pointer (some ⟨gA, 0, none⟩), .pointer (some ⟨gB, 0, none⟩), undef, undef, .agg #[.int .i64 1, .slice a len cap], .agg #[.int .i64 k, .int .i64 n, .int .i64 m], .agg #[.int .i64 1, .slice a len cap], .agg #[.int .i64 k1, .int .i64 n1, .int .i64 m1], .bool true, .pointer (some ⟨w.heap.size + 1, 0, none⟩), .int .i64 1, .bool true, .agg c, .agg c, .agg #[.int .i64 k, .int .i64 n, .int .i64 m], undef, undef, undef, undef, undef, undef, undef, undef, undef, undef, undef, undef, undef, undef, undef, undef, undef, undef, undef, undef, undef, undef, undef, undef, undef, undef, undef, undef, undef, undef, undef, undef, undef, undef, undef, undef, undef, undef, undef, undef, undef, undef, undef, undef, undef, undef, undef, undef, undef, undef, undef, undef, undef, undef, undef, undef, undef, undef, undef, undef, undef, undef, undef, undef, undef, undef, undef, undef, undef, undef, undef, undef, undef, undef, undef, undef, undef, undef, undef, undef, undef, undef, undef, undef, undef, undef, undef, undef], []⟩ rfl ?_
    refine wpAnyH_all (rs := [3]) (by kernel_rfl) (by simp) (fun i hi => ?_)
    obtain rfl := List.mem_singleton.1 hi
    refine up_fcall' rfl rfl Tryz.func16 (by kernel_rfl) (by kernel_rfl) rfl [.agg c, .agg #[.int .i64 k, .int .i64 n, .int .i64 m]] rfl #[true, true, true, true, false, false] rfl (.bool now) ⟨#[.agg c, .agg #[.int .i64 1, .slice a len cap], .pointer (some ⟨w.heap.size, 0, none⟩), .pointer (some ⟨w.heap.size + 1, 0, none⟩), .pointer (some ⟨w.heap.size + 1 + 1, 0, none⟩), .bool false, .pointer (some ⟨gA, 0, none⟩), .pointer (some ⟨gB, 0, none⟩), undef, undef, .agg #[.int .i64 1, .slice a len cap], .agg #[.int .i64 k, .int .i64 n, .int .i64 m], .agg #[.int .i64 1, .slice a len cap], .agg #[.int .i64 k1, .int .i64 n1, .int .i64 m1], .bool true, .pointer (some ⟨w.heap.size + 1, 0, none⟩), .int .i64 1, .bool true, .agg c, .agg c, .agg #[.int .i64 k, .int .i64 n, .int .i64 m], .bool now, undef, undef, undef, undef, undef, undef, undef, undef, undef, undef, undef, undef, undef, undef, undef, undef, undef, undef, undef, undef, undef, undef, undef, undef, undef, undef, undef, undef, undef, undef, undef, undef, undef, undef, undef, undef, undef, undef, undef, undef, undef, undef, undef, undef, undef, undef, undef, undef, undef, undef, undef, undef, undef, undef, undef, undef, undef, undef, undef, undef, undef, undef, undef, undef, undef, undef, undef, undef, undef, undef, undef, undef, undef, undef, undef, undef, undef, undef, undef, undef, undef, undef, undef, undef, undef, undef, undef], []⟩ rfl _ (HNow.out _) ?_
    intro w4 gw4
    have Sw4 := hSc.out _ _ S0 gw4
    refine ⟨Sw4, ?_⟩
    refine wpAnyH_all (rs := [4]) (by kernel_rfl) (by simp) (fun i hi => ?_)
    obtain rfl := List.mem_singleton.1 hi
    obtain ⟨p1, p2, pA, pB, ⟨D, hD, p3⟩, p4⟩ := (HS.out _).1 Sw4
    have S5 : S (w4.setRow (w.heap.size + 1 + 1) c) := (HS.out _).2 ⟨row_beside p1 _ (by omega) _, row_beside p2 _ (by omega) _, row_beside pA _ (by have := hla.out; omega) _, row_beside pB _ (by have := hla.out; omega) _, ⟨c, HC.out.size, row_set p3 _⟩, below_setRow p4 (by omega) _⟩
    refine up_store' rfl rfl 37 _ _ rfl _ _ rfl _ rfl _ (store_all p3 _ _ (hD.trans HC.out.size.symm) HI.out HC.out.one) S5 #[true, true, true, true, true, false] rfl ⟨#[.agg c, .agg #[.int .i64 1, .slice a len cap], .pointer (some ⟨w.heap.size, 0, none⟩), .pointer (some ⟨w.heap.size + 1, 0, none⟩), .pointer (some ⟨w.heap.size + 1 + 1, 0, none⟩), .bool false, .pointer (some ⟨gA, 0, none⟩), .pointer (some ⟨gB, 0, none⟩), undef, undef, .agg #[.int .i64 1, .slice a len cap], .agg #[.int .i64 k, .int .i64 n, .int .i64 m], .agg #[.int .i64 1, .slice a len cap], .agg #[.int .i64 k1, .int .i64 n1, .int .i64 m1], .bool true, .pointer (some ⟨w.heap.size + 1, 0, none⟩), .int .i64 1, .bool true, .agg c, .agg c, .agg #[.int .i64 k, .int .i64 n, .int .i64 m], .bool now, undef, undef, undef, undef, undef, undef, undef, undef, undef, undef, undef, undef, undef, undef, undef, undef, undef, undef, undef, undef, undef, undef, undef, undef, undef, undef, undef, undef, undef, undef, undef, undef, undef, undef, undef, undef, undef, undef, undef, undef, undef, undef, undef, undef, undef, undef, undef, undef, undef, undef, undef, undef, undef, undef, undef, undef, undef, undef, undef, undef, undef, undef, undef, undef, undef, undef, undef, undef, undef, undef, undef, undef, undef, undef, undef, undef, undef, undef, undef, undef, undef, undef, undef, undef, undef, undef, undef], []⟩ rfl ?_
    refine tk_val' (i := 5) rfl (by kernel_rfl) (by kernel_rfl) (by kernel_rfl) (fun _ _ _ _ h => nomatch h.1) rfl (.bool now) (fun W _ => by go_simp) S5 #[true, true, true, true, true, true] rfl ⟨#[.agg c, .agg #[.int .i64 1, .slice a len cap], .pointer (some ⟨w.heap.size, 0, none⟩), .pointer (some ⟨w.heap.size + 1, 0, none⟩), .pointer (some ⟨w.heap.size + 1 + 1, 0, none⟩), .bool now, .pointer (some ⟨gA, 0, none⟩), .pointer (some ⟨gB, 0, none⟩), undef, undef, .agg #[.int .i64 1, .slice a len cap], .agg #[.int .i64 k, .int .i64 n, .int .i64 m], .agg #[.int .i64 1, .slice a len cap], .agg #[.int .i64 k1, .int .i64 n1, .int .i64 m1], .bool true, .pointer (some ⟨w.heap.size + 1, 0, none⟩), .int .i64 1, .bool true, .agg c, .agg c, .agg #[.int .i64 k, .int .i64 n, .int .i64 m], .bool now, undef, undef, undef, undef, undef, undef, undef, undef, undef, undef, undef, undef, undef, undef, undef, undef, undef, undef, undef, undef, undef, undef, undef, undef, undef, undef, undef, undef, undef, undef, undef, undef, undef, undef, undef, undef, undef, undef, undef, undef, undef, undef, undef, undef, undef, undef, undef, undef, undef, undef, undef, undef, undef, undef, undef, undef, undef, undef, undef, undef, undef, undef, undef, undef, undef, undef, undef, undef, undef, undef, undef, undef, undef, undef, undef, undef, undef, undef, undef, undef, undef, undef, undef, undef, undef, undef, undef], []⟩ rfl ?_
    exact wpAnyH_done (by kernel_rfl) ⟨rfl, row_set p3 _, below_setRow p4 (by omega) _, rfl⟩ _
  clear h1 h2 hA hB h3 bl HS hSc
  rintro _ w5 ⟨k5, b5, rfl⟩
  have HL : Hid ((loadVar 37 ⟨w.heap.size + 1 + 1, 0, none⟩).run Tryz.prog w5 = .ok (.agg c) w5) := load_all k5 _ _ Tryz.underlying37 rfl HI.out
  have HB : Hid (Below w.heap.size w w5) := b5
  clear k5 b5 hz
  go_wp2_with (first | exact ret_rowV rfl rfl rfl HL.out rfl ⟨rfl, HB.out⟩ | fail)


set_option maxRecDepth 10000 in
set_option maxHeartbeats 4000000 in
theorem st_2 (k n m k1 n1 m1 : Int) (a : Option Addr) (len cap : Nat) (c : Array Value) (hc : MemOk c) (w : World)
    (HA0 : Hid (∀ W, Below w.heap.size w W → Calls Tryz.prog 40 #[.agg #[.int .i64 2, .slice a len cap], .int .i64 0] W fun e w' => e = .returned (.agg #[.int .i64 k, .int .i64 n, .int .i64 m]) ∧ Below W.heap.size W w'))
    (HA1 : Hid (∀ W, Below w.heap.size w W → Calls Tryz.prog 40 #[.agg #[.int .i64 2, .slice a len cap], .int .i64 1] W fun e w' => e = .returned (.agg #[.int .i64 k1, .int .i64 n1, .int .i64 m1]) ∧ Below W.heap.size W w')) :
    Calls Tryz.prog 14 #[.agg c, .agg #[.int .i64 2, .slice a len cap]] w fun e w' => e = .returned (.tuple #[.agg c, .bool (!mbit c k n)]) ∧ Below w.heap.size w w' := by
  have HC : Hid (MemOk c) := hc
  have hz := zero_mem.1
  obtain ⟨Z, HZ⟩ : ∃ Z, Hid (Z = memZero) := ⟨_, rfl⟩
  rw [← HZ.out] at hz
  have HZs : Hid (Z.size = 136) := (by rw [HZ.out, memZero_size] : Z.size = 136)
  have HI : Hid ((Tryz.prog.info? 37).map (·.size) = some c.size) := by rw [HC.out.size]; exact zero_mem.2
  obtain ⟨now, Hn⟩ : ∃ v, Hid (v = mbit c k n) := ⟨_, rfl⟩
  rw [← Hn.out]
  have HNow : Hid (∀ W, Calls Tryz.prog 16 #[.agg c, .agg #[.int .i64 k, .int .i64 n, .int .i64 m]] W fun e w' => e = .returned (.bool now) ∧ Below W.heap.size W w') := fun W => by rw [Hn.out]; exact mbit_s c HC.out k n m W
  clear Hn
  have r3 := rows3 w (.cells c 37) (.cells #[.int .i64 2, .slice a len cap] 47) (.cells Z 37)
  have bl : Below w.heap.size w (((w.alloc (.cells c 37)).alloc (.cells #[.int .i64 2, .slice a len cap] 47)).alloc (.cells Z 37)) := (((Below.refl _ _).alloc (Nat.le_refl _) _).alloc (by simp) _).alloc (by simp <;> omega) _
  have sz : (((w.alloc (.cells c 37)).alloc (.cells #[.int .i64 2, .slice a len cap] 47)).alloc (.cells Z 37)).heap.size = w.heap.size + 1 + 1 + 1 := by simp
  have HR3 : Hid ((((w.alloc (.cells c 37)).alloc (.cells #[.int .i64 2, .slice a len cap] 47)).alloc (.cells Z 37)).heap[w.heap.size]? = some (.cells c 37 (0, 0)) ∧ (((w.alloc (.cells c 37)).alloc (.cells #[.int .i64 2, .slice a len cap] 47)).alloc (.cells Z 37)).heap[w.heap.size + 1]? = some (.cells #[.int .i64 2, .slice a len cap] 47 (0, 0)) ∧ (((w.alloc (.cells c 37)).alloc (.cells #[.int .i64 2, .slice a len cap] 47)).alloc (.cells Z 37)).heap[w.heap.size + 1 + 1]? = some (.cells Z 37 (0, 0)) ∧ Below w.heap.size w (((w.alloc (.cells c 37)).alloc (.cells #[.int .i64 2, .slice a len cap] 47)).alloc (.cells Z 37)) ∧ (((w.alloc (.cells c 37)).alloc (.cells #[.int .i64 2, .slice a len cap] 47)).alloc (.cells Z 37)).heap.size = w.heap.size + 1 + 1 + 1) := ⟨r3.1, r3.2.1, r3.2.2, bl, sz⟩
  clear hc r3 bl sz
  go_enter Tryz.func14, Tryz.ntmps14
  go_wp2_with fail
  refine (HA0.out _ HR3.out.2.2.2.1).mono ?_
  rintro e w1 ⟨rfl, g1⟩
  have HR1 : Hid (w1.heap[w.heap.size]? = some (.cells c 37 (0, 0)) ∧ w1.heap[w.heap.size + 1]? = some (.cells #[.int .i64 2, .slice a len cap] 47 (0, 0)) ∧ w1.heap[w.heap.size + 1 + 1]? = some (.cells Z 37 (0, 0)) ∧ Below w.heap.size w w1 ∧ w.heap.size + 1 + 1 < w1.heap.size) := by
    have hs := HR3.out.2.2.2.2
    have hz := g1.size
    exact ⟨(g1.block _ (by omega)).trans HR3.out.1, (g1.block _ (by omega)).trans HR3.out.2.1, (g1.block _ (by omega)).trans HR3.out.2.2.1, HR3.out.2.2.2.1.trans (g1.mono HR3.out.2.2.2.1.size), by omega⟩
  have y0 : w1.cell? ⟨w.heap.size + 1, 0, none⟩ = some (.int .i64 2) := (cell_of_row _ _ _ _ _ _ HR1.out.2.1).trans rfl
  have y1 : w1.cell? ⟨w.heap.size + 1, 1, none⟩ = some (.slice a len cap) := (cell_of_row _ _ _ _ _ _ HR1.out.2.1).trans rfl
  have l1 : w.heap.size + 1 < w1.heap.size := by have := HR1.out.2.2.2.2; omega
  clear g1 HR3
  go_wp2_with fail
  refine (HA1.out _ (HR1.out.2.2.2.1.alloc HR1.out.2.2.2.1.size _)).mono ?_
  rintro e w2 ⟨rfl, g2⟩
  obtain ⟨gA, HgA⟩ : ∃ gA, Hid (gA = w1.heap.size) := ⟨_, rfl⟩
  rw [← HgA.out]
  have HR2 : Hid (w2.heap[w.heap.size]? = some (.cells c 37 (0, 0)) ∧ w2.heap[w.heap.size + 1]? = some (.cells #[.int .i64 2, .slice a len cap] 47 (0, 0)) ∧ w2.heap[w.heap.size + 1 + 1]? = some (.cells Z 37 (0, 0)) ∧ w2.heap[gA]? = some (.cells #[.int .i64 k, .int .i64 n, .int .i64 m] 54 (0, 0)) ∧ Below w.heap.size w w2 ∧ w.heap.size + 1 + 1 < gA ∧ gA < w2.heap.size) := by
    obtain ⟨q1, q2, q3, q4, q5⟩ := HR1.out
    have hg := HgA.out
    have hz := g2.size
    have hzz : (w1.alloc (.cells #[.int .i64 k, .int .i64 n, .int .i64 m] 54)).heap.size = w1.heap.size + 1 := by simp
    have al := (Below.refl w1.heap.size w1).alloc (Nat.le_refl _) (.cells #[.int .i64 k, .int .i64 n, .int .i64 m] 54)
    have bb := q4.alloc q4.size (.cells #[.int .i64 k, .int .i64 n, .int .i64 m] 54)
    refine ⟨(g2.block _ (by omega)).trans ((al.block _ (by omega)).trans q1), (g2.block _ (by omega)).trans ((al.block _ (by omega)).trans q2), (g2.block _ (by omega)).trans ((al.block _ (by omega)).trans q3), (g2.block _ (by omega)).trans (by rw [hg]; exact heap_alloc_last _ _), bb.trans (g2.mono bb.size), by omega, by omega⟩
  clear y0 y1 l1 g2 HR1 HgA
  have y0 : w2.cell? ⟨w.heap.size + 1, 0, none⟩ = some (.int .i64 2) := (cell_of_row _ _ _ _ _ _ HR2.out.2.1).trans rfl
  have l1 : w.heap.size + 1 < w2.heap.size := by have := HR2.out.2.2.2.2.2; omega
  have yA : w2.cell? ⟨gA, 0, none⟩ = some (.int .i64 k) := (cell_of_row _ _ _ _ _ _ HR2.out.2.2.2.1).trans rfl
  have yA1 : w2.cell? ⟨gA, 1, none⟩ = some (.int .i64 n) := (cell_of_row _ _ _ _ _ _ HR2.out.2.2.2.1).trans rfl
  have yA2 : w2.cell? ⟨gA, 2, none⟩ = some (.int .i64 m) := (cell_of_row _ _ _ _ _ _ HR2.out.2.2.2.1).trans rfl
  have lA : gA < w2.heap.size := HR2.out.2.2.2.2.2.2
  go_upto_region 6 with fail
  obtain ⟨gB, HgB⟩ : ∃ gB, Hid (gB = w2.heap.size) := ⟨_, rfl⟩
  rw [← HgB.out]
  have HR4 : Hid ((w2.alloc (.cells #[.int .i64 k1, .int .i64 n1, .int .i64 m1] 54)).heap[w.heap.size]? = some (.cells c 37 (0, 0)) ∧ (w2.alloc (.cells #[.int .i64 k1, .int .i64 n1, .int .i64 m1] 54)).heap[w.heap.size + 1]? = some (.cells #[.int .i64 2, .slice a len cap] 47 (0, 0)) ∧ (w2.alloc (.cells #[.int .i64 k1, .int .i64 n1, .int .i64 m1] 54)).heap[gA]? = some (.cells #[.int .i64 k, .int .i64 n, .int .i64 m] 54 (0, 0)) ∧ (w2.alloc (.cells #[.int .i64 k1, .int .i64 n1, .int .i64 m1] 54)).heap[gB]? = some (.cells #[.int .i64 k1, .int .i64 n1, .int .i64 m1] 54 (0, 0)) ∧ (w2.alloc (.cells #[.int .i64 k1, .int .i64 n1, .int .i64 m1] 54)).heap[w.heap.size + 1 + 1]? = some (.cells Z 37 (0, 0)) ∧ Below w.heap.size w (w2.alloc (.cells #[.int .i64 k1, .int .i64 n1, .int .i64 m1] 54)) ∧ w.heap.size + 1 + 1 < gA ∧ gA < gB) := by
    obtain ⟨q1, q2, q3, q5, q4, q6, q7⟩ := HR2.out
    have hg := HgB.out
    have al := (Below.refl w2.heap.size w2).alloc (Nat.le_refl _) (.cells #[.int .i64 k1, .int .i64 n1, .int .i64 m1] 54)
    exact ⟨(al.block _ (by omega)).trans q1, (al.block _ (by omega)).trans q2, (al.block _ (by omega)).trans q5, by rw [hg]; exact heap_alloc_last _ _, (al.block _ (by omega)).trans q3, q4.alloc q4.size _, q6, by omega⟩
  obtain ⟨h1, h2, hA, hB, h3, bl, la, lb⟩ := HR4.out
  have hla : Hid (w.heap.size + 1 + 1 < gA ∧ gA < gB) := ⟨la, lb⟩
  clear la lb HR4 HR2
  generalize (w2.alloc (.cells #[.int .i64 k1, .int .i64 n1, .int .i64 m1] 54)) = w0 at h1 h2 hA hB h3 bl ⊢
  clear HgB y0 l1 yA yA1 yA2 lA
  obtain ⟨S, HS⟩ : ∃ S : World → Prop, Hid (∀ W, S W ↔ (W.heap[w.heap.size]? = some (.cells c 37 (0, 0)) ∧ W.heap[w.heap.size + 1]? = some (.cells #[.int .i64 2, .slice a len cap] 47 (0, 0)) ∧ W.heap[gA]? = some (.cells #[.int .i64 k, .int .i64 n, .int .i64 m] 54 (0, 0)) ∧ W.heap[gB]? = some (.cells #[.int .i64 k1, .int .i64 n1, .int .i64 m1] 54 (0, 0)) ∧ (∃ D : Array Value, D.size = 136 ∧ W.heap[w.heap.size + 1 + 1]? = some (.cells D 37 (0, 0))) ∧ Below w.heap.size w W)) := ⟨_, fun W => Iff.rfl⟩
  have hSc : Hid (∀ W W', S W → Below W.heap.size W W' → S W') := fun W W' h g => by
    obtain ⟨q1, q2, qA, qB, ⟨D, hD, q3⟩, q4⟩ := (HS.out W).1 h
    have l3 := (Array.getElem?_eq_some_iff.1 q3).1
    have lA := (Array.getElem?_eq_some_iff.1 qA).1
    have lB := (Array.getElem?_eq_some_iff.1 qB).1
    exact (HS.out W').2 ⟨(g.block _ (by omega)).trans q1, (g.block _ (by omega)).trans q2, (g.block _ lA).trans qA, (g.block _ lB).trans qB, ⟨D, hD, (g.block _ (by omega)).trans q3⟩, q4.trans (g.mono q4.size)⟩
  refine region_cut (R := fun a' W => W.heap[w.heap.size + 1 + 1]? = some (.cells c 37 (0, 0)) ∧ Below w.heap.size w W ∧ a' = ⟨#[.agg c, .agg #[.int .i64 2, .slice a len cap], .pointer (some ⟨w.heap.size, 0, none⟩), .pointer (some ⟨w.heap.size + 1, 0, none⟩), .pointer (some ⟨w.heap.size + 1 + 1, 0, none⟩), .bool (!now), .pointer (some ⟨gA, 0, none⟩), .pointer (some ⟨gB, 0, none⟩), undef, undef, .agg #[.int .i64 2, .slice a len cap], .agg #[.int .i64 k, .int .i64 n, .int .i64 m], .agg #[.int .i64 2, .slice a len cap], .agg #[.int .i64 k1, .int .i64 n1, .int .i64 m1], .bool false, .pointer (some ⟨w.heap.size + 1, 0, none⟩), .int .i64 2, .bool false, undef, undef, undef, undef, .bool true, .pointer (some ⟨w.heap.size + 1, 0, none⟩), .int .i64 2, .bool true, .agg c, .agg c, .agg #[.int .i64 k, .int .i64 n, .int .i64 m], .bool now, .bool (!now), undef, undef, undef, undef, undef, undef, undef, undef, undef, undef, undef, undef, undef, undef, undef, undef, undef, undef, undef, undef, undef, undef, undef, undef, undef, undef, undef, undef, undef, undef, undef, undef, undef, undef, undef, undef, undef, undef, undef, undef, undef, undef, undef, undef, undef, undef, undef, undef, undef, undef, undef, undef, undef, undef, undef, undef, undef, undef, undef, undef, undef, undef, undef, undef, undef, undef, undef, undef, undef, undef, undef, undef, undef, undef, undef, undef, undef, undef], []⟩) ?_ ?_
  · have S0 : S w0.drew := (HS.out _).2 ⟨h1, h2, hA, hB, ⟨Z, HZs.out, h3⟩, bl.drew⟩
    refine wp_region_held_drew (S := S) (by kernel_rfl) S0 (fun S0 => ?_)
    show wpAnyH _ _ _ _ _ 7 #[false, false, false, false, false, false, false] _ _
    refine tk_load' (i := 0) rfl (by kernel_rfl) (by kernel_rfl) (by kernel_rfl) (fun _ _ _ _ h => nomatch h.1) rfl 37 _ rfl _ _ rfl (.agg c) (fun W hW => load_all ((HS.out W).1 hW).1 _ _ Tryz.underlying37 rfl HI.out) S0 #[true, false, false, false, false, false, false] rfl ⟨#[.agg c, .agg #[.int .i64 2, .slice a len cap], .pointer (some ⟨w.heap.size, 0, none⟩), .pointer (some ⟨w.heap.size + 1, 0, none⟩), .pointer (some ⟨w.heap.size + 1 + 1, 0, none⟩), .bool false, .pointer (some ⟨gA, 0, none⟩), .pointer (some ⟨gB, 0, none⟩), undef, undef, .agg #[.int .i64 2, .slice a len cap], .agg #[.int .i64 k, .int .i64 n, .int .i64 m], .agg #[.int .i64 2, .slice a len cap], .agg #[.int .i64 k1, .int .i64 n1, .int .i64 m1], .bool false, .pointer (some ⟨w.heap.size + 1, 0, none⟩), .int .i64 2, .bool false, undef, undef, undef, undef, .bool true, .pointer (some ⟨w.heap.size + 1, 0, none⟩), .int .i64 2, .bool true, .agg c, undef, undef, undef, undef, undef, undef, undef, undef, undef, undef, undef, undef, undef, undef, undef, undef, undef, undef, undef, undef, undef, undef, undef, undef, undef, undef, undef, undef, undef, undef, undef, undef, undef, undef, undef, undef, undef, undef, undef, undef, undef, undef, undef, undef, undef, undef, undef, undef, undef, undef, undef, undef, undef, undef, undef, undef, undef, undef, undef, undef, undef, undef, undef, undef, undef, undef, undef, undef, undef, undef, undef, undef, undef, undef, undef, undef, undef, undef, undef, undef, undef, undef], []⟩ rfl ?_
    refine tk_load' (i := 1) rfl (by kernel_rfl) (by kernel_rfl) (by kernel_rfl) (fun _ _ _ _ h => nomatch h.1) rfl 37 _ rfl _ _ rfl (.agg c) (fun W hW => load_all ((HS.out W).1 hW).1 _ _ Tryz.underlying37 rfl HI.out) S0 #[true, true, false, false, false, false, false] rfl ⟨#[.agg c, .agg #[.int .i64 2, .slice a len cap], .pointer (some ⟨w.heap.size, 0, none⟩), .pointer (some ⟨w.heap.size + 1, 0, none⟩), .pointer (some ⟨w.heap.size + 1 + 1, 0, none⟩), .bool false, .pointer (some ⟨gA, 0, none⟩), .pointer (some ⟨gB, 0, none⟩), undef, undef, .agg #[.int .i64 2, .slice a len cap], .agg #[.int .i64 k, .int .i64 n, .int .i64 m], .agg #[.int .i64 2, .slice a len cap], .agg #[.int .i64 k1, .int .i64 n1, .int .i64 m1], .bool false, .pointer (some ⟨w.heap.size + 1, 0, none⟩), .int .i64 2, .bool false, undef, undef, undef, undef, .bool true, .pointer (some ⟨w.heap.size + 1, 0, none⟩), .int .i64 2, .bool true, .agg c, .agg c, undef, undef, undef, undef, undef, undef, undef, undef, undef, undef, undef, undef, undef, undef, undef, undef, undef, undef, undef, undef, undef, undef, undef, undef, undef, undef, undef, undef, undef, undef, undef, undef, undef, undef, undef, undef, undef, undef, undef, undef, undef, undef, undef, undef, undef, undef, undef, undef, undef, undef, undef, undef, undef, undef, undef, undef, undef, undef, undef, undef, undef, undef, undef, undef, undef, undef, undef, undef, undef, undef, undef, undef, undef, undef, undef, undef, undef, undef, undef, undef, undef], []⟩ rfl ?_
    refine tk_load' (i := 2) rfl (by kernel_rfl) (by kernel_rfl) (by kernel_rfl) (fun _ _ _ _ h => nomatch h.1) rfl 54 _ rfl _ _ rfl (.agg #[.int .i64 k, .int .i64 n, .int .i64 m]) (fun W hW => load_all ((HS.out W).1 hW).2.2.1 _ _ Tryz.underlying54 rfl da_size) S0 #[true, true, true, false, false, false, false] rfl ⟨#[.agg c, .agg #[.int .i64 2, .slice a len cap], .pointer (some ⟨w.heap.size, 0, none⟩), .pointer (some ⟨w.heap.size + 1, 0, none⟩), .pointer (some ⟨w.heap.size + 1 + 1, 0, none⟩), .bool false, .pointer (some ⟨gA, 0, none⟩), .pointer (some ⟨gB, 0, none⟩), undef, undef, .agg #[.int .i64 2, .slice a len cap], .agg #[.int .i64 k, .int .i64 n, .int .i64 m], .agg #[.int .i64 2, .slice a len cap], .agg #[.int .i64 k1, .int .i64 n1, .int .i64 m1], .bool false, .pointer (some ⟨w.heap.size + 1, 0, none⟩), .int .i64 2, .bool false, undef, undef, undef, undef, .bool true, .pointer (some ⟨w.heap.size + 1, 0, none⟩), .int .i64 2, .bool true, .agg c, .agg c, .agg #[.int .i64 k, .int .i64 n, .int .i64 m], undef, undef, undef, undef, undef, undef, undef, undef, undef, undef, undef, undef, undef, undef, undef, undef, undef, undef, undef, undef, undef, undef, undef, undef, undef, undef, undef, undef, undef, undef, undef, undef, undef, undef, undef, undef, undef, undef, undef, undef, undef, undef, undef, undef, undef, undef, undef, undef, undef, undef, undef, undef, undef, undef, undef, undef, undef, undef, undef, undef, undef, undef, undef, undef, undef, undef, undef, undef, undef, undef, undef, undef, undef, undef, undef, undef, undef, undef, undef, undef], []⟩ rfl ?_
    refine wpAnyH_all (rs := [3]) (by kernel_rfl) (by simp) (fun i hi => ?_)
    obtain rfl := List.mem_singleton.1 hi
    refine up_fcall' rfl rfl Tryz.func16 (by kernel_rfl) (by kernel_rfl) rfl [.agg c, .agg #[.int .i64 k, .int .i64 n, .int .i64 m]] rfl #[true, true, true, true, false, false, false] rfl (.bool now) ⟨#[.agg c, .agg #[.int .i64 2, .slice a len cap], .pointer (some ⟨w.heap.size, 0, none⟩), .pointer (some ⟨w.heap.size + 1, 0, none⟩), .pointer (some ⟨w.heap.size + 1 + 1, 0, none⟩), .bool false, .pointer (some ⟨gA, 0, none⟩), .pointer (some ⟨gB, 0, none⟩), undef, undef, .agg #[.int .i64 2, .slice a len cap], .agg #[.int .i64 k, .int .i64 n, .int .i64 m], .agg #[.int .i64 2, .slice a len cap], .agg #[.int .i64 k1, .int .i64 n1, .int .i64 m1], .bool false, .pointer (some ⟨w.heap.size + 1, 0, none⟩), .int .i64 2, .bool false, undef, undef, undef, undef, .bool true, .pointer (some ⟨w.heap.size + 1, 0, none⟩), .int .i64 2, .bool true, .agg c, .agg c, .agg #[.int .i64 k, .int .i64 n, .int .i64 m], .bool now, undef, undef, undef, undef, undef, undef, undef, undef, undef, undef, undef, undef, undef, undef, undef, undef, undef, undef, undef, undef, undef, undef, undef, undef, undef, undef, undef, undef, undef, undef, undef, undef, undef, undef, undef, undef, undef, undef, undef, undef, undef, undef, undef, undef, undef, undef, undef, undef, undef, undef, undef, undef, undef, undef, undef, undef, undef, undef, undef, undef, undef, undef, undef, undef, undef, undef, undef, undef, undef, undef, undef, undef, undef, undef, undef, undef, undef, undef, undef], []⟩ rfl _ (HNow.out _) ?_
    intro w4 gw4
    have Sw4 := hSc.out _ _ S0 gw4
    refine ⟨Sw4, ?_⟩
    refine tk_val' (i := 4) rfl (by kernel_rfl) (by kernel_rfl) (by kernel_rfl) (fun _ _ _ _ h => nomatch h.1) rfl (.bool (!now)) (fun W _ => by go_simp) Sw4 #[true, true, true, true, true, false, false] rfl ⟨#[.agg c, .agg #[.int .i64 2, .slice a len cap], .pointer (some ⟨w.heap.size, 0, none⟩), .pointer (some ⟨w.heap.size + 1, 0, none⟩), .pointer (some ⟨w.heap.size + 1 + 1, 0, none⟩), .bool false, .pointer (some ⟨gA, 0, none⟩), .pointer (some ⟨gB, 0, none⟩), undef, undef, .agg #[.int .i64 2, .slice a len cap], .agg #[.int .i64 k, .int .i64 n, .int .i64 m], .agg #[.int .i64 2, .slice a len cap], .agg #[.int .i64 k1, .int .i64 n1, .int .i64 m1], .bool false, .pointer (some ⟨w.heap.size + 1, 0, none⟩), .int .i64 2, .bool false, undef, undef, undef, undef, .bool true, .pointer (some ⟨w.heap.size + 1, 0, none⟩), .int .i64 2, .bool true, .agg c, .agg c, .agg #[.int .i64 k, .int .i64 n, .int .i64 m], .bool now, .bool (!now), undef, undef, undef, undef, undef, undef, undef, undef, undef, undef, undef, undef, undef, undef, undef, undef, undef, undef, undef, undef, undef, undef, undef, undef, undef, undef, undef, undef, undef, undef, undef, undef, undef, undef, undef, undef, undef, undef, undef, undef, undef, undef, undef, undef, undef, undef, undef, undef, undef, undef, undef, undef, undef, undef, undef, undef, undef, undef, undef, undef, undef, undef, undef, undef, undef, undef, undef, undef, undef, undef, undef, undef, undef, undef, undef, undef, undef, undef], []⟩ rfl ?_
    refine wpAnyH_all (rs := [5]) (by kernel_rfl) (by simp) (fun i hi => ?_)
    obtain rfl := List.mem_singleton.1 hi
    obtain ⟨p1, p2, pA, pB, ⟨D, hD, p3⟩, p4⟩ := (HS.out _).1 Sw4
    have S5 : S (w4.setRow (w.heap.size + 1 + 1) c) := (HS.out _).2 ⟨row_beside p1 _ (by omega) _, row_beside p2 _ (by omega) _, row_beside pA _ (by have := hla.out; omega) _, row_beside pB _ (by have := hla.out; omega) _, ⟨c, HC.out.size, row_set p3 _⟩, below_setRow p4 (by omega) _⟩
    refine up_store' rfl rfl 37 _ _ rfl _ _ rfl _ rfl _ (store_all p3 _ _ (hD.trans HC.out.size.symm) HI.out HC.out.one) S5 #[true, true, true, true, true, true, false] rfl ⟨#[.agg c, .agg #[.int .i64 2, .slice a len cap], .pointer (some ⟨w.heap.size, 0, none⟩), .pointer (some ⟨w.heap.size + 1, 0, none⟩), .pointer (some ⟨w.heap.size + 1 + 1, 0, none⟩), .bool false, .pointer (some ⟨gA, 0, none⟩), .pointer (some ⟨gB, 0, none⟩), undef, undef, .agg #[.int .i64 2, .slice a len cap], .agg #[.int .i64 k, .int .i64 n, .int .i64 m], .agg #[.int .i64 2, .slice a len cap], .agg #[.int .i64 k1, .int .i64 n1, .int .i64 m1], .bool false, .pointer (some ⟨w.heap.size + 1, 0, none⟩), .int .i64 2, .bool false, undef, undef, undef, undef, .bool true, .pointer (some ⟨w.heap.size + 1, 0, none⟩), .int .i64 2, .bool true, .agg c, .agg c, .agg #[.int .i64 k, .int .i64 n, .int .i64 m], .bool now, .bool (!now), undef, undef, undef, undef, undef, undef, undef, undef, undef, undef, undef, undef, undef, undef, undef, undef, undef, undef, undef, undef, undef, undef, undef, undef, undef, undef, undef, undef, undef, undef, undef, undef, undef, undef, undef, undef, undef, undef, undef, undef, undef, undef, undef, undef, undef, undef, undef, undef, undef, undef, undef, undef, undef, undef, undef, undef, undef, undef, undef, undef, undef, undef, undef, undef, undef, undef, undef, undef, undef, undef, undef, undef, undef, undef, undef, undef, undef, undef], []⟩ rfl ?_
    refine tk_val' (i := 6) rfl (by kernel_rfl) (by kernel_rfl) (by kernel_rfl) (fun _ _ _ _ h => nomatch h.1) rfl (.bool (!now)) (fun W _ => by go_simp) S5 #[true, true, true, true, true, true, true] rfl ⟨#[.agg c, .agg #[.int .i64 2, .slice a len cap], .pointer (some ⟨w.heap.size, 0, none⟩), .pointer (some ⟨w.heap.size + 1, 0, none⟩), .pointer (some ⟨w.heap.size + 1 + 1, 0, none⟩), .bool (!now), .pointer (some ⟨gA, 0, none⟩), .pointer (some ⟨gB, 0, none⟩), undef, undef, .agg #[.int .i64 2, .slice a len cap], .agg #[.int .i64 k, .int .i64 n, .int .i64 m], .agg #[.int .i64 2, .slice a len cap], .agg #[.int .i64 k1, .int .i64 n1, .int .i64 m1], .bool false, .pointer (some ⟨w.heap.size + 1, 0, none⟩), .int .i64 2, .bool false, undef, undef, undef, undef, .bool true, .pointer (some ⟨w.heap.size + 1, 0, none⟩), .int .i64 2, .bool true, .agg c, .agg c, .agg #[.int .i64 k, .int .i64 n, .int .i64 m], .bool now, .bool (!now), undef, undef, undef, undef, undef, undef, undef, undef, undef, undef, undef, undef, undef, undef, undef, undef, undef, undef, undef, undef, undef, undef, undef, undef, undef, undef, undef, undef, undef, undef, undef, undef, undef, undef, undef, undef, undef, undef, undef, undef, undef, undef, undef, undef, undef, undef, undef, undef, undef, undef, undef, undef, undef, undef, undef, undef, undef, undef, undef, undef, undef, undef, undef, undef, undef, undef, undef, undef, undef, undef, undef, undef, undef, undef, undef, undef, undef, undef], []⟩ rfl ?_
    exact wpAnyH_done (by kernel_rfl) ⟨rfl, row_set p3 _, below_setRow p4 (by omega) _, rfl⟩ _
  clear h1 h2 hA hB h3 bl HS hSc
  rintro _ w5 ⟨k5, b5, rfl⟩
  have HL : Hid ((loadVar 37 ⟨w.heap.size + 1 + 1, 0, none⟩).run Tryz.prog w5 = .ok (.agg c) w5) := load_all k5 _ _ Tryz.underlying37 rfl HI.out
  have HB : Hid (Below w.heap.size w w5) := b5
  clear k5 b5 hz
  go_wp2_with (first | exact ret_rowV rfl rfl rfl HL.out rfl ⟨rfl, HB.out⟩ | fail)


set_option maxRecDepth 10000 in
set_option maxHeartbeats 4000000 in
theorem st_none (op k n m k1 n1 m1 : Int) (h : op < 1 ∨ 10 < op) (a : Option Addr) (len cap : Nat) (c : Array Value) (hc : MemOk c) (w : World)
    (HA0 : Hid (∀ W, Below w.heap.size w W → Calls Tryz.prog 40 #[.agg #[.int .i64 op, .slice a len cap], .int .i64 0] W fun e w' => e = .returned (.agg #[.int .i64 k, .int .i64 n, .int .i64 m]) ∧ Below W.heap.size W w'))
    (HA1 : Hid (∀ W, Below w.heap.size w W → Calls Tryz.prog 40 #[.agg #[.int .i64 op, .slice a len cap], .int .i64 1] W fun e w' => e = .returned (.agg #[.int .i64 k1, .int .i64 n1, .int .i64 m1]) ∧ Below W.heap.size W w')) :
    Calls Tryz.prog 14 #[.agg c, .agg #[.int .i64 op, .slice a len cap]] w fun e w' => e = .returned (.tuple #[.agg c, .bool (false)]) ∧ Below w.heap.size w w' := by
  have HC : Hid (MemOk c) := hc
  have hz := zero_mem.1
  obtain ⟨Z, HZ⟩ : ∃ Z, Hid (Z = memZero) := ⟨_, rfl⟩
  rw [← HZ.out] at hz
  have HZs : Hid (Z.size = 136) := (by rw [HZ.out, memZero_size] : Z.size = 136)
  have HI : Hid ((Tryz.prog.info? 37).map (·.size) = some c.size) := by rw [HC.out.size]; exact zero_mem.2
  have e1 : (op == 1) = false := by simp; omega
  have e2 : (op == 2) = false := by simp; omega
  have e3 : (op == 3) = false := by simp; omega
  have e4 : (op == 4) = false := by simp; omega
  have HO : Hid (op < 1 ∨ 10 < op) := h
  clear h
  have r3 := rows3 w (.cells c 37) (.cells #[.int .i64 op, .slice a len cap] 47) (.cells Z 37)
  have bl : Below w.heap.size w (((w.alloc (.cells c 37)).alloc (.cells #[.int .i64 op, .slice a len cap] 47)).alloc (.cells Z 37)) := (((Below.refl _ _).alloc (Nat.le_refl _) _).alloc (by simp) _).alloc (by simp <;> omega) _
  have sz : (((w.alloc (.cells c 37)).alloc (.cells #[.int .i64 op, .slice a len cap] 47)).alloc (.cells Z 37)).heap.size = w.heap.size + 1 + 1 + 1 := by simp
  have HR3 : Hid ((((w.alloc (.cells c 37)).alloc (.cells #[.int .i64 op, .slice a len cap] 47)).alloc (.cells Z 37)).heap[w.heap.size]? = some (.cells c 37 (0, 0)) ∧ (((w.alloc (.cells c 37)).alloc (.cells #[.int .i64 op, .slice a len cap] 47)).alloc (.cells Z 37)).heap[w.heap.size + 1]? = some (.cells #[.int .i64 op, .slice a len cap] 47 (0, 0)) ∧ (((w.alloc (.cells c 37)).alloc (.cells #[.int .i64 op, .slice a len cap] 47)).alloc (.cells Z 37)).heap[w.heap.size + 1 + 1]? = some (.cells Z 37 (0, 0)) ∧ Below w.heap.size w (((w.alloc (.cells c 37)).alloc (.cells #[.int .i64 op, .slice a len cap] 47)).alloc (.cells Z 37)) ∧ (((w.alloc (.cells c 37)).alloc (.cells #[.int .i64 op, .slice a len cap] 47)).alloc (.cells Z 37)).heap.size = w.heap.size + 1 + 1 + 1) := ⟨r3.1, r3.2.1, r3.2.2, bl, sz⟩
  clear hc r3 bl sz
  go_enter Tryz.func14, Tryz.ntmps14
  go_wp2_with fail
  refine (HA0.out _ HR3.out.2.2.2.1).mono ?_
  rintro e w1 ⟨rfl, g1⟩
  have HR1 : Hid (w1.heap[w.heap.size]? = some (.cells c 37 (0, 0)) ∧ w1.heap[w.heap.size + 1]? = some (.cells #[.int .i64 op, .slice a len cap] 47 (0, 0)) ∧ w1.heap[w.heap.size + 1 + 1]? = some (.cells Z 37 (0, 0)) ∧ Below w.heap.size w w1 ∧ w.heap.size + 1 + 1 < w1.heap.size) := by
    have hs := HR3.out.2.2.2.2
    have hz := g1.size
    exact ⟨(g1.block _ (by omega)).trans HR3.out.1, (g1.block _ (by omega)).trans HR3.out.2.1, (g1.block _ (by omega)).trans HR3.out.2.2.1, HR3.out.2.2.2.1.trans (g1.mono HR3.out.2.2.2.1.size), by omega⟩
  have y0 : w1.cell? ⟨w.heap.size + 1, 0, none⟩ = some (.int .i64 op) := (cell_of_row _ _ _ _ _ _ HR1.out.2.1).trans rfl
  have y1 : w1.cell? ⟨w.heap.size + 1, 1, none⟩ = some (.slice a len cap) := (cell_of_row _ _ _ _ _ _ HR1.out.2.1).trans rfl
  have l1 : w.heap.size + 1 < w1.heap.size := by have := HR1.out.2.2.2.2; omega
  clear g1 HR3
  go_wp2_with fail
  refine (HA1.out _ (HR1.out.2.2.2.1.alloc HR1.out.2.2.2.1.size _)).mono ?_
  rintro e w2 ⟨rfl, g2⟩
  obtain ⟨gA, HgA⟩ : ∃ gA, Hid (gA = w1.heap.size) := ⟨_, rfl⟩
  rw [← HgA.out]
  have HR2 : Hid (w2.heap[w.heap.size]? = some (.cells c 37 (0, 0)) ∧ w2.heap[w.heap.size + 1]? = some (.cells #[.int .i64 op, .slice a len cap] 47 (0, 0)) ∧ w2.heap[w.heap.size + 1 + 1]? = some (.cells Z 37 (0, 0)) ∧ w2.heap[gA]? = some (.cells #[.int .i64 k, .int .i64 n, .int .i64 m] 54 (0, 0)) ∧ Below w.heap.size w w2 ∧ w.heap.size + 1 + 1 < gA ∧ gA < w2.heap.size) := by
    obtain ⟨q1, q2, q3, q4, q5⟩ := HR1.out
    have hg := HgA.out
    have hz := g2.size
    have hzz : (w1.alloc (.cells #[.int .i64 k, .int .i64 n, .int .i64 m] 54)).heap.size = w1.heap.size + 1 := by simp
    have al := (Below.refl w1.heap.size w1).alloc (Nat.le_refl _) (.cells #[.int .i64 k, .int .i64 n, .int .i64 m] 54)
    have bb := q4.alloc q4.size (.cells #[.int .i64 k, .int .i64 n, .int .i64 m] 54)
    refine ⟨(g2.block _ (by omega)).trans ((al.block _ (by omega)).trans q1), (g2.block _ (by omega)).trans ((al.block _ (by omega)).trans q2), (g2.block _ (by omega)).trans ((al.block _ (by omega)).trans q3), (g2.block _ (by omega)).trans (by rw [hg]; exact heap_alloc_last _ _), bb.trans (g2.mono bb.size), by omega, by omega⟩
  clear y0 y1 l1 g2 HR1 HgA
  have y0 : w2.cell? ⟨w.heap.size + 1, 0, none⟩ = some (.int .i64 op) := (cell_of_row _ _ _ _ _ _ HR2.out.2.1).trans rfl
  have l1 : w.heap.size + 1 < w2.heap.size := by have := HR2.out.2.2.2.2.2; omega
  have yA : w2.cell? ⟨gA, 0, none⟩ = some (.int .i64 k) := (cell_of_row _ _ _ _ _ _ HR2.out.2.2.2.1).trans rfl
  have yA1 : w2.cell? ⟨gA, 1, none⟩ = some (.int .i64 n) := (cell_of_row _ _ _ _ _ _ HR2.out.2.2.2.1).trans rfl
  have yA2 : w2.cell? ⟨gA, 2, none⟩ = some (.int .i64 m) := (cell_of_row _ _ _ _ _ _ HR2.out.2.2.2.1).trans rfl
  have lA : gA < w2.heap.size := HR2.out.2.2.2.2.2.2
  have HL : Hid ((loadVar 37 ⟨w.heap.size, 0, none⟩).run Tryz.prog (w2.alloc (.cells #[.int .i64 k1, .int .i64 n1, .int .i64 m1] 54)) = .ok (.agg c) (w2.alloc (.cells #[.int .i64 k1, .int .i64 n1, .int .i64 m1] 54))) := load_all ((heap_alloc_old w2 _ (by have := HR2.out.2.2.2.2.2; omega)).trans HR2.out.1) _ _ Tryz.underlying37 rfl HI.out
  have hz3 : (w2.alloc (.cells #[.int .i64 k1, .int .i64 n1, .int .i64 m1] 54)).heap[w.heap.size + 1 + 1]? = some (.cells Z 37 (0, 0)) := (heap_alloc_old w2 _ (by have := HR2.out.2.2.2.2.2; omega)).trans HR2.out.2.2.1
  have HSt : Hid ((storeVar 37 ⟨w.heap.size + 1 + 1, 0, none⟩ (.agg c)).run Tryz.prog (w2.alloc (.cells #[.int .i64 k1, .int .i64 n1, .int .i64 m1] 54)) = .ok () ((w2.alloc (.cells #[.int .i64 k1, .int .i64 n1, .int .i64 m1] 54)).setRow (w.heap.size + 1 + 1) c)) := store_all hz3 _ _ (HZs.out.trans HC.out.size.symm) HI.out HC.out.one
  have HRt : Hid ((loadVar 37 ⟨w.heap.size + 1 + 1, 0, none⟩).run Tryz.prog ((w2.alloc (.cells #[.int .i64 k1, .int .i64 n1, .int .i64 m1] 54)).setRow (w.heap.size + 1 + 1) c) = .ok (.agg c) ((w2.alloc (.cells #[.int .i64 k1, .int .i64 n1, .int .i64 m1] 54)).setRow (w.heap.size + 1 + 1) c)) := load_all (row_set hz3 _) _ _ Tryz.underlying37 rfl HI.out
  have HB : Hid (Below w.heap.size w ((w2.alloc (.cells #[.int .i64 k1, .int .i64 n1, .int .i64 m1] 54)).setRow (w.heap.size + 1 + 1) c)) := below_setRow (HR2.out.2.2.2.2.1.alloc HR2.out.2.2.2.2.1.size _) (by omega) _
  clear hz3 hz HR2
  rcases HO.out with h | h
  · have i5 : ¬ (5 ≤ op) := by omega
    clear HO
    go_wp2_with (first | (refine wpL_load rfl 37 _ rfl _ _ rfl _ HL.out ?_) | (refine wpL_store rfl 37 _ _ rfl _ _ rfl _ rfl _ HSt.out ?_) | exact ret_rowV rfl rfl rfl HRt.out rfl ⟨rfl, HB.out⟩ | fail)
  · have i5 : 5 ≤ op := by omega
    have i10 : ¬ (op ≤ 10) := by omega
    clear HO
    go_wp2_with (first | (refine wpL_load rfl 37 _ rfl _ _ rfl _ HL.out ?_) | (refine wpL_store rfl 37 _ _ rfl _ _ rfl _ rfl _ HSt.out ?_) | exact ret_rowV rfl rfl rfl HRt.out rfl ⟨rfl, HB.out⟩ | fail)

end Go.Proofs.YtjnddfpieogpiaaGreatDoor
