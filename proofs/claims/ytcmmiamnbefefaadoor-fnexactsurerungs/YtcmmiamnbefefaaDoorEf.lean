/- ElemIsContact and ElemIsCoil, the program's. -/
import Derived.Test.YtcmmiamnbefefaaDoorEe
namespace Go.Proofs.YtcmmiamnbefefaaDoor
open Go.RowKit Go.Shelf
set_option linter.unusedVariables false

set_option maxRecDepth 10000 in
set_option maxHeartbeats 1000000 in
theorem impl_iscontact_run (op : Int) (RV0 : Array Value) (r : Bool) (a : Option Addr) (len cap : Nat) (w : World)
    (hR : Hid (∀ W, Below w.heap.size w W → Calls Tryd.prog 96 #[.int .i64 op] W fun e w' => e = .returned (.agg RV0) ∧ Below W.heap.size W w'))
    (hX : Hid (∀ W, Below w.heap.size w W → Calls Tryd.prog 97 #[.agg RV0, .slice a len cap] W fun e w' => e = .returned (.bool r) ∧ Below W.heap.size W w')) :
    Calls Tryd.prog 92 #[.agg #[.int .i64 op, .slice a len cap]] w fun e w' => e = .returned (.bool (decide (op ≤ 10) && r)) ∧ Below w.heap.size w w' := by
  have hb0 : Below w.heap.size w (w.alloc (.cells #[.int .i64 op, .slice a len cap] 48)) := (Below.refl _ _).alloc (Nat.le_refl _) _
  have k0 := cell_regrown (w := (w.alloc (.cells #[.int .i64 op, .slice a len cap] 48))) (a := ⟨w.heap.size, 0, none⟩) (v := .int .i64 op) (by simp)
  have k1 := cell_regrown (w := (w.alloc (.cells #[.int .i64 op, .slice a len cap] 48))) (a := ⟨w.heap.size, 1, none⟩) (v := .slice a len cap) (by simp)
  have cR : ∀ d os, Calls Tryd.prog 96 #[.int .i64 op] (Sort.grow (redrawn (w.alloc (.cells #[.int .i64 op, .slice a len cap] 48)) d) os) fun e w'' => e = .returned (.agg RV0) ∧ ∃ p : Regrown, w'' = Sort.grow (redrawn (w.alloc (.cells #[.int .i64 op, .slice a len cap] 48)) p.d) p.os :=
    fun d os => Calls.regrown_of (hR.out _ (hb0.trans ((below_regrown _ d os).mono hb0.size)))
  have cX : ∀ d os, Calls Tryd.prog 97 #[.agg RV0, .slice a len cap] (Sort.grow (redrawn (w.alloc (.cells #[.int .i64 op, .slice a len cap] 48)) d) os) fun e w'' => e = .returned (.bool r) ∧ ∃ p : Regrown, w'' = Sort.grow (redrawn (w.alloc (.cells #[.int .i64 op, .slice a len cap] 48)) p.d) p.os :=
    fun d os => Calls.regrown_of (hX.out _ (hb0.trans ((below_regrown _ d os).mono hb0.size)))
  clear hR hX
  by_cases hg : op ≤ 10
  · have ed : decide (op ≤ 10) = true := by simpa using hg
    rw [ed, Bool.true_and]
    go_enter Tryd.func92, Tryd.ntmps92
    go_upto_region 1 with fail
    refine wp_region_quiet_below (by kernel_rfl) (by kernel_rfl) ?_
    repeat (go_big_quiet_step (first | exact cR _ _ | exact cX _ _))
    refine wpQuiet_nil ?_
    intro _ hw'
    obtain ⟨⟨dq, osq⟩, hw''⟩ := hw'
    subst hw''
    go_wp2
    go_ret
    exact ⟨rfl, hb0.trans ((below_regrown _ dq osq).mono hb0.size)⟩
  · have ed : decide (op ≤ 10) = false := by simpa using hg
    rw [ed, Bool.false_and]
    go_enter Tryd.func92, Tryd.ntmps92
    go_upto_region 1 with fail
    refine wp_region_quiet_below (by kernel_rfl) (by kernel_rfl) ?_
    repeat (go_big_quiet_step (first | exact cR _ _ | exact cX _ _))
    refine wpQuiet_nil ?_
    intro _ hw'
    obtain ⟨⟨dq, osq⟩, hw''⟩ := hw'
    subst hw''
    go_wp2
    go_ret
    exact ⟨rfl, hb0.trans ((below_regrown _ dq osq).mono hb0.size)⟩

theorem impl_iscontact (op : Int) (a : Option Addr) (xs : List Arg) (len cap : Nat) (hlen : len = xs.length) (w : World) (hT : KT w) (hx : Sl w a xs) :
    Calls Tryd.prog 92 #[.agg #[.int .i64 op, .slice a len cap]] w fun e w' => e = .returned (.bool (decide (op ≤ 10) && rtk op xs)) ∧ Below w.heap.size w w' :=
  impl_iscontact_run op (rulV op) _ a len cap w (fun W _ => rule_of op W) (fun W h => rule_take op a xs len cap hlen W (hT.later h) (hx.later h))

set_option maxRecDepth 10000 in
set_option maxHeartbeats 1000000 in
theorem impl_iscoil_run (op : Int) (RV0 : Array Value) (r : Bool) (a : Option Addr) (len cap : Nat) (w : World)
    (hR : Hid (∀ W, Below w.heap.size w W → Calls Tryd.prog 96 #[.int .i64 op] W fun e w' => e = .returned (.agg RV0) ∧ Below W.heap.size W w'))
    (hX : Hid (∀ W, Below w.heap.size w W → Calls Tryd.prog 97 #[.agg RV0, .slice a len cap] W fun e w' => e = .returned (.bool r) ∧ Below W.heap.size W w')) :
    Calls Tryd.prog 93 #[.agg #[.int .i64 op, .slice a len cap]] w fun e w' => e = .returned (.bool (decide (21 ≤ op) && r)) ∧ Below w.heap.size w w' := by
  have hb0 : Below w.heap.size w (w.alloc (.cells #[.int .i64 op, .slice a len cap] 48)) := (Below.refl _ _).alloc (Nat.le_refl _) _
  have k0 := cell_regrown (w := (w.alloc (.cells #[.int .i64 op, .slice a len cap] 48))) (a := ⟨w.heap.size, 0, none⟩) (v := .int .i64 op) (by simp)
  have k1 := cell_regrown (w := (w.alloc (.cells #[.int .i64 op, .slice a len cap] 48))) (a := ⟨w.heap.size, 1, none⟩) (v := .slice a len cap) (by simp)
  have cR : ∀ d os, Calls Tryd.prog 96 #[.int .i64 op] (Sort.grow (redrawn (w.alloc (.cells #[.int .i64 op, .slice a len cap] 48)) d) os) fun e w'' => e = .returned (.agg RV0) ∧ ∃ p : Regrown, w'' = Sort.grow (redrawn (w.alloc (.cells #[.int .i64 op, .slice a len cap] 48)) p.d) p.os :=
    fun d os => Calls.regrown_of (hR.out _ (hb0.trans ((below_regrown _ d os).mono hb0.size)))
  have cX : ∀ d os, Calls Tryd.prog 97 #[.agg RV0, .slice a len cap] (Sort.grow (redrawn (w.alloc (.cells #[.int .i64 op, .slice a len cap] 48)) d) os) fun e w'' => e = .returned (.bool r) ∧ ∃ p : Regrown, w'' = Sort.grow (redrawn (w.alloc (.cells #[.int .i64 op, .slice a len cap] 48)) p.d) p.os :=
    fun d os => Calls.regrown_of (hX.out _ (hb0.trans ((below_regrown _ d os).mono hb0.size)))
  clear hR hX
  by_cases hg : 21 ≤ op
  · have ed : decide (21 ≤ op) = true := by simpa using hg
    rw [ed, Bool.true_and]
    go_enter Tryd.func93, Tryd.ntmps93
    go_upto_region 1 with fail
    refine wp_region_quiet_below (by kernel_rfl) (by kernel_rfl) ?_
    repeat (go_big_quiet_step (first | exact cR _ _ | exact cX _ _))
    refine wpQuiet_nil ?_
    intro _ hw'
    obtain ⟨⟨dq, osq⟩, hw''⟩ := hw'
    subst hw''
    go_wp2
    go_ret
    exact ⟨rfl, hb0.trans ((below_regrown _ dq osq).mono hb0.size)⟩
  · have ed : decide (21 ≤ op) = false := by simpa using hg
    rw [ed, Bool.false_and]
    go_enter Tryd.func93, Tryd.ntmps93
    go_upto_region 1 with fail
    refine wp_region_quiet_below (by kernel_rfl) (by kernel_rfl) ?_
    repeat (go_big_quiet_step (first | exact cR _ _ | exact cX _ _))
    refine wpQuiet_nil ?_
    intro _ hw'
    obtain ⟨⟨dq, osq⟩, hw''⟩ := hw'
    subst hw''
    go_wp2
    go_ret
    exact ⟨rfl, hb0.trans ((below_regrown _ dq osq).mono hb0.size)⟩

theorem impl_iscoil (op : Int) (a : Option Addr) (xs : List Arg) (len cap : Nat) (hlen : len = xs.length) (w : World) (hT : KT w) (hx : Sl w a xs) :
    Calls Tryd.prog 93 #[.agg #[.int .i64 op, .slice a len cap]] w fun e w' => e = .returned (.bool (decide (21 ≤ op) && rtk op xs)) ∧ Below w.heap.size w w' :=
  impl_iscoil_run op (rulV op) _ a len cap w (fun W _ => rule_of op W) (fun W h => rule_take op a xs len cap hlen W (hT.later h) (hx.later h))
end Go.Proofs.YtcmmiamnbefefaaDoor

