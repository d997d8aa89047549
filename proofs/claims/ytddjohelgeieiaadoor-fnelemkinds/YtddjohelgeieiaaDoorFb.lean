/- FnElemKinds: the mathematics. -/
import Derived.Test.YtddjohelgeieiaaDoorFa
import Derived.Test.YtddjohelgeieiaaDoorEq
namespace Go.Proofs.YtddjohelgeieiaaDoor
open Go.RowKit
set_option linter.unusedVariables false

theorem pp_okA {c : Nat} {x : Int × Int × Int} (h : pp c x = true) : okA x.1 x.2.1 x.2.2 = true := by
  cases ho : okA x.1 x.2.1 x.2.2 with
  | true => rfl
  | false => simp [pp, ho] at h
theorem tk_okA {l : List Nat} {xs : List Arg} (h : tk l xs = true) : ∀ (j : Nat) (x : Arg), xs[j]? = some x → okA x.1 x.2.1 x.2.2 = true := by
  intro j x hx
  unfold tk at h
  simp only [Bool.and_eq_true, List.all_eq_true] at h
  have hj : j < xs.length := (List.getElem?_eq_some_iff.1 hx).1
  have := h.2 j (List.mem_range.2 hj)
  have e : xs.getD j (0, 0, 0) = x := by rw [List.getD_eq_getElem?_getD, hx]; rfl
  rw [e] at this
  exact pp_okA this
theorem rtk_okA {op : Int} {xs : List Arg} (h : rtk op xs = true) : ∀ (j : Nat) (x : Arg), xs[j]? = some x → okA x.1 x.2.1 x.2.2 = true := by
  unfold rtk at h
  rcases Bool.or_eq_true _ _ ▸ h with h | h
  · exact tk_okA h
  · exact tk_okA h
theorem rtk_op {op : Int} {xs : List Arg} (h : rtk op xs = true) : (1 ≤ op ∧ op ≤ 10) ∨ (21 ≤ op ∧ op ≤ 37) := by
  by_cases hn : (1 ≤ op ∧ op ≤ 10) ∨ (21 ≤ op ∧ op ≤ 37)
  · exact hn
  · have e : ndP op = [] := by unfold ndP; repeat rw [if_neg (by omega)]
    rw [nd_none op e] at h
    cases h
theorem rtk_ndP {op : Int} {xs : List Arg} (h : rtk op xs = true) : xs.length = (ndP op).length := by
  have := (rtk_len h).1
  unfold arN at this
  omega
theorem nm_some (op : Int) (h1 : 21 ≤ op) (h2 : op ≤ 37) : (nmE op).toList.isEmpty = false := by
  rcases c17 op h1 (by omega) with rfl | rfl | rfl | rfl | rfl | rfl | rfl | rfl | rfl | rfl | rfl | rfl | rfl | rfl | rfl | rfl | rfl <;> decide +kernel
end Go.Proofs.YtddjohelgeieiaaDoor
