/- Instructions in the memory: sizes, copies, comparison. -/
import Derived.Test.YtlgacbjopobeoaaDoorGeM
namespace Go.Proofs.YtlgacbjopobeoaaDoor
open Go.RowKit
set_option linter.unusedVariables false

structure InstT where
  code : Int
  one : ElemT
def InstIs (W : World) (lo : Nat) (i : InstT) (cs : List Value) : Prop := ∃ v, cs = [.int .i64 i.code, .int .i64 i.one.op, v] ∧ RowIs W lo 3 ArgIs v i.one.args
theorem InstIs.move {W W' : World} {lo lo' : Nat} (k : Keeps lo W W') (hl : lo' ≤ lo) {e : InstT} {cs : List Value} (h : InstIs W lo e cs) : InstIs W' lo' e cs := by
  obtain ⟨v, hc, hr⟩ := h
  exact ⟨v, hc, hr.move k hl fun _ _ _ h => h⟩
abbrev InstsIs (W : World) (lo : Nat) (v : Value) (xs : List InstT) : Prop := RowIs W lo 3 (InstIs W lo) v xs
theorem instsIs_move {W W' : World} {lo lo' : Nat} (k : Keeps lo W W') (hl : lo' ≤ lo) {v : Value} {xs : List InstT} (h : InstsIs W lo v xs) : InstsIs W' lo' v xs := h.move k hl fun _ _ _ h => h.move k hl
def wI (i : InstT) : Nat := wE i.one
theorem instT_eq (i j : InstT) : (decide (i.code = j.code) && eqB i.one j.one) = true ↔ i = j := by
  rw [Bool.and_eq_true, decide_eq_true_iff, eqB_true]
  cases i; cases j; simp

end Go.Proofs.YtlgacbjopobeoaaDoor/- The heights of the two stacks behind an instruction: the program's behind. -/
namespace Go.Proofs.YtlgacbjopobeoaaDoor
open Go.RowKit
set_option linter.unusedVariables false

/-- The heights behind an instruction of a Code. -/
def bhB (b c : Int) : Int := if c = 1 then b + 1 else if c = 4 ∨ c = 5 ∨ c = 11 then b - 1 else b
def bhF (f c : Int) : Int := if c = 7 then f + 1 else if c = 9 then f - 1 else f
theorem bhB_in (b c : Int) : b - 1 ≤ bhB b c ∧ bhB b c ≤ b + 1 := by
  unfold bhB
  split
  · omega
  · split <;> omega
theorem bhF_in (f c : Int) : f - 1 ≤ bhF f c ∧ bhF f c ≤ f + 1 := by
  unfold bhF
  split
  · omega
  · split <;> omega

end Go.Proofs.YtlgacbjopobeoaaDoor
