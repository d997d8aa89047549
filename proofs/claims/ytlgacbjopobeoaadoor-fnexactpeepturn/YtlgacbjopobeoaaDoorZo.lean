/- ListOk, both sides; the law FnExactListOk. -/
import Derived.Test.YtlgacbjopobeoaaDoorZb
import Derived.Test.YtlgacbjopobeoaaDoorZw
import Derived.Test.YtlgacbjopobeoaaDoorEcM
import Derived.Test.YtlgacbjopobeoaaDoorDaM
import Derived.Deep.RegionWith
namespace Go.Proofs.YtlgacbjopobeoaaDoor
open Go.RowKit Go.Shelf
set_option linter.unusedVariables false

theorem sl_of {W : World} {lo : Nat} {a : Option Addr} {len cap : Nat} {xs : List ArgT} (h : ArgsIs W lo (.slice a len cap) xs) : len = xs.length ∧ Sl W a xs := by
  obtain ⟨a', cap', hv, hl, hx⟩ := h
  simp only [Value.slice.injEq] at hv
  obtain ⟨rfl, rfl, rfl⟩ := hv
  refine ⟨rfl, ?_⟩
  match xs, hx with
  | [], hx => exact .inl rfl
  | x :: r, hx =>
    obtain ⟨b, o, cs, rfl, _, _, _, _⟩ := hx 0 x rfl
    refine .inr ⟨b, o, rfl, fun j y hy => ?_⟩
    obtain ⟨b', o', cs, hb, _, _, hr, hR⟩ := hx j y hy
    simp only [Option.some.injEq, Addr.mk.injEq] at hb
    obtain ⟨rfl, rfl, _⟩ := hb
    obtain rfl : cs = _ := hR
    exact ⟨hr 0 _ rfl, hr 1 _ rfl, hr 2 _ rfl⟩

/-- An instruction that is ok. -/
def okI (c op : Int) (xs : List Arg) : Bool :=
  if c < 1 ∨ 11 < c then false else if c ≤ 3 then decide (op ≤ 10) && rtk op xs else if c = 10 then decide (21 ≤ op) && rtk op xs else decide (op = 0) && xs.isEmpty

theorem len_zero {α : Type} {xs : List α} {len : Nat} (h : len = xs.length) : decide (len = 0) = xs.isEmpty := by
  subst h; cases xs <;> simp

theorem lwd_some {c : Int} (h1 : 1 ≤ c) (h2 : c ≤ 11) : (lwd c).toList ≠ [] := by
  obtain rfl | rfl | rfl | rfl | rfl | rfl | rfl | rfl | rfl | rfl | rfl : c = 1 ∨ c = 2 ∨ c = 3 ∨ c = 4 ∨ c = 5 ∨ c = 6 ∨ c = 7 ∨ c = 8 ∨ c = 9 ∨ c = 10 ∨ c = 11 := by omega
  all_goals (decide +kernel)

end Go.Proofs.YtlgacbjopobeoaaDoor
