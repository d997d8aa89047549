/- A code of bytes that came in, as the frames hand it over; the walk of FnFork at every input. -/
import Derived.Test.YtlpeianinlnbeaaJ
namespace Go.Proofs.Ytlpeianinlnbeaa
open Go.RowKit
set_option linter.unusedVariables false

/-- A slice of integers that came in: nil, or a row of its capacity's cells. -/
def IsRow (k : IntKind) (w : World) (a : Option Addr) (len cap : Nat) (zs : List Int) : Prop :=
  (a = none ∧ len = 0 ∧ cap = 0 ∧ zs = []) ∨
  ∃ x, a = some x ∧ len ≤ cap ∧ cap ≤ maxLen ∧ zs.length = cap ∧ (∀ i, i < zs.length → w.cell? (x.add i) = some (.int k (zs.getD i 0))) ∧ ∀ n ∈ zs, (Lit.int k n).wf = true

theorem IsRow.code {w : World} {a : Option Addr} {len cap : Nat} {zs : List Int} (h : IsRow .u8 w a len cap zs) (hl : len ≤ 1048576) : ∃ blk off z, Code0 w a len cap blk off z := by
  rcases h with ⟨rfl, rfl, rfl, rfl⟩ | ⟨x, rfl, h1, h2, h3, hc, hw⟩
  · exact ⟨0, 0, fun _ => 0, ⟨by omega, by omega, fun h => by omega, fun j hj => by omega, fun _ => by omega⟩⟩
  · by_cases h0 : len = 0
    · subst h0
      exact ⟨0, 0, fun _ => 0, ⟨by omega, by omega, fun h => by omega, fun j hj => by omega, fun _ => by omega⟩⟩
    · obtain ⟨b, off, spot⟩ := x
      have hc0 := hc 0 (by omega)
      have hspot : spot = none := by simpa [Addr.add] using World.cell?_spot hc0
      subst hspot
      have hlt := World.block_lt_of_cell? _ _ hc0
      refine ⟨b, off, fun j => zs.getD j 0, ⟨hl, h1, fun _ => ⟨rfl, by simpa [Addr.add] using hlt⟩, fun j hj => ?_, fun j => ?_⟩⟩
      · have h := hc j (by omega)
        by_cases e : j = 0
        · subst e; simpa [Addr.add] using h
        · simpa [Addr.add, e] using h
      · by_cases hj : j < zs.length
        · have hm : zs.getD j 0 ∈ zs := by
            rw [List.getD_eq_getElem?_getD, List.getElem?_eq_getElem hj]
            exact List.getElem_mem hj
          have := bounds_u8 (hw _ hm)
          omega
        · have e : zs.getD j 0 = 0 := by rw [List.getD_eq_getElem?_getD, List.getElem?_eq_none (by omega)]; rfl
          rw [e]; omega

set_option maxHeartbeats 400000 in
theorem walk7 (a : Option Addr) (len cap : Nat) (zs : List Int) (w : World) (h : IsRow .u8 w a len cap zs) :
    Calls Try.prog 7 #[.slice a len cap] w fun e w' => e = .returned (.bool true) ∧ Below w.heap.size w w' := by
  by_cases hl : len ≤ 1048576
  · obtain ⟨blk, off, z, hc⟩ := h.code hl
    exact law7_in w hc
  · have hcap : len ≤ maxLen := by
      rcases h with ⟨_, rfl, _⟩ | ⟨_, _, h1, h2, _⟩
      · omega
      · omega
    unfold maxLen at hcap
    have i1 : (1048576 : Int) < (len : Int) := by omega
    go_enter Try.func7, Try.ntmps7
    go_wp2
    go_ret
    exact ⟨rfl, Below.refl _ _⟩
end Go.Proofs.Ytlpeianinlnbeaa
