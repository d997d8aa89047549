/- The law FnPicSum. -/
import Derived.Test.YtjogmhicehlboaaOnfM
import Derived.Test.YtjogmhicehlboaaSmd
namespace Go.Proofs.Ytjogmhicehlboaa
open Go.RowKit Go.Shelf
set_option linter.unusedVariables false

theorem row_bt {w : World} {a : Option Addr} {len cap : Nat} {zs : List Int} (h : Rr.IsRow .u8 w a len cap zs) : len ≤ maxLen ∧ ∃ f : Nat → Nat, (∀ j, f j < 256) ∧ Bt w a len f := by
  rcases h with ⟨rfl, rfl, rfl, rfl⟩ | ⟨x, rfl, h1, h2, h3, hc, hw⟩
  · exact ⟨Nat.zero_le _, fun _ => 0, fun _ => by show 0 < 256; omega, .inl rfl⟩
  · refine ⟨by omega, fun j => (zs.getD j 0).toNat % 256, fun j => Nat.mod_lt _ (by decide), ?_⟩
    by_cases h0 : len = 0
    · exact .inl h0
    · obtain ⟨b, off, spot⟩ := x
      have hc0 := hc 0 (by omega)
      have hspot : spot = none := by simpa [Addr.add] using World.cell?_spot hc0
      subst hspot
      have hlt := World.block_lt_of_cell? _ _ hc0
      refine .inr ⟨b, off, rfl, by simpa [Addr.add] using hlt, fun j hj => ?_⟩
      have h := hc j (by omega)
      have hm : zs.getD j 0 ∈ zs := by
        rw [List.getD_eq_getElem?_getD, List.getElem?_eq_getElem (by omega)]
        exact List.getElem_mem (by omega)
      have hb := bounds_u8 (hw _ hm)
      have e1 : (((zs.getD j 0).toNat % 256 : Nat) : Int) = zs.getD j 0 := by omega
      rw [e1]
      by_cases e : j = 0
      · subst e; simpa [Addr.add] using h
      · simpa [Addr.add, e] using h
set_option maxHeartbeats 400000 in
theorem walk_picsum (a : Option Addr) (len cap : Nat) (zs : List Int) (w : World) (h : Rr.IsRow .u8 w a len cap zs) :
    Calls Try.prog 3 #[.slice a len cap] w fun e w' => e = .returned (.bool true) ∧ Below w.heap.size w w' := by
  obtain ⟨hm, f, hf, hb⟩ := row_bt h
  unfold maxLen at hm
  by_cases hl : len ≤ 1048576
  · obtain ⟨blk, off, z, hc⟩ := h.code hl
    exact law_picsum w hl (Rr.drawsum_r w hc)
  · have i1 : (1048576 : Int) < (len : Int) := by omega
    clear h hb
    go_enter Try.func3, Try.ntmps3
    go_wp2
    go_ret
    exact ⟨rfl, Below.refl _ _⟩
end Go.Proofs.Ytjogmhicehlboaa
