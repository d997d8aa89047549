/- Stores as arguments: two slots, their size, compared. -/
import Derived.Test.YtfhdpafaamkipaaHkb
import Derived.Test.YtfhdpafaamkipaaHsa
namespace Go.Proofs.Ytfhdpafaamkipaa
open Go.RowKit
set_option linter.unusedVariables false
set_option linter.unusedSimpArgs false

def szR (k : Int) (na nb : Nat) : Int := if k - na < 0 then -1 else szL (k - na) nb
set_option maxHeartbeats 1000000 in
theorem sz_rom (r : RomT) (xa xb : Option Addr) (na ca nb cb : Nat) (k : Int) (w : World) (hk : 0 ≤ k ∧ k ≤ 1048576) (hna : na ≤ 9223372036854775807) (hnb : nb ≤ 9223372036854775807) :
    Calls Try.prog 24 #[romV r xa xb na ca nb cb, .int .i64 k] w fun e w' => e = .returned (.int .i64 (szR k na nb)) ∧ Below w.heap.size w w' := by
  obtain ⟨⟨am, at', ad⟩, ⟨bm, bt, bd⟩⟩ := r
  have HA : Hid (∀ W, Calls Try.prog 56 #[.agg #[.int .u8 am, .int .u8 at', .slice xa na ca], .int .i64 k] W fun e w' => e = .returned (.int .i64 (szL k na)) ∧ Below W.heap.size W w') := fun W => sz_slot am at' xa na ca k W hk hna
  unfold romV
  have k0 := heap_alloc_last w (.cells #[.int .u8 am, .int .u8 at', .slice xa na ca, .int .u8 bm, .int .u8 bt, .slice xb nb cb] 45)
  have b0 : Below w.heap.size w (w.alloc (.cells #[.int .u8 am, .int .u8 at', .slice xa na ca, .int .u8 bm, .int .u8 bt, .slice xb nb cb] 45)) := (Below.refl _ _).alloc (Nat.le_refl _) _
  go_enter Try.func24, Try.ntmps24
  go_wp2_with fail
  refine (HA.out _).mono ?_
  rintro e w1 ⟨rfl, g1⟩
  have k1 : w1.heap[w.heap.size]? = some (.cells #[.int .u8 am, .int .u8 at', .slice xa na ca, .int .u8 bm, .int .u8 bt, .slice xb nb cb] 45 (0, 0)) := (g1.block _ (by simp)).trans k0
  have b1 : Hid (Below w.heap.size w w1) := b0.trans (g1.mono b0.size)
  have c0 : w1.cell? ⟨w.heap.size, 3, none⟩ = some (.int .u8 bm) := (cell_of_row _ _ _ _ _ _ k1).trans rfl
  have c1 : w1.cell? ⟨w.heap.size, 4, none⟩ = some (.int .u8 bt) := (cell_of_row _ _ _ _ _ _ k1).trans rfl
  have c2 : w1.cell? ⟨w.heap.size, 5, none⟩ = some (.slice xb nb cb) := (cell_of_row _ _ _ _ _ _ k1).trans rfl
  clear g1 k0 k1 b0 HA
  by_cases h : k - na < 0
  · have e1 : szL k na = -1 := by unfold szL; rw [if_pos h]
    have e2 : szR k na nb = -1 := by unfold szR; rw [if_pos h]
    have E2 : Hid (szR k na nb = -1) := e2
    rw [e1]
    clear e1 e2 h
    go_wp2
    go_ret
    exact ⟨by rw [E2.out]; rfl, b1.out⟩
  · have e1 : szL k na = k - na := by unfold szL; rw [if_neg h]
    have e2 : szR k na nb = szL (k - na) nb := by unfold szR; rw [if_neg h]
    rw [e1]
    clear e1
    obtain ⟨k2, hk2⟩ : ∃ k2, k - (na : Int) = k2 := ⟨_, rfl⟩
    have hk3 : 0 ≤ k2 ∧ k2 ≤ 1048576 := by omega
    rw [hk2] at e2 ⊢
    have HB : Hid (∀ W, Calls Try.prog 56 #[.agg #[.int .u8 bm, .int .u8 bt, .slice xb nb cb], .int .i64 k2] W fun e w' => e = .returned (.int .i64 (szL k2 nb)) ∧ Below W.heap.size W w') := fun W => sz_slot bm bt xb nb cb k2 W hk3 hnb
    obtain ⟨S, HS⟩ : ∃ S, Hid (S = szL k2 nb) := ⟨_, rfl⟩
    have hS : S < 0 → S = -1 := fun h => by rw [HS.out] at h ⊢; unfold szL at h ⊢; split at h <;> split <;> omega
    have E2 : Hid (szR k na nb = S) := (e2.trans HS.out.symm : szR k na nb = S)
    rw [← HS.out] at HB
    clear HS hk2 h e2
    go_wp2_with fail
    refine (HB.out _).mono ?_
    rintro e w2 ⟨rfl, g2⟩
    have b2 : Hid (Below w.heap.size w w2) := b1.out.trans (g2.mono b1.out.size)
    clear g2 HB b1 c0 c1 c2
    by_cases h : S < 0
    · have e := hS h
      subst e
      clear hS h
      go_wp2
      go_ret
      exact ⟨by rw [E2.out]; rfl, b2.out⟩
    · clear hS
      go_wp2
      go_ret
      exact ⟨by rw [E2.out]; rfl, b2.out⟩
set_option maxRecDepth 10000 in
set_option maxHeartbeats 2000000 in
theorem eq_rom (r : RomT) (xa xb ya yb : Option Addr) (na ca nb cb ca' cb' : Nat) (f g : Nat → Nat) (w : World) (hna : na ≤ 1048576) (hnb : nb ≤ 1048576) (h1 : Bt w xa na f) (h2 : Bt w xb nb g) (h3 : Bt w ya na f) (h4 : Bt w yb nb g) :
    Calls Try.prog 28 #[romV r xa xb na ca nb cb, romV r ya yb na ca' nb cb'] w fun e w' => e = .returned (.bool true) ∧ Below w.heap.size w w' := by
  obtain ⟨⟨am, at', ad⟩, ⟨bm, bt, bd⟩⟩ := r
  have HA : Hid (∀ W, Below w.heap.size w W → Calls Try.prog 59 #[.agg #[.int .u8 am, .int .u8 at', .slice xa na ca], .agg #[.int .u8 am, .int .u8 at', .slice ya na ca']] W fun e w' => e = .returned (.bool true) ∧ Below W.heap.size W w') := fun W b => eq_slot am at' xa ya na ca ca' f W hna (h1.later b (Nat.le_refl _)) (h3.later b (Nat.le_refl _))
  have HB : Hid (∀ W, Below w.heap.size w W → Calls Try.prog 59 #[.agg #[.int .u8 bm, .int .u8 bt, .slice xb nb cb], .agg #[.int .u8 bm, .int .u8 bt, .slice yb nb cb']] W fun e w' => e = .returned (.bool true) ∧ Below W.heap.size W w') := fun W b => eq_slot bm bt xb yb nb cb cb' g W hnb (h2.later b (Nat.le_refl _)) (h4.later b (Nat.le_refl _))
  unfold romV
  have k0 := heap_alloc_last (w.alloc (.cells #[.int .u8 am, .int .u8 at', .slice xa na ca, .int .u8 bm, .int .u8 bt, .slice xb nb cb] 26)) (.cells #[.int .u8 am, .int .u8 at', .slice ya na ca', .int .u8 bm, .int .u8 bt, .slice yb nb cb'] 26)
  have j0 : ((w.alloc (.cells #[.int .u8 am, .int .u8 at', .slice xa na ca, .int .u8 bm, .int .u8 bt, .slice xb nb cb] 26)).alloc (.cells #[.int .u8 am, .int .u8 at', .slice ya na ca', .int .u8 bm, .int .u8 bt, .slice yb nb cb'] 26)).heap[w.heap.size]? = some (.cells #[.int .u8 am, .int .u8 at', .slice xa na ca, .int .u8 bm, .int .u8 bt, .slice xb nb cb] 26 (0, 0)) := (Below.heap_alloc _ _ _ (by simp)).trans (heap_alloc_last w _)
  have b0 : Below w.heap.size w ((w.alloc (.cells #[.int .u8 am, .int .u8 at', .slice xa na ca, .int .u8 bm, .int .u8 bt, .slice xb nb cb] 26)).alloc (.cells #[.int .u8 am, .int .u8 at', .slice ya na ca', .int .u8 bm, .int .u8 bt, .slice yb nb cb'] 26)) := ((Below.refl _ _).alloc (Nat.le_refl _) _).alloc (by simp) _
  rw [World.size_alloc] at k0
  have hz : ((w.alloc (.cells #[.int .u8 am, .int .u8 at', .slice xa na ca, .int .u8 bm, .int .u8 bt, .slice xb nb cb] 26)).alloc (.cells #[.int .u8 am, .int .u8 at', .slice ya na ca', .int .u8 bm, .int .u8 bt, .slice yb nb cb'] 26)).heap.size = w.heap.size + 2 := by simp
  clear h1 h2 h3 h4
  go_enter Try.func28, Try.ntmps28
  go_wp2_with fail
  refine (HA.out _ b0).mono ?_
  rintro e w1 ⟨rfl, g1⟩
  have k1 : w1.heap[w.heap.size + 1]? = some (.cells #[.int .u8 am, .int .u8 at', .slice ya na ca', .int .u8 bm, .int .u8 bt, .slice yb nb cb'] 26 (0, 0)) := (g1.block _ (by omega)).trans k0
  have j1 : w1.heap[w.heap.size]? = some (.cells #[.int .u8 am, .int .u8 at', .slice xa na ca, .int .u8 bm, .int .u8 bt, .slice xb nb cb] 26 (0, 0)) := (g1.block _ (by omega)).trans j0
  have b1 : Hid (Below w.heap.size w w1) := b0.trans (g1.mono b0.size)
  have c0 : w1.cell? ⟨w.heap.size, 3, none⟩ = some (.int .u8 bm) := (cell_of_row _ _ _ _ _ _ j1).trans rfl
  have c1 : w1.cell? ⟨w.heap.size, 4, none⟩ = some (.int .u8 bt) := (cell_of_row _ _ _ _ _ _ j1).trans rfl
  have c2 : w1.cell? ⟨w.heap.size, 5, none⟩ = some (.slice xb nb cb) := (cell_of_row _ _ _ _ _ _ j1).trans rfl
  have d0 : w1.cell? ⟨w.heap.size + 1, 3, none⟩ = some (.int .u8 bm) := (cell_of_row _ _ _ _ _ _ k1).trans rfl
  have d1 : w1.cell? ⟨w.heap.size + 1, 4, none⟩ = some (.int .u8 bt) := (cell_of_row _ _ _ _ _ _ k1).trans rfl
  have d2 : w1.cell? ⟨w.heap.size + 1, 5, none⟩ = some (.slice yb nb cb') := (cell_of_row _ _ _ _ _ _ k1).trans rfl
  clear g1 k0 k1 j0 j1 b0 HA hz
  go_wp2_with fail
  refine (HB.out w1 b1.out).mono ?_
  rintro e w2 ⟨rfl, g2⟩
  have b2 : Hid (Below w.heap.size w w2) := b1.out.trans (g2.mono b1.out.size)
  clear g2 HB b1 c0 c1 c2 d0 d1 d2
  go_wp2
  go_ret
  exact ⟨rfl, b2.out⟩
end Go.Proofs.Ytfhdpafaamkipaa
