/- What a store keeps, of the specification. -/
import Derived.Test.YtfhdpafaamkipaaHby
namespace Go.Proofs.Ytfhdpafaamkipaa
open Go.RowKit
set_option linter.unusedVariables false
set_option linter.unusedSimpArgs false

/-- What HoldNow answers. -/
def NowR (r : RomT) (w : World) (e : Ending) (w' : World) : Prop :=
  ∃ (a : Option Addr) (n c : Nat), e = .returned (.tuple #[.slice a n c, .bool (nowT r).2]) ∧ n = (nowT r).1.length ∧ OwB w' w.heap.size (.slice a n c) (nowT r).1 ∧ Below w.heap.size w w'
set_option maxRecDepth 10000 in
set_option maxHeartbeats 2000000 in
theorem hnow_s (r : RomT) (xa xb : Option Addr) (na ca nb cb : Nat) (w : World) (h : RomOk r na nb) (hna : na ≤ 1048576) (hnb : nb ≤ 1048576) (ha : Bt w xa na (fL r.a.data)) (hb : Bt w xb nb (fL r.b.data)) :
    Calls Try.prog 13 #[romV r xa xb na ca nb cb] w fun e w' => NowR r w e w' := by
  have HN : Hid (∀ W, Calls Try.prog 19 #[romV r xa xb na ca nb cb] W fun e w' => e = .returned (.int .i64 (snowT r)) ∧ Below W.heap.size W w') := fun W => snow_s r xa xb na ca nb cb W h
  have HA : Hid (∀ W, Below w.heap.size w W → Calls Try.prog 43 #[.slice xa na ca] W fun e w' => ∃ g c', e = .returned (.slice (some ⟨g, 0, none⟩) na c') ∧ OwB w' W.heap.size (.slice (some ⟨g, 0, none⟩) na c') r.a.data ∧ Below W.heap.size W w') := fun W b => copy_s xa na ca r.a.data W h.1.2.2.symm hna (ha.later b (Nat.le_refl _))
  have HB : Hid (∀ W, Below w.heap.size w W → Calls Try.prog 43 #[.slice xb nb cb] W fun e w' => ∃ g c', e = .returned (.slice (some ⟨g, 0, none⟩) nb c') ∧ OwB w' W.heap.size (.slice (some ⟨g, 0, none⟩) nb c') r.b.data ∧ Below W.heap.size W w') := fun W b => copy_s xb nb cb r.b.data W h.2.2.2.symm hnb (hb.later b (Nat.le_refl _))
  have HLa : Hid (na = r.a.data.length ∧ nb = r.b.data.length) := ⟨h.1.2.2.symm, h.2.2.2.symm⟩
  unfold romV at HN ⊢
  have k0 := heap_alloc_last w (.cells #[.int .u8 r.a.mark, .int .u8 r.a.turn, .slice xa na ca, .int .u8 r.b.mark, .int .u8 r.b.turn, .slice xb nb cb] 26)
  have b0 : Below w.heap.size w (w.alloc (.cells #[.int .u8 r.a.mark, .int .u8 r.a.turn, .slice xa na ca, .int .u8 r.b.mark, .int .u8 r.b.turn, .slice xb nb cb] 26)) := (Below.refl _ _).alloc (Nat.le_refl _) _
  clear h ha hb
  go_enter Try.func13, Try.ntmps13
  go_wp2_with fail
  refine (HN.out _).mono ?_
  rintro e w1 ⟨rfl, g1⟩
  have k1 : w1.heap[w.heap.size]? = some (.cells #[.int .u8 r.a.mark, .int .u8 r.a.turn, .slice xa na ca, .int .u8 r.b.mark, .int .u8 r.b.turn, .slice xb nb cb] 26 (0, 0)) := (g1.block _ (by simp)).trans k0
  have b1 : Hid (Below w.heap.size w w1) := b0.trans (g1.mono b0.size)
  have c2 : w1.cell? ⟨w.heap.size, 2, none⟩ = some (.slice xa na ca) := (cell_of_row _ _ _ _ _ _ k1).trans rfl
  have c5 : w1.cell? ⟨w.heap.size, 5, none⟩ = some (.slice xb nb cb) := (cell_of_row _ _ _ _ _ _ k1).trans rfl
  clear g1 k0 k1 b0 HN
  rcases snow_cases r with ⟨s, _⟩ | ⟨s, _⟩ | ⟨s, _⟩
  · have e : nowT r = (r.a.data, true) := by unfold nowT; rw [if_pos s]
    have HE : Hid (nowT r = (r.a.data, true)) := e
    rw [s]
    clear e s HB
    go_wp2_with fail
    refine (HA.out w1 b1.out).mono ?_
    rintro e w2 ⟨g, c', rfl, ho, g2⟩
    have HF : Hid (NowR r w (.returned (.tuple #[.slice (some ⟨g, 0, none⟩) na c', .bool true])) w2) := ⟨_, na, c', by rw [HE.out], by rw [HE.out]; exact HLa.out.1, by rw [HE.out]; exact owb_base ho b1.out.size, b1.out.trans (g2.mono b1.out.size)⟩
    clear ho g2
    go_wp2
    go_ret2
    exact HF.out
  · have e : nowT r = (r.b.data, true) := by unfold nowT; rw [if_neg (by omega), if_pos s]
    have HE : Hid (nowT r = (r.b.data, true)) := e
    rw [s]
    clear e s HA
    go_wp2_with fail
    refine (HB.out w1 b1.out).mono ?_
    rintro e w2 ⟨g, c', rfl, ho, g2⟩
    have HF : Hid (NowR r w (.returned (.tuple #[.slice (some ⟨g, 0, none⟩) nb c', .bool true])) w2) := ⟨_, nb, c', by rw [HE.out], by rw [HE.out]; exact HLa.out.2, by rw [HE.out]; exact owb_base ho b1.out.size, b1.out.trans (g2.mono b1.out.size)⟩
    clear ho g2
    go_wp2
    go_ret2
    exact HF.out
  · have e : nowT r = ([], false) := by unfold nowT; rw [if_neg (by omega), if_neg (by omega)]
    have HF : Hid (NowR r w (.returned (.tuple #[.slice none 0 0, .bool false])) w1) := ⟨none, 0, 0, by rw [e], by rw [e]; rfl, by rw [e]; exact World.ownsRow_nil _ _ _ _, b1.out⟩
    rw [s]
    clear e s HA HB
    go_wp2
    go_ret2
    exact HF.out
end Go.Proofs.Ytfhdpafaamkipaa
