/- A store of one's own, of the program. -/
import Derived.Test.YtfhdpafaamkipaaHpf
import Derived.Test.YtfhdpafaamkipaaHig
import Derived.Deep.RegionWith
namespace Go.Proofs.Ytfhdpafaamkipaa
open Go.RowKit
set_option linter.unusedVariables false
set_option linter.unusedSimpArgs false

/-- A store of one's own, just opened. -/
def OpR (r : RomT) (w : World) (e : Ending) (w' : World) : Prop :=
  ∃ (g : Nat) (xa : Option Addr) (na ca : Nat) (xb : Option Addr) (nb cb : Nat), e = .returned (.pointer (some ⟨g, 0, none⟩)) ∧ w.heap.size ≤ g ∧ StA w' g 0 r (.slice xa na ca) (.slice xb nb cb) ∧ RoO w' w.heap.size r xa na ca xb nb cb ∧ (∀ k, atB xa k ∨ atB xb k → k ≠ g) ∧ Below w.heap.size w w'
set_option maxRecDepth 10000 in
set_option maxHeartbeats 8000000 in
theorem own_i (r : RomT) (xa xb : Option Addr) (na ca nb cb : Nat) (w : World) (h : RomOk r na nb) (hna : na ≤ 1048576) (hnb : nb ≤ 1048576) (ha : Bt w xa na (fL r.a.data)) (hb : Bt w xb nb (fL r.b.data)) :
    Calls Try.prog 49 #[romV r xa xb na ca nb cb] w fun e w' => OpR r w e w' := by
  have HA : Hid (∀ W, Below w.heap.size w W → Calls Try.prog 48 #[.slice xa na ca] W fun e w' => ∃ a' c', e = .returned (.slice a' na c') ∧ OwB w' W.heap.size (.slice a' na c') r.a.data ∧ Below W.heap.size W w') := fun W b => clone_i xa na ca r.a.data W h.1.2.2.symm hna (ha.later b (Nat.le_refl _))
  have HB : Hid (∀ W, Below w.heap.size w W → Calls Try.prog 48 #[.slice xb nb cb] W fun e w' => ∃ a' c', e = .returned (.slice a' nb c') ∧ OwB w' W.heap.size (.slice a' nb c') r.b.data ∧ Below W.heap.size W w') := fun W b => clone_i xb nb cb r.b.data W h.2.2.2.symm hnb (hb.later b (Nat.le_refl _))
  have HO : Hid (∀ W xa na ca xb nb cb, Calls Try.prog 44 #[romV r xa xb na ca nb cb] W fun e w' => e = .returned (.pointer (some ⟨W.heap.size + 1, 0, none⟩)) ∧ StA w' (W.heap.size + 1) 0 r (.slice xa na ca) (.slice xb nb cb) ∧ Below W.heap.size W w' ∧ w'.heap.size = W.heap.size + 2) := fun W xa na ca xb nb cb => open_i r xa xb na ca nb cb W
  have k0 := heap_alloc_last w (.cells #[.int .u8 r.a.mark, .int .u8 r.a.turn, .slice xa na ca, .int .u8 r.b.mark, .int .u8 r.b.turn, .slice xb nb cb] 26)
  have b0 : Below w.heap.size w (w.alloc (.cells #[.int .u8 r.a.mark, .int .u8 r.a.turn, .slice xa na ca, .int .u8 r.b.mark, .int .u8 r.b.turn, .slice xb nb cb] 26)) := (Below.refl _ _).alloc (Nat.le_refl _) _
  unfold romV at HO ⊢
  clear h ha hb
  go_enter Try.func49, Try.ntmps49
  go_upto_region 1 with fail
  generalize (w.alloc (.cells #[.int .u8 r.a.mark, .int .u8 r.a.turn, .slice xa na ca, .int .u8 r.b.mark, .int .u8 r.b.turn, .slice xb nb cb] 26)) = W0 at b0 k0 ⊢
  have K0 : Hid (W0.heap[w.heap.size]? = _) := k0
  have B0 : Hid (Below w.heap.size w W0) := b0
  obtain ⟨p0, p1, p2, p3, p4, p5, pf⟩ := row_cells6 k0
  clear k0 b0
  go_region_with (first
    | (go_at_call_of 48 (Value.slice xa na ca); refine (HA.out _ (by first | exact B0.out | exact B0.out.drew | exact bB.out | exact bB.out.drew)).mono ?_; rintro e wA ⟨yA, cA, rfl, oA, gA⟩; obtain ⟨kA, bA'⟩ : wA.heap[w.heap.size]? = some (.cells #[.int .u8 r.a.mark, .int .u8 r.a.turn, .slice xa na ca, .int .u8 r.b.mark, .int .u8 r.b.turn, .slice xb nb cb] 26 (0, 0)) ∧ Below w.heap.size w wA := (by first | (have gX : Below W0.heap.size W0 wA := (by first | exact gA | exact (Below.refl _ _).drew.trans (gA.mono (Nat.le_refl _))); exact ⟨row_later19 K0.out gX, B0.out.trans (gX.mono B0.out.size)⟩) | (have gX : Below wB.heap.size wB wA := (by first | exact gA | exact (Below.refl _ _).drew.trans (gA.mono (Nat.le_refl _))); exact ⟨row_later19 kB gX, bB.out.trans (gX.mono bB.out.size)⟩)); obtain ⟨s0, s1, s2, s3, s4, s5, sf⟩ := row_cells6 kA; have bA : Hid (Below w.heap.size w wA) := bA'; clear bA')
    | (go_at_call_of 48 (Value.slice xb nb cb); refine (HB.out _ (by first | exact B0.out | exact B0.out.drew | exact bA.out | exact bA.out.drew)).mono ?_; rintro e wB ⟨yB, cB, rfl, oB, gB⟩; obtain ⟨kB, bB'⟩ : wB.heap[w.heap.size]? = some (.cells #[.int .u8 r.a.mark, .int .u8 r.a.turn, .slice xa na ca, .int .u8 r.b.mark, .int .u8 r.b.turn, .slice xb nb cb] 26 (0, 0)) ∧ Below w.heap.size w wB := (by first | (have gX : Below W0.heap.size W0 wB := (by first | exact gB | exact (Below.refl _ _).drew.trans (gB.mono (Nat.le_refl _))); exact ⟨row_later19 K0.out gX, B0.out.trans (gX.mono B0.out.size)⟩) | (have gX : Below wA.heap.size wA wB := (by first | exact gB | exact (Below.refl _ _).drew.trans (gB.mono (Nat.le_refl _))); exact ⟨row_later19 kA gX, bA.out.trans (gX.mono bA.out.size)⟩)); obtain ⟨t0, t1, t2, t3, t4, t5, tf⟩ := row_cells6 kB; have bB : Hid (Below w.heap.size w wB) := bB'; clear bB'))
  all_goals
    have gX : Below wA.heap.size wA wB := (by first | exact gB | exact (Below.refl _ _).drew.trans (gB.mono (Nat.le_refl _)))
    have hB0 : w.heap.size < W0.heap.size := (Array.getElem?_eq_some_iff.1 K0.out).1
    have qA : ∀ k, atB yA k → W0.heap.size ≤ k ∧ k < wA.heap.size := fun k e => owb_lt oA k e
    have qB : ∀ k, atB yB k → wA.heap.size ≤ k ∧ k < wB.heap.size := fun k e => owb_lt oB k e
    have hAl : W0.heap.size ≤ wA.heap.size := (by first | exact gA.size | exact bA.out.size)
    have oA1 := owb_base (owb_later oA gX) (show w.heap.size ≤ _ from Nat.le_of_lt hB0)
    have oB1 := owb_base oB (show w.heap.size ≤ _ from bA.out.size)
    have kV : ((wB.setCell ⟨w.heap.size, 2, none⟩ (.slice yA na cA)).setCell ⟨w.heap.size, 5, none⟩ (.slice yB nb cB)).heap[w.heap.size]? = some (.cells #[.int .u8 r.a.mark, .int .u8 r.a.turn, .slice yA na cA, .int .u8 r.b.mark, .int .u8 r.b.turn, .slice yB nb cB] 26 (0, 0)) := row_put19 (row_put19 kB 2 (.slice yA na cA)) 5 (.slice yB nb cB)
    have RO : Hid (RoO ((wB.setCell ⟨w.heap.size, 2, none⟩ (.slice yA na cA)).setCell ⟨w.heap.size, 5, none⟩ (.slice yB nb cB)) w.heap.size r yA na cA yB nb cB) := by
      refine ⟨owb_keep oA1 fun k e => ?_, owb_keep oB1 fun k e => ?_, fun k e e' => by have := qA k e; have := qB k e'; omega⟩
      · have := qA k e
        rw [heap_set19 _ _ _ _ _ (by omega), heap_set19 _ _ _ _ _ (by omega)]
      · have := qB k e
        rw [heap_set19 _ _ _ _ _ (by omega), heap_set19 _ _ _ _ _ (by omega)]
    have BV : Hid (Below w.heap.size w ((wB.setCell ⟨w.heap.size, 2, none⟩ (.slice yA na cA)).setCell ⟨w.heap.size, 5, none⟩ (.slice yB nb cB))) := bel_set (bel_set bB.out (Nat.le_refl _) _ _) (Nat.le_refl _) _ _
    have hVs : ((wB.setCell ⟨w.heap.size, 2, none⟩ (.slice yA na cA)).setCell ⟨w.heap.size, 5, none⟩ (.slice yB nb cB)).heap.size = wB.heap.size := by simp
    have hlt : Hid (∀ k, atB yA k ∨ atB yB k → k < wB.heap.size) := (fun k e => by
      rcases e with e | e
      · have := qA k e; have := gX.size; omega
      · exact (qB k e).2 : ∀ k, atB yA k ∨ atB yB k → k < wB.heap.size)
    have hBw : Hid (w.heap.size ≤ wB.heap.size) := (bB.out.size : w.heap.size ≤ wB.heap.size)
    clear s0 s1 s2 s3 s4 s5 sf t0 t1 t2 t3 t4 t5 tf p0 p1 p2 p3 p4 p5 pf oA oB oA1 oB1 qA qB gA gB gX kA kB bA bB hB0 hAl HA HB K0 B0
    go_upto_region 2 with fail
    generalize ((wB.setCell ⟨w.heap.size, 2, none⟩ (.slice yA na cA)).setCell ⟨w.heap.size, 5, none⟩ (.slice yB nb cB)) = V at kV RO BV hVs ⊢
    obtain ⟨p0, p1, p2, p3, p4, p5, pf⟩ := row_cells6 kV
    have HVs : Hid (V.heap.size = wB.heap.size) := hVs
    clear hVs
    go_wp2_with fail
    refine (HO.out V yA na cA yB nb cB).mono ?_
    rintro e w3 ⟨rfl, hs, g3, hz⟩
    have HF : Hid (OpR r w (.returned (.pointer (some ⟨V.heap.size + 1, 0, none⟩))) w3) := ⟨V.heap.size + 1, yA, na, cA, yB, nb, cB, rfl, by have := HVs.out; have := hBw.out; omega, hs, ⟨owb_later RO.out.a g3, owb_later RO.out.b g3, RO.out.d⟩, fun k e => by have := hlt.out k e; have := HVs.out; omega, BV.out.trans (g3.mono BV.out.size)⟩
    clear p0 p1 p2 p3 p4 p5 pf kV hs g3 hz HO
    go_wp2
    go_ret
    exact HF.out
end Go.Proofs.Ytfhdpafaamkipaa
