/- bytes.Clone; HoldNow of the program. -/
import Derived.Test.YtfhdpafaamkipaaHic
import Derived.Test.YtfhdpafaamkipaaHif
import Derived.Lib.SliceRun
namespace Go.Proofs.Ytfhdpafaamkipaa
open Go.RowKit
set_option linter.unusedVariables false
set_option linter.unusedSimpArgs false

set_option maxRecDepth 10000 in
set_option maxHeartbeats 2000000 in
theorem clone_i (a : Option Addr) (n c : Nat) (l : List Nat) (w : World) (hl : n = l.length) (hn : n ≤ 1048576) (h : Bt w a n (fL l)) :
    Calls Try.prog 48 #[.slice a n c] w fun e w' => ∃ a' c', e = .returned (.slice a' n c') ∧ OwB w' w.heap.size (.slice a' n c') l ∧ Below w.heap.size w w' := by
  have qT : ∀ (w : World) (a : Option Addr) (n c n' c' : Nat), (binOp .eql 22 (.slice a n c) (.slice none n' c')).run Try.prog w = .ok (.bool a.isNone) w := fun w a n c n' c' => Lib.run_eql_slice_nil w _ _ a n c n' c' Try.underlying22
  cases a with
  | none =>
    have hn0 : n = 0 := by
      rcases h with h | ⟨b, o, e, _⟩
      · exact h
      · cases e
    subst hn0
    have hl0 : l = [] := List.length_eq_zero_iff.1 hl.symm
    subst hl0
    clear h hl hn
    go_enter Try.func48, Try.ntmps48
    go_wp2
    go_ret
    exact ⟨none, 0, rfl, World.ownsRow_nil _ _ _ _, Below.refl _ _⟩
  | some ad =>
  obtain ⟨g1, cap1, W1, hr, ho, hg, hat⟩ := appB (w.alloc (.cells #[] 5)) w.heap.size w.heap.size 0 0 n c [] l (some ad) (owb_made w w.heap.size (Nat.le_refl _)) hl (by omega) (by simp) (fun h0 => by
    rcases h with h | ⟨b, o, e, hb, hc⟩
    · omega
    · refine ⟨b, o, e, fun j x hx => ?_⟩
      have hj : j < n := by rw [hl]; exact (List.getElem?_eq_some_iff.1 hx).1
      have := hc j hj
      unfold fL at this
      rw [List.getD_eq_getElem?_getD, hx] at this
      exact (((Below.refl _ _).alloc (Nat.le_refl _) _).cell (p := ⟨b, o + j, none⟩) hb).trans this)
  simp only [Nat.zero_add, List.nil_append] at hr ho
  have HR : Hid (∀ ty, (Builtin.append_ #[22, 22] ty #[.slice (some ⟨w.heap.size, 0, none⟩) 0 0, .slice (some ad) n c]).run Try.prog (w.alloc (.cells #[] 5)) = .ok (.slice (some ⟨g1, 0, none⟩) n cap1) W1) := hr
  have HF : Hid (OwB W1 w.heap.size (.slice (some ⟨g1, 0, none⟩) n cap1) l ∧ Below w.heap.size w W1) := ⟨ho, ((Below.refl _ _).alloc (Nat.le_refl _) _).grown hg (by simp) (fun j hj => by cases hj; omega)⟩
  clear hr ho hg hat h hl
  go_enter Try.func48, Try.ntmps48
  go_wp2_with (at_builtin; refine wpList_appB rfl _ _ 22 rfl _ _ rfl rfl _ _ HR.out ?_)
  go_ret
  exact ⟨_, cap1, rfl, HF.out.1, HF.out.2⟩
theorem hfP_none (g : Nat) : hfP g (-1) = none := rfl
set_option maxRecDepth 10000 in
set_option maxHeartbeats 2000000 in
theorem hnow_i (r : RomT) (xa xb : Option Addr) (na ca nb cb : Nat) (w : World) (h : RomOk r na nb) (hna : na ≤ 1048576) (hnb : nb ≤ 1048576) (ha : Bt w xa na (fL r.a.data)) (hb : Bt w xb nb (fL r.b.data)) :
    Calls Try.prog 16 #[romV r xa xb na ca nb cb] w fun e w' => NowR r w e w' := by
  have HO : Hid (∀ W, Calls Try.prog 44 #[romV r xa xb na ca nb cb] W fun e w' => e = .returned (.pointer (some ⟨W.heap.size + 1, 0, none⟩)) ∧ StA w' (W.heap.size + 1) 0 r (.slice xa na ca) (.slice xb nb cb) ∧ Below W.heap.size W w' ∧ w'.heap.size = W.heap.size + 2) := fun W => open_i r xa xb na ca nb cb W
  have HN : Hid (∀ W g, StA W g 0 r (.slice xa na ca) (.slice xb nb cb) → Calls Try.prog 45 #[.pointer (some ⟨g, 0, none⟩)] W fun e w' => e = .returned (.int .i64 (snowT r)) ∧ ∃ m, w' = W.drewN m) := fun W g hs => now_i g r xa xb na ca nb cb W hs h
  have HH : Hid (∀ W g k, g < W.heap.size → Calls Try.prog 46 #[.pointer (some ⟨g, 0, none⟩), .int .i64 k] W fun e w' => e = .returned (.pointer (hfP g k)) ∧ w' = W) := fun W g k hg => half_i g k W hg
  have HA : Hid (∀ W, Below w.heap.size w W → Calls Try.prog 48 #[.slice xa na ca] W fun e w' => ∃ a' c', e = .returned (.slice a' na c') ∧ OwB w' W.heap.size (.slice a' na c') r.a.data ∧ Below W.heap.size W w') := fun W b => clone_i xa na ca r.a.data W h.1.2.2.symm hna (ha.later b (Nat.le_refl _))
  have HB : Hid (∀ W, Below w.heap.size w W → Calls Try.prog 48 #[.slice xb nb cb] W fun e w' => ∃ a' c', e = .returned (.slice a' nb c') ∧ OwB w' W.heap.size (.slice a' nb c') r.b.data ∧ Below W.heap.size W w') := fun W b => clone_i xb nb cb r.b.data W h.2.2.2.symm hnb (hb.later b (Nat.le_refl _))
  have HLa : Hid (na = r.a.data.length ∧ nb = r.b.data.length) := ⟨h.1.2.2.symm, h.2.2.2.symm⟩
  have b0 : Below w.heap.size w (w.alloc (.cells #[.int .u8 r.a.mark, .int .u8 r.a.turn, .slice xa na ca, .int .u8 r.b.mark, .int .u8 r.b.turn, .slice xb nb cb] 26)) := (Below.refl _ _).alloc (Nat.le_refl _) _
  unfold romV at HO ⊢
  clear h ha hb
  go_enter Try.func16, Try.ntmps16
  go_wp2_with fail
  generalize (w.alloc (.cells #[.int .u8 r.a.mark, .int .u8 r.a.turn, .slice xa na ca, .int .u8 r.b.mark, .int .u8 r.b.turn, .slice xb nb cb] 26)) = W0 at b0 ⊢
  refine (HO.out W0).mono ?_
  rintro e w1 ⟨rfl, hs, g1, hz⟩
  have b1 : Hid (Below w.heap.size w w1) := b0.trans (g1.mono b0.size)
  have hs : Hid (StA w1 (W0.heap.size + 1) 0 r (.slice xa na ca) (.slice xb nb cb)) := hs
  obtain ⟨B, hB⟩ : ∃ B, W0.heap.size + 1 = B := ⟨_, rfl⟩
  rw [hB] at hs ⊢
  clear g1 b0 hz hB
  go_wp2_with fail
  refine (HN.out w1 _ hs.out).mono ?_
  rintro e w2 ⟨rfl, m, rfl⟩
  have b2 : Hid (Below w.heap.size w (w1.drewN m)) := below_drewN b1.out _
  have hs2 := hs.out.drew m
  generalize w1.drewN m = w2 at b2 hs2 ⊢
  have hs2 : Hid (StA w2 B 0 r (.slice xa na ca) (.slice xb nb cb)) := hs2
  clear hs b1 HN HO
  go_wp2_with fail
  refine (HH.out w2 _ _ hs2.out.lt).mono ?_
  rintro e w3 ⟨rfl, e3⟩
  subst w3
  have c4 := hs2.out.c4
  have c7 := hs2.out.c7
  rcases snow_cases r with ⟨s, _⟩ | ⟨s, _⟩ | ⟨s, _⟩
  · have HE : Hid (nowT r = (r.a.data, true)) := (by unfold nowT; rw [if_pos s] : nowT r = (r.a.data, true))
    rw [s, show hfP B 0 = some ⟨B, 2, none⟩ from rfl]
    clear s HB
    go_wp2_with fail
    refine (HA.out w2 b2.out).mono ?_
    rintro e w4 ⟨g, c', rfl, ho, g2⟩
    have HF : Hid (NowR r w (.returned (.tuple #[.slice g na c', .bool true])) w4) := ⟨_, na, c', by rw [HE.out], by rw [HE.out]; exact HLa.out.1, by rw [HE.out]; exact owb_base ho b2.out.size, b2.out.trans (g2.mono b2.out.size)⟩
    clear ho g2
    go_wp2
    go_ret2
    exact HF.out
  · have HE : Hid (nowT r = (r.b.data, true)) := (by unfold nowT; rw [if_neg (by omega), if_pos s] : nowT r = (r.b.data, true))
    rw [s, show hfP B 1 = some ⟨B, 5, none⟩ from rfl]
    clear s HA
    go_wp2_with fail
    refine (HB.out w2 b2.out).mono ?_
    rintro e w4 ⟨g, c', rfl, ho, g2⟩
    have HF : Hid (NowR r w (.returned (.tuple #[.slice g nb c', .bool true])) w4) := ⟨_, nb, c', by rw [HE.out], by rw [HE.out]; exact HLa.out.2, by rw [HE.out]; exact owb_base ho b2.out.size, b2.out.trans (g2.mono b2.out.size)⟩
    clear ho g2
    go_wp2
    go_ret2
    exact HF.out
  · have e : nowT r = ([], false) := by unfold nowT; rw [if_neg (by omega), if_neg (by omega)]
    have HF : Hid (NowR r w (.returned (.tuple #[.slice none 0 0, .bool false])) w2) := ⟨none, 0, 0, by rw [e], by rw [e]; rfl, by rw [e]; exact World.ownsRow_nil _ _ _ _, b2.out⟩
    rw [s, hfP_none]
    clear e s HA HB
    go_wp2
    go_ret2
    exact HF.out
end Go.Proofs.Ytfhdpafaamkipaa
