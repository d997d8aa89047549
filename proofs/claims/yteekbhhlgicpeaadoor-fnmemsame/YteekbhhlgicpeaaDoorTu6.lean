/- The text of any real number; the walk of FnExactRealText. -/
import Derived.Test.YteekbhhlgicpeaaDoorTt6
namespace Go.Proofs.YteekbhhlgicpeaaDoor
open Go.RowKit
open Go.Lib (decDigits itoa)
set_option linter.unusedVariables false

theorem inf_lt (s : Bool) : (Fm.F.order (Ieee.double.word s Fm.infR) 0 == some .lt) = s := by
  cases s <;> decide +kernel
theorem minus_tx (p : List UInt8) : (⟨#[45]⟩ : ByteArray) ++ tx p = tx (45 :: p) := tx_append [45] p

theorem rg_le {b : Nat} (h : ¬ Fm.isN b) : Fm.rg b ≤ Fm.infR := by unfold Fm.isN at h; omega

set_option maxHeartbeats 2000000 in
theorem spec_rtext (b : Nat) (w : World) (hb : b < 18446744073709551616) :
    Calls Tryd.prog 28 #[.float .f64 b] w fun e w' => ∃ t, e = .returned (.string (tx t)) ∧ Txt b t ∧ Below w.heap.size w w' := by
  have e1 := Fm.self_ne b
  by_cases hn : Fm.isN b
  · rw [decide_eq_true hn] at e1
    have HP : Hid (Txt b [110, 97, 110]) := .inl ⟨hn, rfl⟩
    clear hn hb
    go_enter Tryd.func28, Tryd.ntmps28
    go_wp2
    go_ret
    exact ⟨[110, 97, 110], rfl, HP.out, Below.refl _ _⟩
  · rw [decide_eq_false hn] at e1
    have e2 := Fm.eq_b hn notN0
    rw [sv0] at e2
    by_cases h0 : Fm.sv b = 0
    · rw [decide_eq_true h0] at e2
      have hR := sv_zero h0
      have hq := quo_zero hR
      have hl := inf_lt (Fm.sg b)
      have HT : Hid (Txt b (if Fm.sg b then [45, 48] else [48])) := .inr (.inl ⟨hn, hR, rfl⟩)
      generalize Ieee.double.word (Fm.sg b) Fm.infR = y at hq hl
      clear hn h0 hb hR
      generalize Fm.sg b = s at hl HT
      cases s
      · go_enter Tryd.func28, Tryd.ntmps28
        go_wp2
        go_ret
        exact ⟨[48], rfl, HT.out, Below.refl _ _⟩
      · go_enter Tryd.func28, Tryd.ntmps28
        go_wp2
        go_ret
        exact ⟨[45, 48], rfl, HT.out, Below.refl _ _⟩
    · have hR : 0 < Fm.R (Fm.rg b) := by
        rcases Nat.eq_zero_or_pos (Fm.R (Fm.rg b)) with h | h
        · exfalso; apply h0; unfold Fm.sv; rw [h]; split <;> rfl
        · exact h
      have hr := rg_le hn
      rw [decide_eq_false h0] at e2
      cases hs : Fm.sg b with
      | false =>
        have hlt : ¬ Fm.sv b < 0 := by unfold Fm.sv; rw [hs]; simp only [Bool.false_eq_true, if_false]; omega
        have e3 : (Fm.F.order b 0 == some .lt) = false := by rw [Fm.lt_b hn notN0, sv0]; exact decide_eq_false hlt
        have hc := fun w => spec_pos b w hr hs hR
        have HT : Hid (∀ p, PosT (Fm.rg b) p → Txt b p) := fun p hp => .inr (.inr ⟨hn, hR, p, hp, by rw [hs]; rfl⟩)
        have HC : Hid (∀ w, Calls Tryd.prog 58 #[.float .f64 b] w fun e w' => ∃ t, e = .returned (.string (tx t)) ∧ PosT (Fm.rg b) t ∧ Below w.heap.size w w') := hc
        clear hc hn h0 hR hr hs hlt hb
        go_enter Tryd.func28, Tryd.ntmps28
        go_wp2_with fail
        refine (HC.out _).mono ?_
        rintro e w1 ⟨p, rfl, hp, g1⟩
        have HQ : Hid (Txt b p) := HT.out p hp
        obtain ⟨D, HD⟩ : ∃ D, Hid (D = tx p) := ⟨_, rfl⟩
        rw [← HD.out]
        clear hp HT HC
        go_wp2
        go_ret
        exact ⟨p, congrArg (fun s => Ending.returned (Value.string s)) HD.out, HQ.out, g1⟩
      | true =>
        have hlt : Fm.sv b < 0 := by unfold Fm.sv; rw [hs]; simp only [if_true]; omega
        have e3 : (Fm.F.order b 0 == some .lt) = true := by rw [Fm.lt_b hn notN0, sv0]; exact decide_eq_true hlt
        have hc := fun w => spec_pos (Op.negFloat .f64 b) w (by rw [Fm.rg_neg]; exact hr) (by rw [Fm.sg_neg hb, hs]; rfl) (by rw [Fm.rg_neg]; exact hR)
        rw [Fm.rg_neg] at hc
        have HT : Hid (∀ p, PosT (Fm.rg b) p → Txt b (45 :: p) ∧ (tx p).size ≤ 50) := fun p hp => ⟨.inr (.inr ⟨hn, hR, p, hp, by rw [hs]; rfl⟩), by rw [tx_size]; exact hp.len hR⟩
        have HC : Hid (∀ w, Calls Tryd.prog 58 #[.float .f64 (Op.negFloat .f64 b)] w fun e w' => ∃ t, e = .returned (.string (tx t)) ∧ PosT (Fm.rg b) t ∧ Below w.heap.size w w') := hc
        clear hc hn h0 hR hr hs hlt hb
        go_enter Tryd.func28, Tryd.ntmps28
        go_wp2_with fail
        refine (HC.out _).mono ?_
        rintro e w1 ⟨p, rfl, hp, g1⟩
        obtain ⟨t1, t2⟩ := HT.out p hp
        have HQ : Hid (Txt b (45 :: p)) := t1
        have HE : Hid ((⟨#[45]⟩ : ByteArray) ++ tx p = tx (45 :: p)) := minus_tx p
        obtain ⟨D, HD⟩ : ∃ D, Hid (D = tx p) := ⟨_, rfl⟩
        rw [← HD.out] at t2 HE ⊢
        clear hp t1 HT HC HD
        go_wp2
        go_ret
        exact ⟨45 :: p, congrArg (fun s => Ending.returned (Value.string s)) HE.out, HQ.out, g1⟩

end Go.Proofs.YteekbhhlgicpeaaDoor
