/- Which slot counts, of the program. Made by tools/gen19_hib.py. -/
import Derived.Test.YtfhdpafaamkipaaHia
namespace Go.Proofs.Ytfhdpafaamkipaa
open Go.RowKit
set_option linter.unusedVariables false
set_option linter.unusedSimpArgs false

theorem StA.drew {w : World} {g : Nat} {gd : Int} {r : RomT} {va vb : Value} (h : StA w g gd r va vb) (m : Nat) : StA (w.drewN m) g gd r va vb :=
  ⟨by simpa using h.c0, by simpa using h.c1, by simpa using h.c2, by simpa using h.c3, by simpa using h.c4, by simpa using h.c5, by simpa using h.c6, by simpa using h.c7, fun o => by simpa using h.frz o, by simpa using h.lt⟩
set_option maxRecDepth 10000 in
set_option maxHeartbeats 4000000 in
theorem now_i (g : Nat) (r : RomT) (xa xb : Option Addr) (na ca nb cb : Nat) (w : World) (h : StA w g 0 r (.slice xa na ca) (.slice xb nb cb)) (hr : RomOk r na nb) :
    Calls Try.prog 45 #[.pointer (some ⟨g, 0, none⟩)] w fun e w' => e = .returned (.int .i64 (snowT r)) ∧ ∃ m, w' = w.drewN m := by
  obtain ⟨⟨am, at', ad⟩, ⟨bm, bt, bd⟩⟩ := r
  obtain ⟨⟨h1, h2, h3⟩, h4, h5, h6⟩ := hr
  simp only at h1 h2 h3 h4 h5 h6
  have HW : Hid (StA w g 0 ⟨⟨am, at', ad⟩, ⟨bm, bt, bd⟩⟩ (.slice xa na ca) (.slice xb nb cb)) := h
  have HA : Hid (∀ W, StA W g 0 ⟨⟨am, at', ad⟩, ⟨bm, bt, bd⟩⟩ (.slice xa na ca) (.slice xb nb cb) → Calls Try.prog 65 #[.pointer (some ⟨g, 2, none⟩)] W fun e w' => e = .returned (.bool (goodT ⟨am, at', ad⟩)) ∧ w' = W) := fun W h => good_i g 2 am at' xa na ca _ ad h.c2 h.c3 h.c4 h3
  have HB : Hid (∀ W, StA W g 0 ⟨⟨am, at', ad⟩, ⟨bm, bt, bd⟩⟩ (.slice xa na ca) (.slice xb nb cb) → Calls Try.prog 65 #[.pointer (some ⟨g, 5, none⟩)] W fun e w' => e = .returned (.bool (goodT ⟨bm, bt, bd⟩)) ∧ w' = W) := fun W h => good_i g 5 bm bt xb nb cb _ bd h.c5 h.c6 h.c7 h6
  have HN : Hid (at' ≤ 2 → ∀ W, StA W g 0 ⟨⟨am, at', ad⟩, ⟨bm, bt, bd⟩⟩ (.slice xa na ca) (.slice xb nb cb) → Calls Try.prog 47 #[.pointer (some ⟨g, 2, none⟩)] W fun e w' => e = .returned (.int .u8 ((at' + 1) % 3 : Nat)) ∧ w' = W) := fun ht W h => next_i g 2 at' _ h.c3 ht
  obtain ⟨A, hA⟩ : ∃ A, goodT ⟨am, at', ad⟩ = A := ⟨_, rfl⟩
  obtain ⟨C, hC⟩ : ∃ C, goodT ⟨bm, bt, bd⟩ = C := ⟨_, rfl⟩
  obtain ⟨S, HS⟩ : ∃ S, Hid (S = snowT ⟨⟨am, at', ad⟩, ⟨bm, bt, bd⟩⟩) := ⟨_, rfl⟩
  have hS : S = if A = true ∧ C = true ∧ bt = (at' + 1) % 3 then 1 else if A = true then 0 else if C = true then 1 else -1 := by rw [HS.out, ← hA, ← hC]; rfl
  have hT : A = true → at' ≤ 2 := fun e => good_turn (hA.trans e)
  obtain ⟨q, hq⟩ : ∃ q : Nat, (at' + 1) % 3 = q := ⟨_, rfl⟩
  rw [hq] at HN hS
  rw [hA] at HA
  rw [hC] at HB
  rw [← HS.out]
  have hl := h.lt
  clear hA hC HS h3 h6 h hq
  cases A with
  | true =>
    have HN : Hid (∀ W, StA W g 0 ⟨⟨am, at', ad⟩, ⟨bm, bt, bd⟩⟩ (.slice xa na ca) (.slice xb nb cb) → Calls Try.prog 47 #[.pointer (some ⟨g, 2, none⟩)] W fun e w' => e = .returned (.int .u8 (q : Nat)) ∧ w' = W) := HN.out (hT rfl)
    cases C with
    | true =>
      by_cases e : bt = q
      · have hS1 : S = 1 := by rw [hS, if_pos ⟨rfl, rfl, e⟩]
        have j : ((bt : Int) == (q : Int)) = true := by rw [beq_iff_eq]; omega
        subst hS1
        clear hS hT
        go_enter Try.func45, Try.ntmps45
        go_wp2
        go_quiet (fail)
        have hW1 := HW.out.drew nq
        obtain ⟨W1, e1⟩ : ∃ W1, W1 = w.drewN nq := ⟨_, rfl⟩
        rw [← e1] at hW1 ⊢
        have HE : Hid (W1 = w.drewN nq) := e1
        have HW1 : Hid (StA W1 g 0 ⟨⟨am, at', ad⟩, ⟨bm, bt, bd⟩⟩ (.slice xa na ca) (.slice xb nb cb)) := hW1
        have c6 := hW1.c6
        simp only at c6
        clear hW1 e1
        go_wp2
        go_quiet (first | (go_at_call_of 65 (Value.pointer (some ⟨g, 2, none⟩)); refine Calls.quiet_of_same (HA.out _ (HW1.out.drew _))) | (go_at_call_of 65 (Value.pointer (some ⟨g, 5, none⟩)); refine Calls.quiet_of_same (HB.out _ (HW1.out.drew _))) | (go_at_call 47; refine Calls.quiet_of_same (HN.out _ (HW1.out.drew _))))
        go_wp2_with (first | (go_at_call_of 65 (Value.pointer (some ⟨g, 2, none⟩)); refine (HA.out _ (HW1.out.drew _)).mono ?_; rintro e w2 ⟨rfl, rfl⟩) | (go_at_call_of 65 (Value.pointer (some ⟨g, 5, none⟩)); refine (HB.out _ (HW1.out.drew _)).mono ?_; rintro e w2 ⟨rfl, rfl⟩))
        rw [HE.out]
        go_ret
        exact ⟨rfl, _, by rw [World.drewN_drewN]⟩
      · have hS1 : S = 0 := by rw [hS, if_neg (fun x => e x.2.2), if_pos rfl]
        have j : ((bt : Int) == (q : Int)) = false := by rw [beq_eq_false_iff_ne]; omega
        subst hS1
        clear hS hT
        go_enter Try.func45, Try.ntmps45
        go_wp2
        go_quiet (fail)
        have hW1 := HW.out.drew nq
        obtain ⟨W1, e1⟩ : ∃ W1, W1 = w.drewN nq := ⟨_, rfl⟩
        rw [← e1] at hW1 ⊢
        have HE : Hid (W1 = w.drewN nq) := e1
        have HW1 : Hid (StA W1 g 0 ⟨⟨am, at', ad⟩, ⟨bm, bt, bd⟩⟩ (.slice xa na ca) (.slice xb nb cb)) := hW1
        have c6 := hW1.c6
        simp only at c6
        clear hW1 e1
        go_wp2
        go_quiet (first | (go_at_call_of 65 (Value.pointer (some ⟨g, 2, none⟩)); refine Calls.quiet_of_same (HA.out _ (HW1.out.drew _))) | (go_at_call_of 65 (Value.pointer (some ⟨g, 5, none⟩)); refine Calls.quiet_of_same (HB.out _ (HW1.out.drew _))) | (go_at_call 47; refine Calls.quiet_of_same (HN.out _ (HW1.out.drew _))))
        go_wp2_with (first | (go_at_call_of 65 (Value.pointer (some ⟨g, 2, none⟩)); refine (HA.out _ (HW1.out.drew _)).mono ?_; rintro e w2 ⟨rfl, rfl⟩) | (go_at_call_of 65 (Value.pointer (some ⟨g, 5, none⟩)); refine (HB.out _ (HW1.out.drew _)).mono ?_; rintro e w2 ⟨rfl, rfl⟩))
        rw [HE.out]
        go_ret
        exact ⟨rfl, _, by rw [World.drewN_drewN]⟩
    | false =>
        have hS1 : S = 0 := by rw [hS, if_neg (fun x => by cases x.2.1), if_pos rfl]
        subst hS1
        clear hS hT
        go_enter Try.func45, Try.ntmps45
        go_wp2
        go_quiet (fail)
        have hW1 := HW.out.drew nq
        obtain ⟨W1, e1⟩ : ∃ W1, W1 = w.drewN nq := ⟨_, rfl⟩
        rw [← e1] at hW1 ⊢
        have HE : Hid (W1 = w.drewN nq) := e1
        have HW1 : Hid (StA W1 g 0 ⟨⟨am, at', ad⟩, ⟨bm, bt, bd⟩⟩ (.slice xa na ca) (.slice xb nb cb)) := hW1
        have c6 := hW1.c6
        simp only at c6
        clear hW1 e1
        go_wp2
        go_quiet (first | (go_at_call_of 65 (Value.pointer (some ⟨g, 2, none⟩)); refine Calls.quiet_of_same (HA.out _ (HW1.out.drew _))) | (go_at_call_of 65 (Value.pointer (some ⟨g, 5, none⟩)); refine Calls.quiet_of_same (HB.out _ (HW1.out.drew _))) | (go_at_call 47; refine Calls.quiet_of_same (HN.out _ (HW1.out.drew _))))
        go_wp2_with (first | (go_at_call_of 65 (Value.pointer (some ⟨g, 2, none⟩)); refine (HA.out _ (HW1.out.drew _)).mono ?_; rintro e w2 ⟨rfl, rfl⟩) | (go_at_call_of 65 (Value.pointer (some ⟨g, 5, none⟩)); refine (HB.out _ (HW1.out.drew _)).mono ?_; rintro e w2 ⟨rfl, rfl⟩))
        rw [HE.out]
        go_ret
        exact ⟨rfl, _, by rw [World.drewN_drewN]⟩
  | false =>
    cases C with
    | true =>
        have hS1 : S = 1 := by rw [hS, if_neg (fun x => by cases x.1), if_neg (by simp), if_pos rfl]
        subst hS1
        clear hS hT
        go_enter Try.func45, Try.ntmps45
        go_wp2
        go_quiet (fail)
        have hW1 := HW.out.drew nq
        obtain ⟨W1, e1⟩ : ∃ W1, W1 = w.drewN nq := ⟨_, rfl⟩
        rw [← e1] at hW1 ⊢
        have HE : Hid (W1 = w.drewN nq) := e1
        have HW1 : Hid (StA W1 g 0 ⟨⟨am, at', ad⟩, ⟨bm, bt, bd⟩⟩ (.slice xa na ca) (.slice xb nb cb)) := hW1
        have c6 := hW1.c6
        simp only at c6
        clear hW1 e1
        go_wp2
        go_quiet (first | (go_at_call_of 65 (Value.pointer (some ⟨g, 2, none⟩)); refine Calls.quiet_of_same (HA.out _ (HW1.out.drew _))) | (go_at_call_of 65 (Value.pointer (some ⟨g, 5, none⟩)); refine Calls.quiet_of_same (HB.out _ (HW1.out.drew _))) | (go_at_call 47; refine Calls.quiet_of_same (HN.out _ (HW1.out.drew _))))
        go_wp2_with (first | (go_at_call_of 65 (Value.pointer (some ⟨g, 2, none⟩)); refine (HA.out _ (HW1.out.drew _)).mono ?_; rintro e w2 ⟨rfl, rfl⟩) | (go_at_call_of 65 (Value.pointer (some ⟨g, 5, none⟩)); refine (HB.out _ (HW1.out.drew _)).mono ?_; rintro e w2 ⟨rfl, rfl⟩))
        rw [HE.out]
        go_ret
        exact ⟨rfl, _, by rw [World.drewN_drewN]⟩
    | false =>
        have hS1 : S = -1 := by rw [hS, if_neg (fun x => by cases x.1), if_neg (by simp), if_neg (by simp)]
        subst hS1
        clear hS hT
        go_enter Try.func45, Try.ntmps45
        go_wp2
        go_quiet (fail)
        have hW1 := HW.out.drew nq
        obtain ⟨W1, e1⟩ : ∃ W1, W1 = w.drewN nq := ⟨_, rfl⟩
        rw [← e1] at hW1 ⊢
        have HE : Hid (W1 = w.drewN nq) := e1
        have HW1 : Hid (StA W1 g 0 ⟨⟨am, at', ad⟩, ⟨bm, bt, bd⟩⟩ (.slice xa na ca) (.slice xb nb cb)) := hW1
        have c6 := hW1.c6
        simp only at c6
        clear hW1 e1
        go_wp2
        go_quiet (first | (go_at_call_of 65 (Value.pointer (some ⟨g, 2, none⟩)); refine Calls.quiet_of_same (HA.out _ (HW1.out.drew _))) | (go_at_call_of 65 (Value.pointer (some ⟨g, 5, none⟩)); refine Calls.quiet_of_same (HB.out _ (HW1.out.drew _))) | (go_at_call 47; refine Calls.quiet_of_same (HN.out _ (HW1.out.drew _))))
        go_wp2_with (first | (go_at_call_of 65 (Value.pointer (some ⟨g, 2, none⟩)); refine (HA.out _ (HW1.out.drew _)).mono ?_; rintro e w2 ⟨rfl, rfl⟩) | (go_at_call_of 65 (Value.pointer (some ⟨g, 5, none⟩)); refine (HB.out _ (HW1.out.drew _)).mono ?_; rintro e w2 ⟨rfl, rfl⟩))
        rw [HE.out]
        go_ret
        exact ⟨rfl, _, by rw [World.drewN_drewN]⟩
end Go.Proofs.Ytfhdpafaamkipaa
