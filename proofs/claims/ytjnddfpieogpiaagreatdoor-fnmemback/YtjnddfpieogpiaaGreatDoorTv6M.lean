/- RealText of the program, beside the texts of devices. -/
import Derived.Test.YtjnddfpieogpiaaGreatDoorTt6M
import Derived.Test.YtjnddfpieogpiaaGreatDoorDl
import Derived.Test.YtjnddfpieogpiaaGreatDoorLf
import Derived.Lib.AppendIntMem
namespace Go.Proofs.YtjnddfpieogpiaaGreatDoor.Rr
open Go.RowKit Go.Lib
open Go.Lib (decDigits itoa nDigits)
set_option linter.unusedVariables false

theorem formatint_r (n : Int) (h0 : -9223372036854775808 ≤ n) (h1 : n ≤ 9223372036854775807) (w : World) (hP : PT w) :
    Calls Tryz.prog 124 #[.int .i64 n, .int .i64 10] w fun e w' => e = .returned (.string ⟨(Lib.itoa n).toArray⟩) ∧ Below w.heap.size w w' :=
  (Any.strconv_FormatInt_10 Tryz.layF n h0 h1 w hP).mono fun e w' ⟨he, k, os, hw⟩ => ⟨he, by rw [hw]; exact below_grow w k os⟩

open Go.Lib (decDigits itoa nDigits)

set_option maxHeartbeats 2000000 in
theorem impl_pos (b : Nat) (w : World) (hP : PT w) (h1 : Fm.rg b ≤ Fm.infR) (h2 : Fm.sg b = false) (h3 : 0 < Fm.R (Fm.rg b)) :
    Calls Tryz.prog 73 #[.float .f64 b] w fun e w' => ∃ t, e = .returned (.string (tx t)) ∧ PosT (Fm.rg b) t ∧ Below w.heap.size w w' := by
  have hn : ¬ Fm.isN b := by unfold Fm.isN; omega
  have hx : Fm.sv b = (Fm.R (Fm.rg b) : Int) := by unfold Fm.sv; rw [h2]; rfl
  have e1 : (Fm.F.order b b != some .eq) = false := by rw [Fm.self_ne, decide_eq_false hn]
  have e2 : (Fm.F.order b 0 == some .eq) = false := by rw [Fm.eq_b hn notN0, sv0, hx]; exact decide_eq_false (by omega)
  have e3 : (Fm.F.order b 0 == some .lt) = false := by rw [Fm.lt_b hn notN0, sv0, hx]; exact decide_eq_false (by omega)
  have e4 := gt_max h2 h1
  by_cases hi : Fm.rg b = Fm.infR
  · rw [decide_eq_true hi] at e4
    have HP : Hid (PosT (Fm.rg b) [105, 110, 102]) := .inl ⟨hi, rfl⟩
    clear hn hx hi h1 h2 h3
    go_enter Tryz.func73, Tryz.ntmps73
    go_wp2
    go_ret
    exact ⟨[105, 110, 102], rfl, HP.out, Below.refl _ _⟩
  · rw [decide_eq_false hi] at e4
    have hf : Fm.rg b < Fm.infR := by omega
    have hp := impl_parts b
    have HB : Hid (∀ n e, Fm.Parts (Fm.R (Fm.rg b)) n e → (n < 9007199254740992 ∧ e ≤ 1023 ∧ -1074 ≤ e ∧ 1 ≤ n)) := fun n e h => h.bd hf h3
    have HT : Hid (∀ n e, Fm.Parts (Fm.R (Fm.rg b)) n e → PosT (Fm.rg b) (posT n e)) := fun n e h => .inr ⟨hf, n, e, h, rfl⟩
    have HC : Hid (∀ w, Calls Tryz.prog 123 #[.float .f64 b] w fun e w' => ∃ (n : Nat) (x : Int), e = .returned (.tuple #[.int .i64 n, .int .i64 x]) ∧ Fm.Parts (Fm.R (Fm.rg b)) n x ∧ w' = w) := fun w => hp w hf h2 h3
    clear hn hx hi h1 h2 h3 hf hp
    go_enter Tryz.func73, Tryz.ntmps73
    go_wp2_with fail
    refine (HC.out _).mono ?_
    rintro e w1 ⟨n, y, rfl, hq, rfl⟩
    obtain ⟨b1, b2, b3, b4⟩ := HB.out n y hq
    have HQ : Hid (PosT (Fm.rg b) (posT n y)) := HT.out n y hq
    clear hq HB HT HC e1 e2 e3 e4
    have c1 := fun w => formatint_r n (by omega) (by omega) w
    have c2 := fun w => itoa_r y (by omega) (by omega) w
    rw [Lib.itoa_nonneg] at c1
    have s1 := dec_sz n b1
    have s2 := itoa_sz y b3 b2
    have HE : Hid (tx (decDigits n) ++ ⟨#[42, 50, 94]⟩ ++ tx (itoa y) = tx (posT n y)) := posT_tx n y
    obtain ⟨D1, H1⟩ : ∃ D, Hid (D = tx (decDigits n)) := ⟨_, rfl⟩
    obtain ⟨D2, H2⟩ : ∃ D, Hid (D = tx (itoa y)) := ⟨_, rfl⟩
    have k1 : ∀ w, PT w → Calls Tryz.prog 124 #[.int .i64 n, .int .i64 10] w fun e w' => e = .returned (.string D1) ∧ Below w.heap.size w w' := by rw [H1.out]; exact c1
    have k2 : ∀ w, PT w → Calls Tryz.prog 72 #[.int .i64 y] w fun e w' => e = .returned (.string D2) ∧ Below w.heap.size w w' := by rw [H2.out]; exact c2
    rw [← H1.out] at s1 HE
    rw [← H2.out] at s2 HE
    clear c1 c2 H1 H2
    go_wp2_with fail
    refine (k1 _ hP).mono ?_
    rintro e w2 ⟨rfl, g2⟩
    have P2 := hP.later g2
    clear hP k1
    go_wp2_with fail
    refine (k2 _ P2).mono ?_
    rintro e w3 ⟨rfl, g3⟩
    have B3 := g2.trans (g3.mono g2.size)
    clear P2 k2 g2 g3
    go_wp2
    go_ret
    exact ⟨posT n y, congrArg (fun s => Ending.returned (Value.string s)) HE.out, HQ.out, B3⟩

set_option maxHeartbeats 2000000 in
theorem impl_rtext (b : Nat) (w : World) (hb : b < 18446744073709551616) (hP : PT w) :
    Calls Tryz.prog 73 #[.float .f64 b] w fun e w' => ∃ t, e = .returned (.string (tx t)) ∧ Txt b t ∧ Below w.heap.size w w' := by
  have e1 := Fm.self_ne b
  by_cases hn : Fm.isN b
  · rw [decide_eq_true hn] at e1
    have HP : Hid (Txt b [110, 97, 110]) := .inl ⟨hn, rfl⟩
    clear hn hb hP
    go_enter Tryz.func73, Tryz.ntmps73
    go_wp2
    go_ret
    exact ⟨[110, 97, 110], rfl, HP.out, Below.refl _ _⟩
  · rw [decide_eq_false hn] at e1
    have e2 := Fm.eq_b hn notN0
    rw [sv0] at e2
    by_cases h0 : Fm.sv b = 0
    · rw [decide_eq_true h0] at e2
      have hR := sv_zero h0
      have hq := quo_zero hR
      have hl := inf_lt (Fm.sg b)
      have HT : Hid (Txt b (if Fm.sg b then [45, 48] else [48])) := .inr (.inl ⟨hn, hR, rfl⟩)
      generalize Ieee.double.word (Fm.sg b) Fm.infR = y at hq hl
      clear hn h0 hb hP hR
      generalize Fm.sg b = s at hl HT
      cases s
      · go_enter Tryz.func73, Tryz.ntmps73
        go_wp2
        go_ret
        exact ⟨[48], rfl, HT.out, Below.refl _ _⟩
      · go_enter Tryz.func73, Tryz.ntmps73
        go_wp2
        go_ret
        exact ⟨[45, 48], rfl, HT.out, Below.refl _ _⟩
    · have hR : 0 < Fm.R (Fm.rg b) := by
        rcases Nat.eq_zero_or_pos (Fm.R (Fm.rg b)) with h | h
        · exfalso; apply h0; unfold Fm.sv; rw [h]; split <;> rfl
        · exact h
      have hr := rg_le hn
      cases hs : Fm.sg b with
      | false =>
        refine (impl_pos b w hP hr hs hR).mono ?_
        rintro e w' ⟨t, rfl, ht, g⟩
        exact ⟨t, rfl, .inr (.inr ⟨hn, hR, t, ht, by rw [hs]; rfl⟩), g⟩
      | true =>
        rw [decide_eq_false h0] at e2
        have hlt : Fm.sv b < 0 := by unfold Fm.sv; rw [hs]; simp only [if_true]; omega
        have e3 : (Fm.F.order b 0 == some .lt) = true := by rw [Fm.lt_b hn notN0, sv0]; exact decide_eq_true hlt
        have hc := fun w hP => impl_pos (Op.negFloat .f64 b) w hP (by rw [Fm.rg_neg]; exact hr) (by rw [Fm.sg_neg hb, hs]; rfl) (by rw [Fm.rg_neg]; exact hR)
        rw [Fm.rg_neg] at hc
        have HT : Hid (∀ p, PosT (Fm.rg b) p → Txt b (45 :: p) ∧ (tx p).size ≤ 50) := fun p hp => ⟨.inr (.inr ⟨hn, hR, p, hp, by rw [hs]; rfl⟩), by rw [tx_size]; exact hp.len hR⟩
        have HC : Hid (∀ w, PT w → Calls Tryz.prog 73 #[.float .f64 (Op.negFloat .f64 b)] w fun e w' => ∃ t, e = .returned (.string (tx t)) ∧ PosT (Fm.rg b) t ∧ Below w.heap.size w w') := hc
        clear hc hn h0 hR hr hs hlt hb
        go_enter Tryz.func73, Tryz.ntmps73
        go_wp2_with fail
        refine (HC.out _ hP).mono ?_
        rintro e w1 ⟨p, rfl, hp, g1⟩
        obtain ⟨t1, t2⟩ := HT.out p hp
        have HQ : Hid (Txt b (45 :: p)) := t1
        have HE : Hid ((⟨#[45]⟩ : ByteArray) ++ tx p = tx (45 :: p)) := minus_tx p
        obtain ⟨D, HD⟩ : ∃ D, Hid (D = tx p) := ⟨_, rfl⟩
        rw [← HD.out] at t2 HE ⊢
        clear hp t1 HT HC hP HD
        go_wp2
        go_ret
        exact ⟨45 :: p, congrArg (fun s => Ending.returned (Value.string s)) HE.out, HQ.out, g1⟩

end Go.Proofs.YtjnddfpieogpiaaGreatDoor.Rr
/- FormatUint to base 10, memDigits. -/
namespace Go.Proofs.YtjnddfpieogpiaaGreatDoor.Rr
open Go.RowKit
open Go.Lib (decDigits itoa nDigits)
set_option linter.unusedVariables false

theorem small_r (i : Nat) (h : i < 100) (w : World) : Calls Tryz.prog 154 #[.int .i64 i] w fun e w' => e = .returned (.string (tx (decDigits i))) ∧ w' = w :=
  Any.internal_strconv_small { Tryz.layI with } i h w
theorem ndig_r (u : Nat) (h1 : 1 ≤ u) (h2 : u < 18446744073709551616) (w : World) (hP : PT w) : Calls Tryz.prog 155 #[.int .u64 u] w fun e w' => e = .returned (.int .i64 (nDigits u)) ∧ w' = w :=
  Any.internal_strconv_numDigits { Tryz.layI with } u h1 h2 w hP
theorem base10_r (g u n : Nat) (w : World) (hH : Sort.Holds (fun (b : UInt8) => Value.int .u8 (b.toNat : Int)) w g 0 (Array.replicate n (0 : UInt8))) (hu : u < 10 ^ n) (hu64 : u < 18446744073709551616) (hn : n ≤ 24) :
    Calls Tryz.prog 156 #[.slice (some ⟨g, 0, none⟩) n 24, .int .u64 u] w fun e w' => e = .returned (.tuple #[]) ∧ ∃ (k v' : Nat) (dk : Array UInt8), w' = (Sort.putRow (fun (b : UInt8) => Value.int .u8 (b.toNat : Int)) w g 0 dk).drewN k ∧ Lib.FmtInv n u 0 v' dk := by
  have h := Any.internal_strconv_formatBase10 (P := Tryz.prog) { Tryz.layI with } g 0 24 u (Array.replicate n (0 : UInt8)) w hH (by rw [Array.size_replicate]; exact hu) hu64 (by rw [Array.size_replicate]; omega)
  rw [Array.size_replicate] at h
  exact h
theorem digits_most {u : Nat} (h1 : 1 ≤ u) (h2 : u < 18446744073709551616) : nDigits u ≤ 20 := by
  have := Lib.numDigits_eq u h1 h2
  split at this <;> omega

set_option maxRecDepth 10000 in
set_option maxHeartbeats 1000000 in
theorem fuint_r (u : Nat) (hu : u < 4294967296) (w : World) (hP : PT w) :
    Calls Tryz.prog 127 #[.int .u64 u, .int .i64 10] w fun e w' => e = .returned (.string (tx (decDigits u))) ∧ Below w.heap.size w w' := by
  by_cases hs : u < 100
  · have i1 : (u : Int) < 100 := by omega
    have HS : Hid (u < 100) := hs
    obtain ⟨D, HD⟩ : ∃ D, Hid (D = tx (decDigits u)) := ⟨_, Eq.refl (tx (decDigits u))⟩
    have HC : Hid (∀ W, Calls Tryz.prog 154 #[.int .i64 u] W fun e w' => e = .returned (.string D) ∧ w' = W) := fun W => by rw [HD.out]; exact small_r u HS.out W
    rw [← HD.out]
    clear hs
    go_enter Tryz.func127, Tryz.ntmps127
    go_wp2_with fail
    refine (HC.out _).mono ?_
    rintro e w1 ⟨rfl, hw1⟩
    subst hw1
    go_wp2
    go_ret
    exact ⟨rfl, Below.refl _ _⟩
  · have i1 : ¬ ((u : Int) < 100) := by omega
    have hu1 : 1 ≤ u := by omega
    have hu64 : u < 18446744073709551616 := by omega
    have hnd := digits_most hu1 hu64
    have HN : Hid (∀ o, Calls Tryz.prog 155 #[.int .u64 u] (w.alloc o) fun e w' => e = .returned (.int .i64 (nDigits u)) ∧ w' = w.alloc o) := fun o => ndig_r u hu1 hu64 _ (hP.later ((Below.refl _ _).alloc (Nat.le_refl _) _))
    have hH0 := Lib.holds_zero0 w 206 (nDigits u) (by omega)
    have HF : Hid (Calls Tryz.prog 156 #[.slice (some ⟨w.heap.size, 0, none⟩) (nDigits u) 24, .int .u64 u] (w.alloc (.cells Lib.zeros24 206)) fun e w' => e = .returned (.tuple #[]) ∧ ∃ (k v' : Nat) (dk : Array UInt8), w' = (Sort.putRow (fun (b : UInt8) => Value.int .u8 (b.toNat : Int)) (w.alloc (.cells Lib.zeros24 206)) w.heap.size 0 dk).drewN k ∧ Lib.FmtInv (nDigits u) u 0 v' dk) := base10_r w.heap.size u (nDigits u) _ hH0 (Lib.lt_pow_nDigits u) hu64 (by omega)
    have HH0 : Hid (Sort.Holds (fun (b : UInt8) => Value.int .u8 (b.toNat : Int)) (w.alloc (.cells Lib.zeros24 206)) w.heap.size 0 (Array.replicate (nDigits u) (0 : UInt8))) := hH0
    have hal : Tryz.prog.arrayLen 206 = 24 := by kernel_rfl
    have d0 : (0 : Int) ≤ (nDigits u : Int) := by omega
    have d1 : (nDigits u : Int) ≤ 24 := by omega
    have hsl : ∀ W, (Instr.sliceAt 206 (.pointer (some ⟨w.heap.size, 0, none⟩)) none (some (.int .i64 (nDigits u : Int))) none).run Tryz.prog W = .ok (.slice (some ⟨w.heap.size, 0, none⟩) (nDigits u) 24) W := fun W => by
      rw [run_sliceAt_array_h W 206 ⟨w.heap.size, 0, none⟩ (by kernel_rfl) .i64 (nDigits u : Int) (by omega) (by rw [hal]; omega)]
      rw [show Tryz.prog.elem 206 = 5 by kernel_rfl, Tryz.sizeOf5, Result.andThen_ok, hal]
      simp [slicedAt]
      rfl
    clear hH0 hs hnd
    go_enter Tryz.func127, Tryz.ntmps127
    go_wp2_with fail
    refine (HN.out _).mono ?_
    rintro e w1 ⟨rfl, hw1⟩
    subst hw1
    go_wp2_with fail
    refine HF.out.mono ?_
    rintro e w2 ⟨rfl, k, v', dk, hw2, hF⟩
    have hcv : (convert 22 9 (.slice (some ⟨w.heap.size, 0, none⟩) (nDigits u) 24)).run Tryz.prog w2 = .ok (.string (tx (decDigits u))) w2 := by
      have h := run_convert_bytes_back (P := Tryz.prog) w2 22 9 5 ⟨w.heap.size, 0, none⟩ 24 (decDigits u) Tryz.underlying22 Tryz.underlying5 Tryz.underlying9 (fun j hj => by
        rw [hw2, Lib.row_is_numeral hF j hj, Lib.add_plain, World.cell?_drewN]
        exact Sort.cell?_putRow (fun (b : UInt8) => Value.int .u8 (b.toNat : Int)) _ w.heap.size 0 _ dk HH0.out (by rw [hF.size, Array.size_replicate]) j (by rw [hF.size]; rw [Lib.decDigits_length] at hj; exact hj))
      rw [Lib.decDigits_length] at h
      exact h
    have b2 : Below w.heap.size w w2 := by
      obtain ⟨os, eo⟩ := Lib.fin_at w (.cells Lib.zeros24 206) dk k 0
      rw [hw2, eo]; exact below_grow w k os
    clear hF hw2 HF HN HH0
    go_wp2
    go_ret
    exact ⟨rfl, b2⟩

set_option maxHeartbeats 1000000 in
theorem digits_i (u : Nat) (hu : u < 4294967296) (w : World) (hP : PT w) :
    Calls Tryz.prog 26 #[.int .u32 u] w fun e w' => e = .returned (.string (tx (decDigits u))) ∧ Below w.heap.size w w' := by
  have HU : Hid (u < 4294967296) := hu
  have u1 : (u : Int) < 4294967296 := by omega
  have u0 : (0 : Int) ≤ (u : Int) := by omega
  obtain ⟨D, HD⟩ : ∃ D, Hid (D = tx (decDigits u)) := ⟨_, Eq.refl (tx (decDigits u))⟩
  have HC : Hid (∀ W, PT W → Calls Tryz.prog 127 #[.int .u64 u, .int .i64 10] W fun e w' => e = .returned (.string D) ∧ Below W.heap.size W w') := fun W h => by rw [HD.out]; exact fuint_r u HU.out W h
  have HC2 : Hid (∀ W, PT W → Calls Tryz.prog 77 #[.int .u64 u, .int .i64 10] W fun e w' => e = .returned (.string D) ∧ Below W.heap.size W w') := fun W h => by
    have HW : Hid (PT W) := h
    clear h hP
    go_enter Tryz.func77, Tryz.ntmps77
    go_wp2_with fail
    refine (HC.out _ HW.out).mono ?_
    rintro e w1 ⟨rfl, g1⟩
    go_wp2
    go_ret
    exact ⟨rfl, g1⟩
  have HW : Hid (PT w) := hP
  rw [← HD.out]
  clear HC hu hP
  go_enter Tryz.func26, Tryz.ntmps26
  go_wp2_with fail
  refine (HC2.out _ HW.out).mono ?_
  rintro e w1 ⟨rfl, g1⟩
  go_wp2
  go_ret
  exact ⟨rfl, g1⟩
end Go.Proofs.YtjnddfpieogpiaaGreatDoor.Rr
