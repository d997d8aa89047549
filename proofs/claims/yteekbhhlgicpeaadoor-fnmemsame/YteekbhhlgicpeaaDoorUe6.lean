/- FormatUint to base 10, memDigits. -/
import Derived.Test.YteekbhhlgicpeaaDoorTv6
import Derived.Lib.AppendIntMem
namespace Go.Proofs.YteekbhhlgicpeaaDoor
open Go.RowKit
open Go.Lib (decDigits itoa nDigits)
set_option linter.unusedVariables false

theorem small_r (i : Nat) (h : i < 100) (w : World) : Calls Tryd.prog 83 #[.int .i64 i] w fun e w' => e = .returned (.string (tx (decDigits i))) ∧ w' = w :=
  Any.internal_strconv_small { Tryd.layI with } i h w
theorem ndig_r (u : Nat) (h1 : 1 ≤ u) (h2 : u < 18446744073709551616) (w : World) (hP : PT w) : Calls Tryd.prog 84 #[.int .u64 u] w fun e w' => e = .returned (.int .i64 (nDigits u)) ∧ w' = w :=
  Any.internal_strconv_numDigits { Tryd.layI with } u h1 h2 w hP
def byteV (b : UInt8) : Value := .int .u8 (b.toNat : Int)
theorem base10_r (g u n : Nat) (w : World) (hH : Sort.Holds (fun (b : UInt8) => Value.int .u8 (b.toNat : Int)) w g 0 (Array.replicate n (0 : UInt8))) (hu : u < 10 ^ n) (hu64 : u < 18446744073709551616) (hn : n ≤ 24) :
    Calls Tryd.prog 85 #[.slice (some ⟨g, 0, none⟩) n 24, .int .u64 u] w fun e w' => e = .returned (.tuple #[]) ∧ ∃ (k v' : Nat) (dk : Array UInt8), w' = (Sort.putRow (fun (b : UInt8) => Value.int .u8 (b.toNat : Int)) w g 0 dk).drewN k ∧ Lib.FmtInv n u 0 v' dk := by
  have h := Any.internal_strconv_formatBase10 (P := Tryd.prog) { Tryd.layI with } g 0 24 u (Array.replicate n (0 : UInt8)) w hH (by rw [Array.size_replicate]; exact hu) hu64 (by rw [Array.size_replicate]; omega)
  rw [Array.size_replicate] at h
  exact h
theorem digits_most {u : Nat} (h1 : 1 ≤ u) (h2 : u < 18446744073709551616) : nDigits u ≤ 20 := by
  have := Lib.numDigits_eq u h1 h2
  split at this <;> omega

set_option maxRecDepth 10000 in
set_option maxHeartbeats 1000000 in
theorem fuint_r (u : Nat) (hu : u < 4294967296) (w : World) (hP : PT w) :
    Calls Tryd.prog 75 #[.int .u64 u, .int .i64 10] w fun e w' => e = .returned (.string (tx (decDigits u))) ∧ Below w.heap.size w w' := by
  by_cases hs : u < 100
  · have i1 : (u : Int) < 100 := by omega
    have HS : Hid (u < 100) := hs
    obtain ⟨D, HD⟩ : ∃ D, Hid (D = tx (decDigits u)) := ⟨_, Eq.refl (tx (decDigits u))⟩
    have HC : Hid (∀ W, Calls Tryd.prog 83 #[.int .i64 u] W fun e w' => e = .returned (.string D) ∧ w' = W) := fun W => by rw [HD.out]; exact small_r u HS.out W
    rw [← HD.out]
    clear hs
    go_enter Tryd.func75, Tryd.ntmps75
    go_wp2_with fail
    refine (HC.out _).mono ?_
    rintro e w1 ⟨rfl, hw1⟩
    subst hw1
    go_wp2
    go_ret
    exact ⟨rfl, Below.refl _ _⟩
  · have i1 : ¬ ((u : Int) < 100) := by omega
    have hu1 : 1 ≤ u := by omega
    have hu64 : u < 18446744073709551616 := by omega
    have hnd := digits_most hu1 hu64
    have HN : Hid (∀ o, Calls Tryd.prog 84 #[.int .u64 u] (w.alloc o) fun e w' => e = .returned (.int .i64 (nDigits u)) ∧ w' = w.alloc o) := fun o => ndig_r u hu1 hu64 _ (hP.later ((Below.refl _ _).alloc (Nat.le_refl _) _))
    have hH0 := Lib.holds_zero0 w 124 (nDigits u) (by omega)
    have HF : Hid (Calls Tryd.prog 85 #[.slice (some ⟨w.heap.size, 0, none⟩) (nDigits u) 24, .int .u64 u] (w.alloc (.cells Lib.zeros24 124)) fun e w' => e = .returned (.tuple #[]) ∧ ∃ (k v' : Nat) (dk : Array UInt8), w' = (Sort.putRow (fun (b : UInt8) => Value.int .u8 (b.toNat : Int)) (w.alloc (.cells Lib.zeros24 124)) w.heap.size 0 dk).drewN k ∧ Lib.FmtInv (nDigits u) u 0 v' dk) := base10_r w.heap.size u (nDigits u) _ hH0 (Lib.lt_pow_nDigits u) hu64 (by omega)
    have HH0 : Hid (Sort.Holds (fun (b : UInt8) => Value.int .u8 (b.toNat : Int)) (w.alloc (.cells Lib.zeros24 124)) w.heap.size 0 (Array.replicate (nDigits u) (0 : UInt8))) := hH0
    have hal : Tryd.prog.arrayLen 124 = 24 := by kernel_rfl
    have d0 : (0 : Int) ≤ (nDigits u : Int) := by omega
    have d1 : (nDigits u : Int) ≤ 24 := by omega
    have hsl : ∀ W, (Instr.sliceAt 124 (.pointer (some ⟨w.heap.size, 0, none⟩)) none (some (.int .i64 (nDigits u : Int))) none).run Tryd.prog W = .ok (.slice (some ⟨w.heap.size, 0, none⟩) (nDigits u) 24) W := fun W => by
      rw [run_sliceAt_array_h W 124 ⟨w.heap.size, 0, none⟩ (by kernel_rfl) .i64 (nDigits u : Int) (by omega) (by rw [hal]; omega)]
      rw [show Tryd.prog.elem 124 = 5 by kernel_rfl, Tryd.sizeOf5, Result.andThen_ok, hal]
      simp [slicedAt]
      rfl
    clear hH0 hs hnd
    go_enter Tryd.func75, Tryd.ntmps75
    go_wp2_with fail
    refine (HN.out _).mono ?_
    rintro e w1 ⟨rfl, hw1⟩
    subst hw1
    go_wp2_with fail
    refine HF.out.mono ?_
    rintro e w2 ⟨rfl, k, v', dk, hw2, hF⟩
    have hcv : (convert 22 9 (.slice (some ⟨w.heap.size, 0, none⟩) (nDigits u) 24)).run Tryd.prog w2 = .ok (.string (tx (decDigits u))) w2 := by
      have h := run_convert_bytes_back (P := Tryd.prog) w2 22 9 5 ⟨w.heap.size, 0, none⟩ 24 (decDigits u) Tryd.underlying22 Tryd.underlying5 Tryd.underlying9 (fun j hj => by
        rw [hw2, Lib.row_is_numeral hF j hj, Lib.add_plain, World.cell?_drewN]
        exact Sort.cell?_putRow (fun (b : UInt8) => Value.int .u8 (b.toNat : Int)) _ w.heap.size 0 _ dk HH0.out (by rw [hF.size, Array.size_replicate]) j (by rw [hF.size]; rw [Lib.decDigits_length] at hj; exact hj))
      rw [Lib.decDigits_length] at h
      exact h
    have b2 : Below w.heap.size w w2 := by
      obtain ⟨os, eo⟩ := Lib.fin_at w (.cells Lib.zeros24 124) dk k 0
      rw [hw2, eo]; exact below_grow w k os
    clear hF hw2 HF HN HH0
    go_wp2
    go_ret
    exact ⟨rfl, b2⟩

set_option maxHeartbeats 1000000 in
theorem digits_i (u : Nat) (hu : u < 4294967296) (w : World) (hP : PT w) :
    Calls Tryd.prog 21 #[.int .u32 u] w fun e w' => e = .returned (.string (tx (decDigits u))) ∧ Below w.heap.size w w' := by
  have HU : Hid (u < 4294967296) := hu
  have u1 : (u : Int) < 4294967296 := by omega
  have u0 : (0 : Int) ≤ (u : Int) := by omega
  obtain ⟨D, HD⟩ : ∃ D, Hid (D = tx (decDigits u)) := ⟨_, Eq.refl (tx (decDigits u))⟩
  have HC : Hid (∀ W, PT W → Calls Tryd.prog 75 #[.int .u64 u, .int .i64 10] W fun e w' => e = .returned (.string D) ∧ Below W.heap.size W w') := fun W h => by rw [HD.out]; exact fuint_r u HU.out W h
  have HC2 : Hid (∀ W, PT W → Calls Tryd.prog 51 #[.int .u64 u, .int .i64 10] W fun e w' => e = .returned (.string D) ∧ Below W.heap.size W w') := fun W h => by
    have HW : Hid (PT W) := h
    clear h hP
    go_enter Tryd.func51, Tryd.ntmps51
    go_wp2_with fail
    refine (HC.out _ HW.out).mono ?_
    rintro e w1 ⟨rfl, g1⟩
    go_wp2
    go_ret
    exact ⟨rfl, g1⟩
  have HW : Hid (PT w) := hP
  rw [← HD.out]
  clear HC hu hP
  go_enter Tryd.func21, Tryd.ntmps21
  go_wp2_with fail
  refine (HC2.out _ HW.out).mono ?_
  rintro e w1 ⟨rfl, g1⟩
  go_wp2
  go_ret
  exact ⟨rfl, g1⟩
end Go.Proofs.YteekbhhlgicpeaaDoor
