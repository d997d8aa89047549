/- The specification's decimals. -/
import Derived.Test.YtidfjinmaiechaaGreatDoorDl
import Derived.Test.YtidfjinmaiechaaGreatDoorDe
import Derived.Lib.ItoaMem
import Derived.Lib.ItoaLen
import Derived.Lib.QuietBelow
import Derived.Laws.IdiomStrings
namespace Go.Proofs.YtidfjinmaiechaaGreatDoor
open Go.RowKit
open Go.Lib (decDigits itoa nDigits)
set_option linter.unusedVariables false

/-- A text out of its bytes. -/
def tx (l : List UInt8) : ByteArray := ⟨l.toArray⟩

theorem decDigits_step (u : Nat) (h : 10 ≤ u) : decDigits u = decDigits (u / 10) ++ [UInt8.ofNat (48 + u % 10)] := by
  rw [decDigits, dif_neg (by omega)]

theorem tx_size (l : List UInt8) : (tx l).size = l.length := by simp [tx, ByteArray.size]
theorem tx_append (a b : List UInt8) : tx a ++ tx b = tx (a ++ b) := by
  apply ByteArray.ext
  simp [tx]
theorem tx_nil : (⟨#[]⟩ : ByteArray) = tx [] := rfl

theorem conv1 (wr : World) (y : Int) (d : Nat) (hy : y = d) (hd : d < 256) :
    (convert 51 9 (.slice (some ⟨wr.heap.size, 0, none⟩) 1 1)).run Tryz.prog (wr.alloc (.cells #[.int .u8 y] 5)) = .ok (.string (tx [UInt8.ofNat d])) (wr.alloc (.cells #[.int .u8 y] 5)) := by
  refine run_convert_bytes_back (P := Tryz.prog) _ 51 9 5 ⟨wr.heap.size, 0, none⟩ 1 [UInt8.ofNat d] Tryz.underlying51 Tryz.underlying5 Tryz.underlying9 ?_
  intro j hj
  have e : j = 0 := by simp at hj; exact hj
  subst e
  have e2 : (UInt8.ofNat d).toNat = d := by simp; omega
  simp [Addr.add, e2, hy]

set_option maxRecDepth 100000 in
set_option maxHeartbeats 1000000 in
theorem dec_pos (u : Nat) (hu : u ≤ 1000000000000) (w : World) :
    Calls Tryz.prog 79 #[.int .i64 u] w fun e w' => e = .returned (.string (tx (decDigits u))) ∧ Below w.heap.size w w' := by
  go_enter Tryz.func79, Tryz.ntmps79
  go_wp2
  go_loopw [0, 3] (fun n o wr => ∃ (m : Nat) (l : List UInt8), m ≤ u ∧ n = .int .i64 m ∧ o = .string (tx l) ∧ Hid (decDigits u = decDigits m ++ l) ∧ l.length ≤ 100 ∧ Below w.heap.size w wr) (fun n _ _ => (intOf n).toNat)
  case atStart => exact ⟨u, [], Nat.le_refl _, rfl, rfl, (List.append_nil _).symm, by simp, Below.refl _ _⟩
  case round =>
    obtain ⟨m, l, hm, rfl, rfl, hd, hl, hb⟩ := hrel
    obtain ⟨O, HO⟩ : ∃ O, Hid (O = tx l) := ⟨_, rfl⟩
    rw [← HO.out]
    have hO : O.size ≤ 100 := by rw [HO.out]; simpa [tx, ByteArray.size] using hl
    by_cases h9 : 9 < m
    · have cv := conv1 wr (48 + (m : Int) % 10) (48 + m % 10) (by omega) (by omega)
      obtain ⟨D, HD⟩ : ∃ D, Hid (D = tx [UInt8.ofNat (48 + m % 10)]) := ⟨_, rfl⟩
      rw [← HD.out] at cv
      have hD : D.size = 1 := by rw [HD.out]; rfl
      have hn : decDigits u = decDigits (m / 10) ++ (UInt8.ofNat (48 + m % 10) :: l) := by rw [hd.out, decDigits_step m (by omega), List.append_assoc]; rfl
      have hlen : (UInt8.ofNat (48 + m % 10) :: l).length ≤ 100 := by
        have h1 := Lib.itoa_length_le (u : Int) (by omega) (by omega)
        rw [Lib.itoa_nonneg, hn, List.length_append] at h1
        omega
      have HN : Hid (decDigits u = decDigits (m / 10) ++ (UInt8.ofNat (48 + m % 10) :: l)) := hn
      have HE : Hid (D ++ O = tx (UInt8.ofNat (48 + m % 10) :: l)) := by rw [HD.out, HO.out]; exact tx_append _ _
      clear hn hd HD HO
      go_wp2
      go_roundw
      case rel => exact ⟨m / 10, UInt8.ofNat (48 + m % 10) :: l, by omega, by go_num, congrArg Value.string HE.out, HN, hlen, hb.alloc hb.size _⟩
      case measure => simp [intOf]; omega
    · have cv := conv1 wr (48 + (m : Int)) (48 + m) (by omega) (by omega)
      obtain ⟨D, HD⟩ : ∃ D, Hid (D = tx [UInt8.ofNat (48 + m)]) := ⟨_, rfl⟩
      rw [← HD.out] at cv
      have hD : D.size = 1 := by rw [HD.out]; rfl
      have HE : Hid (D ++ O = tx (decDigits u)) := by rw [HD.out, HO.out, hd.out, Lib.decDigits_one (by omega)]; exact tx_append _ _
      clear hd HD HO
      go_wp2
      go_ret
      exact ⟨congrArg (fun s => Ending.returned (Value.string s)) HE.out, hb.alloc hb.size _⟩

/-- The text of a number. -/
theorem tx_neg (u : Nat) (h : 1 ≤ u) : tx (itoa (-(u : Int))) = ⟨#[45]⟩ ++ tx (decDigits u) := by
  rw [Lib.itoa_neg u h]
  exact (tx_append [45] (decDigits u)).symm
theorem digits_size (u : Nat) (hu : u ≤ 1000000000000) : (tx (decDigits u)).size ≤ 21 ∧ 1 ≤ (tx (decDigits u)).size := by
  rw [tx_size]
  have h1 := Lib.itoa_length_le (u : Int) (by omega) (by omega)
  rw [Lib.itoa_nonneg] at h1
  have h2 := Lib.nDigits_pos u
  rw [← Lib.decDigits_length] at h2
  exact ⟨h1, h2⟩

set_option maxRecDepth 100000 in
set_option maxHeartbeats 1000000 in
theorem dec_neg (u : Nat) (h : 1 ≤ u) (hu : u ≤ 1000000000000) (w : World) :
    Calls Tryz.prog 79 #[.int .i64 (-(u : Int))] w fun e w' => e = .returned (.string (tx (itoa (-(u : Int))))) ∧ Below w.heap.size w w' := by
  rw [tx_neg u h]
  have HC : Hid (∀ W : World, Calls Tryz.prog 79 #[.int .i64 u] W fun e w' => e = .returned (.string (tx (decDigits u))) ∧ Below W.heap.size W w') := fun W => dec_pos u hu W
  have hs := digits_size u hu
  obtain ⟨D, HD⟩ : ∃ D, Hid (D = tx (decDigits u)) := ⟨_, rfl⟩
  rw [← HD.out] at HC hs ⊢
  clear HD
  have i1 : ¬ (-(u : Int) < -9223372036854775807) := by omega
  have i2 : -(u : Int) < 0 := by omega
  go_enter Tryz.func79, Tryz.ntmps79
  go_wp2_with fail
  refine (HC.out _).mono ?_
  rintro e w1 ⟨rfl, g1⟩
  go_wp2
  go_ret
  exact ⟨rfl, g1⟩

theorem dec_any (n : Int) (h0 : -1000000000000 ≤ n) (h1 : n ≤ 1000000000000) (w : World) :
    Calls Tryz.prog 79 #[.int .i64 n] w fun e w' => e = .returned (.string (tx (itoa n))) ∧ Below w.heap.size w w' := by
  by_cases h : 0 ≤ n
  · obtain ⟨u, rfl⟩ := Int.eq_ofNat_of_zero_le h
    rw [Lib.itoa_nonneg]
    exact dec_pos u (by omega) w
  · obtain ⟨u, hu⟩ := Int.eq_ofNat_of_zero_le (by omega : 0 ≤ -n)
    obtain rfl : n = -(u : Int) := by omega
    exact dec_neg u (by omega) (by omega) w
end Go.Proofs.YtidfjinmaiechaaGreatDoor
