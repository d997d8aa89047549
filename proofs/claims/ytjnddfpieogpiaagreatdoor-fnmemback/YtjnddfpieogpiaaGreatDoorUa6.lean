/- Texts of memories, the specification's parts: l5Mark, l5Dev, l5Bits. -/
import Derived.Test.YtjnddfpieogpiaaGreatDoorMh
import Derived.Test.YtjnddfpieogpiaaGreatDoorFmAM
namespace Go.Proofs.YtjnddfpieogpiaaGreatDoor.Rr
open Go.RowKit
open Go.Lib (decDigits itoa)
set_option linter.unusedVariables false

/-- What a loop gathers. -/
def acc (s : ByteArray) (p : Nat → Bool) (t : Nat → ByteArray) : Nat → ByteArray
  | 0 => s
  | n + 1 => if p n then acc s p t n ++ t n else acc s p t n
theorem acc_yes {s : ByteArray} {p : Nat → Bool} {t : Nat → ByteArray} {n : Nat} (h : p n = true) : acc s p t (n + 1) = acc s p t n ++ t n := by simp [acc, h]
theorem acc_no {s : ByteArray} {p : Nat → Bool} {t : Nat → ByteArray} {n : Nat} (h : p n = false) : acc s p t (n + 1) = acc s p t n := by simp [acc, h]

/-- A device's word and a space. -/
def dvT (k : Int) (n : Nat) (T : ByteArray) : ByteArray := kL k ++ tx (itoa n) ++ T ++ ⟨#[32]⟩
theorem kL_small6 (k : Int) : (kL k).size ≤ 1 := by
  unfold kL
  repeat (first | (split; · exact Nat.le_refl _) | exact Nat.zero_le _)
theorem itoa_small6 (n : Nat) (h : n ≤ 10000000000000000) : (tx (itoa (n : Int))).size ≤ 21 := by
  rw [Lib.itoa_nonneg]; exact (digits_size n h).1
theorem dvT_size (k : Int) (n : Nat) (T : ByteArray) (h : n ≤ 10000000000000000) : (dvT k n T).size ≤ 23 + T.size := by
  have h1 := kL_small6 k
  have h2 := itoa_small6 n h
  have h3 : (⟨#[32]⟩ : ByteArray).size = 1 := rfl
  unfold dvT
  rw [ByteArray.size_append, ByteArray.size_append, ByteArray.size_append, h3]
  omega

theorem mark_s (b : Bool) (s : ByteArray) (w : World) :
    Calls Tryz.prog 92 #[.bool b, .string s] w fun e w' => e = .returned (.string (if b then s else ⟨#[]⟩)) ∧ Below w.heap.size w w' := by
  cases b with
  | true =>
    go_enter Tryz.func92, Tryz.ntmps92
    go_wp2
    go_ret
    exact ⟨rfl, Below.refl _ _⟩
  | false =>
    go_enter Tryz.func92, Tryz.ntmps92
    go_wp2
    go_ret
    exact ⟨rfl, Below.refl _ _⟩

set_option maxHeartbeats 1000000 in
theorem dev_s (k : Int) (n : Nat) (hn : n ≤ 1000) (T : ByteArray) (hT : T.size ≤ 1000) (w : World) :
    Calls Tryz.prog 90 #[.int .i64 k, .int .i64 n, .string T] w fun e w' => e = .returned (.string (dvT k n T)) ∧ Below w.heap.size w w' := by
  have s1 := kL_small6 k
  have s2 := itoa_small6 n (by omega)
  have HL : Hid (∀ W, Calls Tryz.prog 142 #[.int .i64 k] W fun e w' => e = .returned (.string (kL k)) ∧ Below W.heap.size W w') := fun W => (spec_letter k W).mono fun e w' ⟨h1, h2⟩ => ⟨h1, by rw [h2]; exact Below.refl _ _⟩
  have HI : Hid (∀ W, Calls Tryz.prog 91 #[.int .i64 (n : Int)] W fun e w' => e = .returned (.string (tx (itoa n))) ∧ Below W.heap.size W w') := fun W => dec_any n (by omega) (by omega) W
  unfold dvT
  obtain ⟨S, HS⟩ : ∃ S, Hid (S = tx (itoa n)) := ⟨_, Eq.refl (tx (itoa n))⟩
  obtain ⟨K, HKK⟩ : ∃ K, Hid (K = kL k) := ⟨_, Eq.refl (kL k)⟩
  rw [← HS.out] at HI s2
  rw [← HKK.out] at HL s1
  rw [← HS.out, ← HKK.out]
  clear HS HKK
  have z1 : ¬ 9223372036854775807 < K.size + S.size := by omega
  have z2 : ¬ 9223372036854775807 < K.size + S.size + T.size := by omega
  have z3 : ¬ 9223372036854775807 < K.size + S.size + T.size + 1 := by omega
  clear s1 s2 hT hn
  go_enter Tryz.func90, Tryz.ntmps90
  go_wp2_with fail
  refine (HL.out _).mono ?_
  rintro e w1 ⟨rfl, g1⟩
  go_wp2_with fail
  refine (HI.out _).mono ?_
  rintro e w2 ⟨rfl, g2⟩
  have B2 := g1.trans (g2.mono g1.size)
  clear g1 g2 HL HI
  go_wp2
  go_ret
  exact ⟨rfl, B2⟩

def bitsT (c : Array Value) (k : Int) : ByteArray := acc ⟨#[]⟩ (fun n => mbit c k n) (fun n => dvT k n ⟨#[]⟩) (kS k).toNat
theorem kS_bd (k : Int) : 0 ≤ kS k ∧ kS k ≤ 64 := by
  unfold kS
  repeat (first | (split; · omega) | omega)

set_option maxRecDepth 10000 in
set_option maxHeartbeats 1000000 in
theorem bits_s (c : Array Value) (hc : MemOk c) (k : Int) (w : World) :
    Calls Tryz.prog 89 #[.agg c, .int .i64 k] w fun e w' => e = .returned (.string (bitsT c k)) ∧ Below w.heap.size w w' := by
  have HC : Hid (MemOk c) := hc
  have HI : Hid ((Tryz.prog.info? 37).map (·.size) = some c.size) := by rw [HC.out.size]; exact zero_mem.2
  have HZ : Hid (∀ W, Calls Tryz.prog 110 #[.int .i64 k] W fun e w' => e = .returned (.int .i64 (kS k)) ∧ w' = W) := fun W => spec_size k W
  have HM : Hid (∀ (n : Nat) W, Calls Tryz.prog 16 #[.agg c, .agg #[.int .i64 k, .int .i64 n, .int .i64 0]] W fun e w' => e = .returned (.bool (mbit c k n)) ∧ Below W.heap.size W w') := fun n W => mbit_s c HC.out k n 0 W
  have HV : Hid (∀ (n : Nat) W, n ≤ 1000 → Calls Tryz.prog 90 #[.int .i64 k, .int .i64 n, .string ⟨#[]⟩] W fun e w' => e = .returned (.string (dvT k n ⟨#[]⟩)) ∧ Below W.heap.size W w') := fun n W hn => dev_s k n hn ⟨#[]⟩ (by decide) W
  have hzb := kS_bd k
  unfold bitsT
  obtain ⟨Z, HZZ⟩ : ∃ Z : Int, Hid (Z = kS k) := ⟨_, rfl⟩
  rw [← HZZ.out] at HZ hzb ⊢
  clear HZZ
  obtain ⟨p, Hp⟩ : ∃ p : Nat → Bool, Hid (p = fun n : Nat => mbit c k n) := ⟨_, rfl⟩
  obtain ⟨T, HT⟩ : ∃ T : Nat → ByteArray, Hid (T = fun n : Nat => dvT k n ⟨#[]⟩) := ⟨_, rfl⟩
  have HM2 : Hid (∀ (n : Nat) W, Calls Tryz.prog 16 #[.agg c, .agg #[.int .i64 k, .int .i64 n, .int .i64 0]] W fun e w' => e = .returned (.bool (p n)) ∧ Below W.heap.size W w') := fun n W => by rw [Hp.out]; exact HM.out n W
  have HV2 : Hid (∀ (n : Nat) W, n ≤ 1000 → Calls Tryz.prog 90 #[.int .i64 k, .int .i64 n, .string ⟨#[]⟩] W fun e w' => e = .returned (.string (T n)) ∧ Below W.heap.size W w') := fun n W hn => by rw [HT.out]; exact HV.out n W hn
  have HTs : Hid (∀ n : Nat, n ≤ 1000 → (T n).size ≤ 30) := fun n hn => by rw [HT.out]; have := dvT_size k n ⟨#[]⟩ (by omega); have e0 : (⟨#[]⟩ : ByteArray).size = 0 := rfl; rw [e0] at this; exact Nat.le_trans this (by omega)
  rw [← Hp.out, ← HT.out]
  clear HM HV Hp HT hc
  obtain ⟨z, rfl⟩ := Int.eq_ofNat_of_zero_le hzb.1
  have hz64 : z ≤ 64 := by omega
  clear hzb
  rw [Int.toNat_natCast]
  go_enter Tryz.func89, Tryz.ntmps89
  go_wp2_with fail
  go_loopg [5, 6] z (fun g s i wr => ∃ n : Nat, n + g = z ∧ i = .int .i64 n ∧ s = .string (acc ⟨#[]⟩ p T n) ∧ (acc ⟨#[]⟩ p T n).size ≤ 30 * n ∧ Below w.heap.size w wr ∧ wr.heap[w.heap.size]? = some (.cells c 37 (0, 0)))
  case atStart => exact ⟨0, by omega, rfl, rfl, Nat.le_refl 0, (Below.refl _ _).alloc (Nat.le_refl _) _, heap_alloc_new w _⟩
  case round =>
    obtain ⟨n, hn, rfl, rfl, hs, hb, h1⟩ := hrel
    go_wp2_with fail
    refine (HZ.out _).mono ?_
    rintro e w1 ⟨rfl, rfl⟩
    by_cases hlt : n < z
    · have i1 : (n : Int) < (z : Int) := by omega
      have HL : Hid ((loadVar 37 ⟨w.heap.size, 0, none⟩).run Tryz.prog w1 = .ok (.agg c) w1) := load_all h1 _ _ Tryz.underlying37 rfl HI.out
      have H1 : Hid (w1.heap[w.heap.size]? = some (.cells c 37 (0, 0))) := h1
      have HB : Hid (Below w.heap.size w w1) := hb
      clear h1 hb
      go_wp2_with (first | (refine wpL_load rfl 37 _ rfl _ _ rfl _ HL.out ?_) | fail)
      refine (HM2.out n _).mono ?_
      rintro e w2 ⟨rfl, g2⟩
      have H2 : Hid (w2.heap[w.heap.size]? = some (.cells c 37 (0, 0))) := (g2.block _ (Array.getElem?_eq_some_iff.1 H1.out).1).trans H1.out
      have B2 : Hid (Below w.heap.size w w2) := HB.out.trans (g2.mono HB.out.size)
      clear g2 HL
      cases hpn : p n with
      | true =>
        have e1 := acc_yes (s := ⟨#[]⟩) (t := T) hpn
        have HTn := HTs.out n (by omega)
        obtain ⟨A, HA⟩ : ∃ A, Hid (A = acc ⟨#[]⟩ p T n) := ⟨_, rfl⟩
        rw [← HA.out] at hs e1 ⊢
        have z1 : ¬ 9223372036854775807 < A.size + (T n).size := by omega
        have HE : Hid (acc ⟨#[]⟩ p T (n + 1) = A ++ T n) := e1
        clear e1 HA
        go_wp2_with fail
        refine (HV2.out n _ (by omega)).mono ?_
        rintro e w3 ⟨rfl, g3⟩
        have H3 : Hid (w3.heap[w.heap.size]? = some (.cells c 37 (0, 0))) := (g3.block _ (Array.getElem?_eq_some_iff.1 H2.out).1).trans H2.out
        have B3 : Hid (Below w.heap.size w w3) := B2.out.trans (g3.mono B2.out.size)
        clear g3
        go_wp2
        go_roundg (gk - 1)
        case measure => omega
        case rel =>
          exact ⟨n + 1, by omega, by simp, by rw [HE.out], by rw [HE.out, ByteArray.size_append]; omega, B3.out, H3.out⟩
      | false =>
        have HE : Hid (acc ⟨#[]⟩ p T (n + 1) = acc ⟨#[]⟩ p T n) := acc_no hpn
        go_wp2
        go_roundg (gk - 1)
        case measure => omega
        case rel =>
          exact ⟨n + 1, by omega, by simp, by rw [HE.out], by rw [HE.out]; omega, B2.out, H2.out⟩
    · have hnz : n = z := by omega
      subst hnz
      have i1 : ¬ ((n : Int) < (n : Int)) := by omega
      go_wp2
      go_ret
      exact ⟨rfl, hb⟩
end Go.Proofs.YtjnddfpieogpiaaGreatDoor.Rr
