/- The specification's l2Digits and l26Find. -/
import Derived.Test.YtjbdcbamkdnjhaaGreatDoorDw
namespace Go.Proofs.YtjbdcbamkdnjhaaGreatDoor
open Go.RowKit
set_option linter.unusedVariables false

/-- The number of digits, -1 where one is none. -/
def dgF : List UInt8 → Int → Int
  | [], acc => acc
  | b :: r, acc => if b.toNat < 48 ∨ 57 < b.toNat then -1 else dgF r (acc * 10 + ((b.toNat : Int) - 48))
def digS (l : List UInt8) : Int := if l.length = 0 ∨ 17 < l.length then -1 else dgF l 0

theorem pow10_le (i : Nat) (h : i ≤ 16) : (10 : Int) ^ i ≤ 10000000000000000 := by
  have : ∀ j : Fin 17, (10 : Int) ^ j.val ≤ 10000000000000000 := by decide
  exact this ⟨i, by omega⟩

theorem byte_getD (s : ByteArray) (i : Nat) (hi : i < s.size) : s.data.toList.drop i = (s[i]'hi) :: s.data.toList.drop (i + 1) := drop_at s i hi

set_option maxRecDepth 100000 in
set_option maxHeartbeats 2000000 in
theorem digits_r (s : ByteArray) (w : World) (h1 : 1 ≤ s.size) (h2 : s.size ≤ 17) :
    Calls Tryz.prog 237 #[.string s] w fun e w' => e = .returned (.int .i64 (dgF s.data.toList 0)) ∧ w' = w := by
  have i1 : ((s.size : Int) == 0) = false := by rw [beq_eq_false_iff_ne]; omega
  have i2 : ¬ (17 < (s.size : Int)) := by omega
  obtain ⟨G, HG⟩ : ∃ G, Hid (G = dgF s.data.toList 0) := ⟨_, Eq.refl (dgF s.data.toList 0)⟩
  rw [← HG.out]
  go_enter Tryz.func237, Tryz.ntmps237
  go_wp2
  go_loopg [3, 4] s.size (fun g n i wr => ∃ (j : Nat) (A : Int), j + g = s.size ∧ i = .int .i64 j ∧ n = .int .i64 A ∧ 0 ≤ A ∧ A < (10 : Int) ^ j ∧ Hid (G = dgF (s.data.toList.drop j) A) ∧ wr = w)
  case atStart => exact ⟨0, 0, by omega, rfl, rfl, by omega, by simp, HG.out, rfl⟩
  case round =>
    clear HG
    obtain ⟨j, A, hj, rfl, rfl, hA0, hA1, HG, rfl⟩ := hrel
    by_cases hlt : j < s.size
    · have hp := pow10_le j (by omega)
      have hA2 : A < 10000000000000000 := Int.lt_of_lt_of_le hA1 hp
      have hA3 : A + 1 ≤ (10 : Int) ^ j := hA1
      have hpw : (10 : Int) ^ (j + 1) = 10 ^ j * 10 := Int.pow_succ 10 j
      have hdr := drop_at s j hlt
      have hsj : s[j]? = some (s[j]'hlt) := by simp [hlt]
      by_cases d1 : (s[j]'hlt).toNat < 48
      · have d1' : (((s[j]'hlt).toNat : Nat) : Int) < 48 := by omega
        have HE : Hid (G = -1) := by
          have h := HG.out
          rw [hdr, dgF, if_pos (.inl d1)] at h
          exact h
        clear HG hdr hp hpw hA3
        go_wp2
        go_ret
        exact ⟨by rw [HE.out]; rfl, rfl⟩
      · by_cases d2 : 57 < (s[j]'hlt).toNat
        · have d1' : ¬ (((s[j]'hlt).toNat : Nat) : Int) < 48 := by omega
          have d2' : 57 < (((s[j]'hlt).toNat : Nat) : Int) := by omega
          have HE : Hid (G = -1) := by
            have h := HG.out
            rw [hdr, dgF, if_pos (.inr d2)] at h
            exact h
          clear HG hdr hp hpw hA3
          go_wp2
          go_ret
          exact ⟨by rw [HE.out]; rfl, rfl⟩
        · have d1' : ¬ (((s[j]'hlt).toNat : Nat) : Int) < 48 := by omega
          have d2' : ¬ 57 < (((s[j]'hlt).toNat : Nat) : Int) := by omega
          have HE : Hid (G = dgF (s.data.toList.drop (j + 1)) (A * 10 + (((s[j]'hlt).toNat : Int) - 48))) := by
            have h := HG.out
            rw [hdr, dgF, if_neg (by omega)] at h
            exact h
          have HB : Hid (0 ≤ A * 10 + (((s[j]'hlt).toNat : Int) - 48) ∧ A * 10 + (((s[j]'hlt).toNat : Int) - 48) < (10 : Int) ^ (j + 1)) := by
            refine ⟨by omega, ?_⟩
            rw [hpw]
            omega
          clear HG hdr hp hpw hA3 hA1
          go_wp2
          go_roundg (gk - 1)
          case measure => omega
          case rel => exact ⟨j + 1, _, by omega, by go_num, rfl, HB.out.1, HB.out.2, HE, rfl⟩
    · have e0 : s.data.toList.drop j = [] := List.drop_eq_nil_of_le (by simp; omega)
      have HE : Hid (G = A) := by
        have h := HG.out
        rw [e0] at h
        exact h
      clear HG e0 hA1
      go_wp2
      go_ret
      exact ⟨by rw [HE.out]; rfl, rfl⟩

set_option maxHeartbeats 1000000 in
theorem digits_out (s : ByteArray) (w : World) (h : s.size = 0 ∨ 17 < s.size) (hs : s.size ≤ 1048577) :
    Calls Tryz.prog 237 #[.string s] w fun e w' => e = .returned (.int .i64 (-1)) ∧ w' = w := by
  by_cases h0 : s.size = 0
  · have i1 : ((s.size : Int) == 0) = true := by rw [beq_iff_eq]; omega
    go_enter Tryz.func237, Tryz.ntmps237
    go_wp2
    go_ret
    exact ⟨rfl, rfl⟩
  · have i1 : ((s.size : Int) == 0) = false := by rw [beq_eq_false_iff_ne]; omega
    have i2 : 17 < (s.size : Int) := by omega
    go_enter Tryz.func237, Tryz.ntmps237
    go_wp2
    go_ret
    exact ⟨rfl, rfl⟩

theorem digits_any (s : ByteArray) (w : World) (hs : s.size ≤ 1048577) :
    Calls Tryz.prog 237 #[.string s] w fun e w' => e = .returned (.int .i64 (digS s.data.toList)) ∧ w' = w := by
  unfold digS
  by_cases h : s.size = 0 ∨ 17 < s.size
  · rw [if_pos (by rw [← Lib.size_eq]; exact h)]
    exact digits_out s w h hs
  · rw [if_neg (by rw [← Lib.size_eq]; exact h)]
    exact digits_r s w (by omega) (by omega)

theorem digS_bd (l : List UInt8) : -1 ≤ digS l ∧ digS l ≤ 1000000000000000000 := by
  have key : ∀ (l : List UInt8) (A : Int) (B : Int), 0 ≤ A → A < B → -1 ≤ dgF l A ∧ dgF l A < B * 10 ^ l.length := by
    intro l
    induction l with
    | nil => intro A B h1 h2; simp [dgF]; omega
    | cons b r ih =>
      intro A B h1 h2
      simp only [dgF, List.length_cons]
      split
      · have : (0 : Int) < B * 10 ^ (r.length + 1) := Int.mul_pos (by omega) (Int.pow_pos (by decide))
        omega
      · rename_i hb
        have := ih (A * 10 + ((b.toNat : Int) - 48)) (B * 10) (by omega) (by omega)
        rw [Int.pow_succ, Int.mul_comm (10 ^ r.length) 10, ← Int.mul_assoc]
        exact this
  unfold digS
  split
  · omega
  · rename_i h
    have h1 := key l 0 1 (by omega) (by omega)
    have hp : (10 : Int) ^ l.length ≤ 1000000000000000000 := by
      have : ∀ j : Fin 18, (10 : Int) ^ j.val ≤ 1000000000000000000 := by decide
      exact this ⟨l.length, by omega⟩
    omega

set_option maxRecDepth 100000 in
set_option maxHeartbeats 1000000 in
theorem find_r (s : ByteArray) (w : World) (d : Nat) (hs : s.size ≤ 1048576) (hd : d ≤ s.size) (hno : ∀ j, j < d → ∀ h : j < s.size, (s[j]'h).toNat ≠ 46) (hat : ∀ h : d < s.size, (s[d]'h).toNat = 46) :
    Calls Tryz.prog 136 #[.string s, .int .u8 46] w fun e w' => e = .returned (.int .i64 (if d < s.size then (d : Int) else -1)) ∧ w' = w := by
  obtain ⟨G, HG⟩ : ∃ G : Int, Hid (G = if d < s.size then (d : Int) else -1) := ⟨_, Eq.refl (if d < s.size then (d : Int) else -1)⟩
  rw [← HG.out]
  have Hno : Hid (∀ j, j < d → ∀ h : j < s.size, (s[j]'h).toNat ≠ 46) := hno
  have Hat : Hid (∀ h : d < s.size, (s[d]'h).toNat = 46) := hat
  clear hno hat
  go_enter Tryz.func136, Tryz.ntmps136
  go_wp2
  go_loopg [5] s.size (fun g i wr => ∃ (j : Nat), j + g = s.size ∧ i = .int .i64 j ∧ j ≤ d ∧ wr = w)
  case atStart => exact ⟨0, by omega, rfl, by omega, rfl⟩
  case round =>
    obtain ⟨j, hj, rfl, hjd, rfl⟩ := hrel
    by_cases hlt : j < s.size
    · by_cases hj2 : j < d
      · have hne : ((((s[j]'hlt).toNat : Nat) : Int) == 46) = false := by
          rw [beq_eq_false_iff_ne]
          have := Hno.out j hj2 hlt
          omega
        go_wp2
        go_roundg (gk - 1)
        case measure => omega
        case rel => exact ⟨j + 1, by omega, by go_num, by omega, rfl⟩
      · obtain rfl : j = d := by omega
        have hne : ((((s[j]'hlt).toNat : Nat) : Int) == 46) = true := by
          rw [beq_iff_eq]
          have := Hat.out hlt
          omega
        go_wp2
        go_ret
        exact ⟨by rw [HG.out, if_pos hlt]; rfl, rfl⟩
    · go_wp2
      go_ret
      exact ⟨by rw [HG.out, if_neg (by omega)]; rfl, rfl⟩
end Go.Proofs.YtjbdcbamkdnjhaaGreatDoor
