/- A bit put: memTurned of the program, l5Turned of the specification. -/
import Derived.Test.YteekbhhlgicpeaaDoorMt
import Derived.Deep.LoopGhost
namespace Go.Proofs.YteekbhhlgicpeaaDoor
open Go.RowKit Go.Shelf
set_option linter.unusedVariables false

theorem bput_nat (x p : Nat) (b : Bool) (hx : x < 18446744073709551616) (hp : p < 64) : bput x p b = if b then ((x ||| 2 ^ p : Nat) : Int) else ((x &&& (18446744073709551615 - 2 ^ p) : Nat) : Int) := by
  cases b with
  | true => exact (bput_or x p hx hp).symm.trans (u64_or_nat x (2 ^ p) hx (pow64 hp))
  | false => exact (bput_and x p hx hp).symm.trans (u64_andNot_nat x (2 ^ p) hx (pow64 hp))
theorem bput_bd (x p W : Nat) (b : Bool) (hW : W ≤ 64) (hx : x < 2 ^ W) (hp : p < W) : 0 ≤ bput x p b ∧ bput x p b < ((2 ^ W : Nat) : Int) := by
  have h64 : (2 : Nat) ^ W ≤ 18446744073709551616 := by
    calc 2 ^ W ≤ 2 ^ 64 := Nat.pow_le_pow_right (by decide) hW
      _ = 18446744073709551616 := by decide
  rw [bput_nat x p b (by omega) (by omega)]
  cases b with
  | true =>
    have h1 : x ||| 2 ^ p < 2 ^ W := Nat.or_lt_two_pow hx (Nat.pow_lt_pow_right (by decide) hp)
    simp only [if_true]
    omega
  | false =>
    have h1 : x &&& (18446744073709551615 - 2 ^ p) ≤ x := Nat.and_le_left
    simp only [Bool.false_eq_true, if_false]
    omega
theorem mask_eq (q : Nat) (h : q < 64) : IntKind.u64.wrap (2 ^ q) = ((2 ^ q : Nat) : Int) := by
  have := pow64 h
  have e : ((2 : Int) ^ q) = ((2 ^ q : Nat) : Int) := by push_cast; rfl
  rw [e]
  generalize 2 ^ q = M at this ⊢
  simp [IntKind.wrap, IntKind.bits, IntKind.signed]
  omega

set_option maxHeartbeats 1000000 in
theorem lturned (x p : Nat) (b : Bool) (hx : x < 18446744073709551616) (hp : p < 64) (w : World) : Calls Tryd.prog 39 #[.int .u64 (x : Int), .int .i64 (p : Int), .bool b] w fun e w' => e = .returned (.int .u64 (bput x p b)) ∧ w' = w := by
  have hb := bput_bd x p 64 b (by omega) (by simpa using hx) hp
  have HX : Hid (x < 18446744073709551616 ∧ p < 64) := ⟨hx, hp⟩
  obtain ⟨y, Hy⟩ : ∃ y, Hid (y = bput x p b) := ⟨_, rfl⟩
  rw [← Hy.out] at hb
  rw [← Hy.out]
  obtain ⟨t, Ht⟩ : ∃ t, Hid (t = btest x p) := ⟨_, rfl⟩
  have HL : Hid (∀ W, Calls Tryd.prog 61 #[.int .u64 (x : Int), .int .i64 (p : Int)] W fun e w' => e = .returned (.bool t) ∧ w' = W) := fun W => by
    rw [Ht.out]; exact lbit x p W (by omega) (by have := HX.out; omega) (by omega) (by have := HX.out; omega)
  by_cases htb : t = b
  · have ht : (t == b) = true := by simp [htb]
    have hy : y = (x : Int) := by rw [Hy.out, bput, ← Ht.out, if_pos htb]
    subst hy
    clear htb Hy hb hx hp
    go_enter Tryd.func39, Tryd.ntmps39
    go_wp2_with fail
    refine (HL.out _).mono ?_
    rintro e w1 ⟨rfl, rfl⟩
    go_wp2
    go_ret
    exact ⟨rfl, rfl⟩
  · have ht : (t == b) = false := by simp [htb]
    have hy : (if b then (x : Int) + 2 ^ p else (x : Int) - 2 ^ p) = y := by rw [Hy.out, bput, ← Ht.out, if_neg htb, Int.toNat_natCast]
    have e2 : ((2 : Int) ^ p) = ((2 ^ p : Nat) : Int) := by push_cast; rfl
    rw [e2] at hy
    obtain ⟨hb0, hb1⟩ := hb
    have hb2 : y < 18446744073709551616 := by simpa using hb1
    clear htb Hy hx hp hb1 e2
    go_enter Tryd.func39, Tryd.ntmps39
    go_wp2_with fail
    refine (HL.out _).mono ?_
    rintro e w1 ⟨rfl, rfl⟩
    go_wp2
    go_loopg [7, 8] p (fun g a i wr => ∃ n : Nat, n + g = p ∧ i = .int .i64 n ∧ a = .int .u64 ((2 ^ n : Nat) : Int) ∧ wr = w1)
    case atStart => exact ⟨0, by omega, rfl, rfl, rfl⟩
    case round =>
      obtain ⟨n, hn, rfl, rfl, rfl⟩ := hrel
      have hp64 := HX.out.2
      by_cases hlt : n < p
      · have i1 : (n : Int) < (p : Int) := by omega
        have q1 := pow64 (p := n + 1) (by omega)
        have q2 : 2 ^ (n + 1) = 2 ^ n * 2 := Nat.pow_succ ..
        obtain ⟨M, HM⟩ : ∃ M : Nat, Hid (M = 2 ^ n) := ⟨_, rfl⟩
        have q3 : M * 2 < 18446744073709551616 := by rw [HM.out]; omega
        rw [← HM.out]
        clear hy q1 q2
        go_wp2
        go_roundg (gk - 1)
        case measure => omega
        case rel => exact ⟨n + 1, by omega, by simp, by rw [Nat.pow_succ, ← HM.out]; first | rfl | (push_cast; rfl), rfl⟩
      · have i1 : ¬ ((n : Int) < (p : Int)) := by omega
        obtain rfl : n = p := by omega
        obtain ⟨M, HM⟩ : ∃ M : Int, Hid (M = ((2 ^ n : Nat) : Int)) := ⟨_, rfl⟩
        rw [← HM.out] at hy
        rw [← HM.out]
        cases b with
        | true =>
          simp only [if_true] at hy
          clear i1 hlt
          go_wp2
          go_ret
          exact ⟨rfl, rfl⟩
        | false =>
          simp only [Bool.false_eq_true, if_false] at hy
          clear i1 hlt
          go_wp2
          go_ret
          exact ⟨rfl, rfl⟩
end Go.Proofs.YteekbhhlgicpeaaDoor
