/- A bit put: memTurned of the program, l5Turned of the specification. -/
import Derived.Test.YtlpoplnghfohmaaDoorMt
import Derived.Deep.LoopGhost
namespace Go.Proofs.YtlpoplnghfohmaaDoor
open Go.RowKit Go.Shelf
set_option linter.unusedVariables false

theorem bput_nat (x p : Nat) (b : Bool) (hx : x < 18446744073709551616) (hp : p < 64) : bput x p b = if b then ((x ||| 2 ^ p : Nat) : Int) else ((x &&& (18446744073709551615 - 2 ^ p) : Nat) : Int) := by
  cases b with
  | true => exact (bput_or x p hx hp).symm.trans (u64_or_nat x (2 ^ p) hx (pow64 hp))
  | false => exact (bput_and x p hx hp).symm.trans (u64_andNot_nat x (2 ^ p) hx (pow64 hp))
theorem bput_bd (x p W : Nat) (b : Bool) (hW : W ≤ 64) (hx : x < 2 ^ W) (hp : p < W) : 0 ≤ bput x p b ∧ bput x p b < ((2 ^ W : Nat) : Int) := by
  have h64 : (2 : Nat) ^ W ≤ 18446744073709551616 := by
    calc 2 ^ W ≤ 2 ^ 64 := Nat.pow_le_pow_right (by decide) hW
      _ = 18446744073709551616 := by decide
  rw [bput_nat x p b (by omega) (by omega)]
  cases b with
  | true =>
    have h1 : x ||| 2 ^ p < 2 ^ W := Nat.or_lt_two_pow hx (Nat.pow_lt_pow_right (by decide) hp)
    simp only [if_true]
    omega
  | false =>
    have h1 : x &&& (18446744073709551615 - 2 ^ p) ≤ x := Nat.and_le_left
    simp only [Bool.false_eq_true, if_false]
    omega
theorem turned_r (x p : Nat) (b : Bool) (hx : x < 18446744073709551616) (hp : p < 64) (w : World) : Calls Tryd.prog 49 #[.agg #[.int .u64 ((2 ^ p : Nat) : Int), .bool b], .int .u64 (x : Int)] w fun e w' => e = .returned (.int .u64 (bput x p b)) ∧ Below w.heap.size w w' := by
  cases b with
  | true => exact turned_true x p hx hp w
  | false => exact turned_false x p hx hp w


set_option maxHeartbeats 1000000 in
theorem turned16 (x p : Nat) (b : Bool) (hx : x < 65536) (hp : p < 16) (w : World) : Calls Tryd.prog 52 #[.int .u16 (x : Int), .func (.func 49) #[.agg #[.int .u64 ((2 ^ p : Nat) : Int), .bool b]] #[]] w fun e w' => e = .returned (.int .u16 (bput x p b)) ∧ Below w.heap.size w w' := by
  have HT : Hid (∀ W, Calls Tryd.prog 49 #[.agg #[.int .u64 ((2 ^ p : Nat) : Int), .bool b], .int .u64 (x : Int)] W fun e w' => e = .returned (.int .u64 (bput x p b)) ∧ Below W.heap.size W w') := fun W => turned_r x p b (by omega) (by omega) W
  have hb := bput_bd x p 16 b (by omega) (by simpa using hx) hp
  obtain ⟨y, hy⟩ : ∃ y, bput x p b = y := ⟨_, rfl⟩
  obtain ⟨M, hM⟩ : ∃ M, ((2 ^ p : Nat) : Int) = M := ⟨_, rfl⟩
  rw [hy] at HT hb
  rw [hM] at HT
  rw [hy, hM]
  obtain ⟨b0, b1⟩ := hb
  have b2 : y < 65536 := by simpa using b1
  have x0 : (0 : Int) ≤ (x : Int) := by omega
  have x1 : (x : Int) < 65536 := by omega
  clear hy hM b1 hp hx
  go_enter Tryd.func52, Tryd.ntmps52
  go_wp2_with fail
  refine (HT.out _).mono ?_
  rintro e w1 ⟨rfl, g1⟩
  go_wp2
  go_ret
  exact ⟨rfl, g1⟩

set_option maxHeartbeats 1000000 in
theorem turned32 (x p : Nat) (b : Bool) (hx : x < 4294967296) (hp : p < 32) (w : World) : Calls Tryd.prog 50 #[.int .u32 (x : Int), .func (.func 49) #[.agg #[.int .u64 ((2 ^ p : Nat) : Int), .bool b]] #[]] w fun e w' => e = .returned (.int .u32 (bput x p b)) ∧ Below w.heap.size w w' := by
  have HT : Hid (∀ W, Calls Tryd.prog 49 #[.agg #[.int .u64 ((2 ^ p : Nat) : Int), .bool b], .int .u64 (x : Int)] W fun e w' => e = .returned (.int .u64 (bput x p b)) ∧ Below W.heap.size W w') := fun W => turned_r x p b (by omega) (by omega) W
  have hb := bput_bd x p 32 b (by omega) (by simpa using hx) hp
  obtain ⟨y, hy⟩ : ∃ y, bput x p b = y := ⟨_, rfl⟩
  obtain ⟨M, hM⟩ : ∃ M, ((2 ^ p : Nat) : Int) = M := ⟨_, rfl⟩
  rw [hy] at HT hb
  rw [hM] at HT
  rw [hy, hM]
  obtain ⟨b0, b1⟩ := hb
  have b2 : y < 4294967296 := by simpa using b1
  have x0 : (0 : Int) ≤ (x : Int) := by omega
  have x1 : (x : Int) < 4294967296 := by omega
  clear hy hM b1 hp hx
  go_enter Tryd.func50, Tryd.ntmps50
  go_wp2_with fail
  refine (HT.out _).mono ?_
  rintro e w1 ⟨rfl, g1⟩
  go_wp2
  go_ret
  exact ⟨rfl, g1⟩

set_option maxHeartbeats 1000000 in
theorem turned64 (x p : Nat) (b : Bool) (hx : x < 18446744073709551616) (hp : p < 64) (w : World) : Calls Tryd.prog 51 #[.int .u64 (x : Int), .func (.func 49) #[.agg #[.int .u64 ((2 ^ p : Nat) : Int), .bool b]] #[]] w fun e w' => e = .returned (.int .u64 (bput x p b)) ∧ Below w.heap.size w w' := by
  have HT : Hid (∀ W, Calls Tryd.prog 49 #[.agg #[.int .u64 ((2 ^ p : Nat) : Int), .bool b], .int .u64 (x : Int)] W fun e w' => e = .returned (.int .u64 (bput x p b)) ∧ Below W.heap.size W w') := fun W => turned_r x p b (by omega) (by omega) W
  have hb := bput_bd x p 64 b (by omega) (by simpa using hx) hp
  obtain ⟨y, hy⟩ : ∃ y, bput x p b = y := ⟨_, rfl⟩
  obtain ⟨M, hM⟩ : ∃ M, ((2 ^ p : Nat) : Int) = M := ⟨_, rfl⟩
  rw [hy] at HT hb
  rw [hM] at HT
  rw [hy, hM]
  obtain ⟨b0, b1⟩ := hb
  have b2 : y < 18446744073709551616 := by simpa using b1
  have x0 : (0 : Int) ≤ (x : Int) := by omega
  have x1 : (x : Int) < 18446744073709551616 := by omega
  clear hy hM b1 hp hx
  go_enter Tryd.func51, Tryd.ntmps51
  go_wp2_with fail
  refine (HT.out _).mono ?_
  rintro e w1 ⟨rfl, g1⟩
  go_wp2
  go_ret
  exact ⟨rfl, g1⟩

theorem mask_eq (q : Nat) (h : q < 64) : IntKind.u64.wrap (2 ^ q) = ((2 ^ q : Nat) : Int) := by
  have := pow64 h
  have e : ((2 : Int) ^ q) = ((2 ^ q : Nat) : Int) := by push_cast; rfl
  rw [e]
  generalize 2 ^ q = M at this ⊢
  simp [IntKind.wrap, IntKind.bits, IntKind.signed]
  omega

end Go.Proofs.YtlpoplnghfohmaaDoor
