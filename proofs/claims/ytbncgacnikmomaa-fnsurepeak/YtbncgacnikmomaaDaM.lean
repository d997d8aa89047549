/- The table of kinds, and the walks of devKindOf, DevSize and DevLetter (the program's and the specification's). -/
import Derived.Test.YtbncgacnikmomaaRows
import Derived.WalkKit
import Derived.ProofKit
import Derived.Handy
import Derived.WalkLawsBesides
import Derived.Deep.QuietTactic
import Derived.BigQuiet
import Derived.Lib.LaidU8
import Derived.OpenVars
import Derived.Deep.RegionWith
import Derived.WalkSpells
import Derived.Deep.WholeRow
import Derived.Great.Walk
import Derived.Laws.CopyOwn
import Derived.Laws.EntriesVeiled
namespace Go.Proofs.Ytbncgacnikmomaa
open Go.RowKit
set_option linter.unusedVariables false

def kL (k : Int) : ByteArray := if k = 1 then ⟨#[88]⟩ else if k = 2 then ⟨#[89]⟩ else if k = 3 then ⟨#[77]⟩ else if k = 4 then ⟨#[83]⟩ else if k = 5 then ⟨#[69]⟩ else if k = 6 then ⟨#[71]⟩ else if k = 7 then ⟨#[84]⟩ else if k = 8 then ⟨#[67]⟩ else if k = 9 then ⟨#[68]⟩ else if k = 10 then ⟨#[82]⟩ else ⟨#[]⟩
def kS (k : Int) : Int := if k = 1 then 32 else if k = 2 then 32 else if k = 3 then 64 else if k = 4 then 16 else if k = 5 then 32 else if k = 6 then 5 else if k = 7 then 16 else if k = 8 then 16 else if k = 9 then 32 else if k = 10 then 16 else 0
def kB (k : Int) : Bool := decide (k = 1) || decide (k = 2) || decide (k = 3) || decide (k = 4) || decide (k = 6) || decide (k = 7) || decide (k = 8)
def kW (k : Int) : Bool := decide (k = 7) || decide (k = 8) || decide (k = 9) || decide (k = 11)
def kR (k : Int) : Bool := decide (k = 10) || decide (k = 12) || decide (k = 13)

theorem kL_out (k : Int) (h : k ≤ 0 ∨ 11 ≤ k) : kL k = ⟨#[]⟩ := by
  unfold kL
  rw [if_neg (by omega), if_neg (by omega), if_neg (by omega), if_neg (by omega), if_neg (by omega), if_neg (by omega), if_neg (by omega), if_neg (by omega), if_neg (by omega), if_neg (by omega)]
theorem kS_out (k : Int) (h : k ≤ 0 ∨ 11 ≤ k) : kS k = 0 := by
  unfold kS
  rw [if_neg (by omega), if_neg (by omega), if_neg (by omega), if_neg (by omega), if_neg (by omega), if_neg (by omega), if_neg (by omega), if_neg (by omega), if_neg (by omega), if_neg (by omega)]
theorem kB_out (k : Int) (h : k ≤ 0 ∨ 14 ≤ k) : kB k = false := by simp [kB]; omega
theorem kW_out (k : Int) (h : k ≤ 0 ∨ 14 ≤ k) : kW k = false := by simp [kW]; omega
theorem kR_out (k : Int) (h : k ≤ 0 ∨ 14 ≤ k) : kR k = false := by simp [kR]; omega

theorem k_cases (k : Int) : (k ≤ 0 ∨ 11 ≤ k) ∨ k = 1 ∨ k = 2 ∨ k = 3 ∨ k = 4 ∨ k = 5 ∨ k = 6 ∨ k = 7 ∨ k = 8 ∨ k = 9 ∨ k = 10 := by omega

set_option maxHeartbeats 2000000 in
theorem spec_size (k : Int) (w : World) :
    Calls Try.prog 45 #[.int .i64 k] w fun e w' => e = .returned (.int .i64 (kS k)) ∧ w' = w := by
  rcases k_cases k with h | rfl | rfl | rfl | rfl | rfl | rfl | rfl | rfl | rfl | rfl
  · rw [kS_out k h]
    have n1 : (k == 1) = false := by simp; omega
    have n2 : (k == 2) = false := by simp; omega
    have n3 : (k == 3) = false := by simp; omega
    have n4 : (k == 4) = false := by simp; omega
    have n5 : (k == 5) = false := by simp; omega
    have n6 : (k == 6) = false := by simp; omega
    have n7 : (k == 7) = false := by simp; omega
    have n8 : (k == 8) = false := by simp; omega
    have n9 : (k == 9) = false := by simp; omega
    have n10 : (k == 10) = false := by simp; omega
    go_enter Try.func45, Try.ntmps45
    go_wp2
    go_ret
    exact ⟨rfl, rfl⟩
  all_goals
    go_enter Try.func45, Try.ntmps45
    go_wp2
    go_ret
    exact ⟨rfl, rfl⟩

end Go.Proofs.Ytbncgacnikmomaa
/- What the listed variables hold gives the walks their tables. -/
namespace Go.Proofs.Ytbncgacnikmomaa
open Go.RowKit Go.Lib
set_option linter.unusedVariables false

theorem cells9 : Try.prog.cellsOf 9 = 1 := by kernel_rfl
theorem cells3 : Try.prog.cellsOf 3 = 1 := by kernel_rfl
theorem cells4 : Try.prog.cellsOf 4 = 1 := by kernel_rfl

theorem ba_list {s : ByteArray} {l : List UInt8} (h : s.data.toList = l) : s = ⟨l.toArray⟩ := by rw [← h, Lib.mk_data]

theorem at5 {W : World} {cs : Array Value} {n : String} {g : Nat} (hg : Try.prog.globalNamed n = some g) (hv : W.var? Try.prog n = some cs) {i : Nat} {a b c d e : Value} (h : (cs.toList.drop (i * 5)).take 5 = [a, b, c, d, e]) :
    W.cell? ⟨g, i * 5, none⟩ = some a ∧ W.cell? ⟨g, i * 5 + 1, none⟩ = some b ∧ W.cell? ⟨g, i * 5 + 2, none⟩ = some c ∧ W.cell? ⟨g, i * 5 + 3, none⟩ = some d ∧ W.cell? ⟨g, i * 5 + 4, none⟩ = some e := by
  have key : ∀ j, j < 5 → W.cell? ⟨g, i * 5 + j, none⟩ = [a, b, c, d, e][j]? := fun j hj => by
    rw [World.var?_cell hg hv, ← h, List.getElem?_take, if_pos hj, List.getElem?_drop]
    simp
  exact ⟨key 0 (by omega), key 1 (by omega), key 2 (by omega), key 3 (by omega), key 4 (by omega)⟩

theorem c14 (i : Nat) (h : i < 14) : i = 0 ∨ i = 1 ∨ i = 2 ∨ i = 3 ∨ i = 4 ∨ i = 5 ∨ i = 6 ∨ i = 7 ∨ i = 8 ∨ i = 9 ∨ i = 10 ∨ i = 11 ∨ i = 12 ∨ i = 13 := by omega

end Go.Proofs.Ytbncgacnikmomaa
/- Walks of DevOk (the program's and the specification's), of devDecOk and of toDevArg. -/
namespace Go.Proofs.Ytbncgacnikmomaa
open Go.RowKit
set_option linter.unusedVariables false

def okD (n p : Int) : Bool := decide (-999999999 ≤ n ∧ n ≤ 999999999 ∧ 1 ≤ p ∧ p ≤ 6 ∧ (p = 1 ∨ n.tmod 10 ≠ 0))
/-- An operand is ok. -/
def okA (k n p : Int) : Bool :=
  if k = 12 then okD n p else if k = 11 then decide (-32768 ≤ n ∧ n ≤ 32767 ∧ p = 0) else if k = 13 then decide (0 ≤ n ∧ n ≤ 3 ∧ p = 0) else decide (0 ≤ n ∧ n < kS k ∧ p = 0)

theorem ret_bool {a b : Bool} (h : a = b) : Ending.returned (.bool a) = .returned (.bool b) := by rw [h]

theorem okA_dec (n p : Int) : okA 12 n p = okD n p := by simp [okA]

/-- The last step of the program's DevOk. -/
theorem okA_of {k n p lo hi : Int} (h : okA k n p = decide (lo ≤ n ∧ n < hi ∧ p = 0)) (b : Bool) (hb : b = true ↔ (lo ≤ n ∧ n < hi ∧ p = 0)) : b = okA k n p := by
  rw [h, Bool.eq_iff_iff, hb]
  simp

end Go.Proofs.Ytbncgacnikmomaa
/- Walks of the specification's DevOk. -/
namespace Go.Proofs.Ytbncgacnikmomaa
open Go.RowKit
set_option linter.unusedVariables false

theorem bdrew {B : Nat} {a w : World} (h : Below B a w) (n : Nat) : Below B a (w.drewN n) := ⟨h.os, h.tape, h.output, h.size, h.block⟩

set_option maxHeartbeats 1000000 in
theorem spec_ok_int (n p : Int) (w : World) :
    Calls Try.prog 40 #[.agg #[.int .i64 11, .int .i64 n, .int .i64 p]] w fun e w' => e = .returned (.bool (okA 11 n p)) ∧ Below w.heap.size w w' := by
  have ho : okA 11 n p = decide (-32768 ≤ n ∧ n ≤ 32767 ∧ p = 0) := by simp [okA]
  rw [ho]
  clear ho
  by_cases h1 : -32768 ≤ n
  · by_cases h2 : n ≤ 32767
    · go_enter Try.func40, Try.ntmps40
      go_wp2
      go_ret
      exact ⟨ret_bool (by simp [h1, h2]; rfl), by go_grown⟩
    · go_enter Try.func40, Try.ntmps40
      go_wp2
      go_ret
      exact ⟨ret_bool (by simp; omega), by go_grown⟩
  · go_enter Try.func40, Try.ntmps40
    go_wp2
    go_ret
    exact ⟨ret_bool (by simp; omega), by go_grown⟩

set_option maxHeartbeats 1000000 in
theorem spec_ok_word (n p : Int) (w : World) :
    Calls Try.prog 40 #[.agg #[.int .i64 13, .int .i64 n, .int .i64 p]] w fun e w' => e = .returned (.bool (okA 13 n p)) ∧ Below w.heap.size w w' := by
  have ho : okA 13 n p = decide (0 ≤ n ∧ n ≤ 3 ∧ p = 0) := by simp [okA]
  rw [ho]
  clear ho
  by_cases h1 : 0 ≤ n
  · by_cases h2 : n ≤ 3
    · go_enter Try.func40, Try.ntmps40
      go_wp2
      go_ret
      exact ⟨ret_bool (by simp [h1, h2]; rfl), by go_grown⟩
    · go_enter Try.func40, Try.ntmps40
      go_wp2
      go_ret
      exact ⟨ret_bool (by simp; omega), by go_grown⟩
  · go_enter Try.func40, Try.ntmps40
    go_wp2
    go_ret
    exact ⟨ret_bool (by simp; omega), by go_grown⟩

set_option maxHeartbeats 2000000 in
theorem spec_ok_dec (n p : Int) (w : World) :
    Calls Try.prog 40 #[.agg #[.int .i64 12, .int .i64 n, .int .i64 p]] w fun e w' => e = .returned (.bool (okA 12 n p)) ∧ Below w.heap.size w w' := by
  rw [okA_dec]
  by_cases h1 : n < -999999999
  · go_enter Try.func40, Try.ntmps40
    go_wp2
    go_ret
    exact ⟨ret_bool (by simp [okD]; omega), by go_grown⟩
  by_cases h2 : 999999999 < n
  · go_enter Try.func40, Try.ntmps40
    go_wp2
    go_ret
    exact ⟨ret_bool (by simp [okD]; omega), by go_grown⟩
  by_cases h3 : p < 1
  · go_enter Try.func40, Try.ntmps40
    go_wp2
    go_ret
    exact ⟨ret_bool (by simp [okD]; omega), by go_grown⟩
  by_cases h4 : 6 < p
  · go_enter Try.func40, Try.ntmps40
    go_wp2
    go_ret
    exact ⟨ret_bool (by simp [okD]; omega), by go_grown⟩
  have a1 : -999999999 ≤ n := by omega
  have a2 : n ≤ 999999999 := by omega
  have a3 : 1 ≤ p := by omega
  have a4 : p ≤ 6 := by omega
  by_cases h5 : p = 1
  · subst h5
    go_enter Try.func40, Try.ntmps40
    go_wp2
    go_ret
    exact ⟨ret_bool (by simp [okD]; omega), by go_grown⟩
  · have h6 : (p == 1) = false := by simp [h5]
    go_enter Try.func40, Try.ntmps40
    go_wp2
    go_ret
    have e : okD n p = decide (¬ n.tmod 10 = 0) := by
      simp [okD, a1, a2, a3, a4, h5]
    rw [e]
    exact ⟨ret_bool (by simp; rfl), by go_grown⟩

set_option maxHeartbeats 2000000 in
theorem spec_ok_dev (k n p : Int) (w : World) (k1 : k ≠ 11) (k2 : k ≠ 12) (k3 : k ≠ 13) :
    Calls Try.prog 40 #[.agg #[.int .i64 k, .int .i64 n, .int .i64 p]] w fun e w' => e = .returned (.bool (okA k n p)) ∧ Below w.heap.size w w' := by
  have ho : okA k n p = decide (0 ≤ n ∧ n < kS k ∧ p = 0) := by simp [okA, k1, k2, k3]
  rw [ho]
  clear ho
  have hs := spec_size k
  obtain ⟨z, HZ⟩ : ∃ z, Hid (z = kS k) := ⟨_, rfl⟩
  rw [← HZ.out] at hs ⊢
  clear HZ
  have HS : Hid (∀ w : World, Calls Try.prog 45 #[.int .i64 k] w fun e w' => e = .returned (.int .i64 z) ∧ w' = w) := hs
  clear hs
  have e1 : (k == 11) = false := by simp [k1]
  have e2 : (k == 12) = false := by simp [k2]
  have e3 : (k == 13) = false := by simp [k3]
  by_cases h1 : 0 ≤ n
  · by_cases h2 : n < z
    · go_enter Try.func40, Try.ntmps40
      go_wp2
      go_quiet (first | (go_at_call 45; refine Calls.quiet_of_same (HS.out _)))
      go_wp2
      go_ret
      exact ⟨ret_bool (by simp [h1, h2]; rfl), bdrew (by go_grown) _⟩
    · have d2 : decide (n < z) = false := by simp; omega
      go_enter Try.func40, Try.ntmps40
      go_wp2
      go_quiet (first | (go_at_call 45; refine Calls.quiet_of_same (HS.out _)))
      go_wp2
      go_ret
      exact ⟨ret_bool (by simp; omega), bdrew (by go_grown) _⟩
  · have d1 : decide (0 ≤ n) = false := by simp; omega
    go_enter Try.func40, Try.ntmps40
    go_wp2
    go_quiet (fail)
    go_wp2
    go_ret
    exact ⟨ret_bool (by simp; omega), bdrew (by go_grown) _⟩

theorem spec_ok (k n p : Int) (w : World) :
    Calls Try.prog 40 #[.agg #[.int .i64 k, .int .i64 n, .int .i64 p]] w fun e w' => e = .returned (.bool (okA k n p)) ∧ Below w.heap.size w w' := by
  by_cases k2 : k = 12
  · subst k2; exact spec_ok_dec n p w
  by_cases k1 : k = 11
  · subst k1; exact spec_ok_int n p w
  by_cases k3 : k = 13
  · subst k3; exact spec_ok_word n p w
  exact spec_ok_dev k n p w k1 k2 k3

end Go.Proofs.Ytbncgacnikmomaa
/- Walks of DevIsBit, DevIsWhole and DevIsReal, and the laws FnExactDevOk, FnExactDevIsBit, FnExactDevIsWhole, FnExactDevIsReal. -/
namespace Go.Proofs.Ytbncgacnikmomaa
open Go.RowKit
set_option linter.unusedVariables false

theorem ok_cases {k n p : Int} (h : okA k n p = true) : k = 1 ∨ k = 2 ∨ k = 3 ∨ k = 4 ∨ k = 5 ∨ k = 6 ∨ k = 7 ∨ k = 8 ∨ k = 9 ∨ k = 10 ∨ k = 11 ∨ k = 12 ∨ k = 13 := by
  by_cases h0 : k ≤ 0 ∨ 14 ≤ k
  · have e : okA k n p = decide (0 ≤ n ∧ n < kS k ∧ p = 0) := by
      unfold okA
      rw [if_neg (by omega), if_neg (by omega), if_neg (by omega)]
    rw [e, kS_out k (by omega)] at h
    simp at h
    omega
  · omega

set_option maxHeartbeats 4000000 in
theorem spec_isbit (k n p : Int) (w : World) :
    Calls Try.prog 39 #[.agg #[.int .i64 k, .int .i64 n, .int .i64 p]] w fun e w' => e = .returned (.bool (okA k n p && kB k)) ∧ Below w.heap.size w w' := by
  have HK : Hid (∀ W, Calls Try.prog 40 #[.agg #[.int .i64 k, .int .i64 n, .int .i64 p]] W fun e w' => e = .returned (.bool (okA k n p)) ∧ Below W.heap.size W w') := fun W => spec_ok k n p W
  cases ho : okA k n p with
  | false =>
    rw [ho] at HK
    go_enter Try.func39, Try.ntmps39
    go_wp2_with fail
    refine (HK.out _).mono ?_
    rintro e w1 ⟨rfl, g1⟩
    have b1 : Below w.heap.size w w1 := ((Below.refl _ _).alloc (Nat.le_refl _) _).trans (g1.mono (by simp))
    clear g1
    go_wp2
    go_ret
    exact ⟨rfl, b1⟩
  | true =>
    have hc := ok_cases ho
    rw [ho] at HK
    go_enter Try.func39, Try.ntmps39
    go_wp2_with fail
    refine (HK.out _).mono ?_
    rintro e w1 ⟨rfl, g1⟩
    have c0 : w1.cell? ⟨w.heap.size, 0, none⟩ = some (.int .i64 k) := cell_later g1 (by simp)
    have b1 : Below w.heap.size w w1 := ((Below.refl _ _).alloc (Nat.le_refl _) _).trans (g1.mono (by simp))
    clear g1 HK ho
    rcases hc with rfl | rfl | rfl | rfl | rfl | rfl | rfl | rfl | rfl | rfl | rfl | rfl | rfl
    all_goals
      go_wp2
      go_ret
      exact ⟨rfl, b1⟩

set_option maxHeartbeats 4000000 in
theorem spec_iswhole (k n p : Int) (w : World) :
    Calls Try.prog 41 #[.agg #[.int .i64 k, .int .i64 n, .int .i64 p]] w fun e w' => e = .returned (.bool (okA k n p && kW k)) ∧ Below w.heap.size w w' := by
  have HK : Hid (∀ W, Calls Try.prog 40 #[.agg #[.int .i64 k, .int .i64 n, .int .i64 p]] W fun e w' => e = .returned (.bool (okA k n p)) ∧ Below W.heap.size W w') := fun W => spec_ok k n p W
  cases ho : okA k n p with
  | false =>
    rw [ho] at HK
    go_enter Try.func41, Try.ntmps41
    go_wp2_with fail
    refine (HK.out _).mono ?_
    rintro e w1 ⟨rfl, g1⟩
    have b1 : Below w.heap.size w w1 := ((Below.refl _ _).alloc (Nat.le_refl _) _).trans (g1.mono (by simp))
    clear g1
    go_wp2
    go_ret
    exact ⟨rfl, b1⟩
  | true =>
    have hc := ok_cases ho
    rw [ho] at HK
    go_enter Try.func41, Try.ntmps41
    go_wp2_with fail
    refine (HK.out _).mono ?_
    rintro e w1 ⟨rfl, g1⟩
    have c0 : w1.cell? ⟨w.heap.size, 0, none⟩ = some (.int .i64 k) := cell_later g1 (by simp)
    have b1 : Below w.heap.size w w1 := ((Below.refl _ _).alloc (Nat.le_refl _) _).trans (g1.mono (by simp))
    clear g1 HK ho
    rcases hc with rfl | rfl | rfl | rfl | rfl | rfl | rfl | rfl | rfl | rfl | rfl | rfl | rfl
    all_goals
      go_wp2
      go_ret
      exact ⟨rfl, b1⟩

set_option maxHeartbeats 4000000 in
theorem spec_isreal (k n p : Int) (w : World) :
    Calls Try.prog 42 #[.agg #[.int .i64 k, .int .i64 n, .int .i64 p]] w fun e w' => e = .returned (.bool (okA k n p && kR k)) ∧ Below w.heap.size w w' := by
  have HK : Hid (∀ W, Calls Try.prog 40 #[.agg #[.int .i64 k, .int .i64 n, .int .i64 p]] W fun e w' => e = .returned (.bool (okA k n p)) ∧ Below W.heap.size W w') := fun W => spec_ok k n p W
  cases ho : okA k n p with
  | false =>
    rw [ho] at HK
    go_enter Try.func42, Try.ntmps42
    go_wp2_with fail
    refine (HK.out _).mono ?_
    rintro e w1 ⟨rfl, g1⟩
    have b1 : Below w.heap.size w w1 := ((Below.refl _ _).alloc (Nat.le_refl _) _).trans (g1.mono (by simp))
    clear g1
    go_wp2
    go_ret
    exact ⟨rfl, b1⟩
  | true =>
    have hc := ok_cases ho
    rw [ho] at HK
    go_enter Try.func42, Try.ntmps42
    go_wp2_with fail
    refine (HK.out _).mono ?_
    rintro e w1 ⟨rfl, g1⟩
    have c0 : w1.cell? ⟨w.heap.size, 0, none⟩ = some (.int .i64 k) := cell_later g1 (by simp)
    have b1 : Below w.heap.size w w1 := ((Below.refl _ _).alloc (Nat.le_refl _) _).trans (g1.mono (by simp))
    clear g1 HK ho
    rcases hc with rfl | rfl | rfl | rfl | rfl | rfl | rfl | rfl | rfl | rfl | rfl | rfl | rfl
    all_goals
      go_wp2
      go_ret
      exact ⟨rfl, b1⟩

end Go.Proofs.Ytbncgacnikmomaa
/- Contacts and coils: the table of rules. -/
namespace Go.Proofs.Ytbncgacnikmomaa
open Go.RowKit
set_option linter.unusedVariables false

/-- What stands ahead of the operands. -/
def ahd (op : Int) : ByteArray := if op = 1 then ⟨#[]⟩ else if op = 2 then ⟨#[47]⟩ else if op = 3 then ⟨#[43]⟩ else if op = 4 then ⟨#[45]⟩ else if op = 5 then ⟨#[]⟩ else if op = 6 then ⟨#[]⟩ else if op = 7 then ⟨#[]⟩ else if op = 8 then ⟨#[]⟩ else if op = 9 then ⟨#[]⟩ else if op = 10 then ⟨#[]⟩ else if op = 21 then ⟨#[111, 117, 116, 58]⟩ else if op = 22 then ⟨#[115, 101, 116, 58]⟩ else if op = 23 then ⟨#[114, 101, 115, 101, 116, 58]⟩ else if op = 24 then ⟨#[112, 117, 108, 115, 101, 58]⟩ else if op = 25 then ⟨#[115, 116, 101, 112, 58]⟩ else if op = 26 then ⟨#[116, 105, 109, 101, 114, 58]⟩ else if op = 27 then ⟨#[104, 111, 108, 100, 58]⟩ else if op = 28 then ⟨#[108, 97, 116, 101, 58]⟩ else if op = 29 then ⟨#[99, 111, 117, 110, 116, 58]⟩ else if op = 30 then ⟨#[109, 111, 118, 101, 58]⟩ else if op = 31 then ⟨#[97, 100, 100, 58]⟩ else if op = 32 then ⟨#[115, 117, 98, 58]⟩ else if op = 33 then ⟨#[109, 117, 108, 58]⟩ else if op = 34 then ⟨#[100, 105, 118, 58]⟩ else if op = 35 then ⟨#[114, 101, 109, 58]⟩ else if op = 36 then ⟨#[114, 101, 97, 108, 58]⟩ else if op = 37 then ⟨#[119, 104, 111, 108, 101, 58]⟩ else ⟨#[]⟩
/-- What stands between them. -/
def btw (op : Int) : ByteArray := if op = 1 then ⟨#[]⟩ else if op = 2 then ⟨#[]⟩ else if op = 3 then ⟨#[58]⟩ else if op = 4 then ⟨#[58]⟩ else if op = 5 then ⟨#[60]⟩ else if op = 6 then ⟨#[60, 61]⟩ else if op = 7 then ⟨#[61]⟩ else if op = 8 then ⟨#[60, 62]⟩ else if op = 9 then ⟨#[62, 61]⟩ else if op = 10 then ⟨#[62]⟩ else if op = 21 then ⟨#[]⟩ else if op = 22 then ⟨#[]⟩ else if op = 23 then ⟨#[]⟩ else if op = 24 then ⟨#[44]⟩ else if op = 25 then ⟨#[]⟩ else if op = 26 then ⟨#[44]⟩ else if op = 27 then ⟨#[44]⟩ else if op = 28 then ⟨#[44]⟩ else if op = 29 then ⟨#[44]⟩ else if op = 30 then ⟨#[44]⟩ else if op = 31 then ⟨#[44]⟩ else if op = 32 then ⟨#[44]⟩ else if op = 33 then ⟨#[44]⟩ else if op = 34 then ⟨#[44]⟩ else if op = 35 then ⟨#[44]⟩ else if op = 36 then ⟨#[44]⟩ else if op = 37 then ⟨#[44]⟩ else ⟨#[]⟩
/-- The places that are asked for. -/
def ndP (op : Int) : List Nat := if op = 1 then [1] else if op = 2 then [1] else if op = 3 then [1, 2] else if op = 4 then [1, 2] else if op = 5 then [3, 3] else if op = 6 then [3, 3] else if op = 7 then [3, 3] else if op = 8 then [3, 3] else if op = 9 then [3, 3] else if op = 10 then [3, 3] else if op = 21 then [5] else if op = 22 then [6] else if op = 23 then [7] else if op = 24 then [5, 2] else if op = 25 then [8] else if op = 26 then [9, 10] else if op = 27 then [9, 10] else if op = 28 then [9, 10] else if op = 29 then [11, 10] else if op = 30 then [12, 3] else if op = 31 then [12, 3, 3] else if op = 32 then [12, 3, 3] else if op = 33 then [12, 3, 3] else if op = 34 then [12, 3, 3] else if op = 35 then [12, 3, 3] else if op = 36 then [13, 3] else if op = 37 then [12, 4] else []
def orP (op : Int) : List Nat := if op = 1 then [] else if op = 2 then [] else if op = 3 then [] else if op = 4 then [] else if op = 5 then [4, 4] else if op = 6 then [4, 4] else if op = 7 then [4, 4] else if op = 8 then [4, 4] else if op = 9 then [4, 4] else if op = 10 then [4, 4] else if op = 21 then [] else if op = 22 then [] else if op = 23 then [] else if op = 24 then [] else if op = 25 then [] else if op = 26 then [] else if op = 27 then [] else if op = 28 then [] else if op = 29 then [] else if op = 30 then [13, 4] else if op = 31 then [13, 4, 4] else if op = 32 then [13, 4, 4] else if op = 33 then [13, 4, 4] else if op = 34 then [13, 4, 4] else if op = 35 then [] else if op = 36 then [] else if op = 37 then [] else []
/-- Operations that only build values, run one behind the other. -/
def runB (P : Program) : List Oper → Act → Option Act
  | [], a => some a
  | o :: r, a =>
    match o.op with
    | .build t parts =>
      match o.guard with
      | none => (P.built t (parts.map fun (i, x) => (i, a.eval x)).toList).bind fun c => runB P r (a.put o.dst (.agg c))
      | some _ => none
    | _ => none

theorem wpList_runB {P : Program} {ops : Array Oper} {Q : Exit → Act → World → Prop} (rest : List Oper) (w : World) : ∀ (l : List Oper) (a a' : Act), runB P l a = some a' → wpList P ops Q rest a' w → wpList P ops Q (l ++ rest) a w
  | [], a, a', h, hw => by
    obtain rfl := Option.some.inj h
    exact hw
  | o :: r, a, a', h, hw => by
    unfold runB at h
    split at h
    · rename_i t parts ho
      split at h
      · rename_i hg
        obtain ⟨c, hc, hr⟩ := Option.bind_eq_some_iff.1 h
        exact wpList_buildTo hg t parts ho o.dst rfl c hc (wpList_runB rest w r _ a' hr hw)
      · cases h
    · cases h

theorem wpList_takeB {P : Program} {ops : Array Oper} {Q : Exit → Act → World → Prop} (n : Nat) (L : List Oper) (w : World) (a a' : Act) (h : runB P (L.take n) a = some a') (hw : wpList P ops Q (L.drop n) a' w) : wpList P ops Q L a w := by
  have := wpList_runB (L.drop n) w (L.take n) a a' h hw
  rwa [List.take_append_drop] at this

theorem wpList_takeK {P : Program} {ops : Array Oper} {Q : Exit → Act → World → Prop} (n : Nat) (L : List Oper) (w : World) (a : Act) (p v : Value) (x y : Operand)
    (h : ((runB P (L.take n) a).map fun a' => (a'.eval x, a'.eval y, a'.defers)) = some (p, v, []))
    (hw : ∀ a' : Act, a'.eval x = p → a'.eval y = v → a'.defers = [] → wpList P ops Q (L.drop n) a' w) : wpList P ops Q L a w := by
  obtain ⟨a', ha, he⟩ := Option.map_eq_some_iff.1 h
  simp only [Prod.mk.injEq] at he
  exact wpList_takeB n L w a a' ha (hw a' he.1 he.2.1 he.2.2)

end Go.Proofs.Ytbncgacnikmomaa

/- The rule of an Op; how many places it has. -/
namespace Go.Proofs.Ytbncgacnikmomaa
open Go.RowKit
set_option linter.unusedVariables false

theorem c38 (i : Nat) (h : i < 38) : i = 0 ∨ i = 1 ∨ i = 2 ∨ i = 3 ∨ i = 4 ∨ i = 5 ∨ i = 6 ∨ i = 7 ∨ i = 8 ∨ i = 9 ∨ i = 10 ∨ i = 11 ∨ i = 12 ∨ i = 13 ∨ i = 14 ∨ i = 15 ∨ i = 16 ∨ i = 17 ∨ i = 18 ∨ i = 19 ∨ i = 20 ∨ i = 21 ∨ i = 22 ∨ i = 23 ∨ i = 24 ∨ i = 25 ∨ i = 26 ∨ i = 27 ∨ i = 28 ∨ i = 29 ∨ i = 30 ∨ i = 31 ∨ i = 32 ∨ i = 33 ∨ i = 34 ∨ i = 35 ∨ i = 36 ∨ i = 37 := by omega
theorem pc (c : Nat) : (c = 0 ∨ 14 ≤ c) ∨ c = 1 ∨ c = 2 ∨ c = 3 ∨ c = 4 ∨ c = 5 ∨ c = 6 ∨ c = 7 ∨ c = 8 ∨ c = 9 ∨ c = 10 ∨ c = 11 ∨ c = 12 ∨ c = 13 := by omega
theorem out_all (op : Int) (h : op < 0 ∨ 38 ≤ op) : ahd op = ⟨#[]⟩ ∧ btw op = ⟨#[]⟩ ∧ ndP op = [] ∧ orP op = [] := by
  refine ⟨?_, ?_, ?_, ?_⟩
  · unfold ahd; repeat rw [if_neg (by omega)]
  · unfold btw; repeat rw [if_neg (by omega)]
  · unfold ndP; repeat rw [if_neg (by omega)]
  · unfold orP; repeat rw [if_neg (by omega)]

end Go.Proofs.Ytbncgacnikmomaa
