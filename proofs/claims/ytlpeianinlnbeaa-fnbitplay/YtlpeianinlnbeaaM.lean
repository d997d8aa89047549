/- Plain mathematics of packed bits: no Go in it. -/
import Derived.WalkKit
namespace Go.Proofs.Ytlpeianinlnbeaa

def bit01 (x : Bool) : Int := if x then 1 else 0
def rb : Nat → Int → List Bool
  | 0, _ => []
  | n + 1, b => (b % 2 == 1) :: rb n (b / 2)
def val : List Bool → Int
  | [] => 0
  | x :: xs => bit01 x + 2 * val xs

theorem bit01_bd (x : Bool) : 0 ≤ bit01 x ∧ bit01 x ≤ 1 := by cases x <;> simp [bit01]
theorem bit01_mod (b : Int) : bit01 (b % 2 == 1) = b % 2 := by
  by_cases h : b % 2 = 1
  · simp [bit01, h]
  · have h2 : b % 2 = 0 := by omega
    simp [bit01, h2]
theorem rb_length (n : Nat) : ∀ b, (rb n b).length = n := by
  induction n with
  | zero => intro b; rfl
  | succ n ih => intro b; simp [rb, ih]
theorem rb_get (n : Nat) : ∀ (b : Int) (k : Nat), k < n → (rb n b)[k]? = some (b / 2 ^ k % 2 == 1) := by
  induction n with
  | zero => intro b k h; omega
  | succ n ih =>
    intro b k h
    cases k with
    | zero => simp [rb]
    | succ k =>
      simp only [rb, List.getElem?_cons_succ]
      rw [ih (b / 2) k (by omega), Int.pow_succ, Int.mul_comm ((2 : Int) ^ k) 2, ← Int.ediv_ediv_of_nonneg (by decide)]
theorem rb_take (n : Nat) : ∀ (b : Int) (k : Nat), k ≤ n → (rb n b).take k = rb k b := by
  induction n with
  | zero => intro b k h; obtain rfl : k = 0 := by omega
            rfl
  | succ n ih =>
    intro b k h
    cases k with
    | zero => rfl
    | succ k => simp [rb, ih (b / 2) k (by omega)]
theorem val_rb (n : Nat) : ∀ b : Int, 0 ≤ b → val (rb n b) = b % 2 ^ n := by
  induction n with
  | zero => intro b _; simp [rb, val]
  | succ n ih =>
    intro b hb
    simp only [rb, val]
    rw [ih (b / 2) (by omega), bit01_mod]
    have h1 : b % 2 ^ (n + 1) = b % 2 + 2 * (b / 2 % 2 ^ n) := by
      have e := Int.emod_def b (2 ^ (n + 1))
      have e2 := Int.emod_def (b / 2) (2 ^ n)
      have e3 : b / 2 ^ (n + 1) = b / 2 / 2 ^ n := by
        rw [Int.pow_succ, Int.mul_comm, ← Int.ediv_ediv_of_nonneg (by decide)]
      have e4 : (2 : Int) ^ (n + 1) * (b / 2 / 2 ^ n) = 2 * (2 ^ n * (b / 2 / 2 ^ n)) := by
        rw [Int.pow_succ, Int.mul_comm ((2 : Int) ^ n) 2, Int.mul_assoc]
      rw [e, e2, e3, e4]; omega
    omega
theorem val_bd : ∀ l : List Bool, 0 ≤ val l ∧ val l < 2 ^ l.length
  | [] => by simp [val]
  | x :: xs => by
    have h := val_bd xs
    have hx := bit01_bd x
    simp only [val, List.length_cons, Int.pow_succ]
    omega
theorem val_snoc : ∀ (l : List Bool) (x : Bool), val (l ++ [x]) = val l + bit01 x * 2 ^ l.length
  | [], x => by simp [val]
  | y :: ys, x => by
    have h := val_snoc ys x
    simp only [List.cons_append, val, List.length_cons, Int.pow_succ]
    rw [h]
    have : bit01 x * (2 ^ ys.length * 2) = 2 * (bit01 x * 2 ^ ys.length) := by rw [← Int.mul_assoc, Int.mul_comm]
    omega
theorem val_take_succ (l : List Bool) (k : Nat) (x : Bool) (h : l[k]? = some x) : val (l.take (k + 1)) = val (l.take k) + bit01 x * 2 ^ k := by
  have hk : k < l.length := by
    rcases Nat.lt_or_ge k l.length with h1 | h1
    · exact h1
    · rw [List.getElem?_eq_none h1] at h; cases h
  have hx : l[k] = x := by rw [List.getElem?_eq_getElem hk] at h; exact Option.some.inj h
  rw [List.take_succ_eq_append_getElem hk, val_snoc, hx, List.length_take, Nat.min_eq_left (by omega)]
end Go.Proofs.Ytlpeianinlnbeaa
