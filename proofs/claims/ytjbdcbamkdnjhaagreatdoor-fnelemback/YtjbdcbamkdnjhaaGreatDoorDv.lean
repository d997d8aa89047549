/- The table of kinds loaded whole; the program's guess as a plain function. -/
import Derived.Test.YtjbdcbamkdnjhaaGreatDoorDu
import Derived.Test.YtjbdcbamkdnjhaaGreatDoorDh
import Derived.Deep.LoopGhost
import Derived.Deep.Cut
import Derived.WalkMore
import Derived.Lib.OthersKept
import Derived.Great.Walk
namespace Go.Proofs.YtjbdcbamkdnjhaaGreatDoor
open Go.RowKit
set_option linter.unusedVariables false

def rowK (i : Nat) : List Value := [.string (kL i), .int .i64 (kS i), .bool (kB i), .bool (kW i), .bool (kR i)]
def bigK : List Value := (List.range 14).flatMap rowK

theorem bigK_len : bigK.length = 70 := by decide +kernel
theorem addr_add (b j : Nat) : (⟨b, 0, none⟩ : Addr).add j = ⟨b, j, none⟩ := by
  by_cases hz : j = 0
  · subst hz; rfl
  · simp [Addr.add, hz]
theorem bigK_key (i r : Nat) (hi : i < 14) (hr : r < 5) : bigK[i * 5 + r]? = (rowK i)[r]? := by
  rcases c14 i hi with rfl | rfl | rfl | rfl | rfl | rfl | rfl | rfl | rfl | rfl | rfl | rfl | rfl | rfl
  all_goals
    match r, hr with
    | 0, _ => rfl
    | 1, _ => rfl
    | 2, _ => rfl
    | 3, _ => rfl
    | 4, _ => rfl

theorem bigK_at {W : World} (h : KT W) : ∀ j v, bigK[j]? = some v → W.cell? ((⟨2, 0, none⟩ : Addr).add j) = some v := by
  intro j v hj
  have hlt : j < 70 := by
    have := (List.getElem?_eq_some_iff.1 hj).1
    rwa [bigK_len] at this
  rw [addr_add]
  obtain ⟨i, r, rfl, hi, hr⟩ : ∃ i r, j = i * 5 + r ∧ i < 14 ∧ r < 5 := ⟨j / 5, j % 5, by omega, by omega, by omega⟩
  rw [bigK_key i r hi hr] at hj
  have h0 := h i hi
  match r, hr with
  | 0, _ => simp [rowK] at hj; rw [← hj]; exact h0.1
  | 1, _ => simp [rowK] at hj; rw [← hj]; exact h0.2.1
  | 2, _ => simp [rowK] at hj; rw [← hj]; exact h0.2.2.1
  | 3, _ => simp [rowK] at hj; rw [← hj]; exact h0.2.2.2.1
  | 4, _ => simp [rowK] at hj; rw [← hj]; exact h0.2.2.2.2

theorem load58 {W : World} (h : KT W) (ρ : Operand → Value) (hρ : ρ (.global 2) = .pointer (some ⟨2, 0, none⟩)) (o : Oper) (ho : o.op = .load 235 (.global 2)) :
    (execOp ρ o).run Tryz.prog W = .ok (.value (.agg bigK.toArray)) W := by
  have hl := run_loadCells_list (P := Tryz.prog) W ⟨2, 0, none⟩ bigK (bigK_at h)
  rw [bigK_len] at hl
  unfold execOp
  rw [ho]
  simp only [hρ]
  simp [Instr.loadAt, Instr.sureAddr, loadVar, Sem.run_bind, Tryz.isAgg235, Tryz.sizeOf235, hl, Result.andThen]

theorem bigK_row (i : Nat) (hi : i < 14) : bigK.toArray.extract (i * 5) (i * 5 + 5) = #[.string (kL i), .int .i64 (kS i), .bool (kB i), .bool (kW i), .bool (kR i)] := by
  rcases c14 i hi with rfl | rfl | rfl | rfl | rfl | rfl | rfl | rfl | rfl | rfl | rfl | rfl | rfl | rfl <;> rfl

theorem idx44_0 (a b c d : Value) (w : World) : (Instr.index 125 (.agg #[a, b, c, d]) (.int .i64 0)).run Tryz.prog w = .ok a w := by kernel_rfl
theorem idx44_1 (a b c d : Value) (w : World) : (Instr.index 125 (.agg #[a, b, c, d]) (.int .i64 1)).run Tryz.prog w = .ok b w := by kernel_rfl
theorem idx44_2 (a b c d : Value) (w : World) : (Instr.index 125 (.agg #[a, b, c, d]) (.int .i64 2)).run Tryz.prog w = .ok c w := by kernel_rfl
theorem idx44_3 (a b c d : Value) (w : World) : (Instr.index 125 (.agg #[a, b, c, d]) (.int .i64 3)).run Tryz.prog w = .ok d w := by kernel_rfl
attribute [go_sem] idx44_0 idx44_1 idx44_2 idx44_3
theorem idx58 (cs : Array Value) (n : Nat) (hn : n < 14) (w : World) : (Instr.index 235 (.agg cs) (.int .i64 n)).run Tryz.prog w = .ok (.agg (cs.extract (n * 5) (n * 5 + 5))) w := by
  have h1 : (0 : Int) ≤ (n : Int) ∧ (n : Int) < ((14 : Nat) : Int) := by omega
  simp only [Instr.index, asIntOf, run_underlying Tryz.underlying235, Sem.run_bind, Result.andThen, Sem.run_pure, h1, part, Tryz.isAgg160, Tryz.sizeOf160, and_self, if_true]
  simp

/-- The kind of a letter, 0 if it is none's. -/
def ltr (b : Nat) : Nat := if b = 88 then 1 else if b = 89 then 2 else if b = 77 then 3 else if b = 83 then 4 else if b = 69 then 5 else if b = 71 then 6 else if b = 84 then 7 else if b = 67 then 8 else if b = 68 then 9 else if b = 82 then 10 else 0

/-- The program's guess, behind the words, byte by byte. -/
def gl : Bool → Int → Int → Int → Int → List UInt8 → Int × Int × Int
  | _, s, K, N, P, [] => (K, N * s, P)
  | f, s, K, N, P, b :: r =>
    if f = true ∧ b.toNat = 45 then gl false (-1) K N P r
    else if f = true ∧ ltr b.toNat ≠ 0 then gl false s (ltr b.toNat) N P r
    else if b.toNat = 46 ∧ K = 11 then gl false s 12 N P r
    else if 48 ≤ b.toNat ∧ b.toNat ≤ 57 ∧ N ≤ 99999999 then gl false s K (N * 10 + ((b.toNat : Int) - 48)) (if K = 12 then P + 1 else P) r
    else (0, 0, 0)


theorem ltr_dig (b : Nat) (h1 : 48 ≤ b) (h2 : b ≤ 57) : ltr b = 0 := by
  unfold ltr
  rw [if_neg (by omega), if_neg (by omega), if_neg (by omega), if_neg (by omega), if_neg (by omega), if_neg (by omega), if_neg (by omega), if_neg (by omega), if_neg (by omega), if_neg (by omega)]
theorem ltr_big (b : Nat) (h : 128 ≤ b) : ltr b = 0 := by
  unfold ltr
  rw [if_neg (by omega), if_neg (by omega), if_neg (by omega), if_neg (by omega), if_neg (by omega), if_neg (by omega), if_neg (by omega), if_neg (by omega), if_neg (by omega), if_neg (by omega)]
theorem ltr_le (b : Nat) : ltr b ≤ 10 := by
  unfold ltr
  repeat' split
  all_goals omega

theorem gl_minus (S K N P : Int) (b : UInt8) (r : List UInt8) (h : b.toNat = 45) : gl true S K N P (b :: r) = gl false (-1) K N P r := by
  rw [gl, if_pos ⟨rfl, h⟩]
theorem gl_ltr (S K N P : Int) (b : UInt8) (r : List UInt8) (h1 : b.toNat ≠ 45) (h : ltr b.toNat ≠ 0) : gl true S K N P (b :: r) = gl false S (ltr b.toNat) N P r := by
  rw [gl, if_neg (fun e => h1 e.2), if_pos ⟨rfl, h⟩]
theorem gl_dot (f : Bool) (S N P : Int) (b : UInt8) (r : List UInt8) (h : b.toNat = 46) : gl f S 11 N P (b :: r) = gl false S 12 N P r := by
  rw [gl, if_neg (fun e => by omega), if_neg (fun e => e.2 (by rw [h]; rfl)), if_pos ⟨h, rfl⟩]
theorem gl_dig (f : Bool) (S K N P : Int) (b : UInt8) (r : List UInt8) (h1 : 48 ≤ b.toNat) (h2 : b.toNat ≤ 57) (hN : N ≤ 99999999) :
    gl f S K N P (b :: r) = gl false S K (N * 10 + ((b.toNat : Int) - 48)) (if K = 12 then P + 1 else P) r := by
  rw [gl, if_neg (fun e => by omega), if_neg (fun e => e.2 (ltr_dig _ h1 h2)), if_neg (fun e => by omega), if_pos ⟨h1, h2, hN⟩]
theorem gl_bad (f : Bool) (S K N P : Int) (b : UInt8) (r : List UInt8) (h1 : f = true → b.toNat ≠ 45 ∧ ltr b.toNat = 0) (h2 : ¬ (b.toNat = 46 ∧ K = 11)) (h3 : ¬ (48 ≤ b.toNat ∧ b.toNat ≤ 57 ∧ N ≤ 99999999)) : gl f S K N P (b :: r) = (0, 0, 0) := by
  rw [gl, if_neg (fun e => (h1 e.1).1 e.2), if_neg (fun e => e.2 (h1 e.1).2), if_neg h2, if_neg h3]

theorem drop_at (s : ByteArray) (pos : Nat) (hp : pos < s.size) : s.data.toList.drop pos = (s[pos]'hp) :: s.data.toList.drop (pos + 1) := by
  have h : pos < s.data.toList.length := by simpa using hp
  rw [List.drop_eq_getElem_cons h]
  congr 1

theorem cmpL (n b : Nat) (hn : n < 14) (hb : b < 128) : ((kL n).toList == (Utf8.encode b).toList) = decide (ltr b = n ∧ n ≠ 0) := by
  have h : ∀ (n : Fin 14) (b : Fin 128), ((kL (n.val : Nat)).toList == (Utf8.encode b.val).toList) = decide (ltr b.val = n.val ∧ n.val ≠ 0) := by decide +kernel
  exact h ⟨n, hn⟩ ⟨b, hb⟩

theorem decode_big (s : ByteArray) (pos : Nat) (hp : pos < s.size) (h : ¬ (s[pos]'hp).toNat < 128) : 128 ≤ (Utf8.decode s pos).1 := by
  have e : s.get! (pos + 0) = s[pos]'hp := by
    show s.get! pos = _
    simp [ByteArray.get!, getElem!_pos, hp]
    rfl
  simp only [Utf8.decode, e, h, if_false]
  repeat' split
  all_goals simp_all [Utf8.runeError]
  all_goals omega

theorem encode_long (r : Nat) (hr : 128 ≤ r) : 2 ≤ (Utf8.encode r).data.toList.length := by
  simp only [Utf8.encode]
  have hc : 128 ≤ (if Utf8.valid (r : Int) then (r : Int).toNat else Utf8.runeError) := by
    split
    · omega
    · decide
  generalize (if Utf8.valid (r : Int) then (r : Int).toNat else Utf8.runeError) = c at hc
  rw [if_neg (by omega)]
  split
  · simp
  · split <;> simp
theorem cmpBig (n r : Nat) (hr : 128 ≤ r) : ((kL n).toList == (Utf8.encode r).toList) = false := by
  rw [Bool.eq_false_iff]
  intro e
  have e1 := eq_of_beq e
  have h1 := kL_small n
  have h2 := encode_long r hr
  rw [Lib.toList_data, Lib.toList_data] at e1
  rw [← e1] at h2
  have h3 : (kL n).data.toList.length = (kL n).size := (Lib.size_eq (kL n)).symm
  omega
end Go.Proofs.YtjbdcbamkdnjhaaGreatDoor
