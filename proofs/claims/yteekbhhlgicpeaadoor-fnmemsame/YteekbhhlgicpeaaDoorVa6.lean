/- The words of a memory's text. -/
import Derived.Test.YteekbhhlgicpeaaDoorUd6
import Derived.Test.YteekbhhlgicpeaaDoorUe6
import Derived.Test.YteekbhhlgicpeaaDoorDqa
import Derived.Lib.Join
namespace Go.Proofs.YteekbhhlgicpeaaDoor
open Go.RowKit
open Go.Lib (decDigits itoa)
set_option linter.unusedVariables false

/-- The words that a loop gathers. -/
def accL (L : List ByteArray) (p : Nat → Bool) (t : Nat → ByteArray) : Nat → List ByteArray
  | 0 => L
  | n + 1 => if p n then accL L p t n ++ [t n] else accL L p t n
theorem accL_yes {L : List ByteArray} {p : Nat → Bool} {t : Nat → ByteArray} {n : Nat} (h : p n = true) : accL L p t (n + 1) = accL L p t n ++ [t n] := by simp [accL, h]
theorem accL_no {L : List ByteArray} {p : Nat → Bool} {t : Nat → ByteArray} {n : Nat} (h : p n = false) : accL L p t (n + 1) = accL L p t n := by simp [accL, h]
/-- Words, each with a space behind it. -/
def flat (L : List ByteArray) : ByteArray := L.foldl (fun s x => s ++ (x ++ ⟨#[32]⟩)) ⟨#[]⟩
theorem flat_snoc (L : List ByteArray) (x : ByteArray) : flat (L ++ [x]) = flat L ++ (x ++ ⟨#[32]⟩) := by simp [flat, List.foldl_append]
theorem ba_nil (s : ByteArray) : s ++ (⟨#[]⟩ : ByteArray) = s := by apply ByteArray.ext; simp
theorem ba_assoc (a b c : ByteArray) : a ++ b ++ c = a ++ (b ++ c) := by apply ByteArray.ext; simp
theorem acc_front (s : ByteArray) (p : Nat → Bool) (t : Nat → ByteArray) : ∀ n, acc s p t n = s ++ acc ⟨#[]⟩ p t n
  | 0 => (ba_nil s).symm
  | n + 1 => by
    unfold acc
    rw [acc_front s p t n]
    split
    · rw [ba_assoc]
    · rfl
theorem acc_none (s : ByteArray) (p : Nat → Bool) (t : Nat → ByteArray) (h : ∀ n, p n = false) : ∀ n, acc s p t n = s
  | 0 => rfl
  | n + 1 => by unfold acc; rw [h n]; exact acc_none s p t h n
theorem acc_congr (s : ByteArray) (p : Nat → Bool) (t t' : Nat → ByteArray) (h : ∀ n, t n = t' n) : ∀ n, acc s p t n = acc s p t' n := by
  rw [show t = t' from funext h]; intro _; rfl
theorem flat_accL (L : List ByteArray) (p : Nat → Bool) (t : Nat → ByteArray) : ∀ n, flat (accL L p t n) = acc (flat L) p (fun i => t i ++ ⟨#[32]⟩) n
  | 0 => rfl
  | n + 1 => by
    unfold accL acc
    split
    · rw [flat_snoc, flat_accL L p t n]
    · exact flat_accL L p t n
theorem flat_toList : ∀ (L : List ByteArray) (s : ByteArray), (L.foldl (fun s x => s ++ (x ++ ⟨#[32]⟩)) s).data.toList = s.data.toList ++ (L.map fun x => x.data.toList ++ [32]).flatten
  | [], s => by simp
  | x :: L, s => by
    rw [List.foldl_cons, flat_toList L]
    simp
theorem tail_flat : ∀ l : List (List UInt8), Lib.joinTail [32] l ++ [32] = [32] ++ (l.map fun x => x ++ [32]).flatten
  | [] => rfl
  | b :: l => by
    have h := tail_flat l
    have e : Lib.joinTail [32] (b :: l) = [32] ++ b ++ Lib.joinTail [32] l := by simp [Lib.joinTail]
    rw [e, List.append_assoc, h]
    simp
/-- Words with one space between: the last space is cut off. -/
theorem join_flat (L : List ByteArray) : Lib.join (L.map fun x => x.data.toList) [32] = (flat L).data.toList.dropLast := by
  unfold flat
  rw [flat_toList]
  cases L with
  | nil => rfl
  | cons x L =>
    have h := tail_flat (L.map fun x => x.data.toList)
    rw [List.map_map] at h
    have e : (([] : List UInt8) ++ ((x :: L).map fun x => x.data.toList ++ [32]).flatten) = (x.data.toList ++ Lib.joinTail [32] (L.map fun x => x.data.toList)) ++ [32] := by
      rw [List.append_assoc, h]
      simp [Function.comp_def]
    have e2 : (⟨#[]⟩ : ByteArray).data.toList = [] := rfl
    rw [e2, e, List.dropLast_concat, List.map_cons, Lib.join_cons]
theorem cut_last (s : ByteArray) : (if s.toList == [] then (⟨#[]⟩ : ByteArray) else s.extract 0 (s.size - 1)).data.toList = s.data.toList.dropLast := by
  have ht : s.toList = s.data.toList := Lib.toList_data s
  rw [ht]
  split
  · rename_i h
    have h0 : s.data.toList = [] := by simpa using h
    rw [h0]; rfl
  · rw [ByteArray.data_extract, Array.toList_extract, List.dropLast_eq_take, List.extract_eq_take_drop, List.drop_zero, Nat.sub_zero]
    rfl

/-- What stands behind a device's name; whether it is told. -/
def vT (rt : Nat → List UInt8) (c : Array Value) (k n : Nat) : ByteArray :=
  if k = 7 then ⟨#[61]⟩ ++ tx (itoa (word c (5 + 2 * n + 1))) ++ markT (flag c (5 + 2 * n)) ⟨#[33]⟩
  else if k = 8 then ⟨#[61]⟩ ++ tx (itoa (word c (37 + 3 * n + 2))) ++ markT (flag c (37 + 3 * n)) ⟨#[33]⟩ ++ markT (flag c (37 + 3 * n + 1)) ⟨#[43]⟩
  else if k = 9 then ⟨#[61]⟩ ++ tx (itoa (word c (85 + n)))
  else if k = 10 then ⟨#[61]⟩ ++ tx (rt (rbits c (117 + n)))
  else ⟨#[]⟩
def vP (rt : Nat → List UInt8) (c : Array Value) (k n : Nat) : Bool :=
  if k = 7 then timP c n else if k = 8 then cntP c n else if k = 9 then datP c n else if k = 10 then reaP rt c n else if k = 6 then false else mbit c k n
def nmT (k n : Nat) : ByteArray := kL k ++ tx (itoa n)
def wdT (rt : Nat → List UInt8) (c : Array Value) (k n : Nat) : ByteArray := nmT k n ++ vT rt c k n
def wordsK (rt : Nat → List UInt8) (c : Array Value) : Nat → List ByteArray
  | 0 => []
  | j + 1 => accL (wordsK rt c j) (vP rt c (j + 1)) (wdT rt c (j + 1)) (kS ((j : Int) + 1)).toNat
def optW (b : Bool) (s : ByteArray) : List ByteArray := if b then [s] else []
theorem flat_opt (L : List ByteArray) (b : Bool) (s : ByteArray) : flat (L ++ optW b s) = flat L ++ markT b (s ++ ⟨#[32]⟩) := by
  cases b with
  | true => exact flat_snoc L s
  | false => simp only [optW, markT, Bool.false_eq_true, if_false, List.append_nil, ba_nil]
def wordsAll (rt : Nat → List UInt8) (c : Array Value) : List ByteArray :=
  wordsK rt c 10 ++ optW (decide (0 < word c 133)) (⟨#[116, 105, 109, 101, 61]⟩ ++ tx (itoa (word c 133))) ++ optW (flag c 134) ⟨#[114, 97, 110]⟩ ++ optW (flag c 135) ⟨#[102, 97, 117, 108, 116]⟩

theorem vT_low {rt : Nat → List UInt8} {c : Array Value} {k n : Nat} (h : k ≤ 6) : vT rt c k n = ⟨#[]⟩ := by
  unfold vT; rw [if_neg (by omega), if_neg (by omega), if_neg (by omega), if_neg (by omega)]
theorem vP_low {rt : Nat → List UInt8} {c : Array Value} {k n : Nat} (h : k ≤ 5) : vP rt c k n = mbit c k n := by
  unfold vP; rw [if_neg (by omega), if_neg (by omega), if_neg (by omega), if_neg (by omega), if_neg (by omega)]
theorem vP_six {rt : Nat → List UInt8} {c : Array Value} {n : Nat} : vP rt c 6 n = false := rfl
theorem acc_eq {s : ByteArray} {p p' : Nat → Bool} {t t' : Nat → ByteArray} (hp : ∀ n, p n = p' n) (ht : ∀ n, t n = t' n) (n : Nat) : acc s p t n = acc s p' t' n := by
  rw [show p = p' from funext hp, show t = t' from funext ht]
theorem flat_kinds (rt : Nat → List UInt8) (c : Array Value) : ∀ j, j ≤ 5 → flat (wordsK rt c j) = kindsT c j
  | 0, _ => rfl
  | j + 1, h => by
    show flat (accL (wordsK rt c j) (vP rt c (j + 1)) (wdT rt c (j + 1)) (kS ((j : Int) + 1)).toNat) = kindsT c j ++ bitsT c ((j : Int) + 1)
    rw [flat_accL, flat_kinds rt c j (by omega), acc_front]
    unfold bitsT
    rw [acc_eq (p' := fun n => mbit c ((j : Int) + 1) n) (t' := fun n => dvT ((j : Int) + 1) n ⟨#[]⟩)]
    · intro n; exact vP_low (by omega)
    · intro n
      show nmT (j + 1) n ++ vT rt c (j + 1) n ++ ⟨#[32]⟩ = _
      rw [vT_low (by omega)]
      rfl
theorem dv_assoc (k : Int) (n : Nat) (T : ByteArray) : kL k ++ tx (itoa n) ++ T ++ ⟨#[32]⟩ = dvT k n T := rfl
theorem flat_words (rt : Nat → List UInt8) (c : Array Value) : flat (wordsAll rt c) = spaced rt c := by
  have h6 : flat (wordsK rt c 6) = kindsT c 5 := by
    show flat (accL (wordsK rt c 5) (vP rt c 6) (wdT rt c 6) _) = _
    rw [flat_accL, acc_none _ _ _ (fun n => vP_six), flat_kinds rt c 5 (by omega)]
  have h7 : flat (wordsK rt c 7) = acc (kindsT c 5) (timP c) (timT c) 16 := by
    show flat (accL (wordsK rt c 6) (vP rt c 7) (wdT rt c 7) 16) = _
    rw [flat_accL, h6]
    exact acc_eq (fun n => rfl) (fun n => rfl) 16
  have h8 : flat (wordsK rt c 8) = acc (acc (kindsT c 5) (timP c) (timT c) 16) (cntP c) (cntT c) 16 := by
    show flat (accL (wordsK rt c 7) (vP rt c 8) (wdT rt c 8) 16) = _
    rw [flat_accL, h7]
    exact acc_eq (fun n => rfl) (fun n => rfl) 16
  have h9 : flat (wordsK rt c 9) = acc (acc (acc (kindsT c 5) (timP c) (timT c) 16) (cntP c) (cntT c) 16) (datP c) (datT c) 32 := by
    show flat (accL (wordsK rt c 8) (vP rt c 9) (wdT rt c 9) 32) = _
    rw [flat_accL, h8]
    exact acc_eq (fun n => rfl) (fun n => rfl) 32
  have h10 : flat (wordsK rt c 10) = acc (acc (acc (acc (kindsT c 5) (timP c) (timT c) 16) (cntP c) (cntT c) 16) (datP c) (datT c) 32) (reaP rt c) (reaT rt c) 16 := by
    show flat (accL (wordsK rt c 9) (vP rt c 10) (wdT rt c 10) 16) = _
    rw [flat_accL, h9]
    exact acc_eq (fun n => rfl) (fun n => rfl) 16
  unfold wordsAll spaced
  rw [flat_opt, flat_opt, flat_opt, h10]
  rfl
/-- A memory's text: its words with a space between. -/
theorem memT_join (rt : Nat → List UInt8) (c : Array Value) : memT rt c = ⟨(Lib.join ((wordsAll rt c).map fun x => x.data.toList) [32]).toArray⟩ := by
  rw [join_flat, flat_words]
  have := cut_last (spaced rt c)
  unfold memT
  rw [← this]
theorem accL_len (L : List ByteArray) (p : Nat → Bool) (t : Nat → ByteArray) : ∀ n, (accL L p t n).length ≤ L.length + n
  | 0 => Nat.le_refl _
  | n + 1 => by
    have := accL_len L p t n
    unfold accL
    split
    · simp; omega
    · omega
theorem wordsK_len (rt : Nat → List UInt8) (c : Array Value) : ∀ j, (wordsK rt c j).length ≤ 64 * j
  | 0 => Nat.le_refl _
  | j + 1 => by
    have h1 := wordsK_len rt c j
    have h2 := accL_len (wordsK rt c j) (vP rt c (j + 1)) (wdT rt c (j + 1)) (kS ((j : Int) + 1)).toNat
    have h3 := kS_bd ((j : Int) + 1)
    show (accL (wordsK rt c j) (vP rt c (j + 1)) (wdT rt c (j + 1)) (kS ((j : Int) + 1)).toNat).length ≤ _
    omega
theorem nmT_size (k n : Nat) (h : n ≤ 1000) : (nmT k n).size ≤ 22 := by
  have h1 := kL_small6 k
  have h2 := itoa_small6 n (by omega)
  unfold nmT; rw [ByteArray.size_append]; omega
end Go.Proofs.YteekbhhlgicpeaaDoor
