/- Rows of strings of one's own; a text cut at a sign, as mathematics. -/
import Derived.Test.YtndfmgbdfcggmaaGreatDoorMaM
import Derived.Deep.AppendLies
import Derived.Laws.OwnMore
import Derived.Laws.AppendOwn
import Derived.Lib.Join
import Derived.Below
import Derived.Test.YtndfmgbdfcggmaaGreatDoorRows
import Derived.WalkKit
import Derived.ProofKit
import Derived.Handy
import Derived.WalkLawsBesides
import Derived.Deep.LoopGhost
import Derived.Deep.Light
import Derived.WalkSpells
import Derived.Laws.RangeAny
import Derived.Lib.OthersKept
namespace Go.Proofs.YtndfmgbdfcggmaaGreatDoor
open Go.RowKit
set_option linter.unusedVariables false

theorem owns_later {W W' : World} {base : Nat} {e : TypeId} {size : Nat} {v : Value} {n : Nat} {xs : List Value} (h : W.ownsRow base e size v n xs) (g : Below W.heap.size W W') : W'.ownsRow base e size v n xs := by
  obtain ⟨h1, h2 | ⟨g', cap, cur, hv, hb, hh, h3, h4, h5, h6⟩⟩ := h
  · exact ⟨h1, .inl h2⟩
  · exact ⟨h1, .inr ⟨g', cap, cur, hv, hb, (g.block _ (Array.getElem?_eq_some_iff.1 hh).1).trans hh, h3, h4, h5, h6⟩⟩
def strs (L : List ByteArray) : List Value := L.map Value.string
/-- The words gathered: a row of strings of one's own. -/
def Words (W : World) (base g cap : Nat) (L : List ByteArray) : Prop := W.ownsRow base 9 1 (.slice (some ⟨g, 0, none⟩) L.length cap) L.length (strs L)
/-- A text cut at a sign, a piece of it read already. -/
def cutA (c : UInt8) : List UInt8 → List UInt8 → List (List UInt8)
  | cur, [] => [cur]
  | cur, b :: r => if b = c then cur :: cutA c [] r else cutA c (cur ++ [b]) r
/-- The pieces of a text between signs. -/
def pieces (c : UInt8) (s : List UInt8) : List (List UInt8) := cutA c [] s
theorem cutA_plain (c : UInt8) : ∀ (x cur : List UInt8), (∀ b ∈ x, b ≠ c) → cutA c cur x = [cur ++ x]
  | [], cur, _ => by simp [cutA]
  | b :: x, cur, h => by
    unfold cutA
    rw [if_neg (h b (by simp)), cutA_plain c x _ (fun a ha => h a (by simp [ha]))]
    simp
theorem cutA_sign (c : UInt8) (r : List UInt8) : ∀ (x cur : List UInt8), (∀ b ∈ x, b ≠ c) → cutA c cur (x ++ c :: r) = (cur ++ x) :: cutA c [] r
  | [], cur, _ => by simp [cutA]
  | b :: x, cur, h => by
    rw [List.cons_append, cutA, if_neg (h b (by simp)), cutA_sign c r x _ (fun a ha => h a (by simp [ha]))]
    simp
theorem cutA_len (c : UInt8) : ∀ (x cur : List UInt8), (cutA c cur x).length ≤ x.length + 1
  | [], cur => by simp [cutA]
  | b :: x, cur => by
    unfold cutA
    split
    · have := cutA_len c x []
      simp only [List.length_cons]; omega
    · have := cutA_len c x (cur ++ [b])
      simp only [List.length_cons]; omega
theorem pieces_len (c : UInt8) (s : List UInt8) : (pieces c s).length ≤ s.length + 1 := cutA_len c s []
end Go.Proofs.YtndfmgbdfcggmaaGreatDoor
/- The specification's l26Cut: the pieces of a text. -/
namespace Go.Proofs.YtndfmgbdfcggmaaGreatDoor
open Go.RowKit
set_option linter.unusedVariables false

def seg (s : ByteArray) (f n : Nat) : List UInt8 := (s.data.toList.take n).drop f
theorem seg_data (s : ByteArray) (f n : Nat) : (s.extract f n).data.toList = seg s f n := by
  unfold seg
  rw [ByteArray.data_extract, Array.toList_extract, List.extract_eq_take_drop, List.drop_take]
theorem drop_byte (s : ByteArray) (n : Nat) (hn : n < s.size) : s.data.toList.drop n = (s[n]'hn) :: s.data.toList.drop (n + 1) := by
  have hl : n < s.data.toList.length := by simpa using hn
  rw [List.drop_eq_getElem_cons hl]
  rfl
end Go.Proofs.YtndfmgbdfcggmaaGreatDoor
/- The specification's l26Words: the words of a line. -/
namespace Go.Proofs.YtndfmgbdfcggmaaGreatDoor
open Go.RowKit
set_option linter.unusedVariables false

end Go.Proofs.YtndfmgbdfcggmaaGreatDoor
/- The program parts a line at its spaces. -/
namespace Go.Proofs.YtndfmgbdfcggmaaGreatDoor
open Go.RowKit
set_option linter.unusedVariables false

/-- No space stands ahead of a place. -/
def NoSp (r : ByteArray) (n : Nat) : Prop := ∀ j (h : j < r.size), j < n → (r[j]'h) ≠ 32
theorem NoSp.zero (r : ByteArray) : NoSp r 0 := fun j h hj => by omega
theorem NoSp.on {r : ByteArray} {n : Nat} (a : NoSp r n) (h : n < r.size) (hb : (r[n]'h) ≠ 32) : NoSp r (n + 1) := fun j hj hlt => by
  by_cases e : j = n
  · subst e; exact hb
  · exact a j hj (by omega)
theorem get_bang (s : ByteArray) (j : Nat) (h : j < s.size) : s.get! j = s[j]'h := by
  simp [ByteArray.get!, getElem!_pos, h]
  rfl
/-- What a rune of several bytes takes is no space. -/
theorem high_run (s : ByteArray) (pos : Nat) (h : pos < s.size) (ha : 128 ≤ (s[pos]'h).toNat) : ∀ k, k < (Utf8.decode s pos).2 → 128 ≤ (s.get! (pos + k)).toNat := by
  have hn : ¬ (s[pos]'h).toNat < 128 := by omega
  have h0 : 128 ≤ (s.get! (pos + 0)).toNat := by rw [get_at s pos h]; exact ha
  simp only [Utf8.decode, get_at s pos h, hn, if_false]
  repeat' split
  all_goals intro k hk
  all_goals simp only [Bool.and_eq_true, beq_iff_eq, decide_eq_true_eq] at *
  all_goals
    match k with
    | 0 => exact h0
    | 1 => first | omega
    | 2 => first | omega
    | 3 => first | omega
    | (m + 4) => omega
theorem NoSp.high {r : ByteArray} {n : Nat} (a : NoSp r n) (h : n < r.size) (hb : 128 ≤ (r[n]'h).toNat) : NoSp r (n + (Utf8.decode r n).2) := fun j hj hlt => by
  by_cases e : j < n
  · exact a j hj e
  · have h1 := high_run r n h hb (j - n) (by omega)
    rw [show n + (j - n) = j by omega, get_bang r j hj] at h1
    intro e2
    rw [e2] at h1
    exact absurd h1 (by decide)
/-- The words of a line. -/
def lwords (l : List UInt8) : List (List UInt8) := (pieces 32 l).filter fun x => !x.isEmpty
theorem lwords_nil : lwords [] = [] := by rfl
theorem NoSp.mem {r : ByteArray} {n : Nat} (a : NoSp r n) (hn : n ≤ r.size) : ∀ b ∈ r.data.toList.take n, b ≠ 32 := by
  intro b hb
  obtain ⟨j, hj, rfl⟩ := List.mem_iff_getElem.1 hb
  have hj2 : j < r.size := by simp at hj; omega
  have := a j hj2 (by simp at hj; omega)
  rw [List.getElem_take]
  exact this
theorem lwords_last {r : ByteArray} (a : NoSp r r.size) (h : 0 < r.size) : lwords r.data.toList = [r.data.toList] := by
  have h1 : r.data.toList.take r.size = r.data.toList := List.take_of_length_le (by simp)
  have h2 := a.mem (Nat.le_refl _)
  rw [h1] at h2
  unfold lwords pieces
  rw [cutA_plain 32 _ _ h2]
  have : r.data.toList ≠ [] := by
    intro e
    have hl : r.data.toList.length = r.size := Array.length_toList
    rw [e] at hl
    simp at hl
    omega
  cases hq : r.data.toList with
  | nil => exact absurd hq this
  | cons x l => rfl
theorem lwords_cut {r : ByteArray} {n : Nat} (a : NoSp r n) (h : n < r.size) (hb : (r[n]'h) = 32) :
    lwords r.data.toList = (if n = 0 then [] else [(r.extract 0 n).data.toList]) ++ lwords (r.extract (n + 1) r.size).data.toList := by
  have h2 := a.mem (Nat.le_of_lt h)
  have hd : r.data.toList = r.data.toList.take n ++ 32 :: r.data.toList.drop (n + 1) := by
    conv => lhs; rw [← List.take_append_drop n r.data.toList, drop_byte r n h, hb]
  have e1 : (r.extract 0 n).data.toList = r.data.toList.take n := by rw [seg_data]; simp [seg]
  have e2 : (r.extract (n + 1) r.size).data.toList = r.data.toList.drop (n + 1) := by
    rw [seg_data]; unfold seg; rw [List.take_of_length_le (by simp)]
  rw [e1, e2]
  unfold lwords pieces
  conv => lhs; rw [hd, cutA_sign 32 _ _ _ h2]
  by_cases hz : n = 0
  · subst hz; simp
  · have hne : r.data.toList.take n ≠ [] := by
      intro e
      have hl : r.data.toList.length = r.size := Array.length_toList
      have h3 : (r.data.toList.take n).length = 0 := by rw [e]; rfl
      rw [List.length_take, hl] at h3
      omega
    rw [if_neg hz]
    cases hq : r.data.toList.take n with
    | nil => exact absurd hq hne
    | cons x l => rfl

end Go.Proofs.YtndfmgbdfcggmaaGreatDoor
