/- Rows of strings of one's own; a text cut at a sign, as mathematics. -/
import Derived.Test.YtjbdcbamkdnjhaaGreatDoorMa
import Derived.Deep.AppendLies
import Derived.Laws.OwnMore
import Derived.Laws.AppendOwn
import Derived.Lib.Join
import Derived.Below
namespace Go.Proofs.YtjbdcbamkdnjhaaGreatDoor
open Go.RowKit
set_option linter.unusedVariables false

theorem owns_later {W W' : World} {base : Nat} {e : TypeId} {size : Nat} {v : Value} {n : Nat} {xs : List Value} (h : W.ownsRow base e size v n xs) (g : Below W.heap.size W W') : W'.ownsRow base e size v n xs := by
  obtain ⟨h1, h2 | ⟨g', cap, cur, hv, hb, hh, h3, h4, h5, h6⟩⟩ := h
  · exact ⟨h1, .inl h2⟩
  · exact ⟨h1, .inr ⟨g', cap, cur, hv, hb, (g.block _ (Array.getElem?_eq_some_iff.1 hh).1).trans hh, h3, h4, h5, h6⟩⟩
theorem owns_cap {W : World} {base : Nat} {e : TypeId} {size g n cap : Nat} {xs : List Value} (h : W.ownsRow base e size (.slice (some ⟨g, 0, none⟩) n cap) n xs) : n ≤ cap := by
  obtain ⟨_, ⟨h, _⟩ | ⟨g', cap', cur, hv, _, _, h3, _⟩⟩ := h
  · cases h
  · simp only [Value.slice.injEq] at hv; omega
theorem new_one (W : World) (v : Value) : ∀ (q : Nat) (u : Value), [v][q]? = some u → (W.alloc (.cells #[v] 9)).cell? ((⟨W.heap.size, 0, none⟩ : Addr).add q) = some u := by
  intro q u h
  have hq : q = 0 := by have := (List.getElem?_eq_some_iff.1 h).1; simpa using this
  subst hq
  simp at h
  subst h
  simp [Addr.add]
def strs (L : List ByteArray) : List Value := L.map Value.string
/-- The words gathered: a row of strings of one's own. -/
def Words (W : World) (base g cap : Nat) (L : List ByteArray) : Prop := W.ownsRow base 9 1 (.slice (some ⟨g, 0, none⟩) L.length cap) L.length (strs L)
theorem Words.later {W W' : World} {base g cap : Nat} {L : List ByteArray} (h : Words W base g cap L) (b : Below W.heap.size W W') : Words W' base g cap L := owns_later h b

/-- A text cut at a sign, a piece of it read already. -/
def cutA (c : UInt8) : List UInt8 → List UInt8 → List (List UInt8)
  | cur, [] => [cur]
  | cur, b :: r => if b = c then cur :: cutA c [] r else cutA c (cur ++ [b]) r
/-- The pieces of a text between signs. -/
def pieces (c : UInt8) (s : List UInt8) : List (List UInt8) := cutA c [] s
theorem cutA_plain (c : UInt8) : ∀ (x cur : List UInt8), (∀ b ∈ x, b ≠ c) → cutA c cur x = [cur ++ x]
  | [], cur, _ => by simp [cutA]
  | b :: x, cur, h => by
    unfold cutA
    rw [if_neg (h b (by simp)), cutA_plain c x _ (fun a ha => h a (by simp [ha]))]
    simp
theorem cutA_sign (c : UInt8) (r : List UInt8) : ∀ (x cur : List UInt8), (∀ b ∈ x, b ≠ c) → cutA c cur (x ++ c :: r) = (cur ++ x) :: cutA c [] r
  | [], cur, _ => by simp [cutA]
  | b :: x, cur, h => by
    rw [List.cons_append, cutA, if_neg (h b (by simp)), cutA_sign c r x _ (fun a ha => h a (by simp [ha]))]
    simp
theorem cutA_ne (c : UInt8) : ∀ (x cur : List UInt8), cutA c cur x ≠ []
  | [], cur => by simp [cutA]
  | b :: x, cur => by
    unfold cutA
    split
    · simp
    · exact cutA_ne c x _
theorem pieces_ne (c : UInt8) (s : List UInt8) : pieces c s ≠ [] := cutA_ne c s []
/-- Pieces that do not hold the sign, joined by it and cut again. -/
theorem pieces_join (c : UInt8) : ∀ (x : List UInt8) (L : List (List UInt8)), (∀ y ∈ x :: L, ∀ b ∈ y, b ≠ c) → pieces c (Lib.join (x :: L) [c]) = x :: L
  | x, [], h => by
    rw [Lib.join_one]
    unfold pieces
    rw [cutA_plain c x [] (h x (by simp))]
    simp
  | x, y :: L, h => by
    rw [Lib.join_cons]
    have e : Lib.joinTail [c] (y :: L) = c :: Lib.join (y :: L) [c] := by
      rw [Lib.join_cons]; simp [Lib.joinTail]
    rw [e]
    unfold pieces
    rw [cutA_sign c _ x [] (h x (by simp))]
    have := pieces_join c y L (fun z hz => h z (by simp at hz ⊢; exact .inr hz))
    unfold pieces at this
    rw [this]
    simp
theorem cutA_join (c : UInt8) : ∀ (x cur : List UInt8), Lib.join (cutA c cur x) [c] = cur ++ x
  | [], cur => by simp [cutA, Lib.join_one]
  | b :: x, cur => by
    unfold cutA
    split
    · rename_i hb
      subst hb
      rw [Lib.join_cons]
      have ih := cutA_join b x []
      cases hq : cutA b [] x with
      | nil => exact absurd hq (cutA_ne b x [])
      | cons y L =>
        rw [hq] at ih
        have e : Lib.joinTail [b] (y :: L) = b :: Lib.join (y :: L) [b] := by
          rw [Lib.join_cons]; simp [Lib.joinTail]
        rw [e, ih]
        simp
    · rw [cutA_join c x]
      simp
/-- The pieces joined are the text. -/
theorem join_pieces (c : UInt8) (s : List UInt8) : Lib.join (pieces c s) [c] = s := by
  unfold pieces; rw [cutA_join]; simp
theorem cutA_none (c : UInt8) : ∀ (x cur : List UInt8), (∀ b ∈ cur, b ≠ c) → ∀ y ∈ cutA c cur x, ∀ b ∈ y, b ≠ c
  | [], cur, h, y, hy => by
    simp [cutA] at hy
    subst hy; exact h
  | b :: x, cur, h, y, hy => by
    unfold cutA at hy
    split at hy
    · rcases List.mem_cons.1 hy with rfl | hy
      · exact h
      · exact cutA_none c x [] (by simp) y hy
    · rename_i hb
      exact cutA_none c x (cur ++ [b]) (fun a ha => by
        rcases List.mem_append.1 ha with ha | ha
        · exact h a ha
        · simp at ha; subst ha; exact hb) y hy
theorem pieces_none (c : UInt8) (s : List UInt8) : ∀ y ∈ pieces c s, ∀ b ∈ y, b ≠ c := cutA_none c s [] (by simp)
theorem cutA_len (c : UInt8) : ∀ (x cur : List UInt8), (cutA c cur x).length ≤ x.length + 1
  | [], cur => by simp [cutA]
  | b :: x, cur => by
    unfold cutA
    split
    · have := cutA_len c x []
      simp only [List.length_cons]; omega
    · have := cutA_len c x (cur ++ [b])
      simp only [List.length_cons]; omega
theorem pieces_len (c : UInt8) (s : List UInt8) : (pieces c s).length ≤ s.length + 1 := cutA_len c s []
end Go.Proofs.YtjbdcbamkdnjhaaGreatDoor
