/- Lists of lists of instructions that are owned; the rungs of a list as mathematics. -/
import Derived.Test.YtcihplachlokiaaGreatDoorGbM
import Derived.Test.YtcihplachlokiaaGreatDoorZaM
namespace Go.Proofs.YtcihplachlokiaaGreatDoor
open Go.RowKit
set_option linter.unusedVariables false

theorem gbb {W W' : World} {row : Option Nat} (g : Below W.heap.size W W') : W.grownBy W' row := ⟨g.os, g.tape, g.output, g.size, fun k hk _ => g.block k hk⟩
theorem ownl {W W' : World} {base : Nat} {e : TypeId} {size : Nat} {v : Value} {n : Nat} {xs : List Value} (h : W.ownsRow base e size v n xs) (g : Below W.heap.size W W') : W'.ownsRow base e size v n xs := World.ownsRow.kept (row := none) h (gbb g) (by cases v.ownBlock <;> simp)
/-- The cells of operands. -/
def avs (xs : List ArgT) : List Value := xs.flatMap fun x => [.int .i64 x.1, .int .i64 x.2.1, .int .i64 x.2.2]
theorem avs_len (xs : List ArgT) : (avs xs).length = xs.length * 3 := by
  unfold avs
  induction xs with
  | nil => rfl
  | cons x xs ih => simp [ih]; omega
theorem avs_one (xs : List ArgT) : ∀ v ∈ avs xs, v.oneCell' = true := by
  intro v hv
  unfold avs at hv
  simp only [List.mem_flatMap] at hv
  obtain ⟨x, _, hx⟩ := hv
  simp at hx
  rcases hx with rfl | rfl | rfl <;> rfl
theorem avs_snoc (xs : List ArgT) (x : ArgT) : avs (xs ++ [x]) = avs xs ++ [.int .i64 x.1, .int .i64 x.2.1, .int .i64 x.2.2] := by simp [avs]
theorem each_avs : ∀ (n : Nat) (xs : List ArgT), xs.length = n → Each ArgO 3 [] xs (avs xs)
  | 0, xs, h => by
    obtain rfl := List.length_eq_zero_iff.1 h
    exact .nil
  | n + 1, xs, h => by
    rcases List.eq_nil_or_concat xs with rfl | ⟨l, a, rfl⟩
    · simp at h
    · have h1 := each_avs n l (by simpa using h)
      have h2 : Each ArgO 3 ([] ++ []) (l ++ [a]) (avs l ++ [.int .i64 a.1, .int .i64 a.2.1, .int .i64 a.2.2]) := .add h1 rfl ⟨rfl, rfl⟩
      rw [List.concat_eq_append, avs_snoc]
      exact h2
theorem args_of {W : World} {base : Nat} {v : Value} {xs : List ArgT} (h : W.ownsRow base 72 3 v xs.length (avs xs)) : ArgsOwn W base v.ownBlock.toList v xs := ⟨avs xs, [], each_avs _ xs rfl, h, by simp⟩
theorem args_base {W : World} {base base' : Nat} {F : List Nat} {v : Value} {xs : List ArgT} (h : ArgsOwn W base F v xs) (hb : base' ≤ base) : ArgsOwn W base' F v xs := by
  obtain ⟨cs, F', h1, h2, h3⟩ := h
  refine ⟨cs, F', h1, ⟨h2.1, ?_⟩, h3⟩
  rcases h2.2 with h | ⟨g, cap, cur, e1, e2, e3⟩
  · exact .inl h
  · exact .inr ⟨g, cap, cur, e1, by omega, e3⟩
def InstOwn (W : World) (base : Nat) (F : List Nat) (i : InstT) (c : List Value) : Prop := ∃ v, c = [.int .i64 i.code, .int .i64 i.one.op, v] ∧ ArgsOwn W base F v i.one.args
abbrev InstsOwn (W : World) (base : Nat) (F : List Nat) (v : Value) (xs : List InstT) : Prop := RowOwn W base 44 3 (InstOwn W base) F v xs
theorem InstOwn.move {W W' : World} {base : Nat} {F : List Nat} {i : InstT} {c : List Value} {row : Option Nat} (h : InstOwn W base F i c) (hg : W.grownBy W' row) (hr : ∀ b ∈ F, some b ≠ row) : InstOwn W' base F i c := by
  obtain ⟨v, hc, h1⟩ := h
  exact ⟨v, hc, ArgsOwn.move h1 hg hr⟩
theorem InstOwn.lt {W : World} {base : Nat} {F : List Nat} {i : InstT} {c : List Value} (h : InstOwn W base F i c) : ∀ b ∈ F, base ≤ b ∧ b < W.heap.size := by
  obtain ⟨v, _, h1⟩ := h
  exact ArgsOwn.lt h1
theorem InstOwn.is {W : World} {base lo : Nat} {F : List Nat} {i : InstT} {c : List Value} (h : InstOwn W base F i c) (hl : lo ≤ base) : InstIs W lo i c := by
  obtain ⟨v, hc, h1⟩ := h
  exact ⟨v, hc, ArgsOwn.is h1 hl⟩
theorem InstsOwn.move {W W' : World} {base : Nat} {F : List Nat} {v : Value} {xs : List InstT} {row : Option Nat} (h : InstsOwn W base F v xs) (hg : W.grownBy W' row) (hr : ∀ b ∈ F, some b ≠ row) : InstsOwn W' base F v xs := RowOwn.move h hg hr fun f x c hf h => h.move hg hf
theorem InstsOwn.lt {W : World} {base : Nat} {F : List Nat} {v : Value} {xs : List InstT} (h : InstsOwn W base F v xs) : ∀ b ∈ F, base ≤ b ∧ b < W.heap.size := RowOwn.lt h fun f x c h => h.lt
theorem InstsOwn.is {W : World} {base lo : Nat} {F : List Nat} {v : Value} {xs : List InstT} (h : InstsOwn W base F v xs) (hl : lo ≤ base) : InstsIs W lo v xs := RowOwn.is h hl fun f x c h => h.is hl
theorem InstsOwn.later {W W' : World} {base : Nat} {F : List Nat} {v : Value} {xs : List InstT} (h : InstsOwn W base F v xs) (g : Below W.heap.size W W') : InstsOwn W' base F v xs := h.move (row := none) (gbb g) (fun b _ => by simp)
theorem insts_base {W : World} {base base' : Nat} {F : List Nat} {v : Value} {xs : List InstT} (h : InstsOwn W base F v xs) (hb : base' ≤ base) : InstsOwn W base' F v xs := by
  obtain ⟨cs, F', h1, h2, h3⟩ := h
  refine ⟨cs, F', h1.move fun f x c _ ⟨v, e1, e2⟩ => ⟨v, e1, args_base e2 hb⟩, ⟨h2.1, ?_⟩, h3⟩
  rcases h2.2 with h | ⟨g, cap, cur, e1, e2, e3⟩
  · exact .inl h
  · exact .inr ⟨g, cap, cur, e1, by omega, e3⟩

/-- One more element, by an append. -/
theorem row_step {α : Type} {e z base : Nat} {R : World → List Nat → α → List Value → Prop} (Rm : ∀ W W' row f x c, W.grownBy W' row → (∀ b ∈ f, some b ≠ row) → R W f x c → R W' f x c)
    {w w4 w5 : World} {v : Value} {xs : List α} {F F' f : List Nat} {cs c : List Value} {x : α} {g1 cap1 : Nat} (hbw : w.heap.size ≤ base)
    (hE : Each (R w4) z F' xs cs) (hF : F = v.ownBlock.toList ++ F') (hFl : ∀ b ∈ F, base ≤ b ∧ b < w4.heap.size) (hnd : F.Nodup) (hN : R w4 f x c) (hc : c.length = z) (hfl : ∀ b ∈ f, base ≤ b ∧ b < w4.heap.size) (hfn : f.Nodup) (hdis : ∀ b ∈ f, b ∉ F)
    (own5 : w5.ownsRow base e z (.slice (some ⟨g1, 0, none⟩) (xs.length + 1) cap1) (xs.length + 1) (cs ++ c)) (g5 : w4.grownBy w5 v.ownBlock) (hat : v.ownBlock = some g1 ∨ g1 = w4.heap.size) (hB : Below w.heap.size w w4) :
    RowOwn w5 base e z (R w5) (g1 :: (F' ++ f)) (.slice (some ⟨g1, 0, none⟩) (xs.length + 1) cap1) (xs ++ [x]) ∧ (g1 :: (F' ++ f)).Nodup ∧ Below w.heap.size w w5 := by
  have hob : ∀ j, v.ownBlock = some j → base ≤ j ∧ j < w4.heap.size := fun j hj => hFl j (by rw [hF, hj]; simp)
  have hvF : ∀ j, v.ownBlock = some j → j ∈ F := fun j hj => by rw [hF, hj]; simp
  rw [hF] at hnd
  have hnd' := List.nodup_append.1 hnd
  have hF' : ∀ b ∈ F', some b ≠ v.ownBlock := fun b hb e => hnd'.2.2 b (by rw [← e]; simp) b hb rfl
  have hFF : ∀ b ∈ F', b ∈ F := fun b hb => by rw [hF]; exact List.mem_append_right _ hb
  have hf' : ∀ b ∈ f, some b ≠ v.ownBlock := fun b hb e => hdis b hb (hvF b e.symm)
  refine ⟨RowOwn.push (hE.move fun f1 x1 c1 h1 h2 => Rm _ _ _ _ _ _ g5 (fun b hb => hF' b (h1 hb)) h2) hc (Rm _ _ _ _ _ _ g5 hf' hN) own5, ?_, ?_⟩
  · rw [List.nodup_cons]
    refine ⟨fun hm => ?_, List.nodup_append.2 ⟨hnd'.2.1, hfn, fun a ha b hb e => hdis b hb (e ▸ hFF a ha)⟩⟩
    rcases List.mem_append.1 hm with hm | hm
    · rcases hat with h | h
      · exact hF' g1 hm h.symm
      · have := hFl g1 (hFF g1 hm); omega
    · rcases hat with h | h
      · exact hf' g1 hm h.symm
      · have := hfl g1 hm; omega
  · exact hB.grown g5 (by have := hB.size; omega) (fun j hj => by have := hob j hj; omega)
end Go.Proofs.YtcihplachlokiaaGreatDoor
