/- Lists of lists of instructions that are owned; the rungs of a list as mathematics. -/
import Derived.Test.YtbncgacnikmomaaDoorGbM
import Derived.Test.YtbncgacnikmomaaDoorBaM
import Derived.Deep.AppendLies
namespace Go.Proofs.YtbncgacnikmomaaDoor
open Go.RowKit
set_option linter.unusedVariables false

theorem gbb {W W' : World} {row : Option Nat} (g : Below W.heap.size W W') : W.grownBy W' row := ⟨g.os, g.tape, g.output, g.size, fun k hk _ => g.block k hk⟩
theorem ownl {W W' : World} {base : Nat} {e : TypeId} {size : Nat} {v : Value} {n : Nat} {xs : List Value} (h : W.ownsRow base e size v n xs) (g : Below W.heap.size W W') : W'.ownsRow base e size v n xs := World.ownsRow.kept (row := none) h (gbb g) (by cases v.ownBlock <;> simp)
/-- The cells of operands. -/
def avs (xs : List ArgT) : List Value := xs.flatMap fun x => [.int .i64 x.1, .int .i64 x.2.1, .int .i64 x.2.2]
theorem avs_len (xs : List ArgT) : (avs xs).length = xs.length * 3 := by
  unfold avs
  induction xs with
  | nil => rfl
  | cons x xs ih => simp [ih]; omega
theorem avs_one (xs : List ArgT) : ∀ v ∈ avs xs, v.oneCell' = true := by
  intro v hv
  unfold avs at hv
  simp only [List.mem_flatMap] at hv
  obtain ⟨x, _, hx⟩ := hv
  simp at hx
  rcases hx with rfl | rfl | rfl <;> rfl
theorem avs_snoc (xs : List ArgT) (x : ArgT) : avs (xs ++ [x]) = avs xs ++ [.int .i64 x.1, .int .i64 x.2.1, .int .i64 x.2.2] := by simp [avs]
theorem each_avs : ∀ (n : Nat) (xs : List ArgT), xs.length = n → Each ArgO 3 [] xs (avs xs)
  | 0, xs, h => by
    obtain rfl := List.length_eq_zero_iff.1 h
    exact .nil
  | n + 1, xs, h => by
    rcases List.eq_nil_or_concat xs with rfl | ⟨l, a, rfl⟩
    · simp at h
    · have h1 := each_avs n l (by simpa using h)
      have h2 : Each ArgO 3 ([] ++ []) (l ++ [a]) (avs l ++ [.int .i64 a.1, .int .i64 a.2.1, .int .i64 a.2.2]) := .add h1 rfl ⟨rfl, rfl⟩
      rw [List.concat_eq_append, avs_snoc]
      exact h2
theorem args_of {W : World} {base : Nat} {v : Value} {xs : List ArgT} (h : W.ownsRow base 74 3 v xs.length (avs xs)) : ArgsOwn W base v.ownBlock.toList v xs := ⟨avs xs, [], each_avs _ xs rfl, h, by simp⟩
theorem args_base {W : World} {base base' : Nat} {F : List Nat} {v : Value} {xs : List ArgT} (h : ArgsOwn W base F v xs) (hb : base' ≤ base) : ArgsOwn W base' F v xs := by
  obtain ⟨cs, F', h1, h2, h3⟩ := h
  refine ⟨cs, F', h1, ⟨h2.1, ?_⟩, h3⟩
  rcases h2.2 with h | ⟨g, cap, cur, e1, e2, e3⟩
  · exact .inl h
  · exact .inr ⟨g, cap, cur, e1, by omega, e3⟩
def InstOwn (W : World) (base : Nat) (F : List Nat) (i : InstT) (c : List Value) : Prop := ∃ v, c = [.int .i64 i.code, .int .i64 i.one.op, v] ∧ ArgsOwn W base F v i.one.args
abbrev InstsOwn (W : World) (base : Nat) (F : List Nat) (v : Value) (xs : List InstT) : Prop := RowOwn W base 39 3 (InstOwn W base) F v xs
theorem InstOwn.move {W W' : World} {base : Nat} {F : List Nat} {i : InstT} {c : List Value} {row : Option Nat} (h : InstOwn W base F i c) (hg : W.grownBy W' row) (hr : ∀ b ∈ F, some b ≠ row) : InstOwn W' base F i c := by
  obtain ⟨v, hc, h1⟩ := h
  exact ⟨v, hc, ArgsOwn.move h1 hg hr⟩
theorem InstOwn.lt {W : World} {base : Nat} {F : List Nat} {i : InstT} {c : List Value} (h : InstOwn W base F i c) : ∀ b ∈ F, base ≤ b ∧ b < W.heap.size := by
  obtain ⟨v, _, h1⟩ := h
  exact ArgsOwn.lt h1
theorem InstOwn.is {W : World} {base lo : Nat} {F : List Nat} {i : InstT} {c : List Value} (h : InstOwn W base F i c) (hl : lo ≤ base) : InstIs W lo i c := by
  obtain ⟨v, hc, h1⟩ := h
  exact ⟨v, hc, ArgsOwn.is h1 hl⟩
theorem InstsOwn.move {W W' : World} {base : Nat} {F : List Nat} {v : Value} {xs : List InstT} {row : Option Nat} (h : InstsOwn W base F v xs) (hg : W.grownBy W' row) (hr : ∀ b ∈ F, some b ≠ row) : InstsOwn W' base F v xs := RowOwn.move h hg hr fun f x c hf h => h.move hg hf
theorem InstsOwn.lt {W : World} {base : Nat} {F : List Nat} {v : Value} {xs : List InstT} (h : InstsOwn W base F v xs) : ∀ b ∈ F, base ≤ b ∧ b < W.heap.size := RowOwn.lt h fun f x c h => h.lt
theorem InstsOwn.is {W : World} {base lo : Nat} {F : List Nat} {v : Value} {xs : List InstT} (h : InstsOwn W base F v xs) (hl : lo ≤ base) : InstsIs W lo v xs := RowOwn.is h hl fun f x c h => h.is hl
theorem InstsOwn.later {W W' : World} {base : Nat} {F : List Nat} {v : Value} {xs : List InstT} (h : InstsOwn W base F v xs) (g : Below W.heap.size W W') : InstsOwn W' base F v xs := h.move (row := none) (gbb g) (fun b _ => by simp)
theorem insts_base {W : World} {base base' : Nat} {F : List Nat} {v : Value} {xs : List InstT} (h : InstsOwn W base F v xs) (hb : base' ≤ base) : InstsOwn W base' F v xs := by
  obtain ⟨cs, F', h1, h2, h3⟩ := h
  refine ⟨cs, F', h1.move fun f x c _ ⟨v, e1, e2⟩ => ⟨v, e1, args_base e2 hb⟩, ⟨h2.1, ?_⟩, h3⟩
  rcases h2.2 with h | ⟨g, cap, cur, e1, e2, e3⟩
  · exact .inl h
  · exact .inr ⟨g, cap, cur, e1, by omega, e3⟩
def RungOwn (W : World) (base : Nat) (F : List Nat) (r : List InstT) (c : List Value) : Prop := ∃ v, c = [v] ∧ InstsOwn W base F v r
abbrev SSOwn (W : World) (base : Nat) (F : List Nat) (v : Value) (rs : List (List InstT)) : Prop := RowOwn W base 23 1 (RungOwn W base) F v rs
theorem RungOwn.move {W W' : World} {base : Nat} {F : List Nat} {r : List InstT} {c : List Value} {row : Option Nat} (h : RungOwn W base F r c) (hg : W.grownBy W' row) (hr : ∀ b ∈ F, some b ≠ row) : RungOwn W' base F r c := by
  obtain ⟨v, hc, h1⟩ := h
  exact ⟨v, hc, h1.move hg hr⟩
theorem RungOwn.lt {W : World} {base : Nat} {F : List Nat} {r : List InstT} {c : List Value} (h : RungOwn W base F r c) : ∀ b ∈ F, base ≤ b ∧ b < W.heap.size := by
  obtain ⟨v, _, h1⟩ := h
  exact h1.lt
theorem SSOwn.move {W W' : World} {base : Nat} {F : List Nat} {v : Value} {rs : List (List InstT)} {row : Option Nat} (h : SSOwn W base F v rs) (hg : W.grownBy W' row) (hr : ∀ b ∈ F, some b ≠ row) : SSOwn W' base F v rs := RowOwn.move h hg hr fun f x c hf h => h.move hg hf
theorem SSOwn.lt {W : World} {base : Nat} {F : List Nat} {v : Value} {rs : List (List InstT)} (h : SSOwn W base F v rs) : ∀ b ∈ F, base ≤ b ∧ b < W.heap.size := RowOwn.lt h fun f x c h => h.lt
theorem SSOwn.later {W W' : World} {base : Nat} {F : List Nat} {v : Value} {rs : List (List InstT)} (h : SSOwn W base F v rs) (g : Below W.heap.size W W') : SSOwn W' base F v rs := h.move (row := none) (gbb g) (fun b _ => by simp)
def RungIs (W : World) (lo : Nat) (r : List InstT) (c : List Value) : Prop := ∃ v, c = [v] ∧ InstsIs W lo v r
abbrev SSIs (W : World) (lo : Nat) (v : Value) (rs : List (List InstT)) : Prop := RowIs W lo 1 (RungIs W lo) v rs
theorem SSOwn.is {W : World} {base lo : Nat} {F : List Nat} {v : Value} {rs : List (List InstT)} (h : SSOwn W base F v rs) (hl : lo ≤ base) : SSIs W lo v rs := RowOwn.is h hl fun f x c ⟨u, e, k⟩ => ⟨u, e, k.is hl⟩

/-- One more element, by an append. -/
theorem row_step {α : Type} {e z base : Nat} {R : World → List Nat → α → List Value → Prop} (Rm : ∀ W W' row f x c, W.grownBy W' row → (∀ b ∈ f, some b ≠ row) → R W f x c → R W' f x c)
    {w w4 w5 : World} {v : Value} {xs : List α} {F F' f : List Nat} {cs c : List Value} {x : α} {g1 cap1 : Nat} (hbw : w.heap.size ≤ base)
    (hE : Each (R w4) z F' xs cs) (hF : F = v.ownBlock.toList ++ F') (hFl : ∀ b ∈ F, base ≤ b ∧ b < w4.heap.size) (hnd : F.Nodup) (hN : R w4 f x c) (hc : c.length = z) (hfl : ∀ b ∈ f, base ≤ b ∧ b < w4.heap.size) (hfn : f.Nodup) (hdis : ∀ b ∈ f, b ∉ F)
    (own5 : w5.ownsRow base e z (.slice (some ⟨g1, 0, none⟩) (xs.length + 1) cap1) (xs.length + 1) (cs ++ c)) (g5 : w4.grownBy w5 v.ownBlock) (hat : v.ownBlock = some g1 ∨ g1 = w4.heap.size) (hB : Below w.heap.size w w4) :
    RowOwn w5 base e z (R w5) (g1 :: (F' ++ f)) (.slice (some ⟨g1, 0, none⟩) (xs.length + 1) cap1) (xs ++ [x]) ∧ (g1 :: (F' ++ f)).Nodup ∧ Below w.heap.size w w5 := by
  have hob : ∀ j, v.ownBlock = some j → base ≤ j ∧ j < w4.heap.size := fun j hj => hFl j (by rw [hF, hj]; simp)
  have hvF : ∀ j, v.ownBlock = some j → j ∈ F := fun j hj => by rw [hF, hj]; simp
  rw [hF] at hnd
  have hnd' := List.nodup_append.1 hnd
  have hF' : ∀ b ∈ F', some b ≠ v.ownBlock := fun b hb e => hnd'.2.2 b (by rw [← e]; simp) b hb rfl
  have hFF : ∀ b ∈ F', b ∈ F := fun b hb => by rw [hF]; exact List.mem_append_right _ hb
  have hf' : ∀ b ∈ f, some b ≠ v.ownBlock := fun b hb e => hdis b hb (hvF b e.symm)
  refine ⟨RowOwn.push (hE.move fun f1 x1 c1 h1 h2 => Rm _ _ _ _ _ _ g5 (fun b hb => hF' b (h1 hb)) h2) hc (Rm _ _ _ _ _ _ g5 hf' hN) own5, ?_, ?_⟩
  · rw [List.nodup_cons]
    refine ⟨fun hm => ?_, List.nodup_append.2 ⟨hnd'.2.1, hfn, fun a ha b hb e => hdis b hb (e ▸ hFF a ha)⟩⟩
    rcases List.mem_append.1 hm with hm | hm
    · rcases hat with h | h
      · exact hF' g1 hm h.symm
      · have := hFl g1 (hFF g1 hm); omega
    · rcases hat with h | h
      · exact hf' g1 hm h.symm
      · have := hfl g1 hm; omega
  · exact hB.grown g5 (by have := hB.size; omega) (fun j hj => by have := hob j hj; omega)

/-- The rungs of what is left of a list, behind what the rung has so far and the rungs so far. -/
def rg : List InstT → List InstT → List (List InstT) → List (List InstT)
  | [], cur, out => out
  | i :: is, cur, out => if i.code = 11 then rg is [] (out ++ [cur ++ [i]]) else rg is (cur ++ [i]) out
noncomputable def rungsT (xs : List InstT) : List (List InstT) := if checkT xs = (0, 0) then rg xs [] [] else []
theorem rg_end {xs : List InstT} {n : Nat} {x : InstT} {cur : List InstT} {out : List (List InstT)} (h : xs[n]? = some x) (hc : x.code = 11) : rg (xs.drop n) cur out = rg (xs.drop (n + 1)) [] (out ++ [cur ++ [x]]) := by
  obtain ⟨hn, rfl⟩ := List.getElem?_eq_some_iff.1 h
  rw [List.drop_eq_getElem_cons hn, rg, if_pos hc]
theorem rg_go {xs : List InstT} {n : Nat} {x : InstT} {cur : List InstT} {out : List (List InstT)} (h : xs[n]? = some x) (hc : x.code ≠ 11) : rg (xs.drop n) cur out = rg (xs.drop (n + 1)) (cur ++ [x]) out := by
  obtain ⟨hn, rfl⟩ := List.getElem?_eq_some_iff.1 h
  rw [List.drop_eq_getElem_cons hn, rg, if_neg hc]
theorem rg_nil {xs : List InstT} {n : Nat} {cur : List InstT} {out : List (List InstT)} (h : xs.length ≤ n) : rg (xs.drop n) cur out = out := by
  rw [List.drop_eq_nil_of_le h, rg]
/-- A list that is verified is not too long. -/
theorem check_len {xs : List InstT} (h : checkT xs = (0, 0)) : xs.length ≤ 1000 := by
  unfold checkT at h
  split at h
  · simp at h
  · omega
def RungsR (xs : List InstT) (w : World) (e : Ending) (w' : World) : Prop := ∃ (F : List Nat) (a : Option Addr) (m cp : Nat), e = .returned (.slice a m cp) ∧ SSOwn w' w.heap.size F (.slice a m cp) (rungsT xs) ∧ F.Nodup ∧ Below w.heap.size w w'
end Go.Proofs.YtbncgacnikmomaaDoor
/- An element in new memory: the program's normElem. -/
namespace Go.Proofs.YtbncgacnikmomaaDoor
open Go.RowKit
set_option linter.unusedVariables false

theorem own_base {w : World} {base base' size n : Nat} {e : TypeId} {v : Value} {xs : List Value} (h : w.ownsRow base e size v n xs) (hb : base' ≤ base) : w.ownsRow base' e size v n xs := by
  refine ⟨h.1, ?_⟩
  rcases h.2 with h | ⟨g, cap, cur, e1, e2, e3⟩
  · exact .inl h
  · exact .inr ⟨g, cap, cur, e1, by omega, e3⟩
theorem two_below' {w : World} (o1 o2 : Obj) : Below w.heap.size w ((w.alloc o1).alloc o2) := ((Below.refl _ _).alloc (Nat.le_refl _) _).alloc (by simp) _
theorem two_free {X : World} {B : Nat} {T : TypeId} {a b : Value} {w3 : World} {W : World} (g3 : Below W.heap.size W w3) (kA : X.heap[B]? = some (.cells #[a, b] T (0, 0))) (hX : W.heap = X.heap := by rfl) :
    w3.heap[B]? = some (.cells #[a, b] T (0, 0)) ∧ w3.cell? ⟨B, 0, none⟩ = some a ∧ w3.cell? ⟨B, 1, none⟩ = some b ∧ w3.frozen? ⟨B, 0, none⟩ = false ∧ w3.frozen? ⟨B, 1, none⟩ = false := by
  have k3 : w3.heap[B]? = some (.cells #[a, b] T (0, 0)) := by
    have h0 : W.heap[B]? = some (.cells #[a, b] T (0, 0)) := by rw [hX]; exact kA
    exact (g3.block _ (Array.getElem?_eq_some_iff.1 h0).1).trans h0
  exact ⟨k3, (cell_of_row _ _ _ _ _ _ k3).trans rfl, (cell_of_row _ _ _ _ _ _ k3).trans rfl, by simp [World.frozen?, k3], by simp [World.frozen?, k3]⟩
end Go.Proofs.YtbncgacnikmomaaDoor
