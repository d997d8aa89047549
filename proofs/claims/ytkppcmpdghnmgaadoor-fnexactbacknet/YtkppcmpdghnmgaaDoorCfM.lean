/- Lists of lists of instructions that are owned; the rungs of a list as mathematics. -/
import Derived.Test.YtkppcmpdghnmgaaDoorGbM
import Derived.Test.YtkppcmpdghnmgaaDoorBa
import Derived.Deep.AppendLies
import Derived.Laws.CopyOwn
import Derived.Laws.Tables
namespace Go.Proofs.YtkppcmpdghnmgaaDoor
open Go.RowKit
set_option linter.unusedVariables false

theorem gbb {W W' : World} {row : Option Nat} (g : Below W.heap.size W W') : W.grownBy W' row := ⟨g.os, g.tape, g.output, g.size, fun k hk _ => g.block k hk⟩
theorem ownl {W W' : World} {base : Nat} {e : TypeId} {size : Nat} {v : Value} {n : Nat} {xs : List Value} (h : W.ownsRow base e size v n xs) (g : Below W.heap.size W W') : W'.ownsRow base e size v n xs := World.ownsRow.kept (row := none) h (gbb g) (by cases v.ownBlock <;> simp)
/-- The cells of operands. -/
def avs (xs : List ArgT) : List Value := xs.flatMap fun x => [.int .i64 x.1, .int .i64 x.2.1, .int .i64 x.2.2]
theorem avs_len (xs : List ArgT) : (avs xs).length = xs.length * 3 := by
  unfold avs
  induction xs with
  | nil => rfl
  | cons x xs ih => simp [ih]; omega
theorem avs_one (xs : List ArgT) : ∀ v ∈ avs xs, v.oneCell' = true := by
  intro v hv
  unfold avs at hv
  simp only [List.mem_flatMap] at hv
  obtain ⟨x, _, hx⟩ := hv
  simp at hx
  rcases hx with rfl | rfl | rfl <;> rfl
theorem avs_snoc (xs : List ArgT) (x : ArgT) : avs (xs ++ [x]) = avs xs ++ [.int .i64 x.1, .int .i64 x.2.1, .int .i64 x.2.2] := by simp [avs]
theorem each_avs : ∀ (n : Nat) (xs : List ArgT), xs.length = n → Each ArgO 3 [] xs (avs xs)
  | 0, xs, h => by
    obtain rfl := List.length_eq_zero_iff.1 h
    exact .nil
  | n + 1, xs, h => by
    rcases List.eq_nil_or_concat xs with rfl | ⟨l, a, rfl⟩
    · simp at h
    · have h1 := each_avs n l (by simpa using h)
      have h2 : Each ArgO 3 ([] ++ []) (l ++ [a]) (avs l ++ [.int .i64 a.1, .int .i64 a.2.1, .int .i64 a.2.2]) := .add h1 rfl ⟨rfl, rfl⟩
      rw [List.concat_eq_append, avs_snoc]
      exact h2
theorem args_of {W : World} {base : Nat} {v : Value} {xs : List ArgT} (h : W.ownsRow base 83 3 v xs.length (avs xs)) : ArgsOwn W base v.ownBlock.toList v xs := ⟨avs xs, [], each_avs _ xs rfl, h, by simp⟩
theorem args_base {W : World} {base base' : Nat} {F : List Nat} {v : Value} {xs : List ArgT} (h : ArgsOwn W base F v xs) (hb : base' ≤ base) : ArgsOwn W base' F v xs := by
  obtain ⟨cs, F', h1, h2, h3⟩ := h
  refine ⟨cs, F', h1, ⟨h2.1, ?_⟩, h3⟩
  rcases h2.2 with h | ⟨g, cap, cur, e1, e2, e3⟩
  · exact .inl h
  · exact .inr ⟨g, cap, cur, e1, by omega, e3⟩
def InstOwn (W : World) (base : Nat) (F : List Nat) (i : InstT) (c : List Value) : Prop := ∃ v, c = [.int .i64 i.code, .int .i64 i.one.op, v] ∧ ArgsOwn W base F v i.one.args
abbrev InstsOwn (W : World) (base : Nat) (F : List Nat) (v : Value) (xs : List InstT) : Prop := RowOwn W base 46 3 (InstOwn W base) F v xs
theorem InstOwn.move {W W' : World} {base : Nat} {F : List Nat} {i : InstT} {c : List Value} {row : Option Nat} (h : InstOwn W base F i c) (hg : W.grownBy W' row) (hr : ∀ b ∈ F, some b ≠ row) : InstOwn W' base F i c := by
  obtain ⟨v, hc, h1⟩ := h
  exact ⟨v, hc, ArgsOwn.move h1 hg hr⟩
theorem InstOwn.lt {W : World} {base : Nat} {F : List Nat} {i : InstT} {c : List Value} (h : InstOwn W base F i c) : ∀ b ∈ F, base ≤ b ∧ b < W.heap.size := by
  obtain ⟨v, _, h1⟩ := h
  exact ArgsOwn.lt h1
theorem InstOwn.is {W : World} {base lo : Nat} {F : List Nat} {i : InstT} {c : List Value} (h : InstOwn W base F i c) (hl : lo ≤ base) : InstIs W lo i c := by
  obtain ⟨v, hc, h1⟩ := h
  exact ⟨v, hc, ArgsOwn.is h1 hl⟩
theorem InstsOwn.move {W W' : World} {base : Nat} {F : List Nat} {v : Value} {xs : List InstT} {row : Option Nat} (h : InstsOwn W base F v xs) (hg : W.grownBy W' row) (hr : ∀ b ∈ F, some b ≠ row) : InstsOwn W' base F v xs := RowOwn.move h hg hr fun f x c hf h => h.move hg hf
theorem InstsOwn.lt {W : World} {base : Nat} {F : List Nat} {v : Value} {xs : List InstT} (h : InstsOwn W base F v xs) : ∀ b ∈ F, base ≤ b ∧ b < W.heap.size := RowOwn.lt h fun f x c h => h.lt
theorem InstsOwn.is {W : World} {base lo : Nat} {F : List Nat} {v : Value} {xs : List InstT} (h : InstsOwn W base F v xs) (hl : lo ≤ base) : InstsIs W lo v xs := RowOwn.is h hl fun f x c h => h.is hl
theorem InstsOwn.later {W W' : World} {base : Nat} {F : List Nat} {v : Value} {xs : List InstT} (h : InstsOwn W base F v xs) (g : Below W.heap.size W W') : InstsOwn W' base F v xs := h.move (row := none) (gbb g) (fun b _ => by simp)
theorem insts_base {W : World} {base base' : Nat} {F : List Nat} {v : Value} {xs : List InstT} (h : InstsOwn W base F v xs) (hb : base' ≤ base) : InstsOwn W base' F v xs := by
  obtain ⟨cs, F', h1, h2, h3⟩ := h
  refine ⟨cs, F', h1.move fun f x c _ ⟨v, e1, e2⟩ => ⟨v, e1, args_base e2 hb⟩, ⟨h2.1, ?_⟩, h3⟩
  rcases h2.2 with h | ⟨g, cap, cur, e1, e2, e3⟩
  · exact .inl h
  · exact .inr ⟨g, cap, cur, e1, by omega, e3⟩
def RungOwn (W : World) (base : Nat) (F : List Nat) (r : List InstT) (c : List Value) : Prop := ∃ v, c = [v] ∧ InstsOwn W base F v r
abbrev SSOwn (W : World) (base : Nat) (F : List Nat) (v : Value) (rs : List (List InstT)) : Prop := RowOwn W base 32 1 (RungOwn W base) F v rs
theorem RungOwn.move {W W' : World} {base : Nat} {F : List Nat} {r : List InstT} {c : List Value} {row : Option Nat} (h : RungOwn W base F r c) (hg : W.grownBy W' row) (hr : ∀ b ∈ F, some b ≠ row) : RungOwn W' base F r c := by
  obtain ⟨v, hc, h1⟩ := h
  exact ⟨v, hc, h1.move hg hr⟩
theorem RungOwn.lt {W : World} {base : Nat} {F : List Nat} {r : List InstT} {c : List Value} (h : RungOwn W base F r c) : ∀ b ∈ F, base ≤ b ∧ b < W.heap.size := by
  obtain ⟨v, _, h1⟩ := h
  exact h1.lt
theorem SSOwn.move {W W' : World} {base : Nat} {F : List Nat} {v : Value} {rs : List (List InstT)} {row : Option Nat} (h : SSOwn W base F v rs) (hg : W.grownBy W' row) (hr : ∀ b ∈ F, some b ≠ row) : SSOwn W' base F v rs := RowOwn.move h hg hr fun f x c hf h => h.move hg hf
theorem SSOwn.lt {W : World} {base : Nat} {F : List Nat} {v : Value} {rs : List (List InstT)} (h : SSOwn W base F v rs) : ∀ b ∈ F, base ≤ b ∧ b < W.heap.size := RowOwn.lt h fun f x c h => h.lt
theorem SSOwn.later {W W' : World} {base : Nat} {F : List Nat} {v : Value} {rs : List (List InstT)} (h : SSOwn W base F v rs) (g : Below W.heap.size W W') : SSOwn W' base F v rs := h.move (row := none) (gbb g) (fun b _ => by simp)
def RungIs (W : World) (lo : Nat) (r : List InstT) (c : List Value) : Prop := ∃ v, c = [v] ∧ InstsIs W lo v r
abbrev SSIs (W : World) (lo : Nat) (v : Value) (rs : List (List InstT)) : Prop := RowIs W lo 1 (RungIs W lo) v rs
theorem SSOwn.is {W : World} {base lo : Nat} {F : List Nat} {v : Value} {rs : List (List InstT)} (h : SSOwn W base F v rs) (hl : lo ≤ base) : SSIs W lo v rs := RowOwn.is h hl fun f x c ⟨u, e, k⟩ => ⟨u, e, k.is hl⟩

/-- One more element, by an append. -/
theorem row_step {α : Type} {e z base : Nat} {R : World → List Nat → α → List Value → Prop} (Rm : ∀ W W' row f x c, W.grownBy W' row → (∀ b ∈ f, some b ≠ row) → R W f x c → R W' f x c)
    {w w4 w5 : World} {v : Value} {xs : List α} {F F' f : List Nat} {cs c : List Value} {x : α} {g1 cap1 : Nat} (hbw : w.heap.size ≤ base)
    (hE : Each (R w4) z F' xs cs) (hF : F = v.ownBlock.toList ++ F') (hFl : ∀ b ∈ F, base ≤ b ∧ b < w4.heap.size) (hnd : F.Nodup) (hN : R w4 f x c) (hc : c.length = z) (hfl : ∀ b ∈ f, base ≤ b ∧ b < w4.heap.size) (hfn : f.Nodup) (hdis : ∀ b ∈ f, b ∉ F)
    (own5 : w5.ownsRow base e z (.slice (some ⟨g1, 0, none⟩) (xs.length + 1) cap1) (xs.length + 1) (cs ++ c)) (g5 : w4.grownBy w5 v.ownBlock) (hat : v.ownBlock = some g1 ∨ g1 = w4.heap.size) (hB : Below w.heap.size w w4) :
    RowOwn w5 base e z (R w5) (g1 :: (F' ++ f)) (.slice (some ⟨g1, 0, none⟩) (xs.length + 1) cap1) (xs ++ [x]) ∧ (g1 :: (F' ++ f)).Nodup ∧ Below w.heap.size w w5 := by
  have hob : ∀ j, v.ownBlock = some j → base ≤ j ∧ j < w4.heap.size := fun j hj => hFl j (by rw [hF, hj]; simp)
  have hvF : ∀ j, v.ownBlock = some j → j ∈ F := fun j hj => by rw [hF, hj]; simp
  rw [hF] at hnd
  have hnd' := List.nodup_append.1 hnd
  have hF' : ∀ b ∈ F', some b ≠ v.ownBlock := fun b hb e => hnd'.2.2 b (by rw [← e]; simp) b hb rfl
  have hFF : ∀ b ∈ F', b ∈ F := fun b hb => by rw [hF]; exact List.mem_append_right _ hb
  have hf' : ∀ b ∈ f, some b ≠ v.ownBlock := fun b hb e => hdis b hb (hvF b e.symm)
  refine ⟨RowOwn.push (hE.move fun f1 x1 c1 h1 h2 => Rm _ _ _ _ _ _ g5 (fun b hb => hF' b (h1 hb)) h2) hc (Rm _ _ _ _ _ _ g5 hf' hN) own5, ?_, ?_⟩
  · rw [List.nodup_cons]
    refine ⟨fun hm => ?_, List.nodup_append.2 ⟨hnd'.2.1, hfn, fun a ha b hb e => hdis b hb (e ▸ hFF a ha)⟩⟩
    rcases List.mem_append.1 hm with hm | hm
    · rcases hat with h | h
      · exact hF' g1 hm h.symm
      · have := hFl g1 (hFF g1 hm); omega
    · rcases hat with h | h
      · exact hf' g1 hm h.symm
      · have := hfl g1 hm; omega
  · exact hB.grown g5 (by have := hB.size; omega) (fun j hj => by have := hob j hj; omega)

/-- The rungs of what is left of a list, behind what the rung has so far and the rungs so far. -/
def rg : List InstT → List InstT → List (List InstT) → List (List InstT)
  | [], cur, out => out
  | i :: is, cur, out => if i.code = 11 then rg is [] (out ++ [cur ++ [i]]) else rg is (cur ++ [i]) out
noncomputable def rungsT (xs : List InstT) : List (List InstT) := if checkT xs = (0, 0) then rg xs [] [] else []
theorem rg_end {xs : List InstT} {n : Nat} {x : InstT} {cur : List InstT} {out : List (List InstT)} (h : xs[n]? = some x) (hc : x.code = 11) : rg (xs.drop n) cur out = rg (xs.drop (n + 1)) [] (out ++ [cur ++ [x]]) := by
  obtain ⟨hn, rfl⟩ := List.getElem?_eq_some_iff.1 h
  rw [List.drop_eq_getElem_cons hn, rg, if_pos hc]
theorem rg_go {xs : List InstT} {n : Nat} {x : InstT} {cur : List InstT} {out : List (List InstT)} (h : xs[n]? = some x) (hc : x.code ≠ 11) : rg (xs.drop n) cur out = rg (xs.drop (n + 1)) (cur ++ [x]) out := by
  obtain ⟨hn, rfl⟩ := List.getElem?_eq_some_iff.1 h
  rw [List.drop_eq_getElem_cons hn, rg, if_neg hc]
theorem rg_nil {xs : List InstT} {n : Nat} {cur : List InstT} {out : List (List InstT)} (h : xs.length ≤ n) : rg (xs.drop n) cur out = out := by
  rw [List.drop_eq_nil_of_le h, rg]
/-- A list that is verified is not too long. -/
theorem check_len {xs : List InstT} (h : checkT xs = (0, 0)) : xs.length ≤ 1000 := by
  unfold checkT at h
  split at h
  · simp at h
  · omega
def RungsR (xs : List InstT) (w : World) (e : Ending) (w' : World) : Prop := ∃ (F : List Nat) (a : Option Addr) (m cp : Nat), e = .returned (.slice a m cp) ∧ SSOwn w' w.heap.size F (.slice a m cp) (rungsT xs) ∧ F.Nodup ∧ Below w.heap.size w w'
end Go.Proofs.YtkppcmpdghnmgaaDoor
/- An element in new memory: the program's normElem. -/
namespace Go.Proofs.YtkppcmpdghnmgaaDoor
open Go.RowKit
set_option linter.unusedVariables false

theorem own_base {w : World} {base base' size n : Nat} {e : TypeId} {v : Value} {xs : List Value} (h : w.ownsRow base e size v n xs) (hb : base' ≤ base) : w.ownsRow base' e size v n xs := by
  refine ⟨h.1, ?_⟩
  rcases h.2 with h | ⟨g, cap, cur, e1, e2, e3⟩
  · exact .inl h
  · exact .inr ⟨g, cap, cur, e1, by omega, e3⟩
theorem two_below' {w : World} (o1 o2 : Obj) : Below w.heap.size w ((w.alloc o1).alloc o2) := ((Below.refl _ _).alloc (Nat.le_refl _) _).alloc (by simp) _
theorem two_free {X : World} {B : Nat} {T : TypeId} {a b : Value} {w3 : World} {W : World} (g3 : Below W.heap.size W w3) (kA : X.heap[B]? = some (.cells #[a, b] T (0, 0))) (hX : W.heap = X.heap := by rfl) :
    w3.heap[B]? = some (.cells #[a, b] T (0, 0)) ∧ w3.cell? ⟨B, 0, none⟩ = some a ∧ w3.cell? ⟨B, 1, none⟩ = some b ∧ w3.frozen? ⟨B, 0, none⟩ = false ∧ w3.frozen? ⟨B, 1, none⟩ = false := by
  have k3 : w3.heap[B]? = some (.cells #[a, b] T (0, 0)) := by
    have h0 : W.heap[B]? = some (.cells #[a, b] T (0, 0)) := by rw [hX]; exact kA
    exact (g3.block _ (Array.getElem?_eq_some_iff.1 h0).1).trans h0
  exact ⟨k3, (cell_of_row _ _ _ _ _ _ k3).trans rfl, (cell_of_row _ _ _ _ _ _ k3).trans rfl, by simp [World.frozen?, k3], by simp [World.frozen?, k3]⟩
set_option maxHeartbeats 1000000 in
theorem same_i (k n p : Int) (w : World) : Calls Tryd.prog 70 #[.agg #[.int .i64 k, .int .i64 n, .int .i64 p]] w fun e w' => e = .returned (.agg #[.int .i64 k, .int .i64 n, .int .i64 p]) ∧ Below w.heap.size w w' := by
  go_enter Tryd.func70, Tryd.ntmps70
  go_wp2
  exact bodyPost_ret (v := .agg #[.int .i64 k, .int .i64 n, .int .i64 p]) (by simp [results, Tryd.results70, go_sem]) rfl ⟨rfl, ((Below.refl _ _).alloc (Nat.le_refl _) _).alloc (by simp) _⟩

set_option maxRecDepth 10000 in
set_option maxHeartbeats 2000000 in
theorem take_i (base fb : Nat) (a : Option Addr) (m cp : Nat) (xs : List ArgT) (k n p : Int) (hm : m = xs.length) (hm1 : m ≤ 1048576) (w : World) (hf : w.cell? ⟨fb, 0, none⟩ = some (.func (.func 70) #[] #[])) (hb : base ≤ w.heap.size) (hO : w.ownsRow base 83 3 (.slice a m cp) m (avs xs)) :
    Calls Tryd.prog 89 #[.slice a m cp, .agg #[.int .i64 k, .int .i64 n, .int .i64 p], .pointer (some ⟨fb, 0, none⟩)] w fun e w' => ∃ g1 cap1, e = .returned (.slice (some ⟨g1, 0, none⟩) (m + 1) cap1) ∧ w'.ownsRow base 83 3 (.slice (some ⟨g1, 0, none⟩) (m + 1) cap1) (m + 1) (avs (xs ++ [(k, n, p)])) ∧ w.grownBy w' (Value.slice a m cp).ownBlock := by
  have hinfo : (Tryd.prog.info? 83).map (fun i => (i.zero, i.size, i.bytes)) = some (some (.agg #[.int .i64 0, .int .i64 0, .int .i64 0]), 3, 24) := by kernel_rfl
  obtain ⟨ti, hi, hzz⟩ := Option.map_eq_some_iff.1 hinfo
  simp only [Prod.mk.injEq] at hzz
  obtain ⟨hz0, hz1, hz2⟩ := hzz
  have HI : Hid (Tryd.prog.info? 83 = some ti ∧ ti.zero = some (.agg #[.int .i64 0, .int .i64 0, .int .i64 0]) ∧ ti.size = 3 ∧ ti.bytes = 24) := ⟨hi, hz0, hz1, hz2⟩
  clear hi hz0 hz1 hz2 hinfo
  have hfb := World.block_lt_of_cell? _ _ hf
  simp only at hfb
  have HO : Hid (w.ownsRow base 83 3 (.slice a m cp) m (avs xs)) := hO
  have HAv : Hid (avs (xs ++ [(k, n, p)]) = avs xs ++ [.int .i64 k, .int .i64 n, .int .i64 p]) := avs_snoc xs (k, n, p)
  clear hO hm
  go_enter Tryd.func89, Tryd.ntmps89
  go_wp2_with fail
  refine (same_i k n p _).mono ?_
  rintro e w1 ⟨rfl, g1⟩
  have G1 : Below w.heap.size w w1 := ((Below.refl _ _).alloc (Nat.le_refl _) _).trans (g1.mono (by simp))
  have own3 : (w1.alloc (.cells #[.int .i64 k, .int .i64 n, .int .i64 p] 83)).ownsRow base 83 3 (.slice a m cp) m (avs xs) := World.ownsRow.alloc (ownl HO.out G1) _
  have news3 : ∀ (q : Nat) (v : Value), ([.int .i64 k, .int .i64 n, .int .i64 p] : List Value)[q]? = some v → (w1.alloc (.cells #[.int .i64 k, .int .i64 n, .int .i64 p] 83)).cell? ((⟨w1.heap.size, 0, none⟩ : Addr).add q) = some v := by
    intro q v hq
    match q with
    | 0 => simp at hq; subst hq; simp [Addr.add]
    | 1 => simp at hq; subst hq; simp [Addr.add]
    | 2 => simp at hq; subst hq; simp [Addr.add]
    | (j + 3) => simp at hq
  have hsz : w.heap.size ≤ w1.heap.size := G1.size
  have HG1 : Hid (Below w.heap.size w w1) := G1
  clear g1 G1
  go_wp2_with (at_builtin; refine wpList_append_lies _ rfl _ _ 24 rfl base 83 ti (.agg #[.int .i64 0, .int .i64 0, .int .i64 0]) 3 24 Tryd.underlying24 HI.out.1 HI.out.2.1 HI.out.2.2.1 HI.out.2.2.2 rfl (by decide) _ m (avs xs) rfl own3 ⟨w1.heap.size, 0, none⟩ 1 1 [.int .i64 k, .int .i64 n, .int .i64 p] rfl rfl news3 ?c2 (by omega) ?c3 ?c4 ?c5 _ rfl ?_)
  case c2 => intro v hu; simp at hu; rcases hu with rfl | rfl | rfl <;> rfl
  case c3 => unfold maxLen; omega
  case c4 => omega
  case c5 => simp; omega
  intro g1 cap1 w5 own4 g4 hat hlt4
  have HF : Hid (w5.ownsRow base 83 3 (.slice (some ⟨g1, 0, none⟩) (m + 1) cap1) (m + 1) (avs (xs ++ [(k, n, p)])) ∧ w.grownBy w5 (Value.slice a m cp).ownBlock) := ⟨by rw [HAv.out]; exact own4, ((gbb HG1.out).trans (World.grownBy_alloc _ _ _)).trans g4⟩
  clear own3 news3 own4 g4 hat hlt4
  go_wp2
  go_ret
  exact ⟨g1, cap1, rfl, HF.out.1, HF.out.2⟩

set_option maxRecDepth 10000 in
set_option maxHeartbeats 4000000 in
theorem fold_i (fb lo : Nat) (v : Value) (xs : List ArgT) (w : World) (hv : ArgsIs w lo v xs) (hbig : xs.length ≤ 1048576) (hf : w.cell? ⟨fb, 0, none⟩ = some (.func (.func 70) #[] #[])) :
    Calls Tryd.prog 88 #[v, .slice none 0 0, .func (.func 89) #[] #[.pointer (some ⟨fb, 0, none⟩)]] w fun e w' => ∃ a cp, e = .returned (.slice a xs.length cp) ∧ w'.ownsRow w.heap.size 83 3 (.slice a xs.length cp) xs.length (avs xs) ∧ Below w.heap.size w w' := by
  obtain ⟨a, cap, rfl, hl, hx⟩ := hv
  have HX : Hid (∀ j x, xs[j]? = some x → ∃ b o cs, a = some ⟨b, o, none⟩ ∧ lo ≤ b ∧ cs.length = 3 ∧ w.rangeAt b (o + j * 3) cs ∧ ArgIs x cs) := hx
  have HFn : Hid (w.cell? ⟨fb, 0, none⟩ = some (.func (.func 70) #[] #[]) ∧ fb < w.heap.size) := ⟨hf, World.block_lt_of_cell? _ _ hf⟩
  obtain ⟨len, HL⟩ : ∃ len, Hid (len = xs.length) := ⟨_, rfl⟩
  rw [← HL.out] at hl hbig ⊢
  clear hx hf
  go_enter Tryd.func88, Tryd.ntmps88
  go_wp2
  go_loopg [1, 11] len (fun gg into i wr => ∃ (n cp : Nat) (ia : Option Addr), n + gg = len ∧ i = .int .i64 n ∧ into = .slice ia n cp ∧ Hid (wr.ownsRow w.heap.size 83 3 (.slice ia n cp) n (avs (xs.take n)) ∧ Below w.heap.size w wr))
  case atStart => exact ⟨0, 0, none, by omega, rfl, rfl, by simpa [avs] using World.ownsRow_nil w w.heap.size 83 3, Below.refl _ _⟩
  case round =>
    obtain ⟨n, cp, ia, hn, rfl, rfl, HS⟩ := hrel
    by_cases hlt : n < len
    · have i1 : (n : Int) < (len : Int) := by omega
      have i3 : (0 : Int) ≤ (n : Int) := by omega
      obtain ⟨x, hxn⟩ : ∃ x, xs[n]? = some x := ⟨_, List.getElem?_eq_getElem (by have := HL.out; omega)⟩
      obtain ⟨b, o, cs, rfl, hlo, hcs, hrg, hR⟩ := HX.out n x hxn
      obtain rfl : cs = _ := hR
      have hb := HS.out.2
      have HLd : Hid ((loadVar 83 ⟨b, o + n * 3, none⟩).run Tryd.prog wr = .ok (.agg #[.int .i64 x.1, .int .i64 x.2.1, .int .i64 x.2.2]) wr) := run_loadVar_mid wr b (o + n * 3) 83 [.int .i64 x.1, .int .i64 x.2.1, .int .i64 x.2.2] _ (fun i c hi => (Keeps.of_below hb 0) _ _ _ (Nat.zero_le _) (hrg i c hi)) Tryd.underlying83 rfl (by kernel_rfl)
      obtain ⟨k, Hk⟩ : ∃ q, Hid (q = x.1) := ⟨_, rfl⟩
      obtain ⟨p, Hp⟩ : ∃ q, Hid (q = x.2.1) := ⟨_, rfl⟩
      obtain ⟨q, Hq⟩ : ∃ q, Hid (q = x.2.2) := ⟨_, rfl⟩
      rw [← Hk.out, ← Hp.out, ← Hq.out] at HLd
      have HTk : Hid (xs.take (n + 1) = xs.take n ++ [(k, p, q)]) := by
        show xs.take (n + 1) = xs.take n ++ [(k, p, q)]
        rw [Hk.out, Hp.out, Hq.out, List.take_add_one, hxn]
        rfl
      have gA : Below wr.heap.size wr (wr.alloc (.cells #[.int .i64 k, .int .i64 p, .int .i64 q] 83)) := (Below.refl _ _).alloc (Nat.le_refl _) _
      have hlt2 : (xs.take n).length = n := by rw [List.length_take]; have := HL.out; omega
      have HCl : Hid (Calls Tryd.prog 89 #[.slice ia n cp, .agg #[.int .i64 k, .int .i64 p, .int .i64 q], .pointer (some ⟨fb, 0, none⟩)] (wr.alloc (.cells #[.int .i64 k, .int .i64 p, .int .i64 q] 83)) fun e w' => ∃ g1 cap1, e = .returned (.slice (some ⟨g1, 0, none⟩) (n + 1) cap1) ∧ w'.ownsRow w.heap.size 83 3 (.slice (some ⟨g1, 0, none⟩) (n + 1) cap1) (n + 1) (avs (xs.take n ++ [(k, p, q)])) ∧ (wr.alloc (.cells #[.int .i64 k, .int .i64 p, .int .i64 q] 83)).grownBy w' (Value.slice ia n cp).ownBlock) :=
        take_i w.heap.size fb ia n cp (xs.take n) k p q hlt2.symm (by omega) _ ((Keeps.of_below gA 0) _ _ _ (Nat.zero_le _) ((Keeps.of_below hb 0) _ _ _ (Nat.zero_le _) HFn.out.1)) (by simp; have := hb.size; omega) (ownl HS.out.1 gA)
      have HLA : Hid ((loadVar 83 ⟨wr.heap.size, 0, none⟩).run Tryd.prog (wr.alloc (.cells #[.int .i64 k, .int .i64 p, .int .i64 q] 83)) = .ok (.agg #[.int .i64 k, .int .i64 p, .int .i64 q]) (wr.alloc (.cells #[.int .i64 k, .int .i64 p, .int .i64 q] 83))) := load_all (heap_alloc_last wr _) _ _ Tryd.underlying83 rfl (by kernel_rfl)
      have HBA : Hid (Below w.heap.size w (wr.alloc (.cells #[.int .i64 k, .int .i64 p, .int .i64 q] 83)) ∧ ∀ j, (Value.slice ia n cp).ownBlock = some j → w.heap.size ≤ j) := ⟨hb.alloc hb.size _, fun j hj => (HS.out.1.lt j hj).1⟩
      clear hb hrg hcs hlo gA hlt2 HS
      go_wp2_with (first | (refine wpL_load rfl 83 _ rfl _ _ rfl _ HLd.out ?_) | (refine wpL_load rfl 83 _ rfl _ _ rfl _ HLA.out ?_) | fail)
      refine HCl.out.mono ?_
      rintro e w5 ⟨g1, cap1, rfl, o5, g5⟩
      have HFF : Hid (w5.ownsRow w.heap.size 83 3 (.slice (some ⟨g1, 0, none⟩) (n + 1) cap1) (n + 1) (avs (xs.take (n + 1))) ∧ Below w.heap.size w w5) := ⟨by rw [HTk.out]; exact o5, HBA.out.1.grown g5 HBA.out.1.size HBA.out.2⟩
      clear o5 g5 HCl HLA HLd HBA
      go_wp2
      go_roundg (gk - 1)
      case measure => omega
      case rel => exact ⟨n + 1, cap1, some ⟨g1, 0, none⟩, by omega, by simp, rfl, HFF⟩
    · have i1 : ¬ ((n : Int) < (len : Int)) := by omega
      have hnl : n = len := by omega
      subst hnl
      have HF : Hid (wr.ownsRow w.heap.size 83 3 (.slice ia n cp) n (avs xs) ∧ Below w.heap.size w wr) := ⟨by have := HS.out.1; rwa [List.take_of_length_le (by have := HL.out; omega)] at this, HS.out.2⟩
      clear HS
      go_wp2
      go_ret
      exact ⟨ia, cp, rfl, HF.out.1, HF.out.2⟩

set_option maxRecDepth 10000 in
set_option maxHeartbeats 2000000 in
theorem each_i (lo : Nat) (v : Value) (xs : List ArgT) (w : World) (hv : ArgsIs w lo v xs) (hbig : xs.length ≤ 1048576) :
    Calls Tryd.prog 71 #[v, .func (.func 70) #[] #[]] w fun e w' => ∃ a cp, e = .returned (.slice a xs.length cp) ∧ w'.ownsRow w.heap.size 83 3 (.slice a xs.length cp) xs.length (avs xs) ∧ Below w.heap.size w w' := by
  have hmf : ∀ (fn : Fn) (first cap : Array Value) (w : World), (Instr.makeFunc fn first cap).run Tryd.prog w = .ok (.func fn first cap) w := fun _ _ _ _ => rfl
  have gA : ∀ o, Below w.heap.size w (w.alloc o) := fun o => (Below.refl _ _).alloc (Nat.le_refl _) _
  have HFo : Hid (∀ W fb, Below w.heap.size w W → W.cell? ⟨fb, 0, none⟩ = some (.func (.func 70) #[] #[]) → Calls Tryd.prog 88 #[v, .slice none 0 0, .func (.func 89) #[] #[.pointer (some ⟨fb, 0, none⟩)]] W fun e w' => ∃ a cp, e = .returned (.slice a xs.length cp) ∧ w'.ownsRow W.heap.size 83 3 (.slice a xs.length cp) xs.length (avs xs) ∧ Below W.heap.size W w') := fun W fb g hf => fold_i fb lo v xs W (argsIs_move (Keeps.of_below g lo) (Nat.le_refl _) hv) hbig hf
  obtain ⟨len, HL⟩ : ∃ l, Hid (l = xs.length) := ⟨_, rfl⟩
  rw [← HL.out] at HFo ⊢
  clear hv hbig
  go_enter Tryd.func71, Tryd.ntmps71
  go_wp2_with fail
  refine (HFo.out _ w.heap.size (gA _) (by simp)).mono ?_
  rintro e w1 ⟨a, cp, rfl, o1, g1⟩
  have HF : Hid (w1.ownsRow w.heap.size 83 3 (.slice a len cp) len (avs xs) ∧ Below w.heap.size w w1) := ⟨own_base o1 (by simp), (gA _).trans (g1.mono (by simp))⟩
  clear o1 g1
  go_wp2
  go_ret
  exact ⟨a, cp, rfl, HF.out.1, HF.out.2⟩

set_option maxRecDepth 10000 in
set_option maxHeartbeats 4000000 in
theorem nelem_i (op : Int) (ua : Option Addr) (ul uc lo : Nat) (xs : List ArgT) (hul : ul = xs.length) (w : World) (hv : ArgsIs w lo (.slice ua ul uc) xs) (hbig : xs.length ≤ 1048576) :
    Calls Tryd.prog 60 #[.agg #[.int .i64 op, .slice ua ul uc]] w fun e w' => ∃ (a : Option Addr) (cp : Nat), e = .returned (.agg #[.int .i64 op, .slice a ul cp]) ∧ ArgsOwn w' w.heap.size (Value.slice a ul cp).ownBlock.toList (.slice a ul cp) xs ∧ Below w.heap.size w w' := by
  have HEa : Hid (∀ W, Below w.heap.size w W → Calls Tryd.prog 71 #[.slice ua ul uc, .func (.func 70) #[] #[]] W fun e w' => ∃ a cp, e = .returned (.slice a ul cp) ∧ w'.ownsRow W.heap.size 83 3 (.slice a ul cp) ul (avs xs) ∧ Below W.heap.size W w') := fun W g => by
    rw [hul] at hv ⊢
    exact each_i lo _ xs W (argsIs_move (Keeps.of_below g lo) (Nat.le_refl _) hv) hbig
  have HA : Hid (∀ W a cp, W.ownsRow w.heap.size 83 3 (.slice a ul cp) ul (avs xs) → ArgsOwn W w.heap.size (Value.slice a ul cp).ownBlock.toList (.slice a ul cp) xs) := fun W a cp h => args_of (by rw [← hul]; exact h)
  have b0 : Below w.heap.size w ((w.alloc (.cells #[.int .i64 op, .slice ua ul uc] 26)).alloc (.cells #[.int .i64 0, .slice none 0 0] 26)) := two_below' _ _
  obtain ⟨r1, r2⟩ := rows2 w (.cells #[.int .i64 op, .slice ua ul uc] 26) (.cells #[.int .i64 0, .slice none 0 0] 26)
  have hz : ((w.alloc (.cells #[.int .i64 op, .slice ua ul uc] 26)).alloc (.cells #[.int .i64 0, .slice none 0 0] 26)).heap.size = w.heap.size + 1 + 1 := by simp
  clear hv hbig hul
  go_enter Tryd.func60, Tryd.ntmps60
  go_wp2
  generalize ((w.alloc (.cells #[.int .i64 op, .slice ua ul uc] 26)).alloc (.cells #[.int .i64 0, .slice none 0 0] 26)) = W0 at b0 r1 r2 hz ⊢
  have c0 : W0.cell? ⟨w.heap.size, 0, none⟩ = some (.int .i64 op) := (cell_of_row _ _ _ _ _ _ r1).trans rfl
  have c1 : W0.cell? ⟨w.heap.size, 1, none⟩ = some (.slice ua ul uc) := (cell_of_row _ _ _ _ _ _ r1).trans rfl
  go_region_with (first | (go_at_call 71; refine (HEa.out _ (by first | exact b0 | exact b0.drew)).mono ?_; rintro e w9 ⟨a9, cp9, rfl, o9, g9⟩; obtain ⟨kr, d0, d1, f0, f1⟩ := two_free g9 r2; obtain ⟨_, e0, e1, _, _⟩ := two_free g9 r1))
  · have hz9 : w.heap.size + 1 < W0.drew.heap.size := by show w.heap.size + 1 < W0.heap.size; omega
    have HR : Hid (((w9.setCell ⟨w.heap.size + 1, 0, none⟩ (.int .i64 op)).setCell ⟨w.heap.size + 1, 1, none⟩ (.slice a9 ul cp9)).heap[w.heap.size + 1]? = some (.cells #[.int .i64 op, .slice a9 ul cp9] 26 (0, 0))) := row_put (row_put kr 0 _) 1 _
    have HF : Hid (ArgsOwn ((w9.setCell ⟨w.heap.size + 1, 0, none⟩ (.int .i64 op)).setCell ⟨w.heap.size + 1, 1, none⟩ (.slice a9 ul cp9)) w.heap.size (Value.slice a9 ul cp9).ownBlock.toList (.slice a9 ul cp9) xs ∧ Below w.heap.size w ((w9.setCell ⟨w.heap.size + 1, 0, none⟩ (.int .i64 op)).setCell ⟨w.heap.size + 1, 1, none⟩ (.slice a9 ul cp9))) := by
      refine ⟨HA.out _ _ _ (own_base (ownsRow_setCell_below (a := ⟨w.heap.size + 1, 1, none⟩) (ownsRow_setCell_below (a := ⟨w.heap.size + 1, 0, none⟩) o9 hz9 _) hz9 _) (by omega)), ?_⟩
      exact ((b0.drew.trans (g9.mono b0.drew.size)).setCell (p := ⟨w.heap.size + 1, 0, none⟩) (Nat.le_succ _) _).setCell (p := ⟨w.heap.size + 1, 1, none⟩) (Nat.le_succ _) _
    obtain ⟨WF, HWF⟩ : ∃ W, Hid (W = (w9.setCell ⟨w.heap.size + 1, 0, none⟩ (.int .i64 op)).setCell ⟨w.heap.size + 1, 1, none⟩ (.slice a9 ul cp9)) := ⟨_, rfl⟩
    rw [← HWF.out] at HR HF ⊢
    clear HWF kr d0 d1 f0 f1 e0 e1 o9 g9 c0 c1 r1 r2 b0
    go_wp2_with (first | (refine ret_row rfl rfl HR.out Tryd.underlying26 rfl (by kernel_rfl) rfl ?_) | fail)
    exact ⟨a9, cp9, rfl, HF.out.1, HF.out.2⟩
  · have hz9 : w.heap.size + 1 < W0.drew.heap.size := by show w.heap.size + 1 < W0.heap.size; omega
    have HR : Hid (((w9.setCell ⟨w.heap.size + 1, 0, none⟩ (.int .i64 op)).setCell ⟨w.heap.size + 1, 1, none⟩ (.slice a9 ul cp9)).heap[w.heap.size + 1]? = some (.cells #[.int .i64 op, .slice a9 ul cp9] 26 (0, 0))) := row_put (row_put kr 0 _) 1 _
    have HF : Hid (ArgsOwn ((w9.setCell ⟨w.heap.size + 1, 0, none⟩ (.int .i64 op)).setCell ⟨w.heap.size + 1, 1, none⟩ (.slice a9 ul cp9)) w.heap.size (Value.slice a9 ul cp9).ownBlock.toList (.slice a9 ul cp9) xs ∧ Below w.heap.size w ((w9.setCell ⟨w.heap.size + 1, 0, none⟩ (.int .i64 op)).setCell ⟨w.heap.size + 1, 1, none⟩ (.slice a9 ul cp9))) := by
      refine ⟨HA.out _ _ _ (own_base (ownsRow_setCell_below (a := ⟨w.heap.size + 1, 1, none⟩) (ownsRow_setCell_below (a := ⟨w.heap.size + 1, 0, none⟩) o9 hz9 _) hz9 _) (by omega)), ?_⟩
      exact ((b0.drew.trans (g9.mono b0.drew.size)).setCell (p := ⟨w.heap.size + 1, 0, none⟩) (Nat.le_succ _) _).setCell (p := ⟨w.heap.size + 1, 1, none⟩) (Nat.le_succ _) _
    obtain ⟨WF, HWF⟩ : ∃ W, Hid (W = (w9.setCell ⟨w.heap.size + 1, 0, none⟩ (.int .i64 op)).setCell ⟨w.heap.size + 1, 1, none⟩ (.slice a9 ul cp9)) := ⟨_, rfl⟩
    rw [← HWF.out] at HR HF ⊢
    clear HWF kr d0 d1 f0 f1 e0 e1 o9 g9 c0 c1 r1 r2 b0
    go_wp2_with (first | (refine ret_row rfl rfl HR.out Tryd.underlying26 rfl (by kernel_rfl) rfl ?_) | fail)
    exact ⟨a9, cp9, rfl, HF.out.1, HF.out.2⟩
  · have hz9 : w.heap.size + 1 < W0.drew.heap.size := by show w.heap.size + 1 < W0.heap.size; omega
    have HR : Hid (((w9.setCell ⟨w.heap.size + 1, 0, none⟩ (.int .i64 op)).setCell ⟨w.heap.size + 1, 1, none⟩ (.slice a9 ul cp9)).heap[w.heap.size + 1]? = some (.cells #[.int .i64 op, .slice a9 ul cp9] 26 (0, 0))) := row_put (row_put kr 0 _) 1 _
    have HF : Hid (ArgsOwn ((w9.setCell ⟨w.heap.size + 1, 0, none⟩ (.int .i64 op)).setCell ⟨w.heap.size + 1, 1, none⟩ (.slice a9 ul cp9)) w.heap.size (Value.slice a9 ul cp9).ownBlock.toList (.slice a9 ul cp9) xs ∧ Below w.heap.size w ((w9.setCell ⟨w.heap.size + 1, 0, none⟩ (.int .i64 op)).setCell ⟨w.heap.size + 1, 1, none⟩ (.slice a9 ul cp9))) := by
      refine ⟨HA.out _ _ _ (own_base (ownsRow_setCell_below (a := ⟨w.heap.size + 1, 1, none⟩) (ownsRow_setCell_below (a := ⟨w.heap.size + 1, 0, none⟩) o9 hz9 _) hz9 _) (by omega)), ?_⟩
      exact ((b0.drew.trans (g9.mono b0.drew.size)).setCell (p := ⟨w.heap.size + 1, 0, none⟩) (Nat.le_succ _) _).setCell (p := ⟨w.heap.size + 1, 1, none⟩) (Nat.le_succ _) _
    obtain ⟨WF, HWF⟩ : ∃ W, Hid (W = (w9.setCell ⟨w.heap.size + 1, 0, none⟩ (.int .i64 op)).setCell ⟨w.heap.size + 1, 1, none⟩ (.slice a9 ul cp9)) := ⟨_, rfl⟩
    rw [← HWF.out] at HR HF ⊢
    clear HWF kr d0 d1 f0 f1 e0 e1 o9 g9 c0 c1 r1 r2 b0
    go_wp2_with (first | (refine ret_row rfl rfl HR.out Tryd.underlying26 rfl (by kernel_rfl) rfl ?_) | fail)
    exact ⟨a9, cp9, rfl, HF.out.1, HF.out.2⟩
end Go.Proofs.YtkppcmpdghnmgaaDoor
/- Nets put together, as mathematics and in the memory; a stack of nets that is a list of pointers. -/
namespace Go.Proofs.YtkppcmpdghnmgaaDoor
open Go.RowKit
set_option linter.unusedVariables false

def e0T : ElemT := ⟨0, []⟩
def nkd : NetT → Int
  | .mk k _ _ => k
def nks : NetT → List NetT
  | .mk _ _ ks => ks
def z0T : NetT := .mk 0 e0T []
/-- The kids of a net of this kind; else the net. -/
def opn (kind : Int) (t : NetT) : List NetT := if nkd t = kind then nks t else [t]
def jnT (kind : Int) (a b : NetT) : NetT := .mk kind e0T (opn kind a ++ opn kind b)
def adT (kind : Int) (a b : NetT) : NetT := if nkd a = 0 then b else jnT kind a b
def ctT (e : ElemT) : NetT := .mk 1 e []
def ntT (a : NetT) : NetT := .mk 4 e0T [a]
/-- A net that is none is nothing; one of several kids has two at least. -/
def OkN (t : NetT) : Prop := (nkd t = 0 → t = z0T) ∧ ((nkd t = 2 ∨ nkd t = 3) → 2 ≤ (nks t).length)
theorem opn_pos {kind : Int} (hk : kind = 2 ∨ kind = 3) {t : NetT} (h : OkN t) : 1 ≤ (opn kind t).length := by
  unfold opn
  split
  · rename_i e
    have := h.2 (by rw [e]; exact hk)
    omega
  · simp
theorem okN_jn {kind : Int} (hk : kind = 2 ∨ kind = 3) {a b : NetT} (ha : OkN a) (hb : OkN b) : OkN (jnT kind a b) := by
  refine ⟨fun h => ?_, fun _ => ?_⟩
  · have h' : kind = 0 := h
    omega
  · have := opn_pos hk ha
    have := opn_pos hk hb
    show 2 ≤ (opn kind a ++ opn kind b).length
    rw [List.length_append]; omega
theorem okN_ad {kind : Int} (hk : kind = 2 ∨ kind = 3) {a b : NetT} (ha : OkN a) (hb : OkN b) : OkN (adT kind a b) := by
  unfold adT
  split
  · exact hb
  · exact okN_jn hk ha hb
theorem okN_ct (e : ElemT) : OkN (ctT e) := ⟨fun h => by have h' : (1 : Int) = 0 := h; omega, fun h => by have h' : (1 : Int) = 2 ∨ (1 : Int) = 3 := h; omega⟩
theorem okN_nt (a : NetT) : OkN (ntT a) := ⟨fun h => by have h' : (4 : Int) = 0 := h; omega, fun h => by have h' : (4 : Int) = 2 ∨ (4 : Int) = 3 := h; omega⟩
theorem okN_z0 : OkN z0T := ⟨fun _ => rfl, fun h => by rcases h with h | h <;> exact absurd h (by decide)⟩

theorem Each.app {α : Type} {R : List Nat → α → List Value → Prop} {z : Nat} {F : List Nat} {xs : List α} {cs : List Value} (h : Each R z F xs cs) {G : List Nat} {ys : List α} {ds : List Value} (h' : Each R z G ys ds) : Each R z (F ++ G) (xs ++ ys) (cs ++ ds) := by
  induction h' with
  | nil => simpa using h
  | add h1 hc hr ih =>
    have := Each.add ih hc hr
    simpa [List.append_assoc] using this
theorem Each.one {α : Type} {R : List Nat → α → List Value → Prop} {z : Nat} {f : List Nat} {x : α} {c : List Value} (hc : c.length = z) (hr : R f x c) : Each R z f [x] c := by
  have := Each.add (Each.nil (R := R) (z := z)) hc hr
  simpa using this
/-- Several elements more by one append. -/
theorem row_app {α : Type} {e z base : Nat} {R : World → List Nat → α → List Value → Prop} (Rm : ∀ W W' row f x c, W.grownBy W' row → (∀ b ∈ f, some b ≠ row) → R W f x c → R W' f x c)
    {w4 w5 : World} {v : Value} {xs ys : List α} {F F' G : List Nat} {cs ds : List Value} {g1 cap1 m : Nat}
    (hE : Each (R w4) z F' xs cs) (hF : F = v.ownBlock.toList ++ F') (hFl : ∀ b ∈ F, b < w4.heap.size) (hnd : F.Nodup) (hY : Each (R w4) z G ys ds) (hGl : ∀ b ∈ G, b < w4.heap.size) (hGn : G.Nodup) (hdis : ∀ b ∈ G, b ∉ F)
    (hm : m = xs.length + ys.length) (own5 : w5.ownsRow base e z (.slice (some ⟨g1, 0, none⟩) m cap1) m (cs ++ ds)) (g5 : w4.grownBy w5 v.ownBlock) (hat : v.ownBlock = some g1 ∨ w4.heap.size ≤ g1) :
    RowOwn w5 base e z (R w5) (g1 :: (F' ++ G)) (.slice (some ⟨g1, 0, none⟩) m cap1) (xs ++ ys) ∧ (g1 :: (F' ++ G)).Nodup ∧ ∀ b ∈ g1 :: (F' ++ G), b ∈ F ∨ b ∈ G ∨ w4.heap.size ≤ b := by
  have hvF : ∀ j, v.ownBlock = some j → j ∈ F := fun j hj => by rw [hF, hj]; simp
  have hnd0 := hnd
  rw [hF] at hnd0
  have hnd' := List.nodup_append.1 hnd0
  have hF' : ∀ b ∈ F', some b ≠ v.ownBlock := fun b hb e => hnd'.2.2 b (by rw [← e]; simp) b hb rfl
  have hFF : ∀ b ∈ F', b ∈ F := fun b hb => by rw [hF]; exact List.mem_append_right _ hb
  have hG' : ∀ b ∈ G, some b ≠ v.ownBlock := fun b hb e => hdis b hb (hvF b e.symm)
  refine ⟨⟨cs ++ ds, F' ++ G, ?_, ?_, rfl⟩, ?_, ?_⟩
  · exact (hE.move fun f1 x1 c1 h1 h2 => Rm _ _ _ _ _ _ g5 (fun b hb => hF' b (h1 hb)) h2).app (hY.move fun f1 x1 c1 h1 h2 => Rm _ _ _ _ _ _ g5 (fun b hb => hG' b (h1 hb)) h2)
  · rw [List.length_append, ← hm]; exact own5
  · rw [List.nodup_cons]
    refine ⟨fun hm => ?_, List.nodup_append.2 ⟨hnd'.2.1, hGn, fun a ha b hb e => hdis b hb (e ▸ hFF a ha)⟩⟩
    rcases List.mem_append.1 hm with hm | hm
    · rcases hat with h | h
      · exact hF' g1 hm h.symm
      · have := hFl g1 (hFF g1 hm); omega
    · rcases hat with h | h
      · exact hG' g1 hm h.symm
      · have := hGl g1 hm; omega
  · intro b hb
    rcases List.mem_cons.1 hb with rfl | hb
    · rcases hat with h | h
      · exact .inl (hvF _ h)
      · exact .inr (.inr h)
    · rcases List.mem_append.1 hb with hb | hb
      · exact .inl (hFF b hb)
      · exact .inr (.inl hb)
theorem netOwn_rm (base n : Nat) : ∀ (W W' : World) (row : Option Nat) (f : List Nat) (x : NetT) (c : List Value), W.grownBy W' row → (∀ b ∈ f, some b ≠ row) → NetOwn W base n f x c → NetOwn W' base n f x c := fun W W' row f x c g h hN => NetOwn.move g n n (Nat.le_refl _) f x c h hN
theorem NetOwn.later {W W' : World} {base n m : Nat} (hm : n ≤ m) {F : List Nat} {t : NetT} {c : List Value} (h : NetOwn W base n F t c) (g : Below W.heap.size W W') : NetOwn W' base m F t c := NetOwn.move (row := none) (gbb g) n m hm F t c (fun _ _ => by simp) h
theorem gb_row (w : World) (g : Nat) (D : Array Value) : w.grownBy (w.setRow g D) (some g) := ⟨rfl, rfl, rfl, by simp [World.setRow], fun k _ hne => setRow_other w g k D (fun e => hne (by rw [e]))⟩
/-- The cells of a net. -/
theorem NetOwn.cells {W : World} {base n : Nat} {F : List Nat} {t : NetT} {c : List Value} (h : NetOwn W base (n + 1) F t c) : ∃ (op : Int) (a1 : Option Addr) (l1 c1 : Nat) (a2 : Option Addr) (l2 c2 : Nat), c = [.int .i64 (nkd t), .int .i64 op, .slice a1 l1 c1, .slice a2 l2 c2] ∧ l1 ≤ 9223372036854775807 ∧ l2 = (nks t).length ∧ l2 ≤ 9223372036854775807 ∧ (nkd t = 0 → t = z0T → op = 0 ∧ l1 = 0) := by
  obtain ⟨k, e, kids⟩ := t
  obtain ⟨v, v', F1, F2, rfl, rfl, h1, h2⟩ := h
  obtain ⟨a1, c1, rfl, hl1, _⟩ := ArgsOwn.is h1 (Nat.zero_le _)
  obtain ⟨a2, c2, rfl, hl2, _⟩ := RowOwn.is (lo := 0) h2 (Nat.zero_le _) (R' := fun _ _ => True) (fun _ _ _ _ => trivial)
  refine ⟨e.op, a1, _, c1, a2, _, c2, rfl, hl1, rfl, hl2, fun _ h => ?_⟩
  have he : e = e0T := by
    have := congrArg (fun t => match t with | NetT.mk _ e _ => e) h
    exact this
  rw [he]
  exact ⟨rfl, rfl⟩

/-- A stack of nets, the one on top first. -/
def StkIs (W : World) (base n : Nat) : List Nat → Value → List NetT → Prop
  | F, v, [] => F = [] ∧ v = .pointer none
  | F, v, t :: ts => ∃ (b : Nat) (k op : Int) (a1 : Option Addr) (l1 c1 : Nat) (a2 : Option Addr) (l2 c2 : Nat) (u : Option Addr) (F1 F2 : List Nat), v = .pointer (some ⟨b, 0, none⟩) ∧ F = F1 ++ F2 ∧ W.heap[b]? = some (.cells #[.int .i64 k, .int .i64 op, .slice a1 l1 c1, .slice a2 l2 c2, .pointer u] 57 (0, 0)) ∧ NetOwn W base n F1 t [.int .i64 k, .int .i64 op, .slice a1 l1 c1, .slice a2 l2 c2] ∧ StkIs W base n F2 (.pointer u) ts
theorem StkIs.later {W W' : World} {base n m : Nat} (hm : n ≤ m) (g : Below W.heap.size W W') : ∀ (ts : List NetT) (F : List Nat) (v : Value), StkIs W base n F v ts → StkIs W' base m F v ts
  | [], F, v, h => h
  | t :: ts, F, v, h => by
    obtain ⟨b, k, op, a1, l1, c1, a2, l2, c2, u, F1, F2, e1, e2, h1, h2, h3⟩ := h
    exact ⟨b, k, op, a1, l1, c1, a2, l2, c2, u, F1, F2, e1, e2, (g.block _ (Array.getElem?_eq_some_iff.1 h1).1).trans h1, h2.later hm g, StkIs.later hm g ts F2 _ h3⟩
theorem StkIs.lt {W : World} {base n : Nat} : ∀ (ts : List NetT) (F : List Nat) (v : Value), StkIs W base n F v ts → ∀ b ∈ F, base ≤ b ∧ b < W.heap.size
  | [], F, v, h => by intro b hb; rw [h.1] at hb; simp at hb
  | t :: ts, F, v, h => by
    obtain ⟨b, k, op, a1, l1, c1, a2, l2, c2, u, F1, F2, e1, e2, h1, h2, h3⟩ := h
    intro x hx
    rw [e2] at hx
    rcases List.mem_append.1 hx with hx | hx
    · exact NetOwn.lt n F1 t _ h2 x hx
    · exact StkIs.lt ts F2 _ h3 x hx
/-- What is left of a stack by a step. -/
def StkR (w : World) (base n : Nat) (F : List Nat) (s : List NetT) (e : Ending) (w' : World) : Prop :=
  ∃ (F' : List Nat) (b : Nat), e = .returned (.pointer (some ⟨b, 0, none⟩)) ∧ StkIs w' base n F' (.pointer (some ⟨b, 0, none⟩)) s ∧ F'.Nodup ∧ (∀ x ∈ F', x ∈ F ∨ w.heap.size ≤ x) ∧ Below w.heap.size w w'

set_option maxRecDepth 10000 in
set_option maxHeartbeats 2000000 in
theorem push_i (base n : Nat) (k op : Int) (a1 : Option Addr) (l1 c1 : Nat) (a2 : Option Addr) (l2 c2 : Nat) (u : Option Addr) (t : NetT) (ts : List NetT) (f F : List Nat) (w : World) (hN : NetOwn w base n f t [.int .i64 k, .int .i64 op, .slice a1 l1 c1, .slice a2 l2 c2]) (hS : StkIs w base n F (.pointer u) ts) (hn : (f ++ F).Nodup) :
    Calls Tryd.prog 44 #[.pointer u, .agg #[.int .i64 k, .int .i64 op, .slice a1 l1 c1, .slice a2 l2 c2]] w fun e w' => StkR w base n (f ++ F) (t :: ts) e w' := by
  have b0 : Below w.heap.size w ((w.alloc (.cells #[.int .i64 k, .int .i64 op, .slice a1 l1 c1, .slice a2 l2 c2] 29)).alloc (.cells #[.int .i64 k, .int .i64 op, .slice a1 l1 c1, .slice a2 l2 c2, .pointer u] 57)) := two_below' _ _
  have HF : Hid (StkR w base n (f ++ F) (t :: ts) (.returned (.pointer (some ⟨w.heap.size + 1, 0, none⟩))) ((w.alloc (.cells #[.int .i64 k, .int .i64 op, .slice a1 l1 c1, .slice a2 l2 c2] 29)).alloc (.cells #[.int .i64 k, .int .i64 op, .slice a1 l1 c1, .slice a2 l2 c2, .pointer u] 57))) := by
    refine ⟨f ++ F, w.heap.size + 1, rfl, ⟨w.heap.size + 1, k, op, a1, l1, c1, a2, l2, c2, u, f, F, rfl, rfl, ?_, hN.later (Nat.le_refl _) b0, StkIs.later (Nat.le_refl _) b0 ts F _ hS⟩, hn, fun x hx => .inl hx, b0⟩
    have := heap_alloc_last (w.alloc (.cells #[.int .i64 k, .int .i64 op, .slice a1 l1 c1, .slice a2 l2 c2] 29)) (.cells #[.int .i64 k, .int .i64 op, .slice a1 l1 c1, .slice a2 l2 c2, .pointer u] 57)
    simpa using this
  clear hN hS hn b0
  go_enter Tryd.func44, Tryd.ntmps44
  go_wp2
  go_ret
  simpa using HF.out
end Go.Proofs.YtkppcmpdghnmgaaDoor
/- Nets put together by the program: normJoin. -/
namespace Go.Proofs.YtkppcmpdghnmgaaDoor
open Go.RowKit
set_option linter.unusedVariables false

theorem net_one {W : World} {base n : Nat} {f : List Nat} {t : NetT} {c : List Value} (h : NetOwn W base n f t c) : ∀ v ∈ c, v.oneCell' = true := by
  cases n with
  | zero => exact h.elim
  | succ n =>
    obtain ⟨op, a1, l1, c1, a2, l2, c2, rfl, _⟩ := h.cells
    intro v hv
    simp at hv
    rcases hv with rfl | rfl | rfl | rfl <;> rfl
theorem nets_one {W : World} {base n : Nat} {F : List Nat} {ts : List NetT} {cs : List Value} (h : Each (NetOwn W base n) 4 F ts cs) : ∀ v ∈ cs, v.oneCell' = true := by
  induction h with
  | nil => intro v hv; simp at hv
  | add h hc hr ih =>
    intro v hv
    rcases List.mem_append.1 hv with hv | hv
    · exact ih v hv
    · exact net_one hr v hv
/-- What appending to nets leaves. -/
def TakeR (w : World) (base n : Nat) (vo : Option Nat) (F f : List Nat) (ts : List NetT) (e : Ending) (w' : World) : Prop :=
  ∃ (g1 cap1 m : Nat) (F' : List Nat), e = .returned (.slice (some ⟨g1, 0, none⟩) m cap1) ∧ m = ts.length ∧ RowOwn w' base 29 4 (NetOwn w' base n) F' (.slice (some ⟨g1, 0, none⟩) m cap1) ts ∧ F'.Nodup ∧ (∀ b ∈ F', b ∈ F ∨ b ∈ f ∨ w.heap.size ≤ b) ∧ w.grownBy w' vo ∧ (vo = some g1 ∨ w.heap.size ≤ g1)
theorem RowOwn.ltN {W : World} {base n : Nat} {F : List Nat} {v : Value} {ts : List NetT} (h : RowOwn W base 29 4 (NetOwn W base n) F v ts) : ∀ b ∈ F, base ≤ b ∧ b < W.heap.size := RowOwn.lt h fun f x c hf => NetOwn.lt n f x c hf
theorem news4 (w : World) (a b c d : Value) (T : TypeId) : ∀ (q : Nat) (v : Value), ([a, b, c, d] : List Value)[q]? = some v → (w.alloc (.cells #[a, b, c, d] T)).cell? ((⟨w.heap.size, 0, none⟩ : Addr).add q) = some v := by
  intro q v hq
  match q with
  | 0 => simp at hq; subst hq; simp [Addr.add]
  | 1 => simp at hq; subst hq; simp [Addr.add]
  | 2 => simp at hq; subst hq; simp [Addr.add]
  | 3 => simp at hq; subst hq; simp [Addr.add]
  | (j + 4) => simp at hq

set_option maxRecDepth 10000 in
set_option maxHeartbeats 4000000 in
theorem jtake_i (base n fb : Nat) (kind : Int) (a : Option Addr) (m cp : Nat) (ts : List NetT) (F : List Nat) (k op : Int) (a1 : Option Addr) (l1 c1 : Nat) (a2 : Option Addr) (l2 c2 : Nat) (t : NetT) (f : List Nat) (w : World) (hk : kind = 2 ∨ kind = 3)
    (hf : w.cell? ⟨fb, 0, none⟩ = some (.int .i64 kind)) (hm : m = ts.length) (hR : RowOwn w base 29 4 (NetOwn w base n) F (.slice a m cp) ts) (hnd : F.Nodup) (hN : NetOwn w base n f t [.int .i64 k, .int .i64 op, .slice a1 l1 c1, .slice a2 l2 c2]) (hfn : f.Nodup) (hdis : ∀ b ∈ f, b ∉ F) (hok : OkN t)
    (hbig : ts.length + (opn kind t).length ≤ 1048576) (hb : base ≤ w.heap.size) :
    Calls Tryd.prog 73 #[.slice a m cp, .agg #[.int .i64 k, .int .i64 op, .slice a1 l1 c1, .slice a2 l2 c2], .pointer (some ⟨fb, 0, none⟩)] w fun e w' => TakeR w base n (Value.slice a m cp).ownBlock F f (ts ++ opn kind t) e w' := by
  have hinfo : (Tryd.prog.info? 29).map (fun i => (i.zero, i.size, i.bytes)) = some (some (.agg #[.int .i64 0, .int .i64 0, .slice none 0 0, .slice none 0 0]), 4, 64) := by kernel_rfl
  obtain ⟨ti, hi, hzz⟩ := Option.map_eq_some_iff.1 hinfo
  simp only [Prod.mk.injEq] at hzz
  obtain ⟨hz0, hz1, hz2⟩ := hzz
  have HI : Hid (Tryd.prog.info? 29 = some ti ∧ ti.zero = some (.agg #[.int .i64 0, .int .i64 0, .slice none 0 0, .slice none 0 0]) ∧ ti.size = 4 ∧ ti.bytes = 64) := ⟨hi, hz0, hz1, hz2⟩
  clear hi hz0 hz1 hz2 hinfo
  have hfb := World.block_lt_of_cell? _ _ hf
  simp only at hfb
  have hRl := hR.ltN
  have hNl := NetOwn.lt n f t _ hN
  obtain ⟨cs, F', hE, hO, hF⟩ := hR
  cases n with
  | zero => exact hN.elim
  | succ n =>
  have hkk : k = nkd t := by
    obtain ⟨_, _, _, _, _, _, _, e, _⟩ := hN.cells
    simp at e
    exact e.1
  obtain ⟨W0, HW0⟩ : ∃ W, W = w.alloc (.cells #[.int .i64 k, .int .i64 op, .slice a1 l1 c1, .slice a2 l2 c2] 29) := ⟨_, rfl⟩
  have g0 : w.grownBy W0 none := by rw [HW0]; exact World.grownBy_alloc w _ none
  have s0 : W0.heap.size = w.heap.size + 1 := by rw [HW0]; simp
  have hEm : Each (NetOwn W0 base (n + 1)) 4 F' ts cs := hE.move fun f1 x1 c1 _ h2 => netOwn_rm _ _ _ _ _ _ _ _ g0 (fun _ _ => by simp) h2
  have hNm : NetOwn W0 base (n + 1) f t [.int .i64 k, .int .i64 op, .slice a1 l1 c1, .slice a2 l2 c2] := netOwn_rm _ _ _ _ _ _ _ _ g0 (fun _ _ => by simp) hN
  have own0 : W0.ownsRow base 29 4 (.slice a m cp) m cs := by rw [HW0, hm]; rw [hm] at hO; exact World.ownsRow.alloc hO _
  by_cases hkd : nkd t = kind
  · have hop : opn kind t = nks t := by unfold opn; rw [if_pos hkd]
    have h2 := hok.2 (by rw [hkd]; exact hk)
    obtain ⟨k', e', kids⟩ := t
    have h2' : 2 ≤ kids.length := h2
    obtain ⟨v, v', F1, F2, ec, rfl, hA, hK⟩ := id hNm
    simp only [List.cons.injEq, and_true] at ec
    obtain ⟨-, -, rfl, rfl⟩ := ec
    obtain ⟨ds, G, hEd, hOd, rfl⟩ := hK
    rcases id hOd.2 with ⟨_, h0⟩ | ⟨g2, cap2, cur2, ev, hbg, hgg, hnc, hcm, hsz, hcur⟩
    · exact absurd h0 (by omega)
    simp only [Value.slice.injEq] at ev
    obtain ⟨rfl, rfl, rfl⟩ := ev
    have hcells : ∀ j u, ds[j]? = some u → W0.cell? ((⟨g2, 0, none⟩ : Addr).add j) = some u := fun j u hu => hOd.cells (g := g2) rfl j u hu
    have hEd' : Each (NetOwn W0 base (n + 1)) 4 G kids ds := hEd.move fun f1 x1 c1 _ h2 => NetOwn.move (World.grownBy.refl W0 none) n (n + 1) (Nat.le_succ _) _ _ _ (fun _ _ => by simp) h2
    have i1 : (k == kind) = true := by rw [hkk]; simpa [nkd] using hkd
    have hdl : ds.length = kids.length * 4 := hEd.len
    have HOne : Hid (∀ u ∈ ds, u.oneCell' = true) := nets_one hEd
    have c0 : W0.cell? ⟨w.heap.size, 0, none⟩ = some (.int .i64 k) := by rw [HW0]; simp
    have c3 : W0.cell? ⟨w.heap.size, 3, none⟩ = some (.slice (some ⟨g2, 0, none⟩) kids.length c2) := by rw [HW0]; simp
    have cf : W0.cell? ⟨fb, 0, none⟩ = some (.int .i64 kind) := (g0.cell_far ⟨fb, 0, none⟩ hfb (by simp)).trans hf
    have hFin : Hid (∀ (g1 cap1 : Nat) (w5 : World), w5.ownsRow base 29 4 (.slice (some ⟨g1, 0, none⟩) (m + kids.length) cap1) (m + kids.length) (cs ++ ds) → W0.grownBy w5 (Value.slice a m cp).ownBlock → ((Value.slice a m cp).ownBlock = some g1 ∨ g1 = W0.heap.size) → TakeR w base (n + 1) (Value.slice a m cp).ownBlock F (F1 ++ ((Value.slice (some ⟨g2, 0, none⟩) kids.length c2).ownBlock.toList ++ G)) (ts ++ opn kind (.mk k' e' kids)) (.returned (.slice (some ⟨g1, 0, none⟩) (m + kids.length) cap1)) w5) := by
      intro g1 cap1 w5 o5 g5 hat
      have hGf : ∀ b ∈ G, b ∈ F1 ++ ((Value.slice (some ⟨g2, 0, none⟩) kids.length c2).ownBlock.toList ++ G) := fun b hb => List.mem_append_right _ (List.mem_append_right _ hb)
      obtain ⟨r1, r2, r3⟩ := row_app (R := fun W => NetOwn W base (n + 1)) (netOwn_rm base (n + 1)) hEm hF (fun b hb => by have := hRl b hb; omega) hnd hEd' (fun b hb => by have := hNl b (hGf b hb); omega) ((List.nodup_append.1 (List.nodup_append.1 hfn).2.1).2.1) (fun b hb => hdis b (hGf b hb)) (by rw [hm]) o5 g5 (by rcases hat with h | h; exact .inl h; exact .inr (by omega))
      refine ⟨g1, cap1, m + kids.length, _, rfl, by rw [hop, hm]; simp [nks], by rw [hop]; exact r1, r2, fun b hb => ?_, ?_, by rcases hat with h | h; exact .inl h; exact .inr (by omega)⟩
      · rcases r3 b hb with h | h | h
        · exact .inl h
        · exact .inr (.inl (hGf b h))
        · exact .inr (.inr (by omega))
      · exact (World.grownBy.trans (by rw [HW0]; exact World.grownBy_alloc w _ _) g5)
    have hml : m + kids.length ≤ 1048576 := by rw [hop] at hbig; rw [hm]; exact hbig
    have h4 : 0 < kids.length := by omega
    obtain ⟨kl, Hkl⟩ : ∃ kl, Hid (kl = kids.length) := ⟨_, rfl⟩
    subst HW0
    rw [← Hkl.out] at hFin c0 c3 hml h4 hdl own0 hcells ⊢
    clear hkk hm hRl hNl hE hO hF hEm hNm hEd hEd' hOd hA hbig hop hnd hdis hfn h2 h2' hkd hok hN hgg hcur cf
    clear g0 s0
    go_enter Tryd.func73, Tryd.ntmps73
    go_wp2_with (at_builtin; refine wpList_append_lies _ rfl _ _ 27 rfl base 29 ti (.agg #[.int .i64 0, .int .i64 0, .slice none 0 0, .slice none 0 0]) 4 64 Tryd.underlying27 HI.out.1 HI.out.2.1 HI.out.2.2.1 HI.out.2.2.2 rfl (by decide) _ m cs rfl own0 ⟨g2, 0, none⟩ kl c2 ds rfl hdl hcells HOne.out h4 ?c3 ?c4 ?c5 _ rfl ?_)
    case c3 => unfold maxLen; omega
    case c4 => omega
    case c5 => simp; omega
    intro g1 cap1 w5 own4 g4 hat hlt4
    have HF := hFin.out g1 cap1 w5 own4 g4 (by simpa using hat)
    have HF' : Hid (TakeR w base (n + 1) (Value.slice a m cp).ownBlock F _ _ (.returned (.slice (some ⟨g1, 0, none⟩) (m + kl) cap1)) w5) := HF
    clear own4 g4 hat hlt4 hcells c0 c3 HF hFin own0
    go_wp2
    go_ret
    exact HF'.out
  · have hop : opn kind t = [t] := by unfold opn; rw [if_neg hkd]
    have i1 : (k == kind) = false := by rw [hkk]; simpa using hkd
    have cf : W0.cell? ⟨fb, 0, none⟩ = some (.int .i64 kind) := (g0.cell_far ⟨fb, 0, none⟩ hfb (by simp)).trans hf
    obtain ⟨W1, HW1⟩ : ∃ W, W = W0.alloc (.cells #[.int .i64 k, .int .i64 op, .slice a1 l1 c1, .slice a2 l2 c2] 29) := ⟨_, rfl⟩
    have s1 : W1.heap.size = w.heap.size + 2 := by rw [HW1]; simp [s0]
    have g1' : W0.grownBy W1 none := by rw [HW1]; exact World.grownBy_alloc W0 _ none
    have own1 : W1.ownsRow base 29 4 (.slice a m cp) m cs := by rw [HW1]; exact World.ownsRow.alloc own0 _
    have hEm1 : Each (NetOwn W1 base (n + 1)) 4 F' ts cs := hEm.move fun f1 x1 c1 _ h2 => netOwn_rm _ _ _ _ _ _ _ _ g1' (fun _ _ => by simp) h2
    have hNm1 : NetOwn W1 base (n + 1) f t [.int .i64 k, .int .i64 op, .slice a1 l1 c1, .slice a2 l2 c2] := netOwn_rm _ _ _ _ _ _ _ _ g1' (fun _ _ => by simp) hNm
    have hcells : ∀ (j : Nat) (u : Value), ([.int .i64 k, .int .i64 op, .slice a1 l1 c1, .slice a2 l2 c2] : List Value)[j]? = some u → W1.cell? ((⟨w.heap.size + 1, 0, none⟩ : Addr).add j) = some u := by rw [HW1, ← s0]; exact news4 W0 _ _ _ _ _
    have hFin : Hid (∀ (g1 cap1 : Nat) (w5 : World), w5.ownsRow base 29 4 (.slice (some ⟨g1, 0, none⟩) (m + 1) cap1) (m + 1) (cs ++ [.int .i64 k, .int .i64 op, .slice a1 l1 c1, .slice a2 l2 c2]) → W1.grownBy w5 (Value.slice a m cp).ownBlock → ((Value.slice a m cp).ownBlock = some g1 ∨ g1 = W1.heap.size) → TakeR w base (n + 1) (Value.slice a m cp).ownBlock F f (ts ++ opn kind t) (.returned (.slice (some ⟨g1, 0, none⟩) (m + 1) cap1)) w5) := by
      intro g1 cap1 w5 o5 g5 hat
      obtain ⟨r1, r2, r3⟩ := row_app (R := fun W => NetOwn W base (n + 1)) (netOwn_rm base (n + 1)) hEm1 hF (fun b hb => by have := hRl b hb; omega) hnd (Each.one rfl hNm1) (fun b hb => by have := hNl b hb; omega) hfn hdis (by rw [hm]; rfl) o5 g5 (by rcases hat with h | h; exact .inl h; exact .inr (by omega))
      refine ⟨g1, cap1, m + 1, _, rfl, by rw [hop, hm]; simp, by rw [hop]; exact r1, r2, fun b hb => ?_, ?_, by rcases hat with h | h; exact .inl h; exact .inr (by omega)⟩
      · rcases r3 b hb with h | h | h
        · exact .inl h
        · exact .inr (.inl h)
        · exact .inr (.inr (by omega))
      · have q0 : w.grownBy W0 (Value.slice a m cp).ownBlock := by rw [HW0]; exact World.grownBy_alloc w _ _
        have q1 : W0.grownBy W1 (Value.slice a m cp).ownBlock := by rw [HW1]; exact World.grownBy_alloc W0 _ _
        exact (q0.trans q1).trans g5
    have hml : m + 1 ≤ 1048576 := by rw [hop] at hbig; rw [hm]; simpa using hbig
    have k0 : W0.heap[w.heap.size]? = some (.cells #[.int .i64 k, .int .i64 op, .slice a1 l1 c1, .slice a2 l2 c2] 29 (0, 0)) := by rw [HW0]; exact heap_alloc_last w _
    have c0 : W0.cell? ⟨w.heap.size, 0, none⟩ = some (.int .i64 k) := (cell_of_row _ _ _ _ _ _ k0).trans rfl
    have HLd : Hid ((loadVar 29 ⟨w.heap.size, 0, none⟩).run Tryd.prog W0 = .ok (.agg #[.int .i64 k, .int .i64 op, .slice a1 l1 c1, .slice a2 l2 c2]) W0) := load_all k0 _ _ Tryd.underlying29 rfl (by kernel_rfl)
    clear hkk hm hRl hNl hE hO hF hEm hNm hEm1 hNm1 hbig hop hnd hdis hfn hkd hok hN cf k0
    subst HW1
    subst HW0
    go_enter Tryd.func73, Tryd.ntmps73
    go_wp2_with (first | (refine wpL_load rfl 29 _ rfl _ _ rfl _ HLd.out ?_) | (at_builtin; refine wpList_append_lies _ rfl _ _ 27 rfl base 29 ti (.agg #[.int .i64 0, .int .i64 0, .slice none 0 0, .slice none 0 0]) 4 64 Tryd.underlying27 HI.out.1 HI.out.2.1 HI.out.2.2.1 HI.out.2.2.2 rfl (by decide) _ m cs rfl own1 ⟨w.heap.size + 1, 0, none⟩ 1 1 [.int .i64 k, .int .i64 op, .slice a1 l1 c1, .slice a2 l2 c2] rfl rfl hcells ?c2 (by omega) ?c3 ?c4 ?c5 _ rfl ?_))
    case c2 => intro v hu; simp at hu; rcases hu with rfl | rfl | rfl | rfl <;> rfl
    case c3 => unfold maxLen; omega
    case c4 => omega
    case c5 => simp; omega
    intro g1 cap1 w5 own4 g4 hat hlt4
    have HF' := hFin.out g1 cap1 w5 own4 g4 (by simpa using hat)
    have HF'' : Hid (TakeR w base (n + 1) (Value.slice a m cp).ownBlock F f (ts ++ opn kind t) (.returned (.slice (some ⟨g1, 0, none⟩) (m + 1) cap1)) w5) := HF'
    clear own4 g4 hat hlt4 hcells c0 HF' hFin own0 own1 HLd
    go_wp2
    go_ret
    exact HF''.out
end Go.Proofs.YtkppcmpdghnmgaaDoor
