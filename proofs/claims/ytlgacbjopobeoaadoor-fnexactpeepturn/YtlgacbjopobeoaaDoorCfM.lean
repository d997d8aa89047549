/- Lists of lists of instructions that are owned; the rungs of a list as mathematics. -/
import Derived.Test.YtlgacbjopobeoaaDoorGbM
import Derived.Test.YtlgacbjopobeoaaDoorBa
import Derived.Deep.AppendLies
namespace Go.Proofs.YtlgacbjopobeoaaDoor
open Go.RowKit
set_option linter.unusedVariables false

theorem gbb {W W' : World} {row : Option Nat} (g : Below W.heap.size W W') : W.grownBy W' row := ⟨g.os, g.tape, g.output, g.size, fun k hk _ => g.block k hk⟩
theorem ownl {W W' : World} {base : Nat} {e : TypeId} {size : Nat} {v : Value} {n : Nat} {xs : List Value} (h : W.ownsRow base e size v n xs) (g : Below W.heap.size W W') : W'.ownsRow base e size v n xs := World.ownsRow.kept (row := none) h (gbb g) (by cases v.ownBlock <;> simp)
/-- The cells of operands. -/
def avs (xs : List ArgT) : List Value := xs.flatMap fun x => [.int .i64 x.1, .int .i64 x.2.1, .int .i64 x.2.2]
theorem avs_len (xs : List ArgT) : (avs xs).length = xs.length * 3 := by
  unfold avs
  induction xs with
  | nil => rfl
  | cons x xs ih => simp [ih]; omega
theorem avs_one (xs : List ArgT) : ∀ v ∈ avs xs, v.oneCell' = true := by
  intro v hv
  unfold avs at hv
  simp only [List.mem_flatMap] at hv
  obtain ⟨x, _, hx⟩ := hv
  simp at hx
  rcases hx with rfl | rfl | rfl <;> rfl
theorem avs_snoc (xs : List ArgT) (x : ArgT) : avs (xs ++ [x]) = avs xs ++ [.int .i64 x.1, .int .i64 x.2.1, .int .i64 x.2.2] := by simp [avs]
theorem each_avs : ∀ (n : Nat) (xs : List ArgT), xs.length = n → Each ArgO 3 [] xs (avs xs)
  | 0, xs, h => by
    obtain rfl := List.length_eq_zero_iff.1 h
    exact .nil
  | n + 1, xs, h => by
    rcases List.eq_nil_or_concat xs with rfl | ⟨l, a, rfl⟩
    · simp at h
    · have h1 := each_avs n l (by simpa using h)
      have h2 : Each ArgO 3 ([] ++ []) (l ++ [a]) (avs l ++ [.int .i64 a.1, .int .i64 a.2.1, .int .i64 a.2.2]) := .add h1 rfl ⟨rfl, rfl⟩
      rw [List.concat_eq_append, avs_snoc]
      exact h2
theorem args_of {W : World} {base : Nat} {v : Value} {xs : List ArgT} (h : W.ownsRow base 39 3 v xs.length (avs xs)) : ArgsOwn W base v.ownBlock.toList v xs := ⟨avs xs, [], each_avs _ xs rfl, h, by simp⟩
theorem args_base {W : World} {base base' : Nat} {F : List Nat} {v : Value} {xs : List ArgT} (h : ArgsOwn W base F v xs) (hb : base' ≤ base) : ArgsOwn W base' F v xs := by
  obtain ⟨cs, F', h1, h2, h3⟩ := h
  refine ⟨cs, F', h1, ⟨h2.1, ?_⟩, h3⟩
  rcases h2.2 with h | ⟨g, cap, cur, e1, e2, e3⟩
  · exact .inl h
  · exact .inr ⟨g, cap, cur, e1, by omega, e3⟩
def InstOwn (W : World) (base : Nat) (F : List Nat) (i : InstT) (c : List Value) : Prop := ∃ v, c = [.int .i64 i.code, .int .i64 i.one.op, v] ∧ ArgsOwn W base F v i.one.args
theorem InstOwn.move {W W' : World} {base : Nat} {F : List Nat} {i : InstT} {c : List Value} {row : Option Nat} (h : InstOwn W base F i c) (hg : W.grownBy W' row) (hr : ∀ b ∈ F, some b ≠ row) : InstOwn W' base F i c := by
  obtain ⟨v, hc, h1⟩ := h
  exact ⟨v, hc, ArgsOwn.move h1 hg hr⟩
theorem InstOwn.lt {W : World} {base : Nat} {F : List Nat} {i : InstT} {c : List Value} (h : InstOwn W base F i c) : ∀ b ∈ F, base ≤ b ∧ b < W.heap.size := by
  obtain ⟨v, _, h1⟩ := h
  exact ArgsOwn.lt h1
theorem InstOwn.is {W : World} {base lo : Nat} {F : List Nat} {i : InstT} {c : List Value} (h : InstOwn W base F i c) (hl : lo ≤ base) : InstIs W lo i c := by
  obtain ⟨v, hc, h1⟩ := h
  exact ⟨v, hc, ArgsOwn.is h1 hl⟩
def RungIs (W : World) (lo : Nat) (r : List InstT) (c : List Value) : Prop := ∃ v, c = [v] ∧ InstsIs W lo v r
abbrev SSIs (W : World) (lo : Nat) (v : Value) (rs : List (List InstT)) : Prop := RowIs W lo 1 (RungIs W lo) v rs
/-- One more element, by an append. -/
theorem row_step {α : Type} {e z base : Nat} {R : World → List Nat → α → List Value → Prop} (Rm : ∀ W W' row f x c, W.grownBy W' row → (∀ b ∈ f, some b ≠ row) → R W f x c → R W' f x c)
    {w w4 w5 : World} {v : Value} {xs : List α} {F F' f : List Nat} {cs c : List Value} {x : α} {g1 cap1 : Nat} (hbw : w.heap.size ≤ base)
    (hE : Each (R w4) z F' xs cs) (hF : F = v.ownBlock.toList ++ F') (hFl : ∀ b ∈ F, base ≤ b ∧ b < w4.heap.size) (hnd : F.Nodup) (hN : R w4 f x c) (hc : c.length = z) (hfl : ∀ b ∈ f, base ≤ b ∧ b < w4.heap.size) (hfn : f.Nodup) (hdis : ∀ b ∈ f, b ∉ F)
    (own5 : w5.ownsRow base e z (.slice (some ⟨g1, 0, none⟩) (xs.length + 1) cap1) (xs.length + 1) (cs ++ c)) (g5 : w4.grownBy w5 v.ownBlock) (hat : v.ownBlock = some g1 ∨ g1 = w4.heap.size) (hB : Below w.heap.size w w4) :
    RowOwn w5 base e z (R w5) (g1 :: (F' ++ f)) (.slice (some ⟨g1, 0, none⟩) (xs.length + 1) cap1) (xs ++ [x]) ∧ (g1 :: (F' ++ f)).Nodup ∧ Below w.heap.size w w5 := by
  have hob : ∀ j, v.ownBlock = some j → base ≤ j ∧ j < w4.heap.size := fun j hj => hFl j (by rw [hF, hj]; simp)
  have hvF : ∀ j, v.ownBlock = some j → j ∈ F := fun j hj => by rw [hF, hj]; simp
  rw [hF] at hnd
  have hnd' := List.nodup_append.1 hnd
  have hF' : ∀ b ∈ F', some b ≠ v.ownBlock := fun b hb e => hnd'.2.2 b (by rw [← e]; simp) b hb rfl
  have hFF : ∀ b ∈ F', b ∈ F := fun b hb => by rw [hF]; exact List.mem_append_right _ hb
  have hf' : ∀ b ∈ f, some b ≠ v.ownBlock := fun b hb e => hdis b hb (hvF b e.symm)
  refine ⟨RowOwn.push (hE.move fun f1 x1 c1 h1 h2 => Rm _ _ _ _ _ _ g5 (fun b hb => hF' b (h1 hb)) h2) hc (Rm _ _ _ _ _ _ g5 hf' hN) own5, ?_, ?_⟩
  · rw [List.nodup_cons]
    refine ⟨fun hm => ?_, List.nodup_append.2 ⟨hnd'.2.1, hfn, fun a ha b hb e => hdis b hb (e ▸ hFF a ha)⟩⟩
    rcases List.mem_append.1 hm with hm | hm
    · rcases hat with h | h
      · exact hF' g1 hm h.symm
      · have := hFl g1 (hFF g1 hm); omega
    · rcases hat with h | h
      · exact hf' g1 hm h.symm
      · have := hfl g1 hm; omega
  · exact hB.grown g5 (by have := hB.size; omega) (fun j hj => by have := hob j hj; omega)

/-- The rungs of what is left of a list, behind what the rung has so far and the rungs so far. -/
def rg : List InstT → List InstT → List (List InstT) → List (List InstT)
  | [], cur, out => out
  | i :: is, cur, out => if i.code = 11 then rg is [] (out ++ [cur ++ [i]]) else rg is (cur ++ [i]) out
noncomputable def rungsT (xs : List InstT) : List (List InstT) := if checkT xs = (0, 0) then rg xs [] [] else []
theorem rg_end {xs : List InstT} {n : Nat} {x : InstT} {cur : List InstT} {out : List (List InstT)} (h : xs[n]? = some x) (hc : x.code = 11) : rg (xs.drop n) cur out = rg (xs.drop (n + 1)) [] (out ++ [cur ++ [x]]) := by
  obtain ⟨hn, rfl⟩ := List.getElem?_eq_some_iff.1 h
  rw [List.drop_eq_getElem_cons hn, rg, if_pos hc]
theorem rg_go {xs : List InstT} {n : Nat} {x : InstT} {cur : List InstT} {out : List (List InstT)} (h : xs[n]? = some x) (hc : x.code ≠ 11) : rg (xs.drop n) cur out = rg (xs.drop (n + 1)) (cur ++ [x]) out := by
  obtain ⟨hn, rfl⟩ := List.getElem?_eq_some_iff.1 h
  rw [List.drop_eq_getElem_cons hn, rg, if_neg hc]
theorem rg_nil {xs : List InstT} {n : Nat} {cur : List InstT} {out : List (List InstT)} (h : xs.length ≤ n) : rg (xs.drop n) cur out = out := by
  rw [List.drop_eq_nil_of_le h, rg]
/-- A list that is verified is not too long. -/
theorem check_len {xs : List InstT} (h : checkT xs = (0, 0)) : xs.length ≤ 1000 := by
  unfold checkT at h
  split at h
  · simp at h
  · omega
end Go.Proofs.YtlgacbjopobeoaaDoor
/- An element in new memory: the program's normElem. -/
namespace Go.Proofs.YtlgacbjopobeoaaDoor
open Go.RowKit
set_option linter.unusedVariables false

theorem own_base {w : World} {base base' size n : Nat} {e : TypeId} {v : Value} {xs : List Value} (h : w.ownsRow base e size v n xs) (hb : base' ≤ base) : w.ownsRow base' e size v n xs := by
  refine ⟨h.1, ?_⟩
  rcases h.2 with h | ⟨g, cap, cur, e1, e2, e3⟩
  · exact .inl h
  · exact .inr ⟨g, cap, cur, e1, by omega, e3⟩
theorem two_below' {w : World} (o1 o2 : Obj) : Below w.heap.size w ((w.alloc o1).alloc o2) := ((Below.refl _ _).alloc (Nat.le_refl _) _).alloc (by simp) _
theorem two_free {X : World} {B : Nat} {T : TypeId} {a b : Value} {w3 : World} {W : World} (g3 : Below W.heap.size W w3) (kA : X.heap[B]? = some (.cells #[a, b] T (0, 0))) (hX : W.heap = X.heap := by rfl) :
    w3.heap[B]? = some (.cells #[a, b] T (0, 0)) ∧ w3.cell? ⟨B, 0, none⟩ = some a ∧ w3.cell? ⟨B, 1, none⟩ = some b ∧ w3.frozen? ⟨B, 0, none⟩ = false ∧ w3.frozen? ⟨B, 1, none⟩ = false := by
  have k3 : w3.heap[B]? = some (.cells #[a, b] T (0, 0)) := by
    have h0 : W.heap[B]? = some (.cells #[a, b] T (0, 0)) := by rw [hX]; exact kA
    exact (g3.block _ (Array.getElem?_eq_some_iff.1 h0).1).trans h0
  exact ⟨k3, (cell_of_row _ _ _ _ _ _ k3).trans rfl, (cell_of_row _ _ _ _ _ _ k3).trans rfl, by simp [World.frozen?, k3], by simp [World.frozen?, k3]⟩
set_option maxHeartbeats 1000000 in
theorem same_i (k n p : Int) (w : World) : Calls Tryd.prog 29 #[.agg #[.int .i64 k, .int .i64 n, .int .i64 p]] w fun e w' => e = .returned (.agg #[.int .i64 k, .int .i64 n, .int .i64 p]) ∧ Below w.heap.size w w' := by
  go_enter Tryd.func29, Tryd.ntmps29
  go_wp2
  exact bodyPost_ret (v := .agg #[.int .i64 k, .int .i64 n, .int .i64 p]) (by simp [results, Tryd.results29, go_sem]) rfl ⟨rfl, ((Below.refl _ _).alloc (Nat.le_refl _) _).alloc (by simp) _⟩

set_option maxRecDepth 10000 in
set_option maxHeartbeats 2000000 in
theorem take_i (base fb : Nat) (a : Option Addr) (m cp : Nat) (xs : List ArgT) (k n p : Int) (hm : m = xs.length) (hm1 : m ≤ 1048576) (w : World) (hf : w.cell? ⟨fb, 0, none⟩ = some (.func (.func 29) #[] #[])) (hb : base ≤ w.heap.size) (hO : w.ownsRow base 39 3 (.slice a m cp) m (avs xs)) :
    Calls Tryd.prog 38 #[.slice a m cp, .agg #[.int .i64 k, .int .i64 n, .int .i64 p], .pointer (some ⟨fb, 0, none⟩)] w fun e w' => ∃ g1 cap1, e = .returned (.slice (some ⟨g1, 0, none⟩) (m + 1) cap1) ∧ w'.ownsRow base 39 3 (.slice (some ⟨g1, 0, none⟩) (m + 1) cap1) (m + 1) (avs (xs ++ [(k, n, p)])) ∧ w.grownBy w' (Value.slice a m cp).ownBlock := by
  have hinfo : (Tryd.prog.info? 39).map (fun i => (i.zero, i.size, i.bytes)) = some (some (.agg #[.int .i64 0, .int .i64 0, .int .i64 0]), 3, 24) := by kernel_rfl
  obtain ⟨ti, hi, hzz⟩ := Option.map_eq_some_iff.1 hinfo
  simp only [Prod.mk.injEq] at hzz
  obtain ⟨hz0, hz1, hz2⟩ := hzz
  have HI : Hid (Tryd.prog.info? 39 = some ti ∧ ti.zero = some (.agg #[.int .i64 0, .int .i64 0, .int .i64 0]) ∧ ti.size = 3 ∧ ti.bytes = 24) := ⟨hi, hz0, hz1, hz2⟩
  clear hi hz0 hz1 hz2 hinfo
  have hfb := World.block_lt_of_cell? _ _ hf
  simp only at hfb
  have HO : Hid (w.ownsRow base 39 3 (.slice a m cp) m (avs xs)) := hO
  have HAv : Hid (avs (xs ++ [(k, n, p)]) = avs xs ++ [.int .i64 k, .int .i64 n, .int .i64 p]) := avs_snoc xs (k, n, p)
  clear hO hm
  go_enter Tryd.func38, Tryd.ntmps38
  go_wp2_with fail
  refine (same_i k n p _).mono ?_
  rintro e w1 ⟨rfl, g1⟩
  have G1 : Below w.heap.size w w1 := ((Below.refl _ _).alloc (Nat.le_refl _) _).trans (g1.mono (by simp))
  have own3 : (w1.alloc (.cells #[.int .i64 k, .int .i64 n, .int .i64 p] 39)).ownsRow base 39 3 (.slice a m cp) m (avs xs) := World.ownsRow.alloc (ownl HO.out G1) _
  have news3 : ∀ (q : Nat) (v : Value), ([.int .i64 k, .int .i64 n, .int .i64 p] : List Value)[q]? = some v → (w1.alloc (.cells #[.int .i64 k, .int .i64 n, .int .i64 p] 39)).cell? ((⟨w1.heap.size, 0, none⟩ : Addr).add q) = some v := by
    intro q v hq
    match q with
    | 0 => simp at hq; subst hq; simp [Addr.add]
    | 1 => simp at hq; subst hq; simp [Addr.add]
    | 2 => simp at hq; subst hq; simp [Addr.add]
    | (j + 3) => simp at hq
  have hsz : w.heap.size ≤ w1.heap.size := G1.size
  have HG1 : Hid (Below w.heap.size w w1) := G1
  clear g1 G1
  go_wp2_with (at_builtin; refine wpList_append_lies _ rfl _ _ 26 rfl base 39 ti (.agg #[.int .i64 0, .int .i64 0, .int .i64 0]) 3 24 Tryd.underlying26 HI.out.1 HI.out.2.1 HI.out.2.2.1 HI.out.2.2.2 rfl (by decide) _ m (avs xs) rfl own3 ⟨w1.heap.size, 0, none⟩ 1 1 [.int .i64 k, .int .i64 n, .int .i64 p] rfl rfl news3 ?c2 (by omega) ?c3 ?c4 ?c5 _ rfl ?_)
  case c2 => intro v hu; simp at hu; rcases hu with rfl | rfl | rfl <;> rfl
  case c3 => unfold maxLen; omega
  case c4 => omega
  case c5 => simp; omega
  intro g1 cap1 w5 own4 g4 hat hlt4
  have HF : Hid (w5.ownsRow base 39 3 (.slice (some ⟨g1, 0, none⟩) (m + 1) cap1) (m + 1) (avs (xs ++ [(k, n, p)])) ∧ w.grownBy w5 (Value.slice a m cp).ownBlock) := ⟨by rw [HAv.out]; exact own4, ((gbb HG1.out).trans (World.grownBy_alloc _ _ _)).trans g4⟩
  clear own3 news3 own4 g4 hat hlt4
  go_wp2
  go_ret
  exact ⟨g1, cap1, rfl, HF.out.1, HF.out.2⟩

set_option maxRecDepth 10000 in
set_option maxHeartbeats 4000000 in
theorem fold_i (fb lo : Nat) (v : Value) (xs : List ArgT) (w : World) (hv : ArgsIs w lo v xs) (hbig : xs.length ≤ 1048576) (hf : w.cell? ⟨fb, 0, none⟩ = some (.func (.func 29) #[] #[])) :
    Calls Tryd.prog 37 #[v, .slice none 0 0, .func (.func 38) #[] #[.pointer (some ⟨fb, 0, none⟩)]] w fun e w' => ∃ a cp, e = .returned (.slice a xs.length cp) ∧ w'.ownsRow w.heap.size 39 3 (.slice a xs.length cp) xs.length (avs xs) ∧ Below w.heap.size w w' := by
  obtain ⟨a, cap, rfl, hl, hx⟩ := hv
  have HX : Hid (∀ j x, xs[j]? = some x → ∃ b o cs, a = some ⟨b, o, none⟩ ∧ lo ≤ b ∧ cs.length = 3 ∧ w.rangeAt b (o + j * 3) cs ∧ ArgIs x cs) := hx
  have HFn : Hid (w.cell? ⟨fb, 0, none⟩ = some (.func (.func 29) #[] #[]) ∧ fb < w.heap.size) := ⟨hf, World.block_lt_of_cell? _ _ hf⟩
  obtain ⟨len, HL⟩ : ∃ len, Hid (len = xs.length) := ⟨_, rfl⟩
  rw [← HL.out] at hl hbig ⊢
  clear hx hf
  go_enter Tryd.func37, Tryd.ntmps37
  go_wp2
  go_loopg [1, 11] len (fun gg into i wr => ∃ (n cp : Nat) (ia : Option Addr), n + gg = len ∧ i = .int .i64 n ∧ into = .slice ia n cp ∧ Hid (wr.ownsRow w.heap.size 39 3 (.slice ia n cp) n (avs (xs.take n)) ∧ Below w.heap.size w wr))
  case atStart => exact ⟨0, 0, none, by omega, rfl, rfl, by simpa [avs] using World.ownsRow_nil w w.heap.size 39 3, Below.refl _ _⟩
  case round =>
    obtain ⟨n, cp, ia, hn, rfl, rfl, HS⟩ := hrel
    by_cases hlt : n < len
    · have i1 : (n : Int) < (len : Int) := by omega
      have i3 : (0 : Int) ≤ (n : Int) := by omega
      obtain ⟨x, hxn⟩ : ∃ x, xs[n]? = some x := ⟨_, List.getElem?_eq_getElem (by have := HL.out; omega)⟩
      obtain ⟨b, o, cs, rfl, hlo, hcs, hrg, hR⟩ := HX.out n x hxn
      obtain rfl : cs = _ := hR
      have hb := HS.out.2
      have HLd : Hid ((loadVar 39 ⟨b, o + n * 3, none⟩).run Tryd.prog wr = .ok (.agg #[.int .i64 x.1, .int .i64 x.2.1, .int .i64 x.2.2]) wr) := run_loadVar_mid wr b (o + n * 3) 39 [.int .i64 x.1, .int .i64 x.2.1, .int .i64 x.2.2] _ (fun i c hi => (Keeps.of_below hb 0) _ _ _ (Nat.zero_le _) (hrg i c hi)) Tryd.underlying39 rfl (by kernel_rfl)
      obtain ⟨k, Hk⟩ : ∃ q, Hid (q = x.1) := ⟨_, rfl⟩
      obtain ⟨p, Hp⟩ : ∃ q, Hid (q = x.2.1) := ⟨_, rfl⟩
      obtain ⟨q, Hq⟩ : ∃ q, Hid (q = x.2.2) := ⟨_, rfl⟩
      rw [← Hk.out, ← Hp.out, ← Hq.out] at HLd
      have HTk : Hid (xs.take (n + 1) = xs.take n ++ [(k, p, q)]) := by
        show xs.take (n + 1) = xs.take n ++ [(k, p, q)]
        rw [Hk.out, Hp.out, Hq.out, List.take_add_one, hxn]
        rfl
      have gA : Below wr.heap.size wr (wr.alloc (.cells #[.int .i64 k, .int .i64 p, .int .i64 q] 39)) := (Below.refl _ _).alloc (Nat.le_refl _) _
      have hlt2 : (xs.take n).length = n := by rw [List.length_take]; have := HL.out; omega
      have HCl : Hid (Calls Tryd.prog 38 #[.slice ia n cp, .agg #[.int .i64 k, .int .i64 p, .int .i64 q], .pointer (some ⟨fb, 0, none⟩)] (wr.alloc (.cells #[.int .i64 k, .int .i64 p, .int .i64 q] 39)) fun e w' => ∃ g1 cap1, e = .returned (.slice (some ⟨g1, 0, none⟩) (n + 1) cap1) ∧ w'.ownsRow w.heap.size 39 3 (.slice (some ⟨g1, 0, none⟩) (n + 1) cap1) (n + 1) (avs (xs.take n ++ [(k, p, q)])) ∧ (wr.alloc (.cells #[.int .i64 k, .int .i64 p, .int .i64 q] 39)).grownBy w' (Value.slice ia n cp).ownBlock) :=
        take_i w.heap.size fb ia n cp (xs.take n) k p q hlt2.symm (by omega) _ ((Keeps.of_below gA 0) _ _ _ (Nat.zero_le _) ((Keeps.of_below hb 0) _ _ _ (Nat.zero_le _) HFn.out.1)) (by simp; have := hb.size; omega) (ownl HS.out.1 gA)
      have HLA : Hid ((loadVar 39 ⟨wr.heap.size, 0, none⟩).run Tryd.prog (wr.alloc (.cells #[.int .i64 k, .int .i64 p, .int .i64 q] 39)) = .ok (.agg #[.int .i64 k, .int .i64 p, .int .i64 q]) (wr.alloc (.cells #[.int .i64 k, .int .i64 p, .int .i64 q] 39))) := load_all (heap_alloc_last wr _) _ _ Tryd.underlying39 rfl (by kernel_rfl)
      have HBA : Hid (Below w.heap.size w (wr.alloc (.cells #[.int .i64 k, .int .i64 p, .int .i64 q] 39)) ∧ ∀ j, (Value.slice ia n cp).ownBlock = some j → w.heap.size ≤ j) := ⟨hb.alloc hb.size _, fun j hj => (HS.out.1.lt j hj).1⟩
      clear hb hrg hcs hlo gA hlt2 HS
      go_wp2_with (first | (refine wpL_load rfl 39 _ rfl _ _ rfl _ HLd.out ?_) | (refine wpL_load rfl 39 _ rfl _ _ rfl _ HLA.out ?_) | fail)
      refine HCl.out.mono ?_
      rintro e w5 ⟨g1, cap1, rfl, o5, g5⟩
      have HFF : Hid (w5.ownsRow w.heap.size 39 3 (.slice (some ⟨g1, 0, none⟩) (n + 1) cap1) (n + 1) (avs (xs.take (n + 1))) ∧ Below w.heap.size w w5) := ⟨by rw [HTk.out]; exact o5, HBA.out.1.grown g5 HBA.out.1.size HBA.out.2⟩
      clear o5 g5 HCl HLA HLd HBA
      go_wp2
      go_roundg (gk - 1)
      case measure => omega
      case rel => exact ⟨n + 1, cap1, some ⟨g1, 0, none⟩, by omega, by simp, rfl, HFF⟩
    · have i1 : ¬ ((n : Int) < (len : Int)) := by omega
      have hnl : n = len := by omega
      subst hnl
      have HF : Hid (wr.ownsRow w.heap.size 39 3 (.slice ia n cp) n (avs xs) ∧ Below w.heap.size w wr) := ⟨by have := HS.out.1; rwa [List.take_of_length_le (by have := HL.out; omega)] at this, HS.out.2⟩
      clear HS
      go_wp2
      go_ret
      exact ⟨ia, cp, rfl, HF.out.1, HF.out.2⟩

set_option maxRecDepth 10000 in
set_option maxHeartbeats 2000000 in
theorem each_i (lo : Nat) (v : Value) (xs : List ArgT) (w : World) (hv : ArgsIs w lo v xs) (hbig : xs.length ≤ 1048576) :
    Calls Tryd.prog 30 #[v, .func (.func 29) #[] #[]] w fun e w' => ∃ a cp, e = .returned (.slice a xs.length cp) ∧ w'.ownsRow w.heap.size 39 3 (.slice a xs.length cp) xs.length (avs xs) ∧ Below w.heap.size w w' := by
  have hmf : ∀ (fn : Fn) (first cap : Array Value) (w : World), (Instr.makeFunc fn first cap).run Tryd.prog w = .ok (.func fn first cap) w := fun _ _ _ _ => rfl
  have gA : ∀ o, Below w.heap.size w (w.alloc o) := fun o => (Below.refl _ _).alloc (Nat.le_refl _) _
  have HFo : Hid (∀ W fb, Below w.heap.size w W → W.cell? ⟨fb, 0, none⟩ = some (.func (.func 29) #[] #[]) → Calls Tryd.prog 37 #[v, .slice none 0 0, .func (.func 38) #[] #[.pointer (some ⟨fb, 0, none⟩)]] W fun e w' => ∃ a cp, e = .returned (.slice a xs.length cp) ∧ w'.ownsRow W.heap.size 39 3 (.slice a xs.length cp) xs.length (avs xs) ∧ Below W.heap.size W w') := fun W fb g hf => fold_i fb lo v xs W (argsIs_move (Keeps.of_below g lo) (Nat.le_refl _) hv) hbig hf
  obtain ⟨len, HL⟩ : ∃ l, Hid (l = xs.length) := ⟨_, rfl⟩
  rw [← HL.out] at HFo ⊢
  clear hv hbig
  go_enter Tryd.func30, Tryd.ntmps30
  go_wp2_with fail
  refine (HFo.out _ w.heap.size (gA _) (by simp)).mono ?_
  rintro e w1 ⟨a, cp, rfl, o1, g1⟩
  have HF : Hid (w1.ownsRow w.heap.size 39 3 (.slice a len cp) len (avs xs) ∧ Below w.heap.size w w1) := ⟨own_base o1 (by simp), (gA _).trans (g1.mono (by simp))⟩
  clear o1 g1
  go_wp2
  go_ret
  exact ⟨a, cp, rfl, HF.out.1, HF.out.2⟩

set_option maxRecDepth 10000 in
set_option maxHeartbeats 4000000 in
theorem nelem_i (op : Int) (ua : Option Addr) (ul uc lo : Nat) (xs : List ArgT) (hul : ul = xs.length) (w : World) (hv : ArgsIs w lo (.slice ua ul uc) xs) (hbig : xs.length ≤ 1048576) :
    Calls Tryd.prog 17 #[.agg #[.int .i64 op, .slice ua ul uc]] w fun e w' => ∃ (a : Option Addr) (cp : Nat), e = .returned (.agg #[.int .i64 op, .slice a ul cp]) ∧ ArgsOwn w' w.heap.size (Value.slice a ul cp).ownBlock.toList (.slice a ul cp) xs ∧ Below w.heap.size w w' := by
  have HEa : Hid (∀ W, Below w.heap.size w W → Calls Tryd.prog 30 #[.slice ua ul uc, .func (.func 29) #[] #[]] W fun e w' => ∃ a cp, e = .returned (.slice a ul cp) ∧ w'.ownsRow W.heap.size 39 3 (.slice a ul cp) ul (avs xs) ∧ Below W.heap.size W w') := fun W g => by
    rw [hul] at hv ⊢
    exact each_i lo _ xs W (argsIs_move (Keeps.of_below g lo) (Nat.le_refl _) hv) hbig
  have HA : Hid (∀ W a cp, W.ownsRow w.heap.size 39 3 (.slice a ul cp) ul (avs xs) → ArgsOwn W w.heap.size (Value.slice a ul cp).ownBlock.toList (.slice a ul cp) xs) := fun W a cp h => args_of (by rw [← hul]; exact h)
  have b0 : Below w.heap.size w ((w.alloc (.cells #[.int .i64 op, .slice ua ul uc] 28)).alloc (.cells #[.int .i64 0, .slice none 0 0] 28)) := two_below' _ _
  obtain ⟨r1, r2⟩ := rows2 w (.cells #[.int .i64 op, .slice ua ul uc] 28) (.cells #[.int .i64 0, .slice none 0 0] 28)
  have hz : ((w.alloc (.cells #[.int .i64 op, .slice ua ul uc] 28)).alloc (.cells #[.int .i64 0, .slice none 0 0] 28)).heap.size = w.heap.size + 1 + 1 := by simp
  clear hv hbig hul
  go_enter Tryd.func17, Tryd.ntmps17
  go_wp2
  generalize ((w.alloc (.cells #[.int .i64 op, .slice ua ul uc] 28)).alloc (.cells #[.int .i64 0, .slice none 0 0] 28)) = W0 at b0 r1 r2 hz ⊢
  have c0 : W0.cell? ⟨w.heap.size, 0, none⟩ = some (.int .i64 op) := (cell_of_row _ _ _ _ _ _ r1).trans rfl
  have c1 : W0.cell? ⟨w.heap.size, 1, none⟩ = some (.slice ua ul uc) := (cell_of_row _ _ _ _ _ _ r1).trans rfl
  go_region_with (first | (go_at_call 30; refine (HEa.out _ (by first | exact b0 | exact b0.drew)).mono ?_; rintro e w9 ⟨a9, cp9, rfl, o9, g9⟩; obtain ⟨kr, d0, d1, f0, f1⟩ := two_free g9 r2; obtain ⟨_, e0, e1, _, _⟩ := two_free g9 r1))
  · have hz9 : w.heap.size + 1 < W0.drew.heap.size := by show w.heap.size + 1 < W0.heap.size; omega
    have HR : Hid (((w9.setCell ⟨w.heap.size + 1, 0, none⟩ (.int .i64 op)).setCell ⟨w.heap.size + 1, 1, none⟩ (.slice a9 ul cp9)).heap[w.heap.size + 1]? = some (.cells #[.int .i64 op, .slice a9 ul cp9] 28 (0, 0))) := row_put (row_put kr 0 _) 1 _
    have HF : Hid (ArgsOwn ((w9.setCell ⟨w.heap.size + 1, 0, none⟩ (.int .i64 op)).setCell ⟨w.heap.size + 1, 1, none⟩ (.slice a9 ul cp9)) w.heap.size (Value.slice a9 ul cp9).ownBlock.toList (.slice a9 ul cp9) xs ∧ Below w.heap.size w ((w9.setCell ⟨w.heap.size + 1, 0, none⟩ (.int .i64 op)).setCell ⟨w.heap.size + 1, 1, none⟩ (.slice a9 ul cp9))) := by
      refine ⟨HA.out _ _ _ (own_base (ownsRow_setCell_below (a := ⟨w.heap.size + 1, 1, none⟩) (ownsRow_setCell_below (a := ⟨w.heap.size + 1, 0, none⟩) o9 hz9 _) hz9 _) (by omega)), ?_⟩
      exact ((b0.drew.trans (g9.mono b0.drew.size)).setCell (p := ⟨w.heap.size + 1, 0, none⟩) (Nat.le_succ _) _).setCell (p := ⟨w.heap.size + 1, 1, none⟩) (Nat.le_succ _) _
    obtain ⟨WF, HWF⟩ : ∃ W, Hid (W = (w9.setCell ⟨w.heap.size + 1, 0, none⟩ (.int .i64 op)).setCell ⟨w.heap.size + 1, 1, none⟩ (.slice a9 ul cp9)) := ⟨_, rfl⟩
    rw [← HWF.out] at HR HF ⊢
    clear HWF kr d0 d1 f0 f1 e0 e1 o9 g9 c0 c1 r1 r2 b0
    go_wp2_with (first | (refine ret_row rfl rfl HR.out Tryd.underlying28 rfl (by kernel_rfl) rfl ?_) | fail)
    exact ⟨a9, cp9, rfl, HF.out.1, HF.out.2⟩
  · have hz9 : w.heap.size + 1 < W0.drew.heap.size := by show w.heap.size + 1 < W0.heap.size; omega
    have HR : Hid (((w9.setCell ⟨w.heap.size + 1, 0, none⟩ (.int .i64 op)).setCell ⟨w.heap.size + 1, 1, none⟩ (.slice a9 ul cp9)).heap[w.heap.size + 1]? = some (.cells #[.int .i64 op, .slice a9 ul cp9] 28 (0, 0))) := row_put (row_put kr 0 _) 1 _
    have HF : Hid (ArgsOwn ((w9.setCell ⟨w.heap.size + 1, 0, none⟩ (.int .i64 op)).setCell ⟨w.heap.size + 1, 1, none⟩ (.slice a9 ul cp9)) w.heap.size (Value.slice a9 ul cp9).ownBlock.toList (.slice a9 ul cp9) xs ∧ Below w.heap.size w ((w9.setCell ⟨w.heap.size + 1, 0, none⟩ (.int .i64 op)).setCell ⟨w.heap.size + 1, 1, none⟩ (.slice a9 ul cp9))) := by
      refine ⟨HA.out _ _ _ (own_base (ownsRow_setCell_below (a := ⟨w.heap.size + 1, 1, none⟩) (ownsRow_setCell_below (a := ⟨w.heap.size + 1, 0, none⟩) o9 hz9 _) hz9 _) (by omega)), ?_⟩
      exact ((b0.drew.trans (g9.mono b0.drew.size)).setCell (p := ⟨w.heap.size + 1, 0, none⟩) (Nat.le_succ _) _).setCell (p := ⟨w.heap.size + 1, 1, none⟩) (Nat.le_succ _) _
    obtain ⟨WF, HWF⟩ : ∃ W, Hid (W = (w9.setCell ⟨w.heap.size + 1, 0, none⟩ (.int .i64 op)).setCell ⟨w.heap.size + 1, 1, none⟩ (.slice a9 ul cp9)) := ⟨_, rfl⟩
    rw [← HWF.out] at HR HF ⊢
    clear HWF kr d0 d1 f0 f1 e0 e1 o9 g9 c0 c1 r1 r2 b0
    go_wp2_with (first | (refine ret_row rfl rfl HR.out Tryd.underlying28 rfl (by kernel_rfl) rfl ?_) | fail)
    exact ⟨a9, cp9, rfl, HF.out.1, HF.out.2⟩
  · have hz9 : w.heap.size + 1 < W0.drew.heap.size := by show w.heap.size + 1 < W0.heap.size; omega
    have HR : Hid (((w9.setCell ⟨w.heap.size + 1, 0, none⟩ (.int .i64 op)).setCell ⟨w.heap.size + 1, 1, none⟩ (.slice a9 ul cp9)).heap[w.heap.size + 1]? = some (.cells #[.int .i64 op, .slice a9 ul cp9] 28 (0, 0))) := row_put (row_put kr 0 _) 1 _
    have HF : Hid (ArgsOwn ((w9.setCell ⟨w.heap.size + 1, 0, none⟩ (.int .i64 op)).setCell ⟨w.heap.size + 1, 1, none⟩ (.slice a9 ul cp9)) w.heap.size (Value.slice a9 ul cp9).ownBlock.toList (.slice a9 ul cp9) xs ∧ Below w.heap.size w ((w9.setCell ⟨w.heap.size + 1, 0, none⟩ (.int .i64 op)).setCell ⟨w.heap.size + 1, 1, none⟩ (.slice a9 ul cp9))) := by
      refine ⟨HA.out _ _ _ (own_base (ownsRow_setCell_below (a := ⟨w.heap.size + 1, 1, none⟩) (ownsRow_setCell_below (a := ⟨w.heap.size + 1, 0, none⟩) o9 hz9 _) hz9 _) (by omega)), ?_⟩
      exact ((b0.drew.trans (g9.mono b0.drew.size)).setCell (p := ⟨w.heap.size + 1, 0, none⟩) (Nat.le_succ _) _).setCell (p := ⟨w.heap.size + 1, 1, none⟩) (Nat.le_succ _) _
    obtain ⟨WF, HWF⟩ : ∃ W, Hid (W = (w9.setCell ⟨w.heap.size + 1, 0, none⟩ (.int .i64 op)).setCell ⟨w.heap.size + 1, 1, none⟩ (.slice a9 ul cp9)) := ⟨_, rfl⟩
    rw [← HWF.out] at HR HF ⊢
    clear HWF kr d0 d1 f0 f1 e0 e1 o9 g9 c0 c1 r1 r2 b0
    go_wp2_with (first | (refine ret_row rfl rfl HR.out Tryd.underlying28 rfl (by kernel_rfl) rfl ?_) | fail)
    exact ⟨a9, cp9, rfl, HF.out.1, HF.out.2⟩
end Go.Proofs.YtlgacbjopobeoaaDoor
