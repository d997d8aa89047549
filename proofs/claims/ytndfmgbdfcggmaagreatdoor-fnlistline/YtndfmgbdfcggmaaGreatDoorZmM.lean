/- Lists that are owned; a text of a list read line by line, as mathematics. -/
import Derived.Test.YtndfmgbdfcggmaaGreatDoorZiM
import Derived.Test.YtndfmgbdfcggmaaGreatDoorGaM
import Derived.Test.YtndfmgbdfcggmaaGreatDoorHc
import Derived.Test.YtndfmgbdfcggmaaGreatDoorLx
import Derived.Deep.AppendLies
import Derived.Shelf.Strings.SplitShaped
namespace Go.Proofs.YtndfmgbdfcggmaaGreatDoor
open Go.RowKit Go.Shelf
set_option linter.unusedVariables false

theorem each_args : ∀ (n : Nat) (xs : List Arg), xs.length = n → Each ArgO 3 [] xs (opsL xs)
  | 0, xs, h => by
    obtain rfl := List.length_eq_zero_iff.1 h
    exact .nil
  | n + 1, xs, h => by
    rcases List.eq_nil_or_concat xs with rfl | ⟨l, a, rfl⟩
    · simp at h
    · have h1 := each_args n l (by simpa using h)
      have h2 : Each ArgO 3 ([] ++ []) (l ++ [a]) (opsL l ++ opv a) := .add h1 rfl ⟨rfl, rfl⟩
      have h3 : opsL (l ++ [a]) = opsL l ++ opv a := by simp [opsL]
      rw [List.concat_eq_append, h3]
      exact h2
theorem args_own {W : World} {base b c : Nat} {xs : List Arg} (h : OpsOwn W base b c xs) : ArgsOwn W base [b] (.slice (some ⟨b, 0, none⟩) xs.length c) xs := ⟨opsL xs, [], each_args _ xs rfl, h, rfl⟩
theorem args_base {W : World} {base base' : Nat} {F : List Nat} {v : Value} {xs : List ArgT} (h : ArgsOwn W base F v xs) (hb : base' ≤ base) : ArgsOwn W base' F v xs := by
  obtain ⟨cs, F', h1, h2, h3⟩ := h
  refine ⟨cs, F', h1, ⟨h2.1, ?_⟩, h3⟩
  rcases h2.2 with h | ⟨g, cap, cur, e1, e2, e3⟩
  · exact .inl h
  · exact .inr ⟨g, cap, cur, e1, by omega, e3⟩

def InstOwn (W : World) (base : Nat) (F : List Nat) (i : InstT) (c : List Value) : Prop := ∃ v, c = [.int .i64 i.code, .int .i64 i.one.op, v] ∧ ArgsOwn W base F v i.one.args
abbrev InstsOwn (W : World) (base : Nat) (F : List Nat) (v : Value) (xs : List InstT) : Prop := RowOwn W base 31 3 (InstOwn W base) F v xs
theorem InstOwn.move {W W' : World} {base : Nat} {F : List Nat} {i : InstT} {c : List Value} {row : Option Nat} (h : InstOwn W base F i c) (hg : W.grownBy W' row) (hr : ∀ b ∈ F, some b ≠ row) : InstOwn W' base F i c := by
  obtain ⟨v, hc, h1⟩ := h
  exact ⟨v, hc, ArgsOwn.move h1 hg hr⟩
theorem InstOwn.lt {W : World} {base : Nat} {F : List Nat} {i : InstT} {c : List Value} (h : InstOwn W base F i c) : ∀ b ∈ F, base ≤ b ∧ b < W.heap.size := by
  obtain ⟨v, _, h1⟩ := h
  exact ArgsOwn.lt h1
theorem InstOwn.is {W : World} {base lo : Nat} {F : List Nat} {i : InstT} {c : List Value} (h : InstOwn W base F i c) (hl : lo ≤ base) : InstIs W lo i c := by
  obtain ⟨v, hc, h1⟩ := h
  exact ⟨v, hc, ArgsOwn.is h1 hl⟩
theorem InstsOwn.move {W W' : World} {base : Nat} {F : List Nat} {v : Value} {xs : List InstT} {row : Option Nat} (h : InstsOwn W base F v xs) (hg : W.grownBy W' row) (hr : ∀ b ∈ F, some b ≠ row) : InstsOwn W' base F v xs := RowOwn.move h hg hr fun f x c hf h => h.move hg hf
theorem InstsOwn.lt {W : World} {base : Nat} {F : List Nat} {v : Value} {xs : List InstT} (h : InstsOwn W base F v xs) : ∀ b ∈ F, base ≤ b ∧ b < W.heap.size := RowOwn.lt h fun f x c h => h.lt
theorem InstsOwn.is {W : World} {base lo : Nat} {F : List Nat} {v : Value} {xs : List InstT} (h : InstsOwn W base F v xs) (hl : lo ≤ base) : InstsIs W lo v xs := RowOwn.is h hl fun f x c h => h.is hl
theorem InstsOwn.later {W W' : World} {base : Nat} {F : List Nat} {v : Value} {xs : List InstT} (h : InstsOwn W base F v xs) (g : Below W.heap.size W W') : InstsOwn W' base F v xs := h.move (gb_below g) (fun b _ => by simp)

/-- One more instruction. -/
theorem insts_step {w wr w3 w5 : World} {v va : Value} {xs : List InstT} {F F' f : List Nat} {cs : List Value} {i : InstT} {c op : Int} {g1 cap1 : Nat} {o1 o2 : Obj}
    (hB : Below w.heap.size w wr) (hE : Each (InstOwn wr w.heap.size) 3 F' xs cs) (hF : F = v.ownBlock.toList ++ F') (hFl : ∀ b ∈ F, w.heap.size ≤ b ∧ b < wr.heap.size) (hnd : F.Nodup)
    (g3 : Below wr.heap.size wr w3) (hN : ArgsOwn w3 wr.heap.size f va i.one.args) (hfn : f.Nodup) (hc : i.code = c) (ho : i.one.op = op)
    (own4 : w5.ownsRow w.heap.size 31 3 (.slice (some ⟨g1, 0, none⟩) (xs.length + 1) cap1) (xs.length + 1) (cs ++ [.int .i64 c, .int .i64 op, va])) (g4 : ((w3.alloc o1).alloc o2).grownBy w5 v.ownBlock) (hat : v.ownBlock = some g1 ∨ g1 = w3.heap.size + 1 + 1) :
    InstsOwn w5 w.heap.size (g1 :: (F' ++ f)) (.slice (some ⟨g1, 0, none⟩) (xs.length + 1) cap1) (xs ++ [i]) ∧ (g1 :: (F' ++ f)).Nodup ∧ Below w.heap.size w w5 := by
  have hs := g3.size
  have hsw := hB.size
  have G2 : w3.grownBy w5 v.ownBlock := ((World.grownBy_alloc w3 o1 _).trans (World.grownBy_alloc _ o2 _)).trans g4
  have hob : ∀ j, v.ownBlock = some j → w.heap.size ≤ j ∧ j < wr.heap.size := fun j hj => hFl j (by rw [hF, hj]; simp)
  rw [hF] at hnd
  have hnd' := List.nodup_append.1 hnd
  have hF' : ∀ b ∈ F', some b ≠ v.ownBlock := fun b hb e => hnd'.2.2 b (by rw [← e]; simp) b hb rfl
  have hF'l : ∀ b ∈ F', w.heap.size ≤ b ∧ b < wr.heap.size := fun b hb => hFl b (by rw [hF]; exact List.mem_append_right _ hb)
  have hfl := ArgsOwn.lt hN
  have hf' : ∀ b ∈ f, some b ≠ v.ownBlock := fun b hb e => by have := hob b e.symm; have := hfl b hb; omega
  refine ⟨?_, ?_, ?_⟩
  · refine RowOwn.push (hE.move fun f1 x1 c1 h1 h2 => ?_) rfl ?_ own4
    · exact (h2.move (gb_below g3) (fun b _ => by simp)).move G2 (fun b hb => hF' b (h1 hb))
    · exact ⟨va, by rw [hc, ho], ArgsOwn.move (args_base hN (by omega)) G2 hf'⟩
  · rw [List.nodup_cons]
    refine ⟨fun hm => ?_, List.nodup_append.2 ⟨hnd'.2.1, hfn, fun a ha b hb e => by have := hF'l a ha; have := hfl b hb; omega⟩⟩
    rcases List.mem_append.1 hm with hm | hm
    · rcases hat with h | h
      · exact hF' g1 hm h.symm
      · have := hF'l g1 hm; omega
    · rcases hat with h | h
      · exact hf' g1 hm h.symm
      · have := hfl g1 hm; omega
  · exact (hB.trans (g3.mono hsw)).grown G2 (by omega) (fun j hj => by have := hob j hj; omega)

/-- The lines that are left, behind so many lines and instructions: the list, or the line and the code of what is wrong. -/
noncomputable def pf : List (List UInt8) → Nat → List InstT → List InstT × Int × Int
  | [], n, xs => (xs, 0, 0)
  | l :: ls, n, xs => if lwords l = [] then pf ls (n + 1) xs else match lineOf (lwords l) with
    | none => ([], (n : Int) + 1, 2)
    | some i => if xs.length = 1000 then ([], (n : Int) + 1, 3) else pf ls (n + 1) (xs ++ [i])
theorem pf_skip {ls : List (List UInt8)} {l : List UInt8} {n : Nat} {xs : List InstT} (hl : ls[n]? = some l) (h : lwords l = []) : pf (ls.drop n) n xs = pf (ls.drop (n + 1)) (n + 1) xs := by
  obtain ⟨hn, rfl⟩ := List.getElem?_eq_some_iff.1 hl
  rw [List.drop_eq_getElem_cons hn, pf, if_pos h]
theorem pf_bad {ls : List (List UInt8)} {l : List UInt8} {n : Nat} {xs : List InstT} (hl : ls[n]? = some l) (h : lwords l ≠ []) (hi : lineOf (lwords l) = none) : pf (ls.drop n) n xs = ([], (n : Int) + 1, 2) := by
  obtain ⟨hn, rfl⟩ := List.getElem?_eq_some_iff.1 hl
  rw [List.drop_eq_getElem_cons hn, pf, if_neg h, hi]
theorem pf_many {ls : List (List UInt8)} {l : List UInt8} {n : Nat} {xs : List InstT} {i : InstT} (hl : ls[n]? = some l) (h : lwords l ≠ []) (hi : lineOf (lwords l) = some i) (hx : xs.length = 1000) : pf (ls.drop n) n xs = ([], (n : Int) + 1, 3) := by
  obtain ⟨hn, rfl⟩ := List.getElem?_eq_some_iff.1 hl
  rw [List.drop_eq_getElem_cons hn, pf, if_neg h, hi]
  simp only []
  rw [if_pos hx]
theorem pf_go {ls : List (List UInt8)} {l : List UInt8} {n : Nat} {xs : List InstT} {i : InstT} (hl : ls[n]? = some l) (h : lwords l ≠ []) (hi : lineOf (lwords l) = some i) (hx : xs.length ≠ 1000) : pf (ls.drop n) n xs = pf (ls.drop (n + 1)) (n + 1) (xs ++ [i]) := by
  obtain ⟨hn, rfl⟩ := List.getElem?_eq_some_iff.1 hl
  rw [List.drop_eq_getElem_cons hn, pf, if_neg h, hi]
  simp only []
  rw [if_neg hx]
theorem pf_end {ls : List (List UInt8)} {n : Nat} {xs : List InstT} (h : ls.length ≤ n) : pf (ls.drop n) n xs = (xs, 0, 0) := by
  rw [List.drop_eq_nil_of_le h, pf]
/-- What the text of a list says. -/
noncomputable def parseT (s : ByteArray) : List InstT × Int × Int := if 50000 < s.size then ([], 0, 1) else pf (pieces 10 s.data.toList) 0 []

/-- Strings that lie in a row. -/
def WdsAt (W : World) (g : Nat) (L : List ByteArray) : Prop := ∀ j x, L[j]? = some x → W.cell? ⟨g, j, none⟩ = some (.string x)
theorem WdsAt.later {W W' : World} {g : Nat} {L : List ByteArray} (h : WdsAt W g L) (b : Below W.heap.size W W') : WdsAt W' g L := fun j x hx => (b.cell (p := ⟨g, j, none⟩) (World.block_lt_of_cell? _ _ (h j x hx))).trans (h j x hx)
theorem info_sL : (Tryz.prog.info? (Tryz.laySp_ren.t 9)).map (fun i => (i.zero, i.size, i.bytes)) = some (some (.string ByteArray.empty), 1, 16) := by kernel_rfl
theorem lines_i (s : ByteArray) (hs : s.size ≤ 1048576) (W : World) (hW : ML W) : Calls Tryz.prog 56 #[.string s, .string ⟨#[10]⟩] W fun e w' => ∃ (g cap : Nat) (L : List ByteArray), e = .returned (.slice (some ⟨g, 0, none⟩) L.length cap) ∧ WdsAt w' g L ∧ (W.heap.size ≤ g ∧ g < w'.heap.size) ∧ Below W.heap.size W w' ∧ L.length ≤ cap ∧ L.map (·.data.toList) = pieces 10 s.data.toList := by
  obtain ⟨m, hm⟩ := hW
  refine (Any.strings_Split Tryz.laySp info_sL s ⟨#[10]⟩ m W (by omega) hm (by decide)).mono ?_
  rintro e w' ⟨rfl, rfl⟩
  have hl := Lib.splitB_all ⟨#[10]⟩ (by decide) 0 _ s rfl
  refine ⟨W.heap.size, Lib.countB s ⟨#[10]⟩ + 1, Lib.splitB ⟨#[10]⟩ 0 (Lib.countB s ⟨#[10]⟩) s, by rw [hl], ?_, ⟨Nat.le_refl _, by simp⟩, (Below.refl _ _).alloc (Nat.le_refl _) _, by rw [hl]; omega, split_pieces 10 _ s rfl⟩
  intro n x hx
  rw [cell_of_row _ _ _ _ _ _ (heap_alloc_last _ _), List.getElem?_toArray, List.getElem?_map, hx]
  rfl
/-- A line of a text, and its words, are no longer than the text. -/
theorem piece_le : ∀ (c : UInt8) (l cur x : List UInt8), x ∈ cutA c cur l → x.length ≤ cur.length + l.length
  | c, [], cur, x, h => by simp [cutA] at h; rw [h]; simp
  | c, b :: r, cur, x, h => by
    unfold cutA at h
    split at h
    · rcases List.mem_cons.1 h with rfl | h
      · simp
      · have := piece_le c r [] x h; simp at this ⊢; omega
    · have := piece_le c r (cur ++ [b]) x h; simp at this ⊢; omega
theorem word_le {l x : List UInt8} (h : x ∈ lwords l) : x.length ≤ l.length := by
  have := piece_le 32 l [] x (List.mem_filter.1 h).1
  simpa using this
theorem wdAt_le (l : List UInt8) (j : Nat) : (wdAt (lwords l) j).size ≤ l.length := by
  show ((lwords l).getD j []).toArray.size ≤ l.length
  rw [List.size_toArray, List.getD_eq_getElem?_getD]
  cases h : (lwords l)[j]? with
  | none => simp
  | some x => exact word_le (List.mem_of_getElem? h)
theorem inst_args {ws : List (List UInt8)} {w w' : World} {e : Ending} (h : InstRes ws w e w') :
    (∃ (i : InstT) (f : List Nat) (a : Option Addr) (len cap : Nat), lineOf ws = some i ∧ e = .returned (.tuple #[.agg #[.int .i64 i.code, .int .i64 i.one.op, .slice a len cap], .bool true]) ∧ ArgsOwn w' w.heap.size f (.slice a len cap) i.one.args ∧ f.Nodup ∧ Below w.heap.size w w') ∨
    (∃ (c op : Int) (a : Option Addr) (len cap : Nat), lineOf ws = none ∧ e = .returned (.tuple #[.agg #[.int .i64 c, .int .i64 op, .slice a len cap], .bool false]) ∧ Below w.heap.size w w') := by
  rcases h with ⟨i, f, a, cap, h1, h2, h3, h4⟩ | h
  · refine .inl ⟨i, f, a, i.one.args.length, cap, h1, h2, ?_, ?_, h4⟩
    · rcases h3 with ⟨e1, rfl, rfl, rfl⟩ | ⟨b, rfl, rfl, h3⟩
      · rw [e1]; exact RowOwn.nil _ _ _ _ _
      · exact args_own h3
    · rcases h3 with ⟨e1, rfl, rfl, rfl⟩ | ⟨b, rfl, rfl, h3⟩ <;> simp
  · exact .inr h
end Go.Proofs.YtndfmgbdfcggmaaGreatDoor
/- A text of a list read: the program's listRead and the specification's ListParse. -/
namespace Go.Proofs.YtndfmgbdfcggmaaGreatDoor
open Go.RowKit Go.Shelf
set_option linter.unusedVariables false

theorem insts_base {W : World} {base base' : Nat} {F : List Nat} {v : Value} {xs : List InstT} (h : InstsOwn W base F v xs) (hb : base' ≤ base) : InstsOwn W base' F v xs := by
  obtain ⟨cs, F', h1, h2, h3⟩ := h
  refine ⟨cs, F', h1.move fun f x c _ ⟨v, e1, e2⟩ => ⟨v, e1, args_base e2 hb⟩, ⟨h2.1, ?_⟩, h3⟩
  rcases h2.2 with h | ⟨g, cap, cur, e1, e2, e3⟩
  · exact .inl h
  · exact .inr ⟨g, cap, cur, e1, by omega, e3⟩
/-- What reading a text leaves behind, the program's way. -/
def ReadI (s : ByteArray) (w : World) (e : Ending) (w' : World) : Prop :=
  (∃ (xs : List InstT) (F : List Nat) (a : Option Addr) (m cp : Nat), parseT s = (xs, 0, 0) ∧ e = .returned (.tuple #[.slice a m cp, .nilIface]) ∧ InstsOwn w' w.heap.size F (.slice a m cp) xs ∧ F.Nodup ∧ xs.length ≤ 1000 ∧ Below w.heap.size w w') ∨
  (∃ line code : Int, 1 ≤ code ∧ parseT s = ([], line, code) ∧ e = .returned (.tuple #[.slice none 0 0, .iface 59 (.agg #[.int .i64 code, .int .i64 line])]) ∧ Below w.heap.size w w')
/-- What ListParse hands back. -/
def PR (s : ByteArray) (w : World) (e : Ending) (w' : World) : Prop :=
  ∃ (xs : List InstT) (line code : Int) (F : List Nat) (a : Option Addr) (m cp : Nat), parseT s = (xs, line, code) ∧ e = .returned (.tuple #[.slice a m cp, .agg #[.int .i64 line, .int .i64 code]]) ∧ InstsOwn w' w.heap.size F (.slice a m cp) xs ∧ F.Nodup ∧ xs.length ≤ 1000 ∧ Below w.heap.size w w'
theorem wrong_pr {s : ByteArray} {w w' : World} {line code : Int} (h : parseT s = ([], line, code)) (g : Below w.heap.size w w') : PR s w (.returned (.tuple #[.slice none 0 0, .agg #[.int .i64 line, .int .i64 code]])) w' :=
  ⟨[], line, code, [], none, 0, 0, h, rfl, RowOwn.nil _ _ _ _ _, List.nodup_nil, by simp, g⟩

set_option maxRecDepth 10000 in
set_option maxHeartbeats 1000000 in
theorem lread_long (s : ByteArray) (w : World) (hs : s.size ≤ 1048576) (h : 50000 < s.size) : Calls Tryz.prog 26 #[.string s] w fun e w' => ReadI s w e w' := by
  have i1 : (50000 : Int) < (s.size : Int) := by omega
  have HF : Hid (ReadI s w (.returned (.tuple #[.slice none 0 0, .iface 59 (.agg #[.int .i64 1, .int .i64 0])])) w) := .inr ⟨0, 1, by omega, by unfold parseT; rw [if_pos h], rfl, Below.refl _ _⟩
  clear h
  go_enter Tryz.func26, Tryz.ntmps26
  go_wp2
  exact bodyPost_ret (v := .tuple #[.slice none 0 0, .iface 59 (.agg #[.int .i64 1, .int .i64 0])]) (by simp [results, Tryz.results26, go_sem]) rfl HF.out

set_option maxRecDepth 10000 in
set_option maxHeartbeats 8000000 in
theorem lread_i (s : ByteArray) (w : World) (hs : s.size ≤ 50000) (hT : Tabs w) (hL : LT w) (hM : ML w) (hH : EH w) : Calls Tryz.prog 26 #[.string s] w fun e w' => ReadI s w e w' := by
  have hinfo : (Tryz.prog.info? 31).map (fun i => (i.zero, i.size, i.bytes)) = some (some (.agg #[.int .i64 0, .int .i64 0, .slice none 0 0]), 3, 40) := by kernel_rfl
  obtain ⟨i0, hi, hzz⟩ := Option.map_eq_some_iff.1 hinfo
  simp only [Prod.mk.injEq] at hzz
  obtain ⟨hz0, hz1, hz2⟩ := hzz
  have HI : Hid (Tryz.prog.info? 31 = some i0 ∧ i0.zero = some (.agg #[.int .i64 0, .int .i64 0, .slice none 0 0]) ∧ i0.size = 3 ∧ i0.bytes = 40) := ⟨hi, hz0, hz1, hz2⟩
  clear hi hz0 hz1 hz2 hinfo
  have i9 : ¬ ((50000 : Int) < (s.size : Int)) := by omega
  obtain ⟨ls, Hls⟩ : ∃ ls, Hid (ls = pieces 10 s.data.toList) := ⟨_, rfl⟩
  have HP : Hid (parseT s = pf (ls.drop 0) 0 []) := by
    show parseT s = _
    unfold parseT; rw [if_neg (by omega), Hls.out]; rfl
  have HTs : Hid (Tabs w ∧ LT w ∧ ML w ∧ EH w) := ⟨hT, hL, hM, hH⟩
  have HM0 : Hid (ML w) := hM
  clear hT hL hM hH
  go_enter Tryz.func26, Tryz.ntmps26
  go_wp2_with fail
  refine (lines_i s (by omega) w HM0.out).mono ?_
  rintro e w1 ⟨g0, cap0, M, rfl, hWd, hgl, hB1, hcap, hMp⟩
  have HWd : Hid (WdsAt w1 g0 M) := hWd
  have HB1 : Hid (Below w.heap.size w w1) := hB1
  have HMp : Hid (M.map (·.data.toList) = ls) := hMp.trans Hls.out.symm
  have hM5 : M.length ≤ 50001 := by
    have h1 := congrArg List.length hMp
    have h2 := pieces_len 10 s.data.toList
    simp at h1 h2
    have : s.data.toList.length = s.size := Array.length_toList
    omega
  have HSz : Hid (∀ x ∈ M, x.size ≤ 50000) := fun x hx => by
    have h1 : x.data.toList ∈ pieces 10 s.data.toList := by rw [← hMp]; exact List.mem_map.2 ⟨x, hx, rfl⟩
    have h2 := piece_le 10 s.data.toList [] _ h1
    simp at h2
    have : x.data.size = x.size := rfl
    have : s.data.size = s.size := rfl
    omega
  obtain ⟨len, HLn⟩ : ∃ l, Hid (l = M.length) := ⟨_, rfl⟩
  rw [← HLn.out] at hM5 hcap ⊢
  have HST : Hid ((0 : Nat) = ([] : List InstT).length ∧ InstsOwn w1 w1.heap.size [] (.slice none 0 0) [] ∧ ([] : List Nat).Nodup ∧ Below w1.heap.size w1 w1) := ⟨rfl, RowOwn.nil _ _ _ _ _, List.nodup_nil, Below.refl _ _⟩
  clear hWd hB1 hMp
  go_wp2
  go_loopg [4, 18] len (fun gg v i wr => ∃ (n m cp : Nat) (a : Option Addr) (xs : List InstT) (F : List Nat), n + gg = len ∧ i = .int .i64 n ∧ v = .slice a m cp ∧ m ≤ 1000 ∧ Hid (m = xs.length ∧ InstsOwn wr w1.heap.size F (.slice a m cp) xs ∧ F.Nodup ∧ Below w1.heap.size w1 wr) ∧ Hid (parseT s = pf (ls.drop n) n xs))
  case atStart => exact ⟨0, 0, 0, none, [], [], by omega, rfl, rfl, by omega, HST, HP⟩
  case round =>
    clear HST
    obtain ⟨n, m, cp, a, xs, F, hn, rfl, rfl, hm, HA, HP⟩ := hrel
    by_cases hlt : n < len
    · have i1 : (n : Int) < (len : Int) := by omega
      have i3 : (0 : Int) ≤ (n : Int) := by omega
      obtain ⟨x, hx⟩ : ∃ x, M[n]? = some x := ⟨_, List.getElem?_eq_getElem (by have := HLn.out; omega)⟩
      have cx : wr.cell? ⟨g0, n, none⟩ = some (.string x) := (HWd.out.later HA.out.2.2.2) n x hx
      have Hln : Hid (ls[n]? = some x.data.toList) := by show ls[n]? = _; rw [← HMp.out, List.getElem?_map, hx]; rfl
      have hxs := HSz.out x (List.mem_of_getElem? hx)
      obtain ⟨ws, Hws⟩ : ∃ ws, Hid (ws = lwords x.data.toList) := ⟨_, rfl⟩
      obtain ⟨y0, Hy0⟩ : ∃ y, Hid (y = wdAt ws 0) := ⟨_, rfl⟩
      obtain ⟨y1, Hy1⟩ : ∃ y, Hid (y = wdAt ws 1) := ⟨_, rfl⟩
      obtain ⟨y2, Hy2⟩ : ∃ y, Hid (y = wdAt ws 2) := ⟨_, rfl⟩
      have HSc : Hid (Calls Tryz.prog 57 #[.string x] wr fun e w' => e = .returned (.agg #[.string y0, .string y1, .string y2]) ∧ Below wr.heap.size wr w') := by
        rw [Hy0.out, Hy1.out, Hy2.out, Hws.out]; exact scan_i x wr (by omega)
      have hfull : ∀ z ∈ ws, z ≠ [] := by rw [Hws.out]; exact lwords_full _
      have HLI : Hid (∀ W, 1 ≤ ws.length → Below w.heap.size w W → Calls Tryz.prog 58 #[.agg #[.string y0, .string y1, .string y2]] W fun e w' => InstRes ws W e w') := fun W h1 g => by
        rw [Hy0.out, Hy1.out, Hy2.out]
        exact linst_i ws hfull h1 (by rw [Hws.out]; have := wdAt_le x.data.toList 1; have h2 : x.data.toList.length = x.size := Array.length_toList; omega) W (HTs.out.1.later g) (HTs.out.2.1.later g) (HTs.out.2.2.1.later g) (HTs.out.2.2.2.later g)
      have HY : Hid (y0.toList = [] ↔ ws.length ≤ 0) := by rw [Hy0.out]; exact wdAt_none hfull 0
      clear hfull hx hxs
      go_wp2_with fail
      refine HSc.out.mono ?_
      rintro e w2 ⟨rfl, g2⟩
      obtain ⟨W2, HW2⟩ : ∃ W, Hid (W = w2.alloc (.cells #[.string y0, .string y1, .string y2] 88)) := ⟨_, rfl⟩
      have HS : Hid ((storeVar 88 ⟨w2.heap.size, 0, none⟩ (.agg #[.string y0, .string y1, .string y2])).run Tryz.prog (w2.alloc (.cells #[.string ⟨#[]⟩, .string ⟨#[]⟩, .string ⟨#[]⟩] 88)) = .ok () W2) := by
        rw [HW2.out]
        exact run_storeVar_new w2 88 _ _ (by kernel_rfl) rfl (all_one [.string y0, .string y1, .string y2] (mem3x rfl rfl rfl))
      have kY : W2.heap[w2.heap.size]? = some (.cells #[.string y0, .string y1, .string y2] 88 (0, 0)) := by rw [HW2.out]; exact heap_alloc_last w2 _
      have cy : W2.cell? ⟨w2.heap.size, 0, none⟩ = some (.string y0) := (cell_of_row _ _ _ _ _ _ kY).trans rfl
      have HLD : Hid ((loadVar 88 ⟨w2.heap.size, 0, none⟩).run Tryz.prog W2 = .ok (.agg #[.string y0, .string y1, .string y2]) W2) := load_all kY _ _ Tryz.underlying88 rfl (by kernel_rfl)
      have gW : Below wr.heap.size wr W2 := by rw [HW2.out]; exact g2.alloc g2.size _
      have HgW : Hid (Below wr.heap.size wr W2) := gW
      clear HW2 kY g2 HSc cx gW
      by_cases hE : ws = []
      · have f1 : (y0.toList == []) = true := by rw [HY.out.2 (by rw [hE]; simp)]; rfl
        have HA2 : Hid (m = xs.length ∧ InstsOwn W2 w1.heap.size F (.slice a m cp) xs ∧ F.Nodup ∧ Below w1.heap.size w1 W2) := ⟨HA.out.1, HA.out.2.1.later HgW.out, HA.out.2.2.1, HA.out.2.2.2.trans (HgW.out.mono HA.out.2.2.2.size)⟩
        have HP2 : Hid (parseT s = pf (ls.drop (n + 1)) (n + 1) xs) := by show parseT s = _; rw [HP.out]; exact pf_skip Hln.out (Hws.out.symm.trans hE)
        clear hE
        go_wp2_with (first | (refine wpL_store rfl 88 _ _ rfl _ _ rfl _ rfl _ HS.out ?_) | fail)
        go_roundg (gk - 1)
        case measure => omega
        case rel => exact ⟨n + 1, m, cp, a, xs, F, by omega, by simp, rfl, hm, HA2, HP2⟩
      · have hE1 : 1 ≤ ws.length := by
          cases ws with
          | nil => exact absurd rfl hE
          | cons _ _ => simp
        have f1 : (y0.toList == []) = false := by rw [beq_eq_false_iff_ne]; exact fun e => by have := HY.out.1 e; omega
        have HE1 : Hid (1 ≤ ws.length ∧ lwords x.data.toList ≠ []) := ⟨hE1, by rw [← Hws.out]; exact hE⟩
        have HbW : Hid (Below w.heap.size w W2) := HB1.out.trans ((HA.out.2.2.2.trans (HgW.out.mono HA.out.2.2.2.size)).mono HB1.out.size)
        clear hE hE1
        go_wp2_with (first | (refine wpL_store rfl 88 _ _ rfl _ _ rfl _ rfl _ HS.out ?_) | (refine wpL_load rfl 88 _ rfl _ _ rfl _ HLD.out ?_) | fail)
        refine (HLI.out W2 HE1.out.1 HbW.out).mono ?_
        intro e w3 hR
        rcases inst_args hR with ⟨i, f, a1, l1, c1, hi, rfl, hAr, hfn, g3⟩ | ⟨c, op, a1, l1, c1, hi, rfl, g3⟩
        · obtain ⟨c, hc⟩ : ∃ c, i.code = c := ⟨_, rfl⟩
          obtain ⟨op, hop⟩ : ∃ c, i.one.op = c := ⟨_, rfl⟩
          rw [hc, hop]
          have HII : Hid (i.code = c ∧ i.one.op = op ∧ lineOf (lwords x.data.toList) = some i) := ⟨hc, hop, by rw [← Hws.out]; exact hi⟩
          have HAr : Hid (ArgsOwn w3 W2.heap.size f (.slice a1 l1 c1) i.one.args ∧ f.Nodup ∧ Below W2.heap.size W2 w3) := ⟨hAr, hfn, g3⟩
          clear hR hi hc hop hAr hfn g3 cy HS HLD
          by_cases h1k : m = 1000
          · have HF : Hid (ReadI s w (.returned (.tuple #[.slice none 0 0, .iface 59 (.agg #[.int .i64 3, .int .i64 ((n : Int) + 1)])])) (w3.alloc (.cells #[.int .i64 c, .int .i64 op, .slice a1 l1 c1] 31))) := by
              refine .inr ⟨_, 3, by omega, by rw [HP.out]; exact pf_many Hln.out HE1.out.2 HII.out.2.2 (HA.out.1.symm.trans h1k), rfl, ?_⟩
              have := HbW.out.trans (HAr.out.2.2.mono HbW.out.size)
              exact this.alloc this.size _
            subst h1k
            go_wp2
            exact bodyPost_ret (v := .tuple #[.slice none 0 0, .iface 59 (.agg #[.int .i64 3, .int .i64 ((n : Int) + 1)])]) (by simp [results, Tryz.results26, go_sem]) rfl HF.out
          · have f2 : ((m : Int) == 1000) = false := by rw [beq_eq_false_iff_ne]; omega
            have hm9 : m < 1000 := by omega
            clear h1k
            obtain ⟨cs, F', hEa, hOw, hF⟩ := HA.out.2.1
            have G3 : Below wr.heap.size wr w3 := HgW.out.trans (HAr.out.2.2.mono HgW.out.size)
            have hown2 : w3.ownsRow w1.heap.size 31 3 (.slice a m cp) m cs := by
              have h0 := owns_later hOw G3
              rwa [← HA.out.1] at h0
            have own3 : ((w3.alloc (.cells #[.int .i64 c, .int .i64 op, .slice a1 l1 c1] 31)).alloc (.cells #[.int .i64 c, .int .i64 op, .slice a1 l1 c1] 31)).ownsRow w1.heap.size 31 3 (.slice a m cp) m cs := World.ownsRow.alloc (World.ownsRow.alloc hown2 _) _
            have news3 : ∀ (q : Nat) (v : Value), ([.int .i64 c, .int .i64 op, .slice a1 l1 c1] : List Value)[q]? = some v → ((w3.alloc (.cells #[.int .i64 c, .int .i64 op, .slice a1 l1 c1] 31)).alloc (.cells #[.int .i64 c, .int .i64 op, .slice a1 l1 c1] 31)).cell? ((⟨w3.heap.size + 1, 0, none⟩ : Addr).add q) = some v := by
              intro q v hq
              match q with
              | 0 => simp at hq; subst hq; simp [Addr.add]
              | 1 => simp at hq; subst hq; simp [Addr.add]
              | 2 => simp at hq; subst hq; simp [Addr.add]
              | (j + 3) => simp at hq
            have HEE : Hid (Each (InstOwn wr w1.heap.size) 3 F' xs cs ∧ F = (Value.slice a m cp).ownBlock.toList ++ F' ∧ (∀ b ∈ F, w1.heap.size ≤ b ∧ b < wr.heap.size)) := ⟨hEa, hF, InstsOwn.lt HA.out.2.1⟩
            have HG3 : Hid (Below wr.heap.size wr w3) := G3
            have hsz3 : w1.heap.size ≤ w3.heap.size := by have := HA.out.2.2.2.size; have := G3.size; omega
            clear hEa hOw hF G3 hown2
            go_wp2_with (at_builtin; refine wpList_append_lies _ rfl _ _ 23 rfl w1.heap.size 31 i0 (.agg #[.int .i64 0, .int .i64 0, .slice none 0 0]) 3 40 Tryz.underlying23 HI.out.1 HI.out.2.1 HI.out.2.2.1 HI.out.2.2.2 rfl (by decide) _ m cs rfl own3 ⟨w3.heap.size + 1, 0, none⟩ 1 1 [.int .i64 c, .int .i64 op, .slice a1 l1 c1] rfl rfl news3 ?c2 (by omega) ?c3 ?c4 ?c5 _ rfl ?_)
            case c2 => intro v hu; simp at hu; rcases hu with rfl | rfl | rfl <;> rfl
            case c3 => unfold maxLen; omega
            case c4 => omega
            case c5 => simp; omega
            intro g1 cap1 w5 own4 g4 hat hlt4
            have HNX : Hid (m + 1 = (xs ++ [i]).length ∧ InstsOwn w5 w1.heap.size (g1 :: (F' ++ f)) (.slice (some ⟨g1, 0, none⟩) (m + 1) cap1) (xs ++ [i]) ∧ (g1 :: (F' ++ f)).Nodup ∧ Below w1.heap.size w1 w5) := by
              have hmx := HA.out.1
              have o4 := own4
              rw [hmx] at o4
              have := insts_step HA.out.2.2.2 HEE.out.1 HEE.out.2.1 HEE.out.2.2 HA.out.2.2.1 HG3.out (args_base HAr.out.1 HgW.out.size) HAr.out.2.1 HII.out.1 HII.out.2.1 o4 g4 (by simpa using hat)
              refine ⟨by rw [hmx]; simp, ?_, this.2⟩
              rw [hmx]; exact this.1
            have HP2 : Hid (parseT s = pf (ls.drop (n + 1)) (n + 1) (xs ++ [i])) := by show parseT s = _; rw [HP.out]; exact pf_go Hln.out HE1.out.2 HII.out.2.2 (by rw [← HA.out.1]; omega)
            clear own3 news3 own4 g4 hat hlt4 HA HEE HG3 HAr HII
            go_wp2
            go_roundg (gk - 1)
            case measure => omega
            case rel => exact ⟨n + 1, m + 1, cap1, some ⟨g1, 0, none⟩, xs ++ [i], _, by omega, by simp, rfl, by omega, HNX, HP2⟩
        · have HF : Hid (ReadI s w (.returned (.tuple #[.slice none 0 0, .iface 59 (.agg #[.int .i64 2, .int .i64 ((n : Int) + 1)])])) (w3.alloc (.cells #[.int .i64 c, .int .i64 op, .slice a1 l1 c1] 31))) := by
            refine .inr ⟨_, 2, by omega, by rw [HP.out]; exact pf_bad Hln.out HE1.out.2 (by rw [← Hws.out]; exact hi), rfl, ?_⟩
            have := HbW.out.trans (g3.mono HbW.out.size)
            exact this.alloc this.size _
          clear hR hi g3 cy HS HLD
          go_wp2
          exact bodyPost_ret (v := .tuple #[.slice none 0 0, .iface 59 (.agg #[.int .i64 2, .int .i64 ((n : Int) + 1)])]) (by simp [results, Tryz.results26, go_sem]) rfl HF.out
    · have i1 : ¬ ((n : Int) < (len : Int)) := by omega
      have HF : Hid (ReadI s w (.returned (.tuple #[.slice a m cp, .nilIface])) wr) := by
        refine .inl ⟨xs, F, a, m, cp, ?_, rfl, insts_base HA.out.2.1 HB1.out.size, HA.out.2.2.1, by rw [← HA.out.1]; exact hm, HB1.out.trans (HA.out.2.2.2.mono HB1.out.size)⟩
        rw [HP.out]
        exact pf_end (by rw [← HMp.out]; simp; have := HLn.out; omega)
      go_wp2
      exact bodyPost_ret (v := .tuple #[.slice a m cp, .nilIface]) (by simp [results, Tryz.results26, go_sem]) rfl HF.out
end Go.Proofs.YtndfmgbdfcggmaaGreatDoor
/- The specification reads a text of a list. -/
namespace Go.Proofs.YtndfmgbdfcggmaaGreatDoor
open Go.RowKit Go.Shelf
set_option linter.unusedVariables false

end Go.Proofs.YtndfmgbdfcggmaaGreatDoor
