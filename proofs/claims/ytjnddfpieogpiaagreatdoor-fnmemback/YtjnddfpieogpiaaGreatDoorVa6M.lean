/- The words of a memory's text. -/
import Derived.Test.YtjnddfpieogpiaaGreatDoorUd6
import Derived.Test.YtjnddfpieogpiaaGreatDoorTv6M
import Derived.Test.YtjnddfpieogpiaaGreatDoorDqM
import Derived.Lib.Join
import Derived.Deep.AppendLies
import Derived.Laws.OwnMore
import Derived.Laws.AppendOwn
import Derived.Deep.Cut
namespace Go.Proofs.YtjnddfpieogpiaaGreatDoor.Rr
open Go.RowKit
open Go.Lib (decDigits itoa)
set_option linter.unusedVariables false

/-- The words that a loop gathers. -/
def accL (L : List ByteArray) (p : Nat → Bool) (t : Nat → ByteArray) : Nat → List ByteArray
  | 0 => L
  | n + 1 => if p n then accL L p t n ++ [t n] else accL L p t n
theorem accL_yes {L : List ByteArray} {p : Nat → Bool} {t : Nat → ByteArray} {n : Nat} (h : p n = true) : accL L p t (n + 1) = accL L p t n ++ [t n] := by simp [accL, h]
theorem accL_no {L : List ByteArray} {p : Nat → Bool} {t : Nat → ByteArray} {n : Nat} (h : p n = false) : accL L p t (n + 1) = accL L p t n := by simp [accL, h]
/-- Words, each with a space behind it. -/
def flat (L : List ByteArray) : ByteArray := L.foldl (fun s x => s ++ (x ++ ⟨#[32]⟩)) ⟨#[]⟩
theorem flat_snoc (L : List ByteArray) (x : ByteArray) : flat (L ++ [x]) = flat L ++ (x ++ ⟨#[32]⟩) := by simp [flat, List.foldl_append]
theorem ba_nil (s : ByteArray) : s ++ (⟨#[]⟩ : ByteArray) = s := by apply ByteArray.ext; simp
theorem ba_assoc (a b c : ByteArray) : a ++ b ++ c = a ++ (b ++ c) := by apply ByteArray.ext; simp
theorem acc_front (s : ByteArray) (p : Nat → Bool) (t : Nat → ByteArray) : ∀ n, acc s p t n = s ++ acc ⟨#[]⟩ p t n
  | 0 => (ba_nil s).symm
  | n + 1 => by
    unfold acc
    rw [acc_front s p t n]
    split
    · rw [ba_assoc]
    · rfl
theorem acc_none (s : ByteArray) (p : Nat → Bool) (t : Nat → ByteArray) (h : ∀ n, p n = false) : ∀ n, acc s p t n = s
  | 0 => rfl
  | n + 1 => by unfold acc; rw [h n]; exact acc_none s p t h n
theorem flat_accL (L : List ByteArray) (p : Nat → Bool) (t : Nat → ByteArray) : ∀ n, flat (accL L p t n) = acc (flat L) p (fun i => t i ++ ⟨#[32]⟩) n
  | 0 => rfl
  | n + 1 => by
    unfold accL acc
    split
    · rw [flat_snoc, flat_accL L p t n]
    · exact flat_accL L p t n
theorem flat_toList : ∀ (L : List ByteArray) (s : ByteArray), (L.foldl (fun s x => s ++ (x ++ ⟨#[32]⟩)) s).data.toList = s.data.toList ++ (L.map fun x => x.data.toList ++ [32]).flatten
  | [], s => by simp
  | x :: L, s => by
    rw [List.foldl_cons, flat_toList L]
    simp
theorem tail_flat : ∀ l : List (List UInt8), Lib.joinTail [32] l ++ [32] = [32] ++ (l.map fun x => x ++ [32]).flatten
  | [] => rfl
  | b :: l => by
    have h := tail_flat l
    have e : Lib.joinTail [32] (b :: l) = [32] ++ b ++ Lib.joinTail [32] l := by simp [Lib.joinTail]
    rw [e, List.append_assoc, h]
    simp
/-- Words with one space between: the last space is cut off. -/
theorem join_flat (L : List ByteArray) : Lib.join (L.map fun x => x.data.toList) [32] = (flat L).data.toList.dropLast := by
  unfold flat
  rw [flat_toList]
  cases L with
  | nil => rfl
  | cons x L =>
    have h := tail_flat (L.map fun x => x.data.toList)
    rw [List.map_map] at h
    have e : (([] : List UInt8) ++ ((x :: L).map fun x => x.data.toList ++ [32]).flatten) = (x.data.toList ++ Lib.joinTail [32] (L.map fun x => x.data.toList)) ++ [32] := by
      rw [List.append_assoc, h]
      simp [Function.comp_def]
    have e2 : (⟨#[]⟩ : ByteArray).data.toList = [] := rfl
    rw [e2, e, List.dropLast_concat, List.map_cons, Lib.join_cons]
theorem cut_last (s : ByteArray) : (if s.toList == [] then (⟨#[]⟩ : ByteArray) else s.extract 0 (s.size - 1)).data.toList = s.data.toList.dropLast := by
  have ht : s.toList = s.data.toList := Lib.toList_data s
  rw [ht]
  split
  · rename_i h
    have h0 : s.data.toList = [] := by simpa using h
    rw [h0]; rfl
  · rw [ByteArray.data_extract, Array.toList_extract, List.dropLast_eq_take, List.extract_eq_take_drop, List.drop_zero, Nat.sub_zero]
    rfl

/-- What stands behind a device's name; whether it is told. -/
def vT (rt : Nat → List UInt8) (c : Array Value) (k n : Nat) : ByteArray :=
  if k = 7 then ⟨#[61]⟩ ++ tx (itoa (word c (5 + 2 * n + 1))) ++ markT (flag c (5 + 2 * n)) ⟨#[33]⟩
  else if k = 8 then ⟨#[61]⟩ ++ tx (itoa (word c (37 + 3 * n + 2))) ++ markT (flag c (37 + 3 * n)) ⟨#[33]⟩ ++ markT (flag c (37 + 3 * n + 1)) ⟨#[43]⟩
  else if k = 9 then ⟨#[61]⟩ ++ tx (itoa (word c (85 + n)))
  else if k = 10 then ⟨#[61]⟩ ++ tx (rt (rbits c (117 + n)))
  else ⟨#[]⟩
def vP (rt : Nat → List UInt8) (c : Array Value) (k n : Nat) : Bool :=
  if k = 7 then timP c n else if k = 8 then cntP c n else if k = 9 then datP c n else if k = 10 then reaP rt c n else if k = 6 then false else mbit c k n
def nmT (k n : Nat) : ByteArray := kL k ++ tx (itoa n)
def wdT (rt : Nat → List UInt8) (c : Array Value) (k n : Nat) : ByteArray := nmT k n ++ vT rt c k n
def wordsK (rt : Nat → List UInt8) (c : Array Value) : Nat → List ByteArray
  | 0 => []
  | j + 1 => accL (wordsK rt c j) (vP rt c (j + 1)) (wdT rt c (j + 1)) (kS ((j : Int) + 1)).toNat
def optW (b : Bool) (s : ByteArray) : List ByteArray := if b then [s] else []
theorem flat_opt (L : List ByteArray) (b : Bool) (s : ByteArray) : flat (L ++ optW b s) = flat L ++ markT b (s ++ ⟨#[32]⟩) := by
  cases b with
  | true => exact flat_snoc L s
  | false => simp only [optW, markT, Bool.false_eq_true, if_false, List.append_nil, ba_nil]
def wordsAll (rt : Nat → List UInt8) (c : Array Value) : List ByteArray :=
  wordsK rt c 10 ++ optW (decide (0 < word c 133)) (⟨#[116, 105, 109, 101, 61]⟩ ++ tx (itoa (word c 133))) ++ optW (flag c 134) ⟨#[114, 97, 110]⟩ ++ optW (flag c 135) ⟨#[102, 97, 117, 108, 116]⟩

theorem vT_low {rt : Nat → List UInt8} {c : Array Value} {k n : Nat} (h : k ≤ 6) : vT rt c k n = ⟨#[]⟩ := by
  unfold vT; rw [if_neg (by omega), if_neg (by omega), if_neg (by omega), if_neg (by omega)]
theorem vP_low {rt : Nat → List UInt8} {c : Array Value} {k n : Nat} (h : k ≤ 5) : vP rt c k n = mbit c k n := by
  unfold vP; rw [if_neg (by omega), if_neg (by omega), if_neg (by omega), if_neg (by omega), if_neg (by omega)]
theorem vP_six {rt : Nat → List UInt8} {c : Array Value} {n : Nat} : vP rt c 6 n = false := rfl
theorem acc_eq {s : ByteArray} {p p' : Nat → Bool} {t t' : Nat → ByteArray} (hp : ∀ n, p n = p' n) (ht : ∀ n, t n = t' n) (n : Nat) : acc s p t n = acc s p' t' n := by
  rw [show p = p' from funext hp, show t = t' from funext ht]
theorem flat_kinds (rt : Nat → List UInt8) (c : Array Value) : ∀ j, j ≤ 5 → flat (wordsK rt c j) = kindsT c j
  | 0, _ => rfl
  | j + 1, h => by
    show flat (accL (wordsK rt c j) (vP rt c (j + 1)) (wdT rt c (j + 1)) (kS ((j : Int) + 1)).toNat) = kindsT c j ++ bitsT c ((j : Int) + 1)
    rw [flat_accL, flat_kinds rt c j (by omega), acc_front]
    unfold bitsT
    rw [acc_eq (p' := fun n => mbit c ((j : Int) + 1) n) (t' := fun n => dvT ((j : Int) + 1) n ⟨#[]⟩)]
    · intro n; exact vP_low (by omega)
    · intro n
      show nmT (j + 1) n ++ vT rt c (j + 1) n ++ ⟨#[32]⟩ = _
      rw [vT_low (by omega)]
      rfl
theorem flat_words (rt : Nat → List UInt8) (c : Array Value) : flat (wordsAll rt c) = spaced rt c := by
  have h6 : flat (wordsK rt c 6) = kindsT c 5 := by
    show flat (accL (wordsK rt c 5) (vP rt c 6) (wdT rt c 6) _) = _
    rw [flat_accL, acc_none _ _ _ (fun n => vP_six), flat_kinds rt c 5 (by omega)]
  have h7 : flat (wordsK rt c 7) = acc (kindsT c 5) (timP c) (timT c) 16 := by
    show flat (accL (wordsK rt c 6) (vP rt c 7) (wdT rt c 7) 16) = _
    rw [flat_accL, h6]
    exact acc_eq (fun n => rfl) (fun n => rfl) 16
  have h8 : flat (wordsK rt c 8) = acc (acc (kindsT c 5) (timP c) (timT c) 16) (cntP c) (cntT c) 16 := by
    show flat (accL (wordsK rt c 7) (vP rt c 8) (wdT rt c 8) 16) = _
    rw [flat_accL, h7]
    exact acc_eq (fun n => rfl) (fun n => rfl) 16
  have h9 : flat (wordsK rt c 9) = acc (acc (acc (kindsT c 5) (timP c) (timT c) 16) (cntP c) (cntT c) 16) (datP c) (datT c) 32 := by
    show flat (accL (wordsK rt c 8) (vP rt c 9) (wdT rt c 9) 32) = _
    rw [flat_accL, h8]
    exact acc_eq (fun n => rfl) (fun n => rfl) 32
  have h10 : flat (wordsK rt c 10) = acc (acc (acc (acc (kindsT c 5) (timP c) (timT c) 16) (cntP c) (cntT c) 16) (datP c) (datT c) 32) (reaP rt c) (reaT rt c) 16 := by
    show flat (accL (wordsK rt c 9) (vP rt c 10) (wdT rt c 10) 16) = _
    rw [flat_accL, h9]
    exact acc_eq (fun n => rfl) (fun n => rfl) 16
  unfold wordsAll spaced
  rw [flat_opt, flat_opt, flat_opt, h10]
  rfl
/-- A memory's text: its words with a space between. -/
theorem memT_join (rt : Nat → List UInt8) (c : Array Value) : memT rt c = ⟨(Lib.join ((wordsAll rt c).map fun x => x.data.toList) [32]).toArray⟩ := by
  rw [join_flat, flat_words]
  have := cut_last (spaced rt c)
  unfold memT
  rw [← this]
theorem accL_len (L : List ByteArray) (p : Nat → Bool) (t : Nat → ByteArray) : ∀ n, (accL L p t n).length ≤ L.length + n
  | 0 => Nat.le_refl _
  | n + 1 => by
    have := accL_len L p t n
    unfold accL
    split
    · simp; omega
    · omega
theorem wordsK_len (rt : Nat → List UInt8) (c : Array Value) : ∀ j, (wordsK rt c j).length ≤ 64 * j
  | 0 => Nat.le_refl _
  | j + 1 => by
    have h1 := wordsK_len rt c j
    have h2 := accL_len (wordsK rt c j) (vP rt c (j + 1)) (wdT rt c (j + 1)) (kS ((j : Int) + 1)).toNat
    have h3 := kS_bd ((j : Int) + 1)
    show (accL (wordsK rt c j) (vP rt c (j + 1)) (wdT rt c (j + 1)) (kS ((j : Int) + 1)).toNat).length ≤ _
    omega
theorem nmT_size (k n : Nat) (h : n ≤ 1000) : (nmT k n).size ≤ 22 := by
  have h1 := kL_small6 k
  have h2 := itoa_small6 n (by omega)
  unfold nmT; rw [ByteArray.size_append]; omega
end Go.Proofs.YtjnddfpieogpiaaGreatDoor.Rr
/- memValue of every kind; the sizes of a memory's words. -/
namespace Go.Proofs.YtjnddfpieogpiaaGreatDoor.Rr
open Go.RowKit
open Go.Lib (decDigits itoa)
set_option linter.unusedVariables false

theorem tabs_keep : ∀ W W' : World, Tabs W → Below W.heap.size W W' → Tabs W' := fun W W' h g => h.later g
theorem digits_itoa (u : Nat) : tx (decDigits u) = tx (itoa (u : Int)) := by rw [Lib.itoa_nonneg]

theorem mval_all {rt : Nat → List UInt8} (hrt : RtOk rt) (c : Array Value) (hc : MemOk c) (k n : Nat) (h1 : 1 ≤ k) (h2 : k ≤ 10) (hn : n < (kS (k : Int)).toNat) (w : World) (hT : Tabs w) :
    (vT rt c k n).size ≤ 80 ∧ Calls Tryz.prog 24 #[.agg c, .agg #[.int .i64 k, .int .i64 n, .int .i64 0]] w fun e w' => e = .returned (.tuple #[.string (vT rt c k n), .bool (vP rt c k n)]) ∧ Below w.heap.size w w' := by
  have hk : k = 1 ∨ k = 2 ∨ k = 3 ∨ k = 4 ∨ k = 5 ∨ k = 6 ∨ k = 7 ∨ k = 8 ∨ k = 9 ∨ k = 10 := by omega
  rcases hk with rfl | rfl | rfl | rfl | rfl | rfl | rfl | rfl | rfl | rfl
  · exact ⟨by rw [vT_low (by omega)]; decide, mval_1 c hc n w hT.k⟩
  · exact ⟨by rw [vT_low (by omega)]; decide, mval_2 c hc n w hT.k⟩
  · exact ⟨by rw [vT_low (by omega)]; decide, mval_3 c hc n w hT.k⟩
  · exact ⟨by rw [vT_low (by omega)]; decide, mval_4 c hc n w hT.k⟩
  · exact ⟨by rw [vT_low (by omega)]; decide, mval_5 c hc n w hT.k⟩
  · exact ⟨by rw [vT_low (by omega)]; decide, mval_6 c n w⟩
  · have hn16 : n < 16 := hn
    obtain ⟨b, m, hb, hm, hmr, hP, hTt⟩ := timer_at hc hn16
    obtain ⟨u, rfl⟩ := Int.eq_ofNat_of_zero_le hmr.1
    have e1 : word c (5 + 2 * n + 1) = (u : Int) := word_of (by rw [show 5 + 2 * n + 1 = 5 + n * 2 + 1 by omega]; exact hm)
    have e2 : flag c (5 + 2 * n) = b := flag_of (by rw [show 5 + 2 * n = 5 + n * 2 by omega]; exact hb)
    have hs := u16_text hmr
    have ev : vT rt c 7 n = ⟨#[61]⟩ ++ tx (itoa (u : Int)) ++ markT b ⟨#[33]⟩ := by
      show (⟨#[61]⟩ : ByteArray) ++ tx (itoa (word c (5 + 2 * n + 1))) ++ markT (flag c (5 + 2 * n)) ⟨#[33]⟩ = _
      rw [e1, e2]
    have ep : vP rt c 7 n = (b || decide (0 < (u : Int))) := hP
    rw [ev, ep]
    refine ⟨Nat.le_trans (eq_text _ _ (by omega) (Nat.le_trans (markT_size b ⟨#[33]⟩) (by decide))) (by omega), ?_⟩
    exact mval_7 (G := Tabs) tabs_keep c hc.size n b u hn16 hmr hb hm (tx (itoa (u : Int))) (by omega) (fun W h => by have := digits_i u (by omega) W h.p; rw [digits_itoa] at this; exact this) w hT
  · have hn16 : n < 16 := hn
    obtain ⟨b, l, m, hb, hl, hm, hmr, hP, hTt⟩ := counter_at hc hn16
    obtain ⟨u, rfl⟩ := Int.eq_ofNat_of_zero_le hmr.1
    have e1 : word c (37 + 3 * n + 2) = (u : Int) := word_of (by rw [show 37 + 3 * n + 2 = 37 + n * 3 + 2 by omega]; exact hm)
    have e2 : flag c (37 + 3 * n) = b := flag_of (by rw [show 37 + 3 * n = 37 + n * 3 by omega]; exact hb)
    have e3 : flag c (37 + 3 * n + 1) = l := flag_of (by rw [show 37 + 3 * n + 1 = 37 + n * 3 + 1 by omega]; exact hl)
    have hs := u16_text hmr
    have ev : vT rt c 8 n = ⟨#[61]⟩ ++ tx (itoa (u : Int)) ++ markT b ⟨#[33]⟩ ++ markT l ⟨#[43]⟩ := by
      show (⟨#[61]⟩ : ByteArray) ++ tx (itoa (word c (37 + 3 * n + 2))) ++ markT (flag c (37 + 3 * n)) ⟨#[33]⟩ ++ markT (flag c (37 + 3 * n + 1)) ⟨#[43]⟩ = _
      rw [e1, e2, e3]
    have ep : vP rt c 8 n = (b || l || decide (0 < (u : Int))) := hP
    rw [ev, ep]
    refine ⟨Nat.le_trans (eq_text2 _ _ _ (by omega) (Nat.le_trans (markT_size b ⟨#[33]⟩) (by decide)) (Nat.le_trans (markT_size l ⟨#[43]⟩) (by decide))) (by omega), ?_⟩
    exact mval_8 (G := Tabs) tabs_keep c hc.size n b l u hn16 hmr hb hl hm (tx (itoa (u : Int))) (by omega) (fun W h => by have := digits_i u (by omega) W h.p; rw [digits_itoa] at this; exact this) w hT
  · have hn32 : n < 32 := hn
    obtain ⟨m, hm, hmr, hP, hTt⟩ := data_at hc hn32
    have hs := i16_text hmr
    have ev : vT rt c 9 n = ⟨#[61]⟩ ++ tx (itoa m) := by
      show (⟨#[61]⟩ : ByteArray) ++ tx (itoa (word c (85 + n))) = _
      rw [word_of hm]
    have ep : vP rt c 9 n = (m != 0) := hP
    rw [ev, ep]
    refine ⟨Nat.le_trans (eq_text1 _ (by omega)) (by omega), ?_⟩
    exact mval_9 (G := Tabs) tabs_keep c n m hn32 hmr hm (tx (itoa m)) (by omega) (fun W h => itoa_t m (by omega) (by omega) W h.p) w hT
  · have hn16 : n < 16 := hn
    obtain ⟨x, hx, hxb, hP, hTt⟩ := real_at rt hc hn16
    have hs := rt_size hrt x
    have ev : vT rt c 10 n = ⟨#[61]⟩ ++ tx (rt x) := by
      show (⟨#[61]⟩ : ByteArray) ++ tx (rt (rbits c (117 + n))) = _
      rw [rbits_of hx]
    have ep : vP rt c 10 n = !((tx (rt x)).toList == [48]) := hP
    rw [ev, ep]
    refine ⟨Nat.le_trans (eq_text1 _ (by omega)) (by omega), ?_⟩
    exact mval_10 (G := Tabs) tabs_keep c hc n x hn16 hx (tx (rt x)) (by omega) (fun W h => (impl_rtext x W hxb h.p).mono fun e w' ⟨t, a, b, d⟩ => ⟨by rw [a, hrt.1 x t b], d⟩) w hT

theorem okA_dev (k n : Nat) (h1 : 1 ≤ k) (h2 : k ≤ 10) (hn : n < (kS (k : Int)).toNat) : okA k n 0 = true := by
  unfold okA
  rw [if_neg (by omega), if_neg (by omega), if_neg (by omega)]
  simp
  omega
theorem dev_all (k n : Nat) (h1 : 1 ≤ k) (h2 : k ≤ 10) (hn : n < (kS (k : Int)).toNat) (w : World) (hT : Tabs w) :
    Calls Tryz.prog 25 #[.agg #[.int .i64 k, .int .i64 n, .int .i64 0]] w fun e w' => e = .returned (.string (nmT k n)) ∧ Below w.heap.size w w' := by
  have e : txt k n 0 = nmT k n := by
    unfold txt nmT
    rw [okA_dev k n h1 h2 hn, if_pos rfl, if_neg (by omega), if_neg (by omega)]
  rw [← e]
  exact impl_text k n 0 w hT

theorem accL_mem {L : List ByteArray} {p : Nat → Bool} {t : Nat → ByteArray} {x : ByteArray} : ∀ n, x ∈ accL L p t n → x ∈ L ∨ ∃ i, i < n ∧ x = t i
  | 0, h => .inl h
  | n + 1, h => by
    unfold accL at h
    split at h
    · rcases List.mem_append.1 h with h | h
      · rcases accL_mem n h with h | ⟨i, hi, e⟩
        · exact .inl h
        · exact .inr ⟨i, by omega, e⟩
      · exact .inr ⟨n, by omega, by simpa using h⟩
    · rcases accL_mem n h with h | ⟨i, hi, e⟩
      · exact .inl h
      · exact .inr ⟨i, by omega, e⟩
theorem flat_size : ∀ (L : List ByteArray) (s : ByteArray), (∀ x ∈ L, x.size ≤ 200) → (L.foldl (fun s x => s ++ (x ++ ⟨#[32]⟩)) s).size ≤ s.size + 201 * L.length
  | [], s, _ => by simp
  | x :: L, s, h => by
    have h1 := flat_size L (s ++ (x ++ ⟨#[32]⟩)) (fun y hy => h y (List.mem_cons_of_mem _ hy))
    have h2 := h x (List.mem_cons_self ..)
    have h3 : (⟨#[32]⟩ : ByteArray).size = 1 := rfl
    rw [List.foldl_cons]
    rw [ByteArray.size_append, ByteArray.size_append, h3] at h1
    simp only [List.length_cons]
    omega
theorem optW_mem {b : Bool} {s x : ByteArray} (h : x ∈ optW b s) : x = s := by
  unfold optW at h
  split at h
  · simpa using h
  · simp at h
theorem words_small {rt : Nat → List UInt8} {c : Array Value} (hv : ∀ k n : Nat, 1 ≤ k → k ≤ 10 → n < (kS (k : Int)).toNat → (vT rt c k n).size ≤ 80) : ∀ j, j ≤ 10 → ∀ x ∈ wordsK rt c j, x.size ≤ 200
  | 0, _, x, h => by simp [wordsK] at h
  | j + 1, hj, x, h => by
    rcases accL_mem _ h with h | ⟨i, hi, rfl⟩
    · exact words_small hv j (by omega) x h
    · have hb := kS_bd ((j : Int) + 1)
      have h1 := nmT_size (j + 1) i (by omega)
      have h2 := hv (j + 1) i (by omega) hj hi
      unfold wdT; rw [ByteArray.size_append]; omega
theorem wordsAll_len (rt : Nat → List UInt8) (c : Array Value) : (wordsAll rt c).length ≤ 643 := by
  have h := wordsK_len rt c 10
  have o : ∀ b s, (optW b s).length ≤ 1 := fun b s => by unfold optW; split <;> simp
  unfold wordsAll
  simp only [List.length_append]
  have h1 := o (decide (0 < word c 133)) (⟨#[116, 105, 109, 101, 61]⟩ ++ tx (itoa (word c 133)))
  have h2 := o (flag c 134) ⟨#[114, 97, 110]⟩
  have h3 := o (flag c 135) ⟨#[102, 97, 117, 108, 116]⟩
  omega
end Go.Proofs.YtjnddfpieogpiaaGreatDoor.Rr
/- MemText of the program. -/
namespace Go.Proofs.YtjnddfpieogpiaaGreatDoor.Rr
open Go.RowKit Go.Shelf
open Go.Lib (decDigits itoa)
set_option linter.unusedVariables false

theorem owns_later {W W' : World} {base : Nat} {e : TypeId} {size : Nat} {v : Value} {n : Nat} {xs : List Value} (h : W.ownsRow base e size v n xs) (g : Below W.heap.size W W') : W'.ownsRow base e size v n xs := by
  obtain ⟨h1, h2 | ⟨g', cap, cur, hv, hb, hh, h3, h4, h5, h6⟩⟩ := h
  · exact ⟨h1, .inl h2⟩
  · exact ⟨h1, .inr ⟨g', cap, cur, hv, hb, (g.block _ (Array.getElem?_eq_some_iff.1 hh).1).trans hh, h3, h4, h5, h6⟩⟩
theorem owns_cap {W : World} {base : Nat} {e : TypeId} {size g n cap : Nat} {xs : List Value} (h : W.ownsRow base e size (.slice (some ⟨g, 0, none⟩) n cap) n xs) : n ≤ cap := by
  obtain ⟨_, ⟨h, _⟩ | ⟨g', cap', cur, hv, _, _, h3, _⟩⟩ := h
  · cases h
  · simp only [Value.slice.injEq] at hv; omega
theorem new_one (W : World) (v : Value) : ∀ (q : Nat) (u : Value), [v][q]? = some u → (W.alloc (.cells #[v] 9)).cell? ((⟨W.heap.size, 0, none⟩ : Addr).add q) = some u := by
  intro q u h
  have hq : q = 0 := by have := (List.getElem?_eq_some_iff.1 h).1; simpa using this
  subst hq
  simp at h
  subst h
  simp [Addr.add]
theorem optW_len (b : Bool) (s : ByteArray) : (optW b s).length ≤ 1 := by unfold optW; split <;> simp
def strs (L : List ByteArray) : List Value := L.map Value.string
/-- The words gathered: a row of strings of one's own. -/
def Words (W : World) (base g cap : Nat) (L : List ByteArray) : Prop := W.ownsRow base 9 1 (.slice (some ⟨g, 0, none⟩) L.length cap) L.length (strs L)
theorem Words.later {W W' : World} {base g cap : Nat} {L : List ByteArray} (h : Words W base g cap L) (b : Below W.heap.size W W') : Words W' base g cap L := owns_later h b

set_option maxRecDepth 10000 in
set_option maxHeartbeats 20000000 in
theorem text_inner (c : Array Value) (hc : MemOk c) (V NM : Nat → Nat → ByteArray) (Pd : Nat → Nat → Bool) (WD : Nat → List ByteArray) (TM : ByteArray) (RES : ByteArray) (w : World) (hT : Tabs w)
    (tm : Nat) (ran fault : Bool) (htm : c[133]? = some (.int .u32 tm)) (hran : c[134]? = some (.bool ran)) (hfault : c[135]? = some (.bool fault)) (htm32 : tm < 4294967296)
    (HV : Hid (∀ k n : Nat, 1 ≤ k → k ≤ 10 → n < (kS (k : Int)).toNat → ∀ W, Tabs W → Calls Tryz.prog 24 #[.agg c, .agg #[.int .i64 k, .int .i64 n, .int .i64 0]] W fun e w' => e = .returned (.tuple #[.string (V k n), .bool (Pd k n)]) ∧ Below W.heap.size W w'))
    (HD : Hid (∀ k n : Nat, 1 ≤ k → k ≤ 10 → n < (kS (k : Int)).toNat → ∀ W, Tabs W → Calls Tryz.prog 25 #[.agg #[.int .i64 k, .int .i64 n, .int .i64 0]] W fun e w' => e = .returned (.string (NM k n)) ∧ Below W.heap.size W w'))
    (HZ : Hid (∀ k n : Nat, 1 ≤ k → k ≤ 10 → n < (kS (k : Int)).toNat → (NM k n).size + (V k n).size ≤ 200))
    (HW0 : Hid (WD 0 = []))
    (HWs : Hid (∀ j, WD (j + 1) = accL (WD j) (Pd (j + 1)) (fun n => NM (j + 1) n ++ V (j + 1) n) (kS ((j : Int) + 1)).toNat))
    (HWl : Hid (∀ j, j ≤ 10 → (WD j).length ≤ 64 * j))
    (HTm : Hid (∀ W, Tabs W → Calls Tryz.prog 26 #[.int .u32 tm] W fun e w' => e = .returned (.string TM) ∧ Below W.heap.size W w')) (hTM : TM.size ≤ 100)
    (HJ : Hid (∀ W g cap base, Words W base g cap (WD 10 ++ optW (decide (0 < (tm : Int))) (⟨#[116, 105, 109, 101, 61]⟩ ++ TM) ++ optW ran ⟨#[114, 97, 110]⟩ ++ optW fault ⟨#[102, 97, 117, 108, 116]⟩) → Calls Tryz.prog 27 #[.slice (some ⟨g, 0, none⟩) (WD 10 ++ optW (decide (0 < (tm : Int))) (⟨#[116, 105, 109, 101, 61]⟩ ++ TM) ++ optW ran ⟨#[114, 97, 110]⟩ ++ optW fault ⟨#[102, 97, 117, 108, 116]⟩).length cap, .string ⟨#[32]⟩] W fun e w' => e = .returned (.string RES) ∧ Below W.heap.size W w')) :
    Calls Tryz.prog 7 #[.agg c] w fun e w' => e = .returned (.string RES) ∧ Below w.heap.size w w' := by
  have hinfo : (Tryz.prog.info? 9).map (fun i => (i.zero, i.size, i.bytes)) = some (some (.string ⟨#[]⟩), 1, 16) := by kernel_rfl
  obtain ⟨i0, hi, hzz⟩ := Option.map_eq_some_iff.1 hinfo
  simp only [Prod.mk.injEq] at hzz
  obtain ⟨hz0, hz1, hz2⟩ := hzz
  have HI : Hid (Tryz.prog.info? 9 = some i0 ∧ i0.zero = some (.string ⟨#[]⟩) ∧ i0.size = 1 ∧ i0.bytes = 16) := ⟨hi, hz0, hz1, hz2⟩
  have HIm : Hid ((Tryz.prog.info? 37).map (·.size) = some c.size) := by rw [hc.size]; exact zero_mem.2
  have HTb : Hid (Tabs w) := hT
  have HCt : Hid (c[133]? = some (.int .u32 tm) ∧ c[134]? = some (.bool ran) ∧ c[135]? = some (.bool fault) ∧ tm < 4294967296) := ⟨htm, hran, hfault, htm32⟩
  have HSz : Hid (∀ k W, Tabs W → Calls Tryz.prog 23 #[.int .i64 k] W fun e w' => e = .returned (.int .i64 (kS k)) ∧ Below W.heap.size W w') := fun k W h => impl_size k W h.k
  clear hi hz0 hz1 hz2 hinfo hT htm hran hfault htm32 hc
  go_enter Tryz.func7, Tryz.ntmps7
  go_wp2_with fail
  go_loopg [3, 4] 10 (fun g s i wr => ∃ (j gb cap : Nat), j + g = 10 ∧ i = .int .i64 ((j : Int) + 1) ∧ s = .slice (some ⟨gb, 0, none⟩) (WD j).length cap ∧ Words wr (w.heap.size + 1) gb cap (WD j) ∧ Below w.heap.size w wr ∧ wr.heap[w.heap.size]? = some (.cells c 37 (0, 0)))
  case atStart =>
    refine ⟨0, w.heap.size + 1, 0, by omega, rfl, by rw [HW0.out]; rfl, ?_, ((Below.refl _ _).alloc (Nat.le_refl _) _).alloc (by simp) _, (rows2 w _ _).1⟩
    rw [HW0.out]
    have := World.ownsRow_made (base := w.heap.size + 1) (e := 9) (size := 1) (w.alloc (.cells c 37)) #[] 0 (by simp) (by unfold maxLen; omega) rfl
    simpa [Words, strs] using this
  case round =>
    obtain ⟨j, gb, cap, hj, rfl, rfl, hW, hb, h1⟩ := hrel

    obtain ⟨go, hgo⟩ : ∃ go, go = gk := ⟨_, rfl⟩
    by_cases hlt : j < 10
    · have i1 : (j : Int) + 1 ≤ 10 := by omega
      have HWj : Hid (Words wr (w.heap.size + 1) gb cap (WD j)) := hW
      have HB : Hid (Below w.heap.size w wr) := hb
      have H1 : Hid (wr.heap[w.heap.size]? = some (.cells c 37 (0, 0))) := h1
      have hlen := HWl.out j (by omega)
      clear hb h1 hW
      go_wp2_with fail
      refine (HSz.out _ _ (HTb.out.later HB.out)).mono ?_
      rintro e w1 ⟨rfl, g1⟩
      have HW1 : Hid (Words w1 (w.heap.size + 1) gb cap (WD j)) := HWj.out.later g1
      have HB1 : Hid (Below w.heap.size w w1) := HB.out.trans (g1.mono HB.out.size)
      have H11 : Hid (w1.heap[w.heap.size]? = some (.cells c 37 (0, 0))) := (g1.block _ (Array.getElem?_eq_some_iff.1 H1.out).1).trans H1.out
      have hzb := kS_bd ((j : Int) + 1)
      obtain ⟨z, hz⟩ := Int.eq_ofNat_of_zero_le hzb.1
      have HZz : Hid (z = (kS ((j : Int) + 1)).toNat) := (by rw [hz]; rfl : z = (kS ((j : Int) + 1)).toNat)
      have hz64 : z ≤ 64 := by omega
      rw [hz]
      clear hz hzb g1 HWj HB H1
      go_wp2_with fail
      go_loopg [3, 16] z (fun g s i wr => ∃ (n gb cap : Nat) (L : List ByteArray), n + g = z ∧ i = .int .i64 n ∧ s = .slice (some ⟨gb, 0, none⟩) L.length cap ∧ Hid (Words wr (w.heap.size + 1) gb cap L) ∧ Hid (L = accL (WD j) (Pd (j + 1)) (fun n => NM (j + 1) n ++ V (j + 1) n) n) ∧ L.length ≤ 64 * j + n ∧ Hid (Below w.heap.size w wr) ∧ Hid (wr.heap[w.heap.size]? = some (.cells c 37 (0, 0))))
      case atStart => exact ⟨0, gb, cap, WD j, by omega, rfl, rfl, HW1, rfl, by omega, HB1, H11⟩
      case round =>
        obtain ⟨n, gb, cap, L, hn, rfl, rfl, HW, HL, hLl, HB, H1⟩ := hrel
        by_cases hlz : n < z
        · have i2 : (n : Int) < (z : Int) := by omega
          have hnz : n < (kS (((j + 1 : Nat)) : Int)).toNat := by have := HZz.out; rw [show ((j + 1 : Nat) : Int) = (j : Int) + 1 by omega]; omega
          have HVx : Hid (∀ W, Tabs W → Calls Tryz.prog 24 #[.agg c, .agg #[.int .i64 ((j : Int) + 1), .int .i64 n, .int .i64 0]] W fun e w' => e = .returned (.tuple #[.string (V (j + 1) n), .bool (Pd (j + 1) n)]) ∧ Below W.heap.size W w') := fun W h => HV.out (j + 1) n (by omega) (by omega) hnz W h
          have HDx : Hid (∀ W, Tabs W → Calls Tryz.prog 25 #[.agg #[.int .i64 ((j : Int) + 1), .int .i64 n, .int .i64 0]] W fun e w' => e = .returned (.string (NM (j + 1) n)) ∧ Below W.heap.size W w') := fun W h => HD.out (j + 1) n (by omega) (by omega) hnz W h
          have hzs := HZ.out (j + 1) n (by omega) (by omega) hnz
          have HLs : Hid (Pd (j + 1) n = true → L ++ [NM (j + 1) n ++ V (j + 1) n] = accL (WD j) (Pd (j + 1)) (fun n => NM (j + 1) n ++ V (j + 1) n) (n + 1)) := fun h => by rw [accL_yes h, ← HL.out]
          have HLn : Hid (Pd (j + 1) n = false → L = accL (WD j) (Pd (j + 1)) (fun n => NM (j + 1) n ++ V (j + 1) n) (n + 1)) := fun h => by rw [accL_no h, ← HL.out]
          generalize V (j + 1) n = vv at HVx hzs HLs HLn
          generalize NM (j + 1) n = nn at HDx hzs HLs HLn
          generalize Pd (j + 1) n = pp at HVx HLs HLn
          have z1 : ¬ 9223372036854775807 < nn.size + vv.size := by omega
          have HLd : Hid ((loadVar 37 ⟨w.heap.size, 0, none⟩).run Tryz.prog (wr.alloc (.cells #[.int .i64 ((j : Int) + 1), .int .i64 n, .int .i64 0] 54)) = .ok (.agg c) (wr.alloc (.cells #[.int .i64 ((j : Int) + 1), .int .i64 n, .int .i64 0] 54))) := load_all ((((Below.refl wr.heap.size wr).alloc (Nat.le_refl _) _).block _ (Array.getElem?_eq_some_iff.1 H1.out).1).trans H1.out) _ _ Tryz.underlying37 rfl HIm.out
          have bA : Below w.heap.size w (wr.alloc (.cells #[.int .i64 ((j : Int) + 1), .int .i64 n, .int .i64 0] 54)) := HB.out.alloc HB.out.size _
          have hA := heap_alloc_last wr (.cells #[.int .i64 ((j : Int) + 1), .int .i64 n, .int .i64 0] 54)
          have hA1 := (((Below.refl wr.heap.size wr).alloc (Nat.le_refl _) (.cells #[.int .i64 ((j : Int) + 1), .int .i64 n, .int .i64 0] 54)).block _ (Array.getElem?_eq_some_iff.1 H1.out).1).trans H1.out
          have hWA : Words (wr.alloc (.cells #[.int .i64 ((j : Int) + 1), .int .i64 n, .int .i64 0] 54)) (w.heap.size + 1) gb cap L := HW.out.later ((Below.refl _ _).alloc (Nat.le_refl _) _)
          have szA : (wr.alloc (.cells #[.int .i64 ((j : Int) + 1), .int .i64 n, .int .i64 0] 54)).heap.size = wr.heap.size + 1 := by simp
          have HAA : Hid (Below w.heap.size w (wr.alloc (.cells #[.int .i64 ((j : Int) + 1), .int .i64 n, .int .i64 0] 54)) ∧ (wr.alloc (.cells #[.int .i64 ((j : Int) + 1), .int .i64 n, .int .i64 0] 54)).heap[wr.heap.size]? = some (.cells #[.int .i64 ((j : Int) + 1), .int .i64 n, .int .i64 0] 54 (0, 0)) ∧ (wr.alloc (.cells #[.int .i64 ((j : Int) + 1), .int .i64 n, .int .i64 0] 54)).heap[w.heap.size]? = some (.cells c 37 (0, 0)) ∧ Words (wr.alloc (.cells #[.int .i64 ((j : Int) + 1), .int .i64 n, .int .i64 0] 54)) (w.heap.size + 1) gb cap L ∧ (wr.alloc (.cells #[.int .i64 ((j : Int) + 1), .int .i64 n, .int .i64 0] 54)).heap.size = wr.heap.size + 1) := ⟨bA, hA, hA1, hWA, szA⟩
          clear bA hA hA1 hWA szA hzs hnz HW HB H1 HL
          go_wp2_with (first | (refine wpL_load rfl 37 _ rfl _ _ rfl _ HLd.out ?_) | fail)
          refine (HVx.out _ (HTb.out.later HAA.out.1)).mono ?_
          rintro e w2 ⟨rfl, g2⟩
          obtain ⟨bA, hA, hA1, hWA, szA⟩ := HAA.out
          have h2 := (g2.block _ (by omega)).trans hA
          have HB2 : Hid (Below w.heap.size w w2) := bA.trans (g2.mono bA.size)
          have H12 : Hid (w2.heap[w.heap.size]? = some (.cells c 37 (0, 0))) := (g2.block _ (Array.getElem?_eq_some_iff.1 hA1).1).trans hA1
          have HW2 : Hid (Words w2 (w.heap.size + 1) gb cap L) := hWA.later g2
          have d0 : w2.cell? ⟨wr.heap.size, 0, none⟩ = some (.int .i64 ((j : Int) + 1)) := (cell_of_row _ _ _ _ _ _ h2).trans rfl
          have d1 : w2.cell? ⟨wr.heap.size, 1, none⟩ = some (.int .i64 n) := (cell_of_row _ _ _ _ _ _ h2).trans rfl
          have d2 : w2.cell? ⟨wr.heap.size, 2, none⟩ = some (.int .i64 0) := (cell_of_row _ _ _ _ _ _ h2).trans rfl
          clear bA hA hA1 hWA szA g2 h2 HAA HLd HVx
          cases pp with
          | true =>
            go_wp2_with fail
            refine (HDx.out _ (HTb.out.later HB2.out)).mono ?_
            rintro e w3 ⟨rfl, g3⟩
            have HB3 : Hid (Below w.heap.size w w3) := HB2.out.trans (g3.mono HB2.out.size)
            have H13 : Hid (w3.heap[w.heap.size]? = some (.cells c 37 (0, 0))) := (g3.block _ (Array.getElem?_eq_some_iff.1 H12.out).1).trans H12.out
            have HW3 : Hid (Words w3 (w.heap.size + 1) gb cap L) := HW2.out.later g3
            clear g3 d0 d1 d2 HDx
            have own3 : (w3.alloc (.cells #[.string (nn ++ vv)] 9)).ownsRow (w.heap.size + 1) 9 1 (.slice (some ⟨gb, 0, none⟩) L.length cap) L.length (strs L) := World.ownsRow.alloc HW3.out _
            have news3 : ∀ (q : Nat) (u : Value), [Value.string (nn ++ vv)][q]? = some u → (w3.alloc (.cells #[.string (nn ++ vv)] 9)).cell? ((⟨w3.heap.size, 0, none⟩ : Addr).add q) = some u := new_one w3 _
            go_wp2_with (first | (at_builtin; refine wpList_append_lies _ rfl _ _ 61 rfl (w.heap.size + 1) 9 i0 (.string ⟨#[]⟩) 1 16 Tryz.underlying61 HI.out.1 HI.out.2.1 HI.out.2.2.1 HI.out.2.2.2 rfl (by decide) _ (L).length (strs (L)) rfl own3 ⟨w3.heap.size, 0, none⟩ 1 1 [.string (nn ++ vv)] rfl rfl news3 (by intro u hu; simp at hu; rw [hu]; rfl) (by omega) ?c3 ?c4 ?c5 _ rfl ?_) | fail)
            case c3 => unfold maxLen; omega
            case c4 => omega
            case c5 => have := HB3.out.size; have := (Array.getElem?_eq_some_iff.1 H13.out).1; simp; omega
            intro g cap1 w4 own4 g4 hat hlt4
            have hgb : w.heap.size + 1 ≤ gb := (own3.lt gb rfl).1
            have B4 : Below w.heap.size w w4 := (HB3.out.alloc HB3.out.size _).grown g4 (by have := HB3.out.size; simp; omega) (fun k hk => by simp [Value.ownBlock] at hk; omega)
            have B4' : Below (w.heap.size + 1) (w3.alloc (.cells #[.string (nn ++ vv)] 9)) w4 := (Below.refl _ _).grown g4 (by have := (Array.getElem?_eq_some_iff.1 H13.out).1; simp; omega) (fun k hk => by simp [Value.ownBlock] at hk; omega)
            have h14 : w4.heap[w.heap.size]? = some (.cells c 37 (0, 0)) := (B4'.block _ (by omega)).trans ((((Below.refl w3.heap.size w3).alloc (Nat.le_refl _) _).block _ (Array.getElem?_eq_some_iff.1 H13.out).1).trans H13.out)
            have HW4 : Hid (Words w4 (w.heap.size + 1) g cap1 (L ++ [nn ++ vv])) := by
              show World.ownsRow _ _ _ _ _ _ _
              simpa [strs] using own4
            have HB4 : Hid (Below w.heap.size w w4) := B4
            have H14 : Hid (w4.heap[w.heap.size]? = some (.cells c 37 (0, 0))) := h14
            clear own3 news3 own4 g4 hat hlt4 B4 B4' h14 HB3 H13 HW3 HB2 H12 HW2
            go_wp2
            go_roundg (gk - 1)
            case measure => omega
            case rel => exact ⟨n + 1, g, cap1, L ++ [nn ++ vv], by omega, by simp, by simp, HW4, HLs.out (by simp), by simp; omega, HB4, H14⟩
          | false =>
            clear d0 d1 d2 HDx
            go_wp2
            go_roundg (gk - 1)
            case measure => omega
            case rel => exact ⟨n + 1, gb, cap, L, by omega, by simp, rfl, HW2, HLn.out (by simp), by omega, HB2, H12⟩
        · have i2 : ¬ ((n : Int) < (z : Int)) := by omega
          have hnz : n = z := by omega
          have HLL : Hid (L = WD (j + 1)) := (by rw [HWs.out, HL.out, ← HZz.out, hnz] : L = WD (j + 1))
          go_wp2
          go_roundg (go - 1)
          case measure => omega
          case rel => exact ⟨j + 1, gb, cap, by omega, by simp, by rw [HLL.out], by rw [← HLL.out]; exact HW.out, HB.out, H1.out⟩
    · have hj10 : j = 10 := by omega
      subst hj10
      rw [show (((10 : Nat) : Int) + 1) = 11 from rfl]
      have i1 : ¬ (11 : Int) ≤ 10 := by omega
      have hl10 := HWl.out 10 (by omega)
      have HB : Hid (Below w.heap.size w wr) := hb
      have HW : Hid (Words wr (w.heap.size + 1) gb cap (WD 10)) := hW
      have H1 : Hid (wr.heap[w.heap.size]? = some (.cells c 37 (0, 0))) := h1
      obtain ⟨L0, HL0⟩ : ∃ L, Hid (L = WD 10) := ⟨_, rfl⟩
      rw [← HL0.out] at HW HJ hl10 ⊢
      clear hb hW h1 HL0 HWs HWl HV HD HZ HW0 hlt hj
      have hl0 : L0.length ≤ 640 := hl10
      obtain ⟨L1, HLL1⟩ : ∃ l : List ByteArray, Hid (l = L0 ++ optW (decide (0 < (tm : Int))) (⟨#[116, 105, 109, 101, 61]⟩ ++ TM)) := ⟨_, rfl⟩
      have cc : wr.cell? ⟨w.heap.size, 133, none⟩ = some (.int .u32 tm) := (cell_of_row _ _ _ _ _ _ H1.out).trans HCt.out.1
      go_upto_if 39 with fail
      go_cut [3] from 39 (fun s wc => ∃ gb cap : Nat, s = .slice (some ⟨gb, 0, none⟩) (L1).length cap ∧ Hid (Words wc (w.heap.size + 1) gb cap L1) ∧ Hid (Below w.heap.size w wc) ∧ Hid (wc.heap[w.heap.size]? = some (.cells c 37 (0, 0))))
      case first =>
        by_cases ht : tm = 0
        · have e0 : decide (0 < (tm : Int)) = false := by simp; omega
          have n0 : ((tm : Int) == 0) = true := by simp; omega
          have n1 : ((tm : Int) != 0) = false := by simp; omega
          have hN : L1 = L0 := by rw [HLL1.out, e0]; simp [optW]
          clear cc ht
          go_wp2
          go_meet
          case rel => exact ⟨gb, cap, by rw [hN], by rw [hN]; exact HW, HB, H1⟩
        · have e0 : decide (0 < (tm : Int)) = true := by simp; omega
          have n0 : ((tm : Int) == 0) = false := by simp; omega
          have n1 : ((tm : Int) != 0) = true := by simp; omega
          have HN : Hid (L1 = L0 ++ [⟨#[116, 105, 109, 101, 61]⟩ ++ TM]) := (by rw [HLL1.out, e0]; simp [optW] : L1 = L0 ++ [⟨#[116, 105, 109, 101, 61]⟩ ++ TM])
          have z1 : ¬ 9223372036854775807 < 5 + TM.size := by omega
          go_wp2_with fail
          refine (HTm.out _ (HTb.out.later HB.out)).mono ?_
          rintro e wu ⟨rfl, gu⟩
          have HBu : Hid (Below w.heap.size w wu) := HB.out.trans (gu.mono HB.out.size)
          have H1u : Hid (wu.heap[w.heap.size]? = some (.cells c 37 (0, 0))) := (gu.block _ (Array.getElem?_eq_some_iff.1 H1.out).1).trans H1.out
          have HWu : Hid (Words wu (w.heap.size + 1) gb cap L0) := HW.out.later gu
          clear gu
          clear cc ht
          have ownx : (wu.alloc (.cells #[.string (⟨#[116, 105, 109, 101, 61]⟩ ++ TM)] 9)).ownsRow (w.heap.size + 1) 9 1 (.slice (some ⟨gb, 0, none⟩) L0.length cap) L0.length (strs L0) := World.ownsRow.alloc HWu.out _
          have newsx : ∀ (q : Nat) (u : Value), [Value.string (⟨#[116, 105, 109, 101, 61]⟩ ++ TM)][q]? = some u → (wu.alloc (.cells #[.string (⟨#[116, 105, 109, 101, 61]⟩ ++ TM)] 9)).cell? ((⟨wu.heap.size, 0, none⟩ : Addr).add q) = some u := new_one wu _
          go_wp2_with (first | (at_builtin; refine wpList_append_lies _ rfl _ _ 61 rfl (w.heap.size + 1) 9 i0 (.string ⟨#[]⟩) 1 16 Tryz.underlying61 HI.out.1 HI.out.2.1 HI.out.2.2.1 HI.out.2.2.2 rfl (by decide) _ (L0).length (strs (L0)) rfl ownx ⟨wu.heap.size, 0, none⟩ 1 1 [.string (⟨#[116, 105, 109, 101, 61]⟩ ++ TM)] rfl rfl newsx (by intro u hu; simp at hu; rw [hu]; rfl) (by omega) ?c3 ?c4 ?c5 _ rfl ?_) | fail)
          case c3 => unfold maxLen; omega
          case c4 => omega
          case c5 => have := HBu.out.size; have := (Array.getElem?_eq_some_iff.1 H1u.out).1; simp; omega
          intro gx capx wx owx ggx hatx hltx
          have hgbx : w.heap.size + 1 ≤ gb := (ownx.lt gb rfl).1
          have HBx : Hid (Below w.heap.size w wx) := (HBu.out.alloc HBu.out.size _).grown ggx (by have := HBu.out.size; simp; omega) (fun k hk => by simp [Value.ownBlock] at hk; omega)
          have B4x : Below (w.heap.size + 1) (wu.alloc (.cells #[.string (⟨#[116, 105, 109, 101, 61]⟩ ++ TM)] 9)) wx := (Below.refl _ _).grown ggx (by have := (Array.getElem?_eq_some_iff.1 H1u.out).1; simp; omega) (fun k hk => by simp [Value.ownBlock] at hk; omega)
          have H1x : Hid (wx.heap[w.heap.size]? = some (.cells c 37 (0, 0))) := (B4x.block _ (by omega)).trans ((((Below.refl wu.heap.size wu).alloc (Nat.le_refl _) _).block _ (Array.getElem?_eq_some_iff.1 H1u.out).1).trans H1u.out)
          have HWx : Hid (Words wx (w.heap.size + 1) gx capx (L0 ++ [⟨#[116, 105, 109, 101, 61]⟩ ++ TM])) := by
            show World.ownsRow _ _ _ _ _ _ _
            simpa [strs] using owx
          clear ownx newsx owx ggx hatx hltx B4x
          go_wp2
          go_meet
          case rel => exact ⟨gx, capx, by rw [HN.out]; simp, by rw [HN.out]; exact HWx, HBx, H1x⟩
      case rest =>
        clear cc HW HB H1
        obtain ⟨gb, cap, rfl, HW, HB, H1⟩ := hcut
        have hl1 : L1.length ≤ 641 := by rw [HLL1.out]; have := optW_len (decide (0 < (tm : Int))) (⟨#[116, 105, 109, 101, 61]⟩ ++ TM); simp only [List.length_append]; omega
        obtain ⟨L2, HLL2⟩ : ∃ l : List ByteArray, Hid (l = L1 ++ optW (ran) (⟨#[114, 97, 110]⟩)) := ⟨_, rfl⟩
        have cc : wc.cell? ⟨w.heap.size, 134, none⟩ = some (.bool ran) := (cell_of_row _ _ _ _ _ _ H1.out).trans HCt.out.2.1
        go_upto_if 48 with fail
        go_cut [3] from 48 (fun s wc => ∃ gb cap : Nat, s = .slice (some ⟨gb, 0, none⟩) (L2).length cap ∧ Hid (Words wc (w.heap.size + 1) gb cap L2) ∧ Hid (Below w.heap.size w wc) ∧ Hid (wc.heap[w.heap.size]? = some (.cells c 37 (0, 0))))
        case first =>
          cases hc1 : ran with
          | false =>
            rw [hc1] at cc
            have hN : L2 = L1 := by rw [HLL2.out, hc1]; simp [optW]
            clear cc
            go_wp2
            go_meet
            case rel => exact ⟨gb, cap, by rw [hN], by rw [hN]; exact HW, HB, H1⟩
          | true =>
            rw [hc1] at cc
            have HN : Hid (L2 = L1 ++ [⟨#[114, 97, 110]⟩]) := (by rw [HLL2.out, hc1]; simp [optW] : L2 = L1 ++ [⟨#[114, 97, 110]⟩])
            clear cc
            have ownx : (wc.alloc (.cells #[.string (⟨#[114, 97, 110]⟩)] 9)).ownsRow (w.heap.size + 1) 9 1 (.slice (some ⟨gb, 0, none⟩) L1.length cap) L1.length (strs L1) := World.ownsRow.alloc HW.out _
            have newsx : ∀ (q : Nat) (u : Value), [Value.string (⟨#[114, 97, 110]⟩)][q]? = some u → (wc.alloc (.cells #[.string (⟨#[114, 97, 110]⟩)] 9)).cell? ((⟨wc.heap.size, 0, none⟩ : Addr).add q) = some u := new_one wc _
            go_wp2_with (first | (at_builtin; refine wpList_append_lies _ rfl _ _ 61 rfl (w.heap.size + 1) 9 i0 (.string ⟨#[]⟩) 1 16 Tryz.underlying61 HI.out.1 HI.out.2.1 HI.out.2.2.1 HI.out.2.2.2 rfl (by decide) _ (L1).length (strs (L1)) rfl ownx ⟨wc.heap.size, 0, none⟩ 1 1 [.string (⟨#[114, 97, 110]⟩)] rfl rfl newsx (by intro u hu; simp at hu; rw [hu]; rfl) (by omega) ?c3 ?c4 ?c5 _ rfl ?_) | fail)
            case c3 => unfold maxLen; omega
            case c4 => omega
            case c5 => have := HB.out.size; have := (Array.getElem?_eq_some_iff.1 H1.out).1; simp; omega
            intro gx capx wx owx ggx hatx hltx
            have hgbx : w.heap.size + 1 ≤ gb := (ownx.lt gb rfl).1
            have HBx : Hid (Below w.heap.size w wx) := (HB.out.alloc HB.out.size _).grown ggx (by have := HB.out.size; simp; omega) (fun k hk => by simp [Value.ownBlock] at hk; omega)
            have B4x : Below (w.heap.size + 1) (wc.alloc (.cells #[.string (⟨#[114, 97, 110]⟩)] 9)) wx := (Below.refl _ _).grown ggx (by have := (Array.getElem?_eq_some_iff.1 H1.out).1; simp; omega) (fun k hk => by simp [Value.ownBlock] at hk; omega)
            have H1x : Hid (wx.heap[w.heap.size]? = some (.cells c 37 (0, 0))) := (B4x.block _ (by omega)).trans ((((Below.refl wc.heap.size wc).alloc (Nat.le_refl _) _).block _ (Array.getElem?_eq_some_iff.1 H1.out).1).trans H1.out)
            have HWx : Hid (Words wx (w.heap.size + 1) gx capx (L1 ++ [⟨#[114, 97, 110]⟩])) := by
              show World.ownsRow _ _ _ _ _ _ _
              simpa [strs] using owx
            clear ownx newsx owx ggx hatx hltx B4x
            go_wp2
            go_meet
            case rel => exact ⟨gx, capx, by rw [HN.out]; simp, by rw [HN.out]; exact HWx, HBx, H1x⟩
        case rest =>
          clear cc HW HB H1
          obtain ⟨gb, cap, rfl, HW, HB, H1⟩ := hcut
          have hl2 : L2.length ≤ 642 := by rw [HLL2.out]; have := optW_len (ran) (⟨#[114, 97, 110]⟩); simp only [List.length_append]; omega
          obtain ⟨L3, HLL3⟩ : ∃ l : List ByteArray, Hid (l = L2 ++ optW (fault) (⟨#[102, 97, 117, 108, 116]⟩)) := ⟨_, rfl⟩
          have cc : wc.cell? ⟨w.heap.size, 135, none⟩ = some (.bool fault) := (cell_of_row _ _ _ _ _ _ H1.out).trans HCt.out.2.2.1
          go_upto_if 53 with fail
          go_cut [3] from 53 (fun s wc => ∃ gb cap : Nat, s = .slice (some ⟨gb, 0, none⟩) (L3).length cap ∧ Hid (Words wc (w.heap.size + 1) gb cap L3) ∧ Hid (Below w.heap.size w wc) ∧ Hid (wc.heap[w.heap.size]? = some (.cells c 37 (0, 0))))
          case first =>
            cases hc2 : fault with
            | false =>
              rw [hc2] at cc
              have hN : L3 = L2 := by rw [HLL3.out, hc2]; simp [optW]
              clear cc
              go_wp2
              go_meet
              case rel => exact ⟨gb, cap, by rw [hN], by rw [hN]; exact HW, HB, H1⟩
            | true =>
              rw [hc2] at cc
              have HN : Hid (L3 = L2 ++ [⟨#[102, 97, 117, 108, 116]⟩]) := (by rw [HLL3.out, hc2]; simp [optW] : L3 = L2 ++ [⟨#[102, 97, 117, 108, 116]⟩])
              clear cc
              have ownx : (wc.alloc (.cells #[.string (⟨#[102, 97, 117, 108, 116]⟩)] 9)).ownsRow (w.heap.size + 1) 9 1 (.slice (some ⟨gb, 0, none⟩) L2.length cap) L2.length (strs L2) := World.ownsRow.alloc HW.out _
              have newsx : ∀ (q : Nat) (u : Value), [Value.string (⟨#[102, 97, 117, 108, 116]⟩)][q]? = some u → (wc.alloc (.cells #[.string (⟨#[102, 97, 117, 108, 116]⟩)] 9)).cell? ((⟨wc.heap.size, 0, none⟩ : Addr).add q) = some u := new_one wc _
              go_wp2_with (first | (at_builtin; refine wpList_append_lies _ rfl _ _ 61 rfl (w.heap.size + 1) 9 i0 (.string ⟨#[]⟩) 1 16 Tryz.underlying61 HI.out.1 HI.out.2.1 HI.out.2.2.1 HI.out.2.2.2 rfl (by decide) _ (L2).length (strs (L2)) rfl ownx ⟨wc.heap.size, 0, none⟩ 1 1 [.string (⟨#[102, 97, 117, 108, 116]⟩)] rfl rfl newsx (by intro u hu; simp at hu; rw [hu]; rfl) (by omega) ?c3 ?c4 ?c5 _ rfl ?_) | fail)
              case c3 => unfold maxLen; omega
              case c4 => omega
              case c5 => have := HB.out.size; have := (Array.getElem?_eq_some_iff.1 H1.out).1; simp; omega
              intro gx capx wx owx ggx hatx hltx
              have hgbx : w.heap.size + 1 ≤ gb := (ownx.lt gb rfl).1
              have HBx : Hid (Below w.heap.size w wx) := (HB.out.alloc HB.out.size _).grown ggx (by have := HB.out.size; simp; omega) (fun k hk => by simp [Value.ownBlock] at hk; omega)
              have B4x : Below (w.heap.size + 1) (wc.alloc (.cells #[.string (⟨#[102, 97, 117, 108, 116]⟩)] 9)) wx := (Below.refl _ _).grown ggx (by have := (Array.getElem?_eq_some_iff.1 H1.out).1; simp; omega) (fun k hk => by simp [Value.ownBlock] at hk; omega)
              have H1x : Hid (wx.heap[w.heap.size]? = some (.cells c 37 (0, 0))) := (B4x.block _ (by omega)).trans ((((Below.refl wc.heap.size wc).alloc (Nat.le_refl _) _).block _ (Array.getElem?_eq_some_iff.1 H1.out).1).trans H1.out)
              have HWx : Hid (Words wx (w.heap.size + 1) gx capx (L2 ++ [⟨#[102, 97, 117, 108, 116]⟩])) := by
                show World.ownsRow _ _ _ _ _ _ _
                simpa [strs] using owx
              clear ownx newsx owx ggx hatx hltx B4x
              go_wp2
              go_meet
              case rel => exact ⟨gx, capx, by rw [HN.out]; simp, by rw [HN.out]; exact HWx, HBx, H1x⟩
          case rest =>
            clear cc HW HB H1
            obtain ⟨gb, cap, rfl, HW, HB, H1⟩ := hcut
            have HJx : Hid (Calls Tryz.prog 27 #[.slice (some ⟨gb, 0, none⟩) L3.length cap, .string ⟨#[32]⟩] wc fun e w' => e = .returned (.string RES) ∧ Below wc.heap.size wc w') := by
              have := HJ.out wc gb cap (w.heap.size + 1)
              rw [← HLL1.out, ← HLL2.out, ← HLL3.out] at this
              exact this HW.out
            clear HJ
            go_wp2_with fail
            refine HJx.out.mono ?_
            rintro e wz ⟨rfl, gz⟩
            have bz := HB.out.trans (gz.mono HB.out.size)
            clear gz
            go_wp2
            go_ret
            exact ⟨rfl, bz⟩
end Go.Proofs.YtjnddfpieogpiaaGreatDoor.Rr

/- MemText of the program whole; the law FnExactMemText. -/
namespace Go.Proofs.YtjnddfpieogpiaaGreatDoor.Rr
open Go.RowKit Go.Shelf
open Go.Lib (decDigits itoa)
set_option linter.unusedVariables false

theorem strs_cells {W : World} {base g cap : Nat} {L : List ByteArray} (h : Words W base g cap L) (j : Nat) (x : ByteArray) (hx : L[j]? = some x) : W.cell? ⟨g, 0 + j, none⟩ = some (.string x) := by
  have hj : j < L.length := (List.getElem?_eq_some_iff.1 hx).1
  rw [Nat.zero_add, World.ownsRow.cellAt h j (by omega), strs, List.getElem?_map, hx]
  rfl
theorem Words.lt {W : World} {base g cap : Nat} {L : List ByteArray} (h : Words W base g cap L) : g < W.heap.size := (World.ownsRow.lt h g rfl).2

theorem text_i {rt : Nat → List UInt8} (hrt : RtOk rt) (c : Array Value) (hc : MemOk c) (w : World) (hT : Tabs w) :
    Calls Tryz.prog 7 #[.agg c] w fun e w' => e = .returned (.string (memT rt c)) ∧ Below w.heap.size w w' := by
  obtain ⟨m, hm, hm0, hm1⟩ := hc.u32 (i := 133) (by omega) rfl
  obtain ⟨ran, hran⟩ := hc.bool (i := 134) (by omega) rfl
  obtain ⟨fault, hfault⟩ := hc.bool (i := 135) (by omega) rfl
  obtain ⟨tm, rfl⟩ := Int.eq_ofNat_of_zero_le hm0
  have e1 : word c 133 = (tm : Int) := word_of hm
  have e2 : flag c 134 = ran := flag_of hran
  have e3 : flag c 135 = fault := flag_of hfault
  have hv : ∀ k n : Nat, 1 ≤ k → k ≤ 10 → n < (kS (k : Int)).toNat → (vT rt c k n).size ≤ 80 := fun k n h1 h2 hn => (mval_all hrt c hc k n h1 h2 hn w hT).1
  have hts : (tx (itoa (tm : Int))).size ≤ 21 := itoa_small6 tm (by omega)
  have eW : wordsAll rt c = wordsK rt c 10 ++ optW (decide (0 < (tm : Int))) (⟨#[116, 105, 109, 101, 61]⟩ ++ tx (itoa (tm : Int))) ++ optW ran ⟨#[114, 97, 110]⟩ ++ optW fault ⟨#[102, 97, 117, 108, 116]⟩ := by
    unfold wordsAll; rw [e1, e2, e3]
  have small : ∀ x ∈ wordsAll rt c, x.size ≤ 200 := fun x hx => by
    rw [eW] at hx
    rcases List.mem_append.1 hx with hx | hx
    · rcases List.mem_append.1 hx with hx | hx
      · rcases List.mem_append.1 hx with hx | hx
        · exact words_small hv 10 (by omega) x hx
        · rw [optW_mem hx, ByteArray.size_append]
          have : (⟨#[116, 105, 109, 101, 61]⟩ : ByteArray).size = 5 := rfl
          omega
      · rw [optW_mem hx]; decide
    · rw [optW_mem hx]; decide
  have hlen := wordsAll_len rt c
  have hjl : (Lib.join ((wordsAll rt c).map fun x => x.data.toList) [32]).length ≤ 140737488355328 := by
    rw [join_flat, List.length_dropLast]
    have h1 := flat_size (wordsAll rt c) ⟨#[]⟩ small
    have h2 : (flat (wordsAll rt c)).data.toList.length = (flat (wordsAll rt c)).size := rfl
    have h3 : (⟨#[]⟩ : ByteArray).size = 0 := rfl
    rw [h3] at h1
    have h4 : (flat (wordsAll rt c)).size ≤ 0 + 201 * (wordsAll rt c).length := h1
    omega
  refine text_inner c hc (vT rt c) nmT (vP rt c) (wordsK rt c) (tx (itoa (tm : Int))) (memT rt c) w hT tm ran fault hm hran hfault (by omega) ?_ ?_ ?_ rfl ?_ ?_ ?_ (by omega) ?_
  · intro k n h1 h2 hn W hW; exact (mval_all hrt c hc k n h1 h2 hn W hW).2
  · intro k n h1 h2 hn W hW; exact dev_all k n h1 h2 hn W hW
  · intro k n h1 h2 hn
    have h3 := hv k n h1 h2 hn
    have h4 := kS_bd (k : Int)
    have h5 := nmT_size k n (by omega)
    omega
  · intro j; rfl
  · intro j _; exact wordsK_len rt c j
  · intro W hW; have := digits_i tm (by omega) W hW.p; rw [digits_itoa] at this; exact this
  · intro W g cap base hW
    rw [← eW] at hW ⊢
    rw [memT_join]
    exact Any.strings_Join Tryz.layJ Tryz.layJ_extra g 0 cap (wordsAll rt c) ⟨#[32]⟩ W (strs_cells hW) hW.lt (by omega) (owns_cap hW) hjl

end Go.Proofs.YtjnddfpieogpiaaGreatDoor.Rr
