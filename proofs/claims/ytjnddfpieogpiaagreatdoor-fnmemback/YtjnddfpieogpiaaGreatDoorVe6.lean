/- Two memories' texts are one just if the memories are. -/
import Derived.Test.YtjnddfpieogpiaaGreatDoorVa6M
import Derived.Test.YtjnddfpieogpiaaGreatDoorSc6M
namespace Go.Proofs.YtjnddfpieogpiaaGreatDoor.Rr
open Go.RowKit
open Go.Lib (decDigits itoa)
set_option linter.unusedVariables false

/-- A list cut at the first sign of a kind. -/
theorem cut_inj (g : UInt8) : ∀ x y r s : List UInt8, (∀ b ∈ x, b ≠ g) → (∀ b ∈ y, b ≠ g) → x ++ g :: r = y ++ g :: s → x = y ∧ r = s
  | [], [], r, s, _, _, h => by simpa using h
  | [], b :: y, r, s, _, hy, h => by
    simp only [List.nil_append, List.cons_append, List.cons.injEq] at h
    exact absurd h.1.symm (hy b (by simp))
  | a :: x, [], r, s, hx, _, h => by
    simp only [List.nil_append, List.cons_append, List.cons.injEq] at h
    exact absurd h.1 (hx a (by simp))
  | a :: x, b :: y, r, s, hx, hy, h => by
    simp only [List.cons_append, List.cons.injEq] at h
    obtain ⟨h1, h2⟩ := cut_inj g x y r s (fun c hc => hx c (by simp [hc])) (fun c hc => hy c (by simp [hc])) h.2
    exact ⟨by rw [h.1, h1], h2⟩
def Plain (x : List UInt8) : Prop := x ≠ [] ∧ ∀ b ∈ x, b ≠ 32
theorem flat_inj : ∀ L M : List (List UInt8), (∀ x ∈ L, Plain x) → (∀ x ∈ M, Plain x) → (L.map fun x => x ++ [32]).flatten = (M.map fun x => x ++ [32]).flatten → L = M
  | [], [], _, _, _ => rfl
  | [], y :: M, _, hM, h => by
    exfalso
    have := congrArg List.length h
    simp at this
  | x :: L, [], _, _, h => by
    exfalso
    have := congrArg List.length h
    simp at this
  | x :: L, y :: M, hL, hM, h => by
    simp only [List.map_cons, List.flatten_cons, List.append_assoc, List.singleton_append] at h
    obtain ⟨h1, h2⟩ := cut_inj 32 x y _ _ (hL x (by simp)).2 (hM y (by simp)).2 h
    rw [h1, flat_inj L M (fun z hz => hL z (by simp [hz])) (fun z hz => hM z (by simp [hz])) h2]
theorem join_inj (L M : List (List UInt8)) (hL : ∀ x ∈ L, Plain x) (hM : ∀ x ∈ M, Plain x) (h : Lib.join L [32] = Lib.join M [32]) : L = M := by
  cases L with
  | nil =>
    cases M with
    | nil => rfl
    | cons y M =>
      exfalso
      rw [Lib.join_cons, Lib.join_nil] at h
      have := (hM y (by simp)).1
      simp at h
      exact this h.1
  | cons x L =>
    cases M with
    | nil =>
      exfalso
      rw [Lib.join_cons, Lib.join_nil] at h
      have := (hL x (by simp)).1
      simp at h
      exact this h.1
    | cons y M =>
      rw [Lib.join_cons, Lib.join_cons] at h
      have h2 := congrArg (· ++ [(32 : UInt8)]) h
      simp only [List.append_assoc, tail_flat] at h2
      exact flat_inj (x :: L) (y :: M) hL hM (by simpa using h2)

/-- What signs a number's text has. -/
theorem itoa_signs (n : Int) : ∀ b ∈ itoa n, b ≠ 32 ∧ b ≠ 61 ∧ b ≠ 33 ∧ b ≠ 43 := by
  have hd : ∀ u, ∀ b ∈ decDigits u, b ≠ 32 ∧ b ≠ 61 ∧ b ≠ 33 ∧ b ≠ 43 := fun u b hb => by
    obtain ⟨h1, h2⟩ := dec_isD u b hb
    refine ⟨?_, ?_, ?_, ?_⟩ <;> (intro e; rw [e] at h1 h2; revert h1 h2; decide)
  rcases itoa_cases n with ⟨u, rfl, e⟩ | ⟨u, hu, rfl, e⟩
  · rw [e]; exact hd u
  · rw [e]
    intro x hx
    rcases List.mem_cons.1 hx with rfl | hx
    · decide
    · exact hd u x hx
theorem odd_part : ∀ V : Nat, 0 < V → ∃ n k, n % 2 = 1 ∧ V = n * 2 ^ k := fun V => by
  induction V using Nat.strongRecOn with
  | ind V ih =>
    intro h
    by_cases h2 : V % 2 = 1
    · exact ⟨V, 0, h2, by simp⟩
    · obtain ⟨n, k, hn, e⟩ := ih (V / 2) (by omega) (by omega)
      exact ⟨n, k + 1, hn, by rw [Nat.pow_succ, ← Nat.mul_assoc, ← e]; omega⟩
theorem txt_some (x : Nat) : ∃ t, Txt x t := by
  by_cases hN : Fm.isN x
  · exact ⟨_, .inl ⟨hN, rfl⟩⟩
  · by_cases h0 : Fm.R (Fm.rg x) = 0
    · exact ⟨_, .inr (.inl ⟨hN, h0, rfl⟩)⟩
    · have hle : Fm.rg x ≤ Fm.infR := Nat.not_lt.1 hN
      rcases Nat.lt_or_eq_of_le hle with hl | he
      · obtain ⟨n, k, hn, e⟩ := odd_part (Fm.R (Fm.rg x)) (by omega)
        exact ⟨_, .inr (.inr ⟨hN, by omega, _, .inr ⟨hl, n, (k : Int) - 1074, Fm.Parts.of hn (by omega) (by rw [show ((k : Int) - 1074 + 1074).toNat = k by omega]; exact e), rfl⟩, rfl⟩)⟩
      · exact ⟨_, .inr (.inr ⟨hN, by omega, _, .inl ⟨he, rfl⟩, rfl⟩)⟩
theorem rt_txt {rt : Nat → List UInt8} (h : RtOk rt) (x : Nat) : Txt x (rt x) := by
  obtain ⟨t, ht⟩ := txt_some x
  rw [← h.1 x t ht]; exact ht
theorem txt_plain {x : Nat} {t : List UInt8} (h : Txt x t) : ∀ b ∈ t, b ≠ 32 := by
  have hp : ∀ r p, PosT r p → ∀ b ∈ p, b ≠ 32 := fun r p h => by
    rcases h with ⟨_, rfl⟩ | ⟨_, n, e, _, rfl⟩
    · decide
    · intro b hb
      unfold posT at hb
      rcases List.mem_append.1 hb with hb | hb
      · exact (itoa_signs (n : Int) b (by rw [Lib.itoa_nonneg]; exact hb)).1
      · rcases List.mem_cons.1 hb with rfl | hb
        · decide
        · rcases List.mem_cons.1 hb with rfl | hb
          · decide
          · rcases List.mem_cons.1 hb with rfl | hb
            · decide
            · exact (itoa_signs e b hb).1
  rcases h with ⟨_, rfl⟩ | ⟨_, _, rfl⟩ | ⟨_, _, p, h3, rfl⟩
  · decide
  · split <;> decide
  · split
    · intro b hb
      rcases List.mem_cons.1 hb with rfl | hb
      · decide
      · exact hp _ p h3 b hb
    · exact hp _ p h3

theorem accL_iff {L : List ByteArray} {p : Nat → Bool} {t : Nat → ByteArray} {x : ByteArray} : ∀ n, x ∈ accL L p t n ↔ x ∈ L ∨ ∃ i, i < n ∧ p i = true ∧ x = t i
  | 0 => by simp [accL]
  | n + 1 => by
    have ih := accL_iff (L := L) (p := p) (t := t) (x := x) n
    unfold accL
    split
    · rename_i hp
      rw [List.mem_append, ih]
      constructor
      · rintro ((h | ⟨i, hi, h1, h2⟩) | h)
        · exact .inl h
        · exact .inr ⟨i, by omega, h1, h2⟩
        · exact .inr ⟨n, by omega, hp, by simpa using h⟩
      · rintro (h | ⟨i, hi, h1, h2⟩)
        · exact .inl (.inl h)
        · by_cases e : i = n
          · subst e; exact .inr (by simpa using h2)
          · exact .inl (.inr ⟨i, by omega, h1, h2⟩)
    · rename_i hp
      rw [ih]
      constructor
      · rintro (h | ⟨i, hi, h1, h2⟩)
        · exact .inl h
        · exact .inr ⟨i, by omega, h1, h2⟩
      · rintro (h | ⟨i, hi, h1, h2⟩)
        · exact .inl h
        · by_cases e : i = n
          · subst e; exact absurd h1 hp
          · exact .inr ⟨i, by omega, h1, h2⟩
theorem wordsK_iff {rt : Nat → List UInt8} {c : Array Value} {x : ByteArray} : ∀ j, x ∈ wordsK rt c j ↔ ∃ k n : Nat, 1 ≤ k ∧ k ≤ j ∧ n < (kS (k : Int)).toNat ∧ vP rt c k n = true ∧ x = wdT rt c k n
  | 0 => by
    simp only [wordsK, List.not_mem_nil, false_iff]
    rintro ⟨k, n, h1, h2, _⟩; omega
  | j + 1 => by
    have ih := wordsK_iff (rt := rt) (c := c) (x := x) j
    have ek : ((j : Int) + 1) = ((j + 1 : Nat) : Int) := by omega
    show x ∈ accL (wordsK rt c j) (vP rt c (j + 1)) (wdT rt c (j + 1)) (kS ((j : Int) + 1)).toNat ↔ _
    rw [accL_iff, ih, ek]
    constructor
    · rintro (⟨k, n, h1, h2, h3⟩ | ⟨n, h1, h2, h3⟩)
      · exact ⟨k, n, h1, by omega, h3⟩
      · exact ⟨j + 1, n, by omega, by omega, h1, h2, h3⟩
    · rintro ⟨k, n, h1, h2, h3, h4, h5⟩
      by_cases e : k = j + 1
      · subst e; exact .inr ⟨n, h3, h4, h5⟩
      · exact .inl ⟨k, n, h1, by omega, h3, h4, h5⟩
theorem optW_iff {b : Bool} {s x : ByteArray} : x ∈ optW b s ↔ b = true ∧ x = s := by
  cases b <;> simp [optW]
theorem words_iff {rt : Nat → List UInt8} {c : Array Value} {x : ByteArray} : x ∈ wordsAll rt c ↔ (∃ k n : Nat, 1 ≤ k ∧ k ≤ 10 ∧ n < (kS (k : Int)).toNat ∧ vP rt c k n = true ∧ x = wdT rt c k n) ∨ (0 < word c 133 ∧ x = ⟨#[116, 105, 109, 101, 61]⟩ ++ tx (itoa (word c 133))) ∨ (flag c 134 = true ∧ x = ⟨#[114, 97, 110]⟩) ∨ (flag c 135 = true ∧ x = ⟨#[102, 97, 117, 108, 116]⟩) := by
  unfold wordsAll
  rw [List.mem_append, List.mem_append, List.mem_append, wordsK_iff, optW_iff, optW_iff, optW_iff, decide_eq_true_iff]
  simp only [or_assoc]

/-- A kind's letter. -/
def lt (k : Nat) : UInt8 := (kL (k : Int)).data.toList.headD 0
theorem lt_one : ∀ k : Nat, 1 ≤ k → k ≤ 10 → (kL (k : Int)).data.toList = [lt k] ∧ 65 ≤ (lt k).toNat ∧ (lt k).toNat ≤ 90 := fun k h1 h2 => by
  rcases (by omega : k = 1 ∨ k = 2 ∨ k = 3 ∨ k = 4 ∨ k = 5 ∨ k = 6 ∨ k = 7 ∨ k = 8 ∨ k = 9 ∨ k = 10) with rfl | rfl | rfl | rfl | rfl | rfl | rfl | rfl | rfl | rfl <;> exact ⟨rfl, by decide, by decide⟩
theorem lt_inj0 : ∀ k : Fin 11, ∀ j : Fin 11, 1 ≤ k.val → 1 ≤ j.val → lt k.val = lt j.val → k = j := by decide +kernel
theorem lt_inj {k j : Nat} (h1 : 1 ≤ k) (h2 : k ≤ 10) (j1 : 1 ≤ j) (j2 : j ≤ 10) (h : lt k = lt j) : k = j := by
  have := lt_inj0 ⟨k, by omega⟩ ⟨j, by omega⟩ h1 j1 h
  exact congrArg Fin.val this
theorem tx_list (l : List UInt8) : (tx l).data.toList = l := by simp [tx]
theorem wd_list (rt : Nat → List UInt8) (c : Array Value) (k n : Nat) (h1 : 1 ≤ k) (h2 : k ≤ 10) : (wdT rt c k n).data.toList = lt k :: (itoa n ++ (vT rt c k n).data.toList) := by
  unfold wdT nmT
  rw [ByteArray.data_append, ByteArray.data_append, Array.toList_append, Array.toList_append, (lt_one k h1 h2).1, tx_list]
  simp
theorem mark_list (b : Bool) (g : UInt8) : (markT b ⟨#[g]⟩).data.toList = if b then [g] else [] := by cases b <;> rfl
def tail7 (rt : Nat → List UInt8) (c : Array Value) (k n : Nat) : List UInt8 :=
  if k = 7 then itoa (word c (5 + 2 * n + 1)) ++ (if flag c (5 + 2 * n) then [33] else [])
  else if k = 8 then itoa (word c (37 + 3 * n + 2)) ++ (if flag c (37 + 3 * n) then [33] else []) ++ (if flag c (37 + 3 * n + 1) then [43] else [])
  else if k = 9 then itoa (word c (85 + n)) else rt (rbits c (117 + n))
theorem vT_high (rt : Nat → List UInt8) (c : Array Value) (k n : Nat) (h1 : 7 ≤ k) (h2 : k ≤ 10) : (vT rt c k n).data.toList = 61 :: tail7 rt c k n := by
  rcases (by omega : k = 7 ∨ k = 8 ∨ k = 9 ∨ k = 10) with rfl | rfl | rfl | rfl
  · show (⟨#[61]⟩ ++ tx (itoa (word c (5 + 2 * n + 1))) ++ markT (flag c (5 + 2 * n)) ⟨#[33]⟩ : ByteArray).data.toList = 61 :: (itoa (word c (5 + 2 * n + 1)) ++ (if flag c (5 + 2 * n) then [33] else []))
    rw [ByteArray.data_append, ByteArray.data_append, Array.toList_append, Array.toList_append, tx_list, mark_list]; rfl
  · show (⟨#[61]⟩ ++ tx (itoa (word c (37 + 3 * n + 2))) ++ markT (flag c (37 + 3 * n)) ⟨#[33]⟩ ++ markT (flag c (37 + 3 * n + 1)) ⟨#[43]⟩ : ByteArray).data.toList = 61 :: (itoa (word c (37 + 3 * n + 2)) ++ (if flag c (37 + 3 * n) then [33] else []) ++ (if flag c (37 + 3 * n + 1) then [43] else []))
    rw [ByteArray.data_append, ByteArray.data_append, ByteArray.data_append, Array.toList_append, Array.toList_append, Array.toList_append, tx_list, mark_list, mark_list]; rfl
  · show (⟨#[61]⟩ ++ tx (itoa (word c (85 + n))) : ByteArray).data.toList = 61 :: itoa (word c (85 + n))
    rw [ByteArray.data_append, Array.toList_append, tx_list]; rfl
  · show (⟨#[61]⟩ ++ tx (rt (rbits c (117 + n))) : ByteArray).data.toList = 61 :: rt (rbits c (117 + n))
    rw [ByteArray.data_append, Array.toList_append, tx_list]; rfl
theorem tail_plain {rt : Nat → List UInt8} (hrt : RtOk rt) (c : Array Value) (k n : Nat) : ∀ b ∈ tail7 rt c k n, b ≠ 32 := by
  have hm : ∀ (f : Bool) (g : UInt8), g ≠ 32 → ∀ b ∈ (if f then [g] else []), b ≠ 32 := fun f g hg b hb => by
    cases f with
    | true => simp at hb; rw [hb]; exact hg
    | false => simp at hb
  unfold tail7
  split
  · intro b hb
    rcases List.mem_append.1 hb with hb | hb
    · exact (itoa_signs _ b hb).1
    · exact hm _ 33 (by decide) b hb
  · split
    · intro b hb
      rcases List.mem_append.1 hb with hb | hb
      · rcases List.mem_append.1 hb with hb | hb
        · exact (itoa_signs _ b hb).1
        · exact hm _ 33 (by decide) b hb
      · exact hm _ 43 (by decide) b hb
    · split
      · intro b hb; exact (itoa_signs _ b hb).1
      · exact txt_plain (rt_txt hrt _)
theorem wd_plain {rt : Nat → List UInt8} (hrt : RtOk rt) (c : Array Value) (k n : Nat) (h1 : 1 ≤ k) (h2 : k ≤ 10) : Plain (wdT rt c k n).data.toList := by
  rw [wd_list rt c k n h1 h2]
  refine ⟨by simp, fun b hb => ?_⟩
  rcases List.mem_cons.1 hb with rfl | hb
  · intro e
    have := (lt_one k h1 h2).2.1
    rw [e] at this; revert this; decide
  · rcases List.mem_append.1 hb with hb | hb
    · exact (itoa_signs _ b hb).1
    · by_cases h6 : k ≤ 6
      · rw [vT_low h6] at hb; simp at hb
      · rw [vT_high rt c k n (by omega) h2] at hb
        rcases List.mem_cons.1 hb with rfl | hb
        · decide
        · exact tail_plain hrt c k n b hb
theorem time_list (m : Int) : (⟨#[116, 105, 109, 101, 61]⟩ ++ tx (itoa m) : ByteArray).data.toList = 116 :: 105 :: 109 :: 101 :: 61 :: itoa m := by
  rw [ByteArray.data_append, Array.toList_append, tx_list]; rfl
theorem words_plain {rt : Nat → List UInt8} (hrt : RtOk rt) (c : Array Value) : ∀ x ∈ (wordsAll rt c).map fun x => x.data.toList, Plain x := fun x hx => by
  obtain ⟨y, hy, rfl⟩ := List.mem_map.1 hx
  rcases words_iff.1 hy with ⟨k, n, h1, h2, h3, h4, rfl⟩ | ⟨_, rfl⟩ | ⟨_, rfl⟩ | ⟨_, rfl⟩
  · exact wd_plain hrt c k n h1 h2
  · refine ⟨by rw [time_list]; simp, fun b hb => ?_⟩
    rw [time_list] at hb
    rcases (by simpa using hb : b = 116 ∨ b = 105 ∨ b = 109 ∨ b = 101 ∨ b = 61 ∨ b ∈ itoa (word c 133)) with rfl | rfl | rfl | rfl | rfl | h
    all_goals first | decide | exact (itoa_signs _ b h).1
  · exact ⟨by decide, by decide⟩
  · exact ⟨by decide, by decide⟩
theorem words_of_text {rt : Nat → List UInt8} (hrt : RtOk rt) {c d : Array Value} (h : memT rt c = memT rt d) : ∀ x, x ∈ wordsAll rt c → x ∈ wordsAll rt d := by
  rw [memT_join, memT_join] at h
  have h1 : Lib.join ((wordsAll rt c).map fun x => x.data.toList) [32] = Lib.join ((wordsAll rt d).map fun x => x.data.toList) [32] := by
    have := congrArg (fun s : ByteArray => s.data.toList) h
    simpa using this
  have h2 := join_inj _ _ (words_plain hrt c) (words_plain hrt d) h1
  intro x hx
  have h3 : x.data.toList ∈ (wordsAll rt d).map fun x => x.data.toList := by rw [← h2]; exact List.mem_map.2 ⟨x, hx, rfl⟩
  obtain ⟨y, hy, e⟩ := List.mem_map.1 h3
  have : y = x := by
    cases x; cases y
    simp only at e
    congr 1
    exact Array.toList_inj.1 e
  rw [← this]; exact hy
theorem wd_inj {rt : Nat → List UInt8} {c d : Array Value} {k n j m : Nat} (h1 : 1 ≤ k) (h2 : k ≤ 10) (j1 : 1 ≤ j) (j2 : j ≤ 10) (hn : n < 1000) (hm : m < 1000) (h : wdT rt c k n = wdT rt d j m) : k = j ∧ n = m ∧ (vT rt c k n).data.toList = (vT rt d k n).data.toList := by
  have h0 := congrArg (fun s : ByteArray => s.data.toList) h
  simp only [wd_list rt c k n h1 h2, wd_list rt d j m j1 j2, List.cons.injEq] at h0
  have e := lt_inj h1 h2 j1 j2 h0.1
  subst e
  have h3 := h0.2
  by_cases h6 : k ≤ 6
  · rw [vT_low h6, vT_low h6] at h3
    have h4 : itoa (n : Int) = itoa (m : Int) := by simpa using h3
    have := itoa_inj (by omega) (by omega) h4
    have : n = m := by omega
    subst this
    exact ⟨rfl, rfl, by rw [vT_low h6, vT_low h6]⟩
  · rw [vT_high rt c k n (by omega) h2, vT_high rt d k m (by omega) h2] at h3
    obtain ⟨h4, h5⟩ := cut_inj 61 _ _ _ _ (fun b hb => (itoa_signs _ b hb).2.1) (fun b hb => (itoa_signs _ b hb).2.1) h3
    have := itoa_inj (by omega) (by omega) h4
    have : n = m := by omega
    subst this
    exact ⟨rfl, rfl, by rw [vT_high rt c k n (by omega) h2, vT_high rt d k n (by omega) h2, h5]⟩
theorem kS_lt (k : Nat) : (kS (k : Int)).toNat < 1000 := by have := kS_bd (k : Int); omega
theorem head_ne {a b : UInt8} {r s : List UInt8} {x y : ByteArray} (hx : x.data.toList = a :: r) (hy : y.data.toList = b :: s) (hab : a ≠ b) : x ≠ y := by
  intro e
  rw [e, hy] at hx
  injection hx with h _
  exact hab h.symm
theorem lt_ne {k : Nat} (h1 : 1 ≤ k) (h2 : k ≤ 10) (g : UInt8) (hg : 97 ≤ g.toNat) : lt k ≠ g := by
  intro e
  have := (lt_one k h1 h2).2.2
  rw [e] at this; omega
theorem half_dev {rt : Nat → List UInt8} {c d : Array Value} (h : ∀ x, x ∈ wordsAll rt c → x ∈ wordsAll rt d) (k n : Nat) (h1 : 1 ≤ k) (h2 : k ≤ 10) (hn : n < (kS (k : Int)).toNat) (hp : vP rt c k n = true) : vP rt d k n = true ∧ (vT rt c k n).data.toList = (vT rt d k n).data.toList := by
  rcases words_iff.1 (h _ (words_iff.2 (.inl ⟨k, n, h1, h2, hn, hp, rfl⟩))) with ⟨j, m, j1, j2, j3, j4, e⟩ | ⟨_, e⟩ | ⟨_, e⟩ | ⟨_, e⟩
  · obtain ⟨rfl, rfl, h5⟩ := wd_inj h1 h2 j1 j2 (by have := kS_lt k; omega) (by have := kS_lt j; omega) e
    exact ⟨j4, h5⟩
  · exact absurd e (head_ne (wd_list rt c k n h1 h2) (time_list _) (lt_ne h1 h2 116 (by decide)))
  · exact absurd e (head_ne (b := 114) (s := [97, 110]) (wd_list rt c k n h1 h2) rfl (lt_ne h1 h2 114 (by decide)))
  · exact absurd e (head_ne (b := 102) (s := [97, 117, 108, 116]) (wd_list rt c k n h1 h2) rfl (lt_ne h1 h2 102 (by decide)))
theorem half_time {rt : Nat → List UInt8} {c d : Array Value} (h : ∀ x, x ∈ wordsAll rt c → x ∈ wordsAll rt d) (hp : 0 < word c 133) : 0 < word d 133 ∧ itoa (word c 133) = itoa (word d 133) := by
  rcases words_iff.1 (h _ (words_iff.2 (.inr (.inl ⟨hp, rfl⟩)))) with ⟨j, m, j1, j2, j3, j4, e⟩ | ⟨h1, e⟩ | ⟨_, e⟩ | ⟨_, e⟩
  · exact absurd e.symm (head_ne (wd_list rt d j m j1 j2) (time_list _) (lt_ne j1 j2 116 (by decide)))
  · refine ⟨h1, ?_⟩
    have h0 := congrArg (fun s : ByteArray => s.data.toList) e
    simp only [time_list, List.cons.injEq, true_and] at h0
    exact h0
  · exact absurd e (head_ne (b := 114) (s := [97, 110]) (time_list _) rfl (by decide))
  · exact absurd e (head_ne (b := 102) (s := [97, 117, 108, 116]) (time_list _) rfl (by decide))
theorem half_ran {rt : Nat → List UInt8} {c d : Array Value} (h : ∀ x, x ∈ wordsAll rt c → x ∈ wordsAll rt d) (hp : flag c 134 = true) : flag d 134 = true := by
  rcases words_iff.1 (h _ (words_iff.2 (.inr (.inr (.inl ⟨hp, rfl⟩))))) with ⟨j, m, j1, j2, j3, j4, e⟩ | ⟨_, e⟩ | ⟨h1, _⟩ | ⟨_, e⟩
  · exact absurd e.symm (head_ne (b := 114) (s := [97, 110]) (wd_list rt d j m j1 j2) rfl (lt_ne j1 j2 114 (by decide)))
  · exact absurd e.symm (head_ne (b := 114) (s := [97, 110]) (time_list _) rfl (by decide))
  · exact h1
  · exact absurd e (head_ne (a := 114) (r := [97, 110]) (b := 102) (s := [97, 117, 108, 116]) rfl rfl (by decide))
theorem half_fault {rt : Nat → List UInt8} {c d : Array Value} (h : ∀ x, x ∈ wordsAll rt c → x ∈ wordsAll rt d) (hp : flag c 135 = true) : flag d 135 = true := by
  rcases words_iff.1 (h _ (words_iff.2 (.inr (.inr (.inr ⟨hp, rfl⟩))))) with ⟨j, m, j1, j2, j3, j4, e⟩ | ⟨_, e⟩ | ⟨_, e⟩ | ⟨h1, _⟩
  · exact absurd e.symm (head_ne (b := 102) (s := [97, 117, 108, 116]) (wd_list rt d j m j1 j2) rfl (lt_ne j1 j2 102 (by decide)))
  · exact absurd e.symm (head_ne (b := 102) (s := [97, 117, 108, 116]) (time_list _) rfl (by decide))
  · exact absurd e (head_ne (a := 102) (r := [97, 117, 108, 116]) (b := 114) (s := [97, 110]) rfl rfl (by decide))
  · exact h1

theorem both_dev {rt : Nat → List UInt8} (hrt : RtOk rt) {c d : Array Value} (h : memT rt c = memT rt d) (k n : Nat) (h1 : 1 ≤ k) (h2 : k ≤ 10) (hn : n < (kS (k : Int)).toNat) : vP rt c k n = vP rt d k n ∧ (vP rt c k n = true → (vT rt c k n).data.toList = (vT rt d k n).data.toList) := by
  have a := half_dev (words_of_text hrt h) k n h1 h2 hn
  have b := half_dev (words_of_text hrt h.symm) k n h1 h2 hn
  refine ⟨?_, fun hp => (a hp).2⟩
  cases e : vP rt c k n with
  | true => rw [(a e).1]
  | false =>
    cases e2 : vP rt d k n with
    | false => rfl
    | true => exact absurd ((b e2).1.symm.trans e) (by decide)
theorem bits_nat (W x y : Nat) (hx : x < 2 ^ W) (hy : y < 2 ^ W) (h : ∀ n, n < W → btest (x : Int) (n : Int) = btest (y : Int) (n : Int)) : x = y := by
  have hb : ∀ (z n : Nat), btest (z : Int) (n : Int) = z.testBit n := fun z n => by
    unfold btest
    rw [Nat.testBit_eq_decide_div_mod_eq, show ((n : Int)).toNat = n by omega]
    have : ((z : Int) / 2 ^ n % 2) = ((z / 2 ^ n % 2 : Nat) : Int) := by push_cast; rfl
    rw [this]
    by_cases e : z / 2 ^ n % 2 = 1
    · rw [decide_eq_true (by omega), decide_eq_true e]
    · rw [decide_eq_false (by omega), decide_eq_false e]
  apply Nat.eq_of_testBit_eq
  intro i
  by_cases hi : i < W
  · rw [← hb, ← hb]; exact h i hi
  · have e : 2 ^ W ≤ 2 ^ i := Nat.pow_le_pow_right (by omega) (by omega)
    rw [Nat.testBit_lt_two_pow (by omega), Nat.testBit_lt_two_pow (by omega)]
theorem bits_int (W : Nat) (x y : Int) (x0 : 0 ≤ x) (y0 : 0 ≤ y) (hx : x < ((2 ^ W : Nat) : Int)) (hy : y < ((2 ^ W : Nat) : Int)) (h : ∀ n : Nat, n < W → btest x (n : Int) = btest y (n : Int)) : x = y := by
  obtain ⟨a, rfl⟩ : ∃ a : Nat, x = a := ⟨x.toNat, by omega⟩
  obtain ⟨b, rfl⟩ : ∃ b : Nat, y = b := ⟨y.toNat, by omega⟩
  rw [bits_nat W a b (by omega) (by omega) h]
theorem itoa_mark {a b : Int} (ha : a.natAbs < 9223372036854775808) (hb : b.natAbs < 9223372036854775808) {g : UInt8} (hg : g = 33 ∨ g = 43) {f f' : Bool} (h : itoa a ++ (if f then [g] else []) = itoa b ++ (if f' then [g] else [])) : a = b ∧ f = f' := by
  have hs : ∀ n : Int, ∀ x ∈ itoa n, x ≠ g := fun n x hx => by
    rcases hg with rfl | rfl
    · exact (itoa_signs n x hx).2.2.1
    · exact (itoa_signs n x hx).2.2.2
  cases f with
  | true =>
    cases f' with
    | true =>
      have := (cut_inj g _ _ [] [] (hs a) (hs b) (by simpa using h)).1
      exact ⟨itoa_inj ha hb this, rfl⟩
    | false =>
      exfalso
      have : g ∈ itoa b := by
        have e : itoa a ++ [g] = itoa b := by simpa using h
        rw [← e]; simp
      exact hs b g this rfl
  | false =>
    cases f' with
    | true =>
      exfalso
      have : g ∈ itoa a := by
        have e : itoa a = itoa b ++ [g] := by simpa using h
        rw [e]; simp
      exact hs a g this rfl
    | false => exact ⟨itoa_inj ha hb (by simpa using h), rfl⟩
theorem itoa_marks {a b : Int} (ha : a.natAbs < 9223372036854775808) (hb : b.natAbs < 9223372036854775808) {f f' e e' : Bool} (h : itoa a ++ (if f then [33] else []) ++ (if e then [43] else []) = itoa b ++ (if f' then [33] else []) ++ (if e' then [43] else [])) : a = b ∧ f = f' ∧ e = e' := by
  have hs : ∀ (n : Int) (f : Bool), ∀ x ∈ itoa n ++ (if f then [(33 : UInt8)] else []), x ≠ 43 := fun n f x hx => by
    rcases List.mem_append.1 hx with hx | hx
    · exact (itoa_signs n x hx).2.2.2
    · cases f with
      | true => simp at hx; rw [hx]; decide
      | false => simp at hx
  have key : itoa a ++ (if f then [33] else []) = itoa b ++ (if f' then [33] else []) ∧ e = e' := by
    cases e with
    | true =>
      cases e' with
      | true => exact ⟨(cut_inj 43 _ _ [] [] (hs a f) (hs b f') (by simpa using h)).1, rfl⟩
      | false =>
        exfalso
        have q : (43 : UInt8) ∈ itoa b ++ (if f' then [33] else []) := by
          have e0 : itoa a ++ (if f then [33] else []) ++ [43] = itoa b ++ (if f' then [33] else []) := by simpa using h
          rw [← e0]; simp
        exact hs b f' 43 q rfl
    | false =>
      cases e' with
      | true =>
        exfalso
        have q : (43 : UInt8) ∈ itoa a ++ (if f then [33] else []) := by
          have e0 : itoa a ++ (if f then [33] else []) = itoa b ++ (if f' then [33] else []) ++ [43] := by simpa using h
          rw [e0]; simp
        exact hs a f 43 q rfl
      | false => exact ⟨by simpa using h, rfl⟩
  obtain ⟨h1, h2⟩ := itoa_mark ha hb (.inl rfl) key.1
  exact ⟨h1, h2, key.2⟩
theorem bits_agree {rt : Nat → List UInt8} (hrt : RtOk rt) {c d : Array Value} (h : memT rt c = memT rt d) (k W i : Nat) (h1 : 1 ≤ k) (h5 : k ≤ 5) (hW : kS (k : Int) = W) (h0 : 0 < W) (hm : ∀ (e : Array Value) (n : Int), mbit e (k : Int) n = btest (word e i) (pl (k : Int) n)) (c0 : 0 ≤ word c i) (c1 : word c i < ((2 ^ W : Nat) : Int)) (d0 : 0 ≤ word d i) (d1 : word d i < ((2 ^ W : Nat) : Int)) : word c i = word d i := by
  refine bits_int W _ _ c0 d0 c1 d1 fun n hn => ?_
  have := (both_dev hrt h k n h1 (by omega) (by omega)).1
  rw [vP_low h5, vP_low h5, hm, hm] at this
  have hp : pl (k : Int) (n : Int) = n := by
    unfold pl kZ
    rw [if_neg (show ¬ (k : Int) = 6 by omega), hW, if_neg (by omega)]
    exact Int.emod_eq_of_lt (by omega) (by omega)
  rwa [hp] at this
theorem ms_of_text {rt : Nat → List UInt8} (hrt : RtOk rt) {c d : Array Value} (hc : MemOk c) (hd : MemOk d) (h : memT rt c = memT rt d) : MS c d := by
  rw [ms_iff hc hd]
  have hu32 : ∀ i, i < 136 → kd i = 32 → word c i = word d i → c[i]? = d[i]? := fun i hi hk e => by
    obtain ⟨x, hx, _⟩ := hc.u32 hi hk
    obtain ⟨y, hy, _⟩ := hd.u32 hi hk
    rw [word_of hx, word_of hy] at e
    rw [hx, hy, e]
  have hu16 : ∀ i, i < 136 → kd i = 16 → word c i = word d i → c[i]? = d[i]? := fun i hi hk e => by
    obtain ⟨x, hx, _⟩ := hc.u16 hi hk
    obtain ⟨y, hy, _⟩ := hd.u16 hi hk
    rw [word_of hx, word_of hy] at e
    rw [hx, hy, e]
  have hbl : ∀ i, i < 136 → kd i = 1 → flag c i = flag d i → c[i]? = d[i]? := fun i hi hk e => by
    obtain ⟨x, hx⟩ := hc.bool hi hk
    obtain ⟨y, hy⟩ := hd.bool hi hk
    rw [flag_of hx, flag_of hy] at e
    rw [hx, hy, e]
  have r16 : ∀ (e : Array Value), MemOk e → ∀ i, i < 136 → kd i = 16 → 0 ≤ word e i ∧ word e i < 65536 := fun e he i hi hk => by
    obtain ⟨x, hx, x0, x1⟩ := he.u16 hi hk
    rw [word_of hx]; exact ⟨x0, x1⟩
  have r32 : ∀ (e : Array Value), MemOk e → ∀ i, i < 136 → kd i = 32 → 0 ≤ word e i ∧ word e i < 4294967296 := fun e he i hi hk => by
    obtain ⟨x, hx, x0, x1⟩ := he.u32 hi hk
    rw [word_of hx]; exact ⟨x0, x1⟩
  have r64 : ∀ (e : Array Value), MemOk e → 0 ≤ word e 2 ∧ word e 2 < 18446744073709551616 := fun e he => by
    obtain ⟨x, hx, x0, x1⟩ := he.u64 (i := 2) (by omega) rfl
    rw [word_of hx]; exact ⟨x0, x1⟩
  have tim : ∀ j, j < 16 → flag c (5 + 2 * j) = flag d (5 + 2 * j) ∧ word c (5 + 2 * j + 1) = word d (5 + 2 * j + 1) := fun j hj => by
    obtain ⟨p1, p2⟩ := both_dev hrt h 7 j (by omega) (by omega) (show j < 16 from hj)
    have ec := r16 c hc (5 + 2 * j + 1) (by omega) (kd_t hj).2
    have ed := r16 d hd (5 + 2 * j + 1) (by omega) (kd_t hj).2
    cases hp : vP rt c 7 j with
    | true =>
      have e := p2 hp
      rw [vT_high rt c 7 j (by omega) (by omega), vT_high rt d 7 j (by omega) (by omega)] at e
      injection e with _ e
      have e' : itoa (word c (5 + 2 * j + 1)) ++ (if flag c (5 + 2 * j) then [33] else []) = itoa (word d (5 + 2 * j + 1)) ++ (if flag d (5 + 2 * j) then [33] else []) := e
      obtain ⟨a, b⟩ := itoa_mark (by omega) (by omega) (.inl rfl) e'
      exact ⟨b, a⟩
    | false =>
      have q1 : (flag c (5 + 2 * j) || decide (0 < word c (5 + 2 * j + 1))) = false := hp
      have q2 : (flag d (5 + 2 * j) || decide (0 < word d (5 + 2 * j + 1))) = false := p1.symm.trans hp
      simp only [Bool.or_eq_false_iff, decide_eq_false_iff_not] at q1 q2
      exact ⟨by rw [q1.1, q2.1], by omega⟩
  have cnt : ∀ j, j < 16 → flag c (37 + 3 * j) = flag d (37 + 3 * j) ∧ flag c (37 + 3 * j + 1) = flag d (37 + 3 * j + 1) ∧ word c (37 + 3 * j + 2) = word d (37 + 3 * j + 2) := fun j hj => by
    obtain ⟨p1, p2⟩ := both_dev hrt h 8 j (by omega) (by omega) (show j < 16 from hj)
    have ec := r16 c hc (37 + 3 * j + 2) (by omega) (kd_c hj).2.2
    have ed := r16 d hd (37 + 3 * j + 2) (by omega) (kd_c hj).2.2
    cases hp : vP rt c 8 j with
    | true =>
      have e := p2 hp
      rw [vT_high rt c 8 j (by omega) (by omega), vT_high rt d 8 j (by omega) (by omega)] at e
      injection e with _ e
      have e' : itoa (word c (37 + 3 * j + 2)) ++ (if flag c (37 + 3 * j) then [33] else []) ++ (if flag c (37 + 3 * j + 1) then [43] else []) = itoa (word d (37 + 3 * j + 2)) ++ (if flag d (37 + 3 * j) then [33] else []) ++ (if flag d (37 + 3 * j + 1) then [43] else []) := e
      obtain ⟨a, b, b2⟩ := itoa_marks (by omega) (by omega) e'
      exact ⟨b, b2, a⟩
    | false =>
      have q1 : (flag c (37 + 3 * j) || flag c (37 + 3 * j + 1) || decide (0 < word c (37 + 3 * j + 2))) = false := hp
      have q2 : (flag d (37 + 3 * j) || flag d (37 + 3 * j + 1) || decide (0 < word d (37 + 3 * j + 2))) = false := p1.symm.trans hp
      simp only [Bool.or_eq_false_iff, decide_eq_false_iff_not] at q1 q2
      exact ⟨by rw [q1.1.1, q2.1.1], by rw [q1.1.2, q2.1.2], by omega⟩
  have dat : ∀ j, j < 32 → c[85 + j]? = d[85 + j]? := fun j hj => by
    obtain ⟨p1, p2⟩ := both_dev hrt h 9 j (by omega) (by omega) (show j < 32 from hj)
    obtain ⟨x, hx, x0, x1⟩ := hc.i16 (i := 85 + j) (by omega) (kd_d hj)
    obtain ⟨y, hy, y0, y1⟩ := hd.i16 (i := 85 + j) (by omega) (kd_d hj)
    have wx := word_of hx
    have wy := word_of hy
    have e : x = y := by
      cases hp : vP rt c 9 j with
      | true =>
        have e := p2 hp
        rw [vT_high rt c 9 j (by omega) (by omega), vT_high rt d 9 j (by omega) (by omega)] at e
        injection e with _ e
        have e' : itoa (word c (85 + j)) = itoa (word d (85 + j)) := e
        rw [wx, wy] at e'
        exact itoa_inj (by omega) (by omega) e'
      | false =>
        have q1 : (word c (85 + j) != 0) = false := hp
        have q2 : (word d (85 + j) != 0) = false := p1.symm.trans hp
        rw [wx] at q1; rw [wy] at q2
        simp at q1 q2
        omega
    rw [hx, hy, e]
  have rea : ∀ j, j < 16 → c[117 + j]?.map exactOf = d[117 + j]?.map exactOf := fun j hj => by
    obtain ⟨p1, p2⟩ := both_dev hrt h 10 j (by omega) (by omega) (show j < 16 from hj)
    obtain ⟨x, hx, x0⟩ := hc.f64 (i := 117 + j) (by omega) (kd_r hj)
    obtain ⟨y, hy, y0⟩ := hd.f64 (i := 117 + j) (by omega) (kd_r hj)
    have wx : rbits c (117 + j) = x := by simp [rbits, hx]
    have wy : rbits d (117 + j) = y := by simp [rbits, hy]
    have e : rt x = rt y := by
      cases hp : vP rt c 10 j with
      | true =>
        have e := p2 hp
        rw [vT_high rt c 10 j (by omega) (by omega), vT_high rt d 10 j (by omega) (by omega)] at e
        injection e with _ e
        have e' : rt (rbits c (117 + j)) = rt (rbits d (117 + j)) := e
        rwa [wx, wy] at e'
      | false =>
        have q1 : (!((tx (rt (rbits c (117 + j)))).toList == [48])) = false := hp
        have q2 : (!((tx (rt (rbits d (117 + j)))).toList == [48])) = false := p1.symm.trans hp
        rw [wx, Lib.toList_data, tx_list] at q1; rw [wy, Lib.toList_data, tx_list] at q2
        simp at q1 q2
        rw [q1, q2]
    rw [hx, hy]
    show some (exactOf (.float .f64 x)) = some (exactOf (.float .f64 y))
    rw [same_exact.1 (Txt.inj (by simpa [FloatKind.has] using x0) (by simpa [FloatKind.has] using y0) (rt_txt hrt x) (by rw [e]; exact rt_txt hrt y))]
  have tme : word c 133 = word d 133 := by
    have a := half_time (words_of_text hrt h)
    have b := half_time (words_of_text hrt h.symm)
    have ec := r32 c hc 133 (by omega) rfl
    have ed := r32 d hd 133 (by omega) rfl
    by_cases e : 0 < word c 133
    · exact itoa_inj (by omega) (by omega) (a e).2
    · by_cases e2 : 0 < word d 133
      · exact absurd (b e2).1 e
      · omega
  have fl : ∀ {f f' : Bool}, (f = true → f' = true) → (f' = true → f = true) → f = f' := fun {f f'} a b => by
    cases f <;> cases f' <;> simp_all
  refine ⟨fun j hj => ⟨rea j hj, ?_, ?_⟩, dat, ?_, ?_, ?_, ?_, ?_, hu32 133 (by omega) rfl tme, hbl 134 (by omega) rfl (fl (half_ran (words_of_text hrt h)) (half_ran (words_of_text hrt h.symm))), hbl 135 (by omega) rfl (fl (half_fault (words_of_text hrt h)) (half_fault (words_of_text hrt h.symm)))⟩
  · intro i i1 i2
    rcases (by omega : i = 5 + 2 * j ∨ i = 5 + 2 * j + 1) with rfl | rfl
    · exact hbl _ (by omega) (kd_t hj).1 (tim j hj).1
    · exact hu16 _ (by omega) (kd_t hj).2 (tim j hj).2
  · intro i i1 i2
    rcases (by omega : i = 37 + 3 * j ∨ i = 37 + 3 * j + 1 ∨ i = 37 + 3 * j + 2) with rfl | rfl | rfl
    · exact hbl _ (by omega) (kd_c hj).1 (cnt j hj).1
    · exact hbl _ (by omega) (kd_c hj).2.1 (cnt j hj).2.1
    · exact hu16 _ (by omega) (kd_c hj).2.2 (cnt j hj).2.2
  · exact hu32 0 (by omega) rfl (bits_agree hrt h 1 32 0 (by omega) (by omega) rfl (by omega) (fun e n => rfl) (r32 c hc 0 (by omega) rfl).1 (r32 c hc 0 (by omega) rfl).2 (r32 d hd 0 (by omega) rfl).1 (r32 d hd 0 (by omega) rfl).2)
  · exact hu32 1 (by omega) rfl (bits_agree hrt h 2 32 1 (by omega) (by omega) rfl (by omega) (fun e n => rfl) (r32 c hc 1 (by omega) rfl).1 (r32 c hc 1 (by omega) rfl).2 (r32 d hd 1 (by omega) rfl).1 (r32 d hd 1 (by omega) rfl).2)
  · have e := bits_agree hrt h 3 64 2 (by omega) (by omega) rfl (by omega) (fun e n => rfl) (r64 c hc).1 (r64 c hc).2 (r64 d hd).1 (r64 d hd).2
    obtain ⟨x, hx, _⟩ := hc.u64 (i := 2) (by omega) rfl
    obtain ⟨y, hy, _⟩ := hd.u64 (i := 2) (by omega) rfl
    rw [word_of hx, word_of hy] at e
    rw [hx, hy, e]
  · exact hu16 3 (by omega) rfl (bits_agree hrt h 4 16 3 (by omega) (by omega) rfl (by omega) (fun e n => rfl) (r16 c hc 3 (by omega) rfl).1 (r16 c hc 3 (by omega) rfl).2 (r16 d hd 3 (by omega) rfl).1 (r16 d hd 3 (by omega) rfl).2)
  · exact hu32 4 (by omega) rfl (bits_agree hrt h 5 32 4 (by omega) (by omega) rfl (by omega) (fun e n => rfl) (r32 c hc 4 (by omega) rfl).1 (r32 c hc 4 (by omega) rfl).2 (r32 d hd 4 (by omega) rfl).1 (r32 d hd 4 (by omega) rfl).2)

theorem accL_same {L : List ByteArray} {p p' : Nat → Bool} {t t' : Nat → ByteArray} : ∀ N, (∀ n, n < N → p n = p' n ∧ t n = t' n) → accL L p t N = accL L p' t' N
  | 0, _ => rfl
  | N + 1, h => by
    have ih := accL_same (L := L) N (fun n hn => h n (by omega))
    unfold accL
    rw [(h N (by omega)).1, (h N (by omega)).2, ih]
theorem wordsK_same {rt : Nat → List UInt8} {c d : Array Value} (h : ∀ k n : Nat, 1 ≤ k → k ≤ 10 → n < (kS (k : Int)).toNat → vP rt c k n = vP rt d k n ∧ vT rt c k n = vT rt d k n) : ∀ j, j ≤ 10 → wordsK rt c j = wordsK rt d j
  | 0, _ => rfl
  | j + 1, hj => by
    show accL (wordsK rt c j) (vP rt c (j + 1)) (wdT rt c (j + 1)) (kS ((j : Int) + 1)).toNat = accL (wordsK rt d j) (vP rt d (j + 1)) (wdT rt d (j + 1)) (kS ((j : Int) + 1)).toNat
    rw [wordsK_same h j (by omega)]
    refine accL_same _ fun n hn => ?_
    have ek : ((j : Int) + 1) = ((j + 1 : Nat) : Int) := by omega
    obtain ⟨a, b⟩ := h (j + 1) n (by omega) hj (by rw [← ek]; exact hn)
    exact ⟨a, by unfold wdT; rw [b]⟩
theorem text_of_ms {rt : Nat → List UInt8} (hrt : RtOk rt) {c d : Array Value} (hc : MemOk c) (hd : MemOk d) (h : MS c d) : memT rt c = memT rt d := by
  obtain ⟨h1, h2, h3, h4, h5, h6, h7, h8, h9, h10⟩ := (ms_iff hc hd).1 h
  have wd : ∀ i, c[i]? = d[i]? → word c i = word d i := fun i e => by unfold word; rw [e]
  have fg : ∀ i, c[i]? = d[i]? → flag c i = flag d i := fun i e => by unfold flag; rw [e]
  have key : ∀ k n : Nat, 1 ≤ k → k ≤ 10 → n < (kS (k : Int)).toNat → vP rt c k n = vP rt d k n ∧ vT rt c k n = vT rt d k n := fun k n k1 k2 hn => by
    rcases (by omega : k = 1 ∨ k = 2 ∨ k = 3 ∨ k = 4 ∨ k = 5 ∨ k = 6 ∨ k = 7 ∨ k = 8 ∨ k = 9 ∨ k = 10) with rfl | rfl | rfl | rfl | rfl | rfl | rfl | rfl | rfl | rfl
    · exact ⟨show btest (word c 0) _ = btest (word d 0) _ by rw [wd 0 h3], by rw [vT_low (by omega), vT_low (by omega)]⟩
    · exact ⟨show btest (word c 1) _ = btest (word d 1) _ by rw [wd 1 h4], by rw [vT_low (by omega), vT_low (by omega)]⟩
    · exact ⟨show btest (word c 2) _ = btest (word d 2) _ by rw [wd 2 h5], by rw [vT_low (by omega), vT_low (by omega)]⟩
    · exact ⟨show btest (word c 3) _ = btest (word d 3) _ by rw [wd 3 h6], by rw [vT_low (by omega), vT_low (by omega)]⟩
    · exact ⟨show btest (word c 4) _ = btest (word d 4) _ by rw [wd 4 h7], by rw [vT_low (by omega), vT_low (by omega)]⟩
    · exact ⟨by rw [vP_six, vP_six], by rw [vT_low (by omega), vT_low (by omega)]⟩
    · have hn' : n < 16 := hn
      have a := fg (5 + 2 * n) ((h1 n hn').2.1 _ (by omega) (by omega))
      have b := wd (5 + 2 * n + 1) ((h1 n hn').2.1 _ (by omega) (by omega))
      exact ⟨show (flag c (5 + 2 * n) || decide (0 < word c (5 + 2 * n + 1))) = (flag d (5 + 2 * n) || decide (0 < word d (5 + 2 * n + 1))) by rw [a, b], show ⟨#[61]⟩ ++ tx (itoa (word c (5 + 2 * n + 1))) ++ markT (flag c (5 + 2 * n)) ⟨#[33]⟩ = ⟨#[61]⟩ ++ tx (itoa (word d (5 + 2 * n + 1))) ++ markT (flag d (5 + 2 * n)) ⟨#[33]⟩ by rw [a, b]⟩
    · have hn' : n < 16 := hn
      have a := fg (37 + 3 * n) ((h1 n hn').2.2 _ (by omega) (by omega))
      have a2 := fg (37 + 3 * n + 1) ((h1 n hn').2.2 _ (by omega) (by omega))
      have b := wd (37 + 3 * n + 2) ((h1 n hn').2.2 _ (by omega) (by omega))
      exact ⟨show (flag c (37 + 3 * n) || flag c (37 + 3 * n + 1) || decide (0 < word c (37 + 3 * n + 2))) = (flag d (37 + 3 * n) || flag d (37 + 3 * n + 1) || decide (0 < word d (37 + 3 * n + 2))) by rw [a, a2, b], show ⟨#[61]⟩ ++ tx (itoa (word c (37 + 3 * n + 2))) ++ markT (flag c (37 + 3 * n)) ⟨#[33]⟩ ++ markT (flag c (37 + 3 * n + 1)) ⟨#[43]⟩ = ⟨#[61]⟩ ++ tx (itoa (word d (37 + 3 * n + 2))) ++ markT (flag d (37 + 3 * n)) ⟨#[33]⟩ ++ markT (flag d (37 + 3 * n + 1)) ⟨#[43]⟩ by rw [a, a2, b]⟩
    · have b := wd (85 + n) (h2 n hn)
      exact ⟨show (word c (85 + n) != 0) = (word d (85 + n) != 0) by rw [b], show ⟨#[61]⟩ ++ tx (itoa (word c (85 + n))) = ⟨#[61]⟩ ++ tx (itoa (word d (85 + n))) by rw [b]⟩
    · have hn' : n < 16 := hn
      have e := (h1 n hn').1
      obtain ⟨x, hx, x0⟩ := hc.f64 (i := 117 + n) (by omega) (kd_r hn')
      obtain ⟨y, hy, y0⟩ := hd.f64 (i := 117 + n) (by omega) (kd_r hn')
      rw [hx, hy] at e
      have e' : exactOf (.float .f64 x) = exactOf (.float .f64 y) := by simpa using e
      have b : rt (rbits c (117 + n)) = rt (rbits d (117 + n)) := by
        rw [show rbits c (117 + n) = x by simp [rbits, hx], show rbits d (117 + n) = y by simp [rbits, hy]]
        exact Txt.same (rt_txt hrt x) (rt_txt hrt y) (same_exact.2 e')
      exact ⟨show (!((tx (rt (rbits c (117 + n)))).toList == [48])) = (!((tx (rt (rbits d (117 + n)))).toList == [48])) by rw [b], show ⟨#[61]⟩ ++ tx (rt (rbits c (117 + n))) = ⟨#[61]⟩ ++ tx (rt (rbits d (117 + n))) by rw [b]⟩
  rw [memT_join, memT_join]
  unfold wordsAll
  rw [wordsK_same key 10 (by omega), wd 133 h8, fg 134 h9, fg 135 h10]
/-- Two memories' texts are one just if the memories are. -/
theorem text_iff {rt : Nat → List UInt8} (hrt : RtOk rt) {c d : Array Value} (hc : MemOk c) (hd : MemOk d) : memT rt c = memT rt d ↔ MS c d := ⟨ms_of_text hrt hc hd, text_of_ms hrt hc hd⟩
theorem ms_symm {c d : Array Value} (h : MS c d) : MS d c := ⟨fun j hj => (h.1 j hj).symm, fun i h1 h2 => (h.2 i h1 h2).symm⟩
theorem ms_refl (c : Array Value) : MS c c := ⟨fun j hj => rfl, fun i h1 h2 => rfl⟩
end Go.Proofs.YtjnddfpieogpiaaGreatDoor.Rr
