/- memValue of every kind; the sizes of a memory's words. -/
import Derived.Test.YteekbhhlgicpeaaDoorVa6
namespace Go.Proofs.YteekbhhlgicpeaaDoor
open Go.RowKit
open Go.Lib (decDigits itoa)
set_option linter.unusedVariables false

theorem tabs_keep : ∀ W W' : World, Tabs W → Below W.heap.size W W' → Tabs W' := fun W W' h g => h.later g
theorem digits_itoa (u : Nat) : tx (decDigits u) = tx (itoa (u : Int)) := by rw [Lib.itoa_nonneg]

theorem mval_all {rt : Nat → List UInt8} (hrt : RtOk rt) (c : Array Value) (hc : MemOk c) (k n : Nat) (h1 : 1 ≤ k) (h2 : k ≤ 10) (hn : n < (kS (k : Int)).toNat) (w : World) (hT : Tabs w) :
    (vT rt c k n).size ≤ 80 ∧ Calls Tryd.prog 19 #[.agg c, .agg #[.int .i64 k, .int .i64 n, .int .i64 0]] w fun e w' => e = .returned (.tuple #[.string (vT rt c k n), .bool (vP rt c k n)]) ∧ Below w.heap.size w w' := by
  have hk : k = 1 ∨ k = 2 ∨ k = 3 ∨ k = 4 ∨ k = 5 ∨ k = 6 ∨ k = 7 ∨ k = 8 ∨ k = 9 ∨ k = 10 := by omega
  rcases hk with rfl | rfl | rfl | rfl | rfl | rfl | rfl | rfl | rfl | rfl
  · exact ⟨by rw [vT_low (by omega)]; decide, mval_1 c hc n w hT.k⟩
  · exact ⟨by rw [vT_low (by omega)]; decide, mval_2 c hc n w hT.k⟩
  · exact ⟨by rw [vT_low (by omega)]; decide, mval_3 c hc n w hT.k⟩
  · exact ⟨by rw [vT_low (by omega)]; decide, mval_4 c hc n w hT.k⟩
  · exact ⟨by rw [vT_low (by omega)]; decide, mval_5 c hc n w hT.k⟩
  · exact ⟨by rw [vT_low (by omega)]; decide, mval_6 c n w⟩
  · have hn16 : n < 16 := hn
    obtain ⟨b, m, hb, hm, hmr, hP, hTt⟩ := timer_at hc hn16
    obtain ⟨u, rfl⟩ := Int.eq_ofNat_of_zero_le hmr.1
    have e1 : word c (5 + 2 * n + 1) = (u : Int) := word_of (by rw [show 5 + 2 * n + 1 = 5 + n * 2 + 1 by omega]; exact hm)
    have e2 : flag c (5 + 2 * n) = b := flag_of (by rw [show 5 + 2 * n = 5 + n * 2 by omega]; exact hb)
    have hs := u16_text hmr
    have ev : vT rt c 7 n = ⟨#[61]⟩ ++ tx (itoa (u : Int)) ++ markT b ⟨#[33]⟩ := by
      show (⟨#[61]⟩ : ByteArray) ++ tx (itoa (word c (5 + 2 * n + 1))) ++ markT (flag c (5 + 2 * n)) ⟨#[33]⟩ = _
      rw [e1, e2]
    have ep : vP rt c 7 n = (b || decide (0 < (u : Int))) := hP
    rw [ev, ep]
    refine ⟨Nat.le_trans (eq_text _ _ (by omega) (Nat.le_trans (markT_size b ⟨#[33]⟩) (by decide))) (by omega), ?_⟩
    exact mval_7 (G := Tabs) tabs_keep c hc.size n b u hn16 hmr hb hm (tx (itoa (u : Int))) (by omega) (fun W h => by have := digits_i u (by omega) W h.p; rw [digits_itoa] at this; exact this) w hT
  · have hn16 : n < 16 := hn
    obtain ⟨b, l, m, hb, hl, hm, hmr, hP, hTt⟩ := counter_at hc hn16
    obtain ⟨u, rfl⟩ := Int.eq_ofNat_of_zero_le hmr.1
    have e1 : word c (37 + 3 * n + 2) = (u : Int) := word_of (by rw [show 37 + 3 * n + 2 = 37 + n * 3 + 2 by omega]; exact hm)
    have e2 : flag c (37 + 3 * n) = b := flag_of (by rw [show 37 + 3 * n = 37 + n * 3 by omega]; exact hb)
    have e3 : flag c (37 + 3 * n + 1) = l := flag_of (by rw [show 37 + 3 * n + 1 = 37 + n * 3 + 1 by omega]; exact hl)
    have hs := u16_text hmr
    have ev : vT rt c 8 n = ⟨#[61]⟩ ++ tx (itoa (u : Int)) ++ markT b ⟨#[33]⟩ ++ markT l ⟨#[43]⟩ := by
      show (⟨#[61]⟩ : ByteArray) ++ tx (itoa (word c (37 + 3 * n + 2))) ++ markT (flag c (37 + 3 * n)) ⟨#[33]⟩ ++ markT (flag c (37 + 3 * n + 1)) ⟨#[43]⟩ = _
      rw [e1, e2, e3]
    have ep : vP rt c 8 n = (b || l || decide (0 < (u : Int))) := hP
    rw [ev, ep]
    refine ⟨Nat.le_trans (eq_text2 _ _ _ (by omega) (Nat.le_trans (markT_size b ⟨#[33]⟩) (by decide)) (Nat.le_trans (markT_size l ⟨#[43]⟩) (by decide))) (by omega), ?_⟩
    exact mval_8 (G := Tabs) tabs_keep c hc.size n b l u hn16 hmr hb hl hm (tx (itoa (u : Int))) (by omega) (fun W h => by have := digits_i u (by omega) W h.p; rw [digits_itoa] at this; exact this) w hT
  · have hn32 : n < 32 := hn
    obtain ⟨m, hm, hmr, hP, hTt⟩ := data_at hc hn32
    have hs := i16_text hmr
    have ev : vT rt c 9 n = ⟨#[61]⟩ ++ tx (itoa m) := by
      show (⟨#[61]⟩ : ByteArray) ++ tx (itoa (word c (85 + n))) = _
      rw [word_of hm]
    have ep : vP rt c 9 n = (m != 0) := hP
    rw [ev, ep]
    refine ⟨Nat.le_trans (eq_text1 _ (by omega)) (by omega), ?_⟩
    exact mval_9 (G := Tabs) tabs_keep c n m hn32 hmr hm (tx (itoa m)) (by omega) (fun W h => itoa_t m (by omega) (by omega) W h.p) w hT
  · have hn16 : n < 16 := hn
    obtain ⟨x, hx, hxb, hP, hTt⟩ := real_at rt hc hn16
    have hs := rt_size hrt x
    have ev : vT rt c 10 n = ⟨#[61]⟩ ++ tx (rt x) := by
      show (⟨#[61]⟩ : ByteArray) ++ tx (rt (rbits c (117 + n))) = _
      rw [rbits_of hx]
    have ep : vP rt c 10 n = !((tx (rt x)).toList == [48]) := hP
    rw [ev, ep]
    refine ⟨Nat.le_trans (eq_text1 _ (by omega)) (by omega), ?_⟩
    exact mval_10 (G := Tabs) tabs_keep c hc n x hn16 hx (tx (rt x)) (by omega) (fun W h => (impl_rtext x W hxb h.p).mono fun e w' ⟨t, a, b, d⟩ => ⟨by rw [a, hrt.1 x t b], d⟩) w hT

theorem okA_dev (k n : Nat) (h1 : 1 ≤ k) (h2 : k ≤ 10) (hn : n < (kS (k : Int)).toNat) : okA k n 0 = true := by
  unfold okA
  rw [if_neg (by omega), if_neg (by omega), if_neg (by omega)]
  simp
  omega
theorem dev_all (k n : Nat) (h1 : 1 ≤ k) (h2 : k ≤ 10) (hn : n < (kS (k : Int)).toNat) (w : World) (hT : Tabs w) :
    Calls Tryd.prog 20 #[.agg #[.int .i64 k, .int .i64 n, .int .i64 0]] w fun e w' => e = .returned (.string (nmT k n)) ∧ Below w.heap.size w w' := by
  have e : txt k n 0 = nmT k n := by
    unfold txt nmT
    rw [okA_dev k n h1 h2 hn, if_pos rfl, if_neg (by omega), if_neg (by omega)]
  rw [← e]
  exact impl_text k n 0 w hT

theorem accL_mem {L : List ByteArray} {p : Nat → Bool} {t : Nat → ByteArray} {x : ByteArray} : ∀ n, x ∈ accL L p t n → x ∈ L ∨ ∃ i, i < n ∧ x = t i
  | 0, h => .inl h
  | n + 1, h => by
    unfold accL at h
    split at h
    · rcases List.mem_append.1 h with h | h
      · rcases accL_mem n h with h | ⟨i, hi, e⟩
        · exact .inl h
        · exact .inr ⟨i, by omega, e⟩
      · exact .inr ⟨n, by omega, by simpa using h⟩
    · rcases accL_mem n h with h | ⟨i, hi, e⟩
      · exact .inl h
      · exact .inr ⟨i, by omega, e⟩
theorem flat_size : ∀ (L : List ByteArray) (s : ByteArray), (∀ x ∈ L, x.size ≤ 200) → (L.foldl (fun s x => s ++ (x ++ ⟨#[32]⟩)) s).size ≤ s.size + 201 * L.length
  | [], s, _ => by simp
  | x :: L, s, h => by
    have h1 := flat_size L (s ++ (x ++ ⟨#[32]⟩)) (fun y hy => h y (List.mem_cons_of_mem _ hy))
    have h2 := h x (List.mem_cons_self ..)
    have h3 : (⟨#[32]⟩ : ByteArray).size = 1 := rfl
    rw [List.foldl_cons]
    rw [ByteArray.size_append, ByteArray.size_append, h3] at h1
    simp only [List.length_cons]
    omega
theorem optW_mem {b : Bool} {s x : ByteArray} (h : x ∈ optW b s) : x = s := by
  unfold optW at h
  split at h
  · simpa using h
  · simp at h
theorem words_small {rt : Nat → List UInt8} {c : Array Value} (hv : ∀ k n : Nat, 1 ≤ k → k ≤ 10 → n < (kS (k : Int)).toNat → (vT rt c k n).size ≤ 80) : ∀ j, j ≤ 10 → ∀ x ∈ wordsK rt c j, x.size ≤ 200
  | 0, _, x, h => by simp [wordsK] at h
  | j + 1, hj, x, h => by
    rcases accL_mem _ h with h | ⟨i, hi, rfl⟩
    · exact words_small hv j (by omega) x h
    · have hb := kS_bd ((j : Int) + 1)
      have h1 := nmT_size (j + 1) i (by omega)
      have h2 := hv (j + 1) i (by omega) hj hi
      unfold wdT; rw [ByteArray.size_append]; omega
theorem wordsAll_len (rt : Nat → List UInt8) (c : Array Value) : (wordsAll rt c).length ≤ 643 := by
  have h := wordsK_len rt c 10
  have o : ∀ b s, (optW b s).length ≤ 1 := fun b s => by unfold optW; split <;> simp
  unfold wordsAll
  simp only [List.length_append]
  have h1 := o (decide (0 < word c 133)) (⟨#[116, 105, 109, 101, 61]⟩ ++ tx (itoa (word c 133)))
  have h2 := o (flag c 134) ⟨#[114, 97, 110]⟩
  have h3 := o (flag c 135) ⟨#[102, 97, 117, 108, 116]⟩
  omega
end Go.Proofs.YteekbhhlgicpeaaDoor
