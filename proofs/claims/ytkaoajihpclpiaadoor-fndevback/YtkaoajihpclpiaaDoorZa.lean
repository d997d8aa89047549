/- Reading: what both guesses give at the text of an operand, and at any other text. -/
import Derived.Test.YtkaoajihpclpiaaDoorZ
namespace Go.Proofs.YtkaoajihpclpiaaDoor
open Go.RowKit
open Go.Lib (decDigits itoa)
set_option linter.unusedVariables false

set_option maxHeartbeats 2000000 in
theorem spec_read_no (s : ByteArray) (K N P : Int) (w : World) (hne : s.toList ≠ [])
    (HG : Hid (∀ W, Calls Tryd.prog 45 #[.string s] W fun e w' => e = .returned (.agg #[.int .i64 K, .int .i64 N, .int .i64 P]) ∧ Below W.heap.size W w')) (hx : ((txt K N P).toList == s.toList) = false) :
    Calls Tryd.prog 19 #[.string s] w fun e w' => e = .returned (.tuple #[.agg #[.int .i64 0, .int .i64 0, .int .i64 0], .bool false]) ∧ Below w.heap.size w w' := by
  have HX : Hid (∀ W, Calls Tryd.prog 15 #[.agg #[.int .i64 K, .int .i64 N, .int .i64 P]] W fun e w' => e = .returned (.string (txt K N P)) ∧ Below W.heap.size W w') := fun W => spec_text K N P W
  obtain ⟨X, HXX⟩ : ∃ X, Hid (X = txt K N P) := ⟨_, Eq.refl (txt K N P)⟩
  rw [← HXX.out] at HX hx
  clear HXX
  have he : (s.toList == []) = false := by cases h : s.toList with | nil => exact absurd h hne | cons a b => rfl
  go_enter Tryd.func19, Tryd.ntmps19
  go_wp2_with fail
  refine (HG.out _).mono ?_
  rintro e w1 ⟨rfl, g1⟩
  have r1 : A3 w1 w.heap.size 0 0 0 := (A3.fresh w 0 0 0 24).later g1
  have b1 : Below w.heap.size w w1 := ((Below.refl _ _).alloc (Nat.le_refl _) _).trans (g1.mono (by simp))
  clear g1 HG
  go_wp2_with fail
  refine (HX.out _).mono ?_
  rintro e w2 ⟨rfl, g2⟩
  have r2 : A3 w2 w.heap.size 0 0 0 := (r1.alloc _).later g2
  have b2 : Below w.heap.size w w2 := (b1.alloc b1.size _).trans (g2.mono (by simp; have := b1.size; omega))
  clear g2 HX r1 b1
  have r3 := r2.set 0 0 0
  obtain ⟨x0, x1, x2, y0, y1, y2⟩ := r2
  obtain ⟨z0, z1, z2, _, _, _⟩ := r3
  go_wp2
  refine bodyPost_ret (v := .tuple #[.agg #[.int .i64 0, .int .i64 0, .int .i64 0], .bool false]) (by simp [results, Tryd.results19, go_sem, z0, z1, z2]) rfl ⟨rfl, ?_⟩
  exact ((b2.setCell (Nat.le_refl _) _).setCell (Nat.le_refl _) _).setCell (Nat.le_refl _) _

set_option maxHeartbeats 2000000 in
theorem spec_read_yes (s : ByteArray) (K N P : Int) (w : World) (hne : s.toList ≠ [])
    (HG : Hid (∀ W, Calls Tryd.prog 45 #[.string s] W fun e w' => e = .returned (.agg #[.int .i64 K, .int .i64 N, .int .i64 P]) ∧ Below W.heap.size W w')) (hx : ((txt K N P).toList == s.toList) = true) :
    Calls Tryd.prog 19 #[.string s] w fun e w' => e = .returned (.tuple #[.agg #[.int .i64 K, .int .i64 N, .int .i64 P], .bool true]) ∧ Below w.heap.size w w' := by
  have HX : Hid (∀ W, Calls Tryd.prog 15 #[.agg #[.int .i64 K, .int .i64 N, .int .i64 P]] W fun e w' => e = .returned (.string (txt K N P)) ∧ Below W.heap.size W w') := fun W => spec_text K N P W
  obtain ⟨X, HXX⟩ : ∃ X, Hid (X = txt K N P) := ⟨_, Eq.refl (txt K N P)⟩
  rw [← HXX.out] at HX hx
  clear HXX
  have he : (s.toList == []) = false := by cases h : s.toList with | nil => exact absurd h hne | cons a b => rfl
  go_enter Tryd.func19, Tryd.ntmps19
  go_wp2_with fail
  refine (HG.out _).mono ?_
  rintro e w1 ⟨rfl, g1⟩
  have r1 : A3 w1 w.heap.size 0 0 0 := (A3.fresh w 0 0 0 24).later g1
  have b1 : Below w.heap.size w w1 := ((Below.refl _ _).alloc (Nat.le_refl _) _).trans (g1.mono (by simp))
  have n1 : w.heap.size < w1.heap.size := r1.lt
  clear g1 HG
  go_wp2_with fail
  refine (HX.out _).mono ?_
  rintro e w2 ⟨rfl, g2⟩
  have r2 : A3 w2 w.heap.size 0 0 0 := (r1.alloc _).later g2
  have a2 : A3 w2 w1.heap.size K N P := (A3.fresh w1 K N P 24).later g2
  have b2 : Below w.heap.size w w2 := (b1.alloc b1.size _).trans (g2.mono (by simp; have := b1.size; omega))
  clear g2 HX r1 b1
  have r3 := r2.set K N P
  obtain ⟨x0, x1, x2, y0, y1, y2⟩ := r2
  obtain ⟨c0, c1, c2, f0, f1, f2⟩ := a2
  obtain ⟨z0, z1, z2, _, _, _⟩ := r3
  go_wp2
  refine bodyPost_ret (v := .tuple #[.agg #[.int .i64 K, .int .i64 N, .int .i64 P], .bool true]) (by simp [results, Tryd.results19, go_sem, z0, z1, z2]) rfl ⟨rfl, ?_⟩
  exact ((b2.setCell (Nat.le_refl _) _).setCell (Nat.le_refl _) _).setCell (Nat.le_refl _) _

set_option maxHeartbeats 2000000 in
theorem spec_read_empty (s : ByteArray) (K N P : Int) (w : World) (he : (s.toList == []) = true)
    (HG : Hid (∀ W, Calls Tryd.prog 45 #[.string s] W fun e w' => e = .returned (.agg #[.int .i64 K, .int .i64 N, .int .i64 P]) ∧ Below W.heap.size W w')) :
    Calls Tryd.prog 19 #[.string s] w fun e w' => e = .returned (.tuple #[.agg #[.int .i64 0, .int .i64 0, .int .i64 0], .bool false]) ∧ Below w.heap.size w w' := by
  go_enter Tryd.func19, Tryd.ntmps19
  go_wp2_with fail
  refine (HG.out _).mono ?_
  rintro e w1 ⟨rfl, g1⟩
  have r1 : A3 w1 w.heap.size 0 0 0 := (A3.fresh w 0 0 0 24).later g1
  have b1 : Below w.heap.size w w1 := ((Below.refl _ _).alloc (Nat.le_refl _) _).trans (g1.mono (by simp))
  clear g1 HG
  have r2 := r1.alloc (.cells #[.int .i64 K, .int .i64 N, .int .i64 P] 24)
  have b2 := b1.alloc b1.size (.cells #[.int .i64 K, .int .i64 N, .int .i64 P] 24)
  have r3 := r2.set 0 0 0
  obtain ⟨x0, x1, x2, y0, y1, y2⟩ := r2
  obtain ⟨z0, z1, z2, _, _, _⟩ := r3
  go_wp2
  refine bodyPost_ret (v := .tuple #[.agg #[.int .i64 0, .int .i64 0, .int .i64 0], .bool false]) (by simp [results, Tryd.results19, go_sem, z0, z1, z2]) rfl ⟨rfl, ?_⟩
  exact ((b2.setCell (Nat.le_refl _) _).setCell (Nat.le_refl _) _).setCell (Nat.le_refl _) _

theorem tx_data (l : List UInt8) : (tx l).data.toList = l := by simp [tx]
theorem tx_toList (l : List UInt8) : (tx l).toList = l := by rw [Lib.toList_data, tx_data]
theorem tx_inj {a b : List UInt8} (h : tx a = tx b) : a = b := by rw [← tx_data a, h, tx_data]
theorem tx_get (l : List UInt8) (j : Nat) (h : j < (tx l).size) (h' : j < l.length) : (tx l)[j]'h = l[j]'h' := rfl
def wl (i : Nat) : List UInt8 := if i = 0 then [110, 97, 110] else if i = 1 then [105, 110, 102] else if i = 2 then [45, 105, 110, 102] else [45, 48, 46, 48]
theorem wd_tx (i : Nat) (hi : i < 4) : wd i = tx (wl i) := by
  rcases c4 i hi with rfl | rfl | rfl | rfl <;> rfl

/-- A text is none of the words. -/
def NW (s : ByteArray) : Prop := ∀ i : Nat, i < 4 → s ≠ wd i
theorem nw1 (b : UInt8) (r : List UInt8) (h1 : b.toNat ≠ 110) (h2 : b.toNat ≠ 105) (h3 : b.toNat ≠ 45) : NW (tx (b :: r)) := by
  intro i hi e
  rw [wd_tx i hi] at e
  have e1 := tx_inj e
  rcases c4 i hi with rfl | rfl | rfl | rfl
  all_goals
    have e2 := (List.cons.inj e1).1
    subst e2
    first | exact h1 rfl | exact h2 rfl | exact h3 rfl
theorem nw2 (b : UInt8) (r : List UInt8) (h1 : isD b) (h2 : b :: r ≠ [48, 46, 48]) : NW (tx (45 :: b :: r)) := by
  intro i hi e
  rw [wd_tx i hi] at e
  have e1 := tx_inj e
  rcases c4 i hi with rfl | rfl | rfl | rfl
  · exact absurd (List.cons.inj e1).1 (by decide)
  · exact absurd (List.cons.inj e1).1 (by decide)
  · have e2 := (List.cons.inj (List.cons.inj e1).2).1
    subst e2
    exact absurd h1.2 (by decide)
  · exact h2 (List.cons.inj e1).2

theorem dec_cons (u : Nat) : ∃ b r, decDigits u = b :: r ∧ isD b := by
  have h := Lib.nDigits_pos u
  rw [← Lib.decDigits_length] at h
  cases hd : decDigits u with
  | nil => rw [hd] at h; simp at h
  | cons b r => exact ⟨b, r, rfl, dec_isD u b (by rw [hd]; simp)⟩
theorem cut_cons (u p : Nat) : ∃ b r, cutp u p = b :: r ∧ isD b := by
  obtain ⟨A, B, h1, h2, h3, h4⟩ := cutp_parts u p
  cases A with
  | nil => simp at h4
  | cons a A => exact ⟨a, A ++ 46 :: B, h1, pad_isD u p a (by rw [← h2]; simp)⟩
theorem isD_ne {b : UInt8} (h : isD b) : b.toNat ≠ 110 ∧ b.toNat ≠ 105 ∧ b.toNat ≠ 45 ∧ b.toNat ≠ 46 ∧ ltr b.toNat = 0 := by
  have h1 := h.1
  have h2 := h.2
  exact ⟨by omega, by omega, by omega, by omega, ltr_dig _ h1 h2⟩

/-- The letter of a kind of device. -/
def lc (k : Nat) : UInt8 := if k = 1 then 88 else if k = 2 then 89 else if k = 3 then 77 else if k = 4 then 83 else if k = 5 then 69 else if k = 6 then 71 else if k = 7 then 84 else if k = 8 then 67 else if k = 9 then 68 else 82
theorem c10 (k : Nat) (h1 : 1 ≤ k) (h2 : k ≤ 10) : k = 1 ∨ k = 2 ∨ k = 3 ∨ k = 4 ∨ k = 5 ∨ k = 6 ∨ k = 7 ∨ k = 8 ∨ k = 9 ∨ k = 10 := by omega
theorem kL_tx (k : Nat) (h1 : 1 ≤ k) (h2 : k ≤ 10) : kL k = tx [lc k] := by
  rcases c10 k h1 h2 with rfl | rfl | rfl | rfl | rfl | rfl | rfl | rfl | rfl | rfl <;> rfl
theorem lc_ltr (k : Nat) (h1 : 1 ≤ k) (h2 : k ≤ 10) : ltr (lc k).toNat = k ∧ (lc k).toNat ≠ 110 ∧ (lc k).toNat ≠ 105 ∧ (lc k).toNat ≠ 45 := by
  rcases c10 k h1 h2 with rfl | rfl | rfl | rfl | rfl | rfl | rfl | rfl | rfl | rfl <;> decide

/-- The shapes of the texts of operands that are ok. -/
inductive Shape : Int → Int → Int → ByteArray → Prop
  | word (i : Nat) (h : i < 4) : Shape 13 i 0 (wd i)
  | dev (k u : Nat) (h1 : 1 ≤ k) (h2 : k ≤ 10) (h3 : u ≤ 999999999) : Shape k u 0 (tx (lc k :: decDigits u))
  | pos (u : Nat) (h : u ≤ 999999999) : Shape 11 u 0 (tx (decDigits u))
  | neg (u : Nat) (h0 : 1 ≤ u) (h : u ≤ 999999999) : Shape 11 (-(u : Int)) 0 (tx (45 :: decDigits u))
  | dpos (u p : Nat) (h : u ≤ 999999999) (hp : p ≤ 6) : Shape 12 u p (tx (cutp u p))
  | dneg (u p : Nat) (h0 : 1 ≤ u) (h : u ≤ 999999999) (hp : p ≤ 6) : Shape 12 (-(u : Int)) p (tx (45 :: cutp u p))

theorem shape_of {k n p : Int} (h : okA k n p = true) : Shape k n p (txt k n p) := by
  unfold txt
  rw [if_pos h]
  by_cases k2 : k = 12
  · subst k2
    rw [if_pos rfl]
    have bd := okD_bd (by rw [← okA_dec]; exact h)
    obtain ⟨P, rfl⟩ := Int.eq_ofNat_of_zero_le (by omega : 0 ≤ p)
    have eP : (P : Int).toNat = P := by omega
    by_cases hn : 0 ≤ n
    · obtain ⟨u, rfl⟩ := Int.eq_ofNat_of_zero_le hn
      have e : decL (u : Int) (P : Int).toNat = cutp u P := by unfold decL; rw [if_neg (by omega), eP]; rfl
      rw [e]
      exact .dpos u P (by omega) (by omega)
    · obtain ⟨u, hu⟩ := Int.eq_ofNat_of_zero_le (by omega : 0 ≤ -n)
      obtain rfl : n = -(u : Int) := by omega
      have e : decL (-(u : Int)) (P : Int).toNat = 45 :: cutp u P := by unfold decL; rw [if_pos (by omega), eP]; simp
      rw [e]
      exact .dneg u P (by omega) (by omega) (by omega)
  rw [if_neg k2]
  have bd := ok_bd h k2
  obtain ⟨b1, b2, rfl⟩ := bd
  by_cases k3 : k = 13
  · subst k3
    rw [if_pos rfl]
    have bw := ok_word h
    obtain ⟨i, rfl⟩ := Int.eq_ofNat_of_zero_le bw.1
    exact .word i (by omega)
  rw [if_neg k3]
  by_cases k1 : k = 11
  · subst k1
    rw [kL11]
    by_cases hn : 0 ≤ n
    · obtain ⟨u, rfl⟩ := Int.eq_ofNat_of_zero_le hn
      rw [Lib.itoa_nonneg]
      exact .pos u (by omega)
    · obtain ⟨u, hu⟩ := Int.eq_ofNat_of_zero_le (by omega : 0 ≤ -n)
      obtain rfl : n = -(u : Int) := by omega
      rw [Lib.itoa_neg u (by omega)]
      exact .neg u (by omega) (by omega)
  · have hc := ok_cases h
    obtain ⟨K, rfl⟩ := Int.eq_ofNat_of_zero_le (by omega : 0 ≤ k)
    have e : okA K n 0 = decide (0 ≤ n ∧ n < kS K ∧ (0 : Int) = 0) := by
      unfold okA
      rw [if_neg k2, if_neg k1, if_neg k3]
    rw [e] at h
    simp at h
    obtain ⟨u, rfl⟩ := Int.eq_ofNat_of_zero_le h.1
    rw [Lib.itoa_nonneg, kL_tx K (by omega) (by omega), tx_append]
    exact .dev K u (by omega) (by omega) (by omega)

theorem Shape.ne {k n p : Int} {s : ByteArray} (h : Shape k n p s) : s.toList ≠ [] := by
  cases h with
  | word i h => rw [wd_tx i h, tx_toList]; rcases c4 i h with rfl | rfl | rfl | rfl <;> decide
  | dev k u h1 h2 h3 => rw [tx_toList]; simp
  | pos u h => obtain ⟨b, r, e, _⟩ := dec_cons u; rw [tx_toList, e]; simp
  | neg u h0 h => rw [tx_toList]; simp
  | dpos u p h hp => obtain ⟨b, r, e, _⟩ := cut_cons u p; rw [tx_toList, e]; simp
  | dneg u p h0 h hp => rw [tx_toList]; simp
theorem Shape.size {k n p : Int} {s : ByteArray} (h : Shape k n p s) : s.size ≤ 1048576 := by
  have hc : ∀ u p, u ≤ 999999999 → p ≤ 6 → (cutp u p).length ≤ 40 := fun u p h1 h2 => cutp_len u p (by omega) h2
  cases h with
  | word i h => rw [wd_tx i h, tx_size]; rcases c4 i h with rfl | rfl | rfl | rfl <;> decide
  | dev k u h1 h2 h3 => have := dec_len9 u h3; rw [tx_size]; simp; omega
  | pos u h => have := dec_len9 u h; rw [tx_size]; omega
  | neg u h0 h => have := dec_len9 u h; rw [tx_size]; simp; omega
  | dpos u p h hp => have := hc u p h hp; rw [tx_size]; omega
  | dneg u p h0 h hp => have := hc u p h hp; rw [tx_size]; simp; omega

theorem cut_ne (u p : Nat) (h0 : 1 ≤ u) (h : u ≤ 999999999) : cutp u p ≠ [48, 46, 48] := by
  intro e
  have h1 := gl_cut u p false 1 h
  rw [e] at h1
  have h2 : gl false 1 11 0 0 [48, 46, 48] = (12, 0, 1) := by decide +kernel
  rw [h2] at h1
  have := congrArg (fun x => x.2.1) h1
  simp at this
  omega
theorem Shape.nw {k n p : Int} {s : ByteArray} (h : Shape k n p s) (hk : k ≠ 13) : NW s := by
  cases h with
  | word i h => exact absurd rfl hk
  | dev k u h1 h2 h3 => have := lc_ltr k h1 h2; exact nw1 _ _ this.2.1 this.2.2.1 this.2.2.2
  | pos u h => obtain ⟨b, r, e, hb⟩ := dec_cons u; rw [e]; have := isD_ne hb; exact nw1 _ _ this.1 this.2.1 this.2.2.1
  | neg u h0 h =>
    obtain ⟨b, r, e, hb⟩ := dec_cons u
    rw [e]
    refine nw2 b r hb ?_
    intro e2
    rw [← e] at e2
    have := dec_isD u 46 (by rw [e2]; simp)
    exact absurd this.1 (by decide)
  | dpos u p h hp => obtain ⟨b, r, e, hb⟩ := cut_cons u p; rw [e]; have := isD_ne hb; exact nw1 _ _ this.1 this.2.1 this.2.2.1
  | dneg u p h0 h hp =>
    obtain ⟨b, r, e, hb⟩ := cut_cons u p
    have := cut_ne u p h0 h
    rw [e] at this ⊢
    exact nw2 b r hb this

theorem Shape.gI {k n p : Int} {s : ByteArray} (h : Shape k n p s) (hk : k ≠ 13) : gI s = (k, n, p) := by
  unfold YtkaoajihpclpiaaDoor.gI
  cases h with
  | word i h => exact absurd rfl hk
  | dev k u h1 h2 h3 =>
    have hl := lc_ltr k h1 h2
    rw [tx_data, gl_ltr _ _ _ _ _ _ hl.2.2.2 (by rw [hl.1]; omega), hl.1, gl_int u false 1 k h3 (by omega)]
    simp
  | pos u h => rw [tx_data, gl_int u true 1 11 h (by decide)]; simp
  | neg u h0 h => rw [tx_data, gl_minus _ _ _ _ _ _ (by decide), gl_int u false (-1) 11 h (by decide)]; simp
  | dpos u p h hp => rw [tx_data, gl_cut u p true 1 h]; simp
  | dneg u p h0 h hp => rw [tx_data, gl_minus _ _ _ _ _ _ (by decide), gl_cut u p false (-1) h]; simp

theorem impl_guess_ok {k n p : Int} {s : ByteArray} (h : Shape k n p s) (w : World) (hT : Tabs w) :
    Calls Tryd.prog 42 #[.string s] w fun e w' => e = .returned (.agg #[.int .i64 k, .int .i64 n, .int .i64 p]) ∧ Below w.heap.size w w' := by
  by_cases hk : k = 13
  · cases h with
    | word i h => exact guess_word i h w hT
    | dev k u h1 h2 h3 => omega
    | pos u h => omega
    | neg u h0 h => omega
    | dpos u p h hp => omega
    | dneg u p h0 h hp => omega
  · have h1 := guess_any s w hT h.size (h.nw hk)
    rw [h.gI hk] at h1
    exact h1

theorem impl_guess_some (s : ByteArray) (hs : s.size ≤ 1048576) : ∃ G : Int × Int × Int, ∀ w, Tabs w → Calls Tryd.prog 42 #[.string s] w fun e w' => e = .returned (.agg #[.int .i64 G.1, .int .i64 G.2.1, .int .i64 G.2.2]) ∧ Below w.heap.size w w' := by
  by_cases h : NW s
  · exact ⟨gI s, fun w hT => guess_any s w hT hs h⟩
  · obtain ⟨i, hi, e⟩ : ∃ i : Nat, i < 4 ∧ s = wd i := Classical.byContradiction fun hn => h fun i hi e => hn ⟨i, hi, e⟩
    subst e
    exact ⟨(13, i, 0), fun w hT => guess_word i hi w hT⟩
end Go.Proofs.YtkaoajihpclpiaaDoor
