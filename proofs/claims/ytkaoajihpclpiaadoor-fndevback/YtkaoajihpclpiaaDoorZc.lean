/- The law FnDevBack: the specification's draw of a text, and the law's walk. -/
import Derived.Test.YtkaoajihpclpiaaDoorZb
import Derived.Test.YtkaoajihpclpiaaDoorJ
namespace Go.Proofs.YtkaoajihpclpiaaDoor
open Go.RowKit
open Go.Lib (decDigits itoa)
set_option linter.unusedVariables false

theorem Shape.small {k n p : Int} {s : ByteArray} (h : Shape k n p s) : s.size ≤ 100 := by
  have hc : ∀ u p, u ≤ 999999999 → p ≤ 6 → (cutp u p).length ≤ 40 := fun u p h1 h2 => cutp_len u p (by omega) h2
  cases h with
  | word i h => rw [wd_tx i h, tx_size]; rcases c4 i h with rfl | rfl | rfl | rfl <;> decide
  | dev k u h1 h2 h3 => have := dec_len9 u h3; rw [tx_size]; simp; omega
  | pos u h => have := dec_len9 u h; rw [tx_size]; omega
  | neg u h0 h => have := dec_len9 u h; rw [tx_size]; simp; omega
  | dpos u p h hp => have := hc u p h hp; rw [tx_size]; omega
  | dneg u p h0 h hp => have := hc u p h hp; rw [tx_size]; simp; omega
theorem txt_small (k n p : Int) : (txt k n p).size ≤ 100 := by
  by_cases h : okA k n p = true
  · exact (shape_of h).small
  · unfold txt
    rw [if_neg h]
    decide
theorem txt_not (k n p : Int) (h : okA k n p = false) : txt k n p = ⟨#[]⟩ := by
  unfold txt
  rw [h]
  rfl
theorem nt_empty : NT ⟨#[]⟩ := by
  intro k n p ho e
  have := (shape_of ho).ne
  rw [e, Lib.toList_data] at this
  exact this rfl

def texts43 : List ByteArray := [⟨#[]⟩, ⟨#[88]⟩, ⟨#[88, 48, 49]⟩, ⟨#[88, 45, 49]⟩, ⟨#[88, 51, 50]⟩, ⟨#[89, 51, 50]⟩, ⟨#[77, 54, 52]⟩, ⟨#[77, 54, 51]⟩, ⟨#[83, 49, 54]⟩, ⟨#[69, 51, 50]⟩, ⟨#[71, 53]⟩, ⟨#[84, 49, 54]⟩, ⟨#[67, 49, 54]⟩, ⟨#[68, 51, 50]⟩, ⟨#[82, 49, 54]⟩, ⟨#[90, 49]⟩, ⟨#[120, 49]⟩, ⟨#[45, 48]⟩, ⟨#[43, 53]⟩, ⟨#[48, 48, 55]⟩, ⟨#[49, 46]⟩, ⟨#[46, 53]⟩, ⟨#[48, 46, 53, 48]⟩, ⟨#[45, 48, 46, 48]⟩, ⟨#[48, 46, 48]⟩, ⟨#[45, 48, 46, 48, 48]⟩, ⟨#[49, 46, 50, 46, 51]⟩, ⟨#[45, 45, 49]⟩, ⟨#[51, 50, 55, 54, 56]⟩, ⟨#[45, 51, 50, 55, 54, 56]⟩, ⟨#[45, 51, 50, 55, 54, 57]⟩, ⟨#[49, 50, 51, 52, 53, 54, 55, 46, 49, 50, 51, 52, 53, 54, 55]⟩, ⟨#[57, 57, 57, 57, 57, 57, 57, 57, 46, 57]⟩, ⟨#[49, 48, 48, 48, 48, 48, 48, 48, 48, 46, 48]⟩, ⟨#[57, 57, 57, 46, 57, 57, 57, 57, 57, 57]⟩, ⟨#[78, 97, 78]⟩, ⟨#[45, 110, 97, 110]⟩, ⟨#[105, 110, 102, 32]⟩, ⟨#[48, 46, 48, 48, 48, 48, 48, 49]⟩, ⟨#[45, 48, 46, 48, 48, 48, 48, 48, 49]⟩, ⟨#[49, 101, 53]⟩, ⟨#[49, 50, 51, 52, 53, 54, 55, 56, 57, 48, 49, 50, 51, 52, 53, 54, 55, 56, 57, 48]⟩, ⟨#[88, 32, 49]⟩]
def textsA : List ByteArray := [⟨#[48]⟩, ⟨#[32]⟩, ⟨#[46]⟩, ⟨#[49]⟩, ⟨#[10]⟩]
def textsB : List ByteArray := [⟨#[45]⟩, ⟨#[48]⟩, ⟨#[32]⟩, ⟨#[88]⟩, ⟨#[43]⟩]
theorem texts_small : (∀ v ∈ texts43, v.size ≤ 20) ∧ (∀ v ∈ textsA, v.size ≤ 20) ∧ (∀ v ∈ textsB, v.size ≤ 20) := by
  refine ⟨?_, ?_, ?_⟩ <;> decide +kernel

theorem rowS (w : World) (xs : List ByteArray) (t : TypeId) : ∀ j x, xs[j]? = some x → (w.alloc (.cells (xs.map Value.string).toArray t)).cell? ⟨w.heap.size, j, none⟩ = some (.string x) := by
  intro j x hj
  rw [World.cell?_alloc_at _ _ _ _ rfl]
  simp [hj]

def IsText (e : Ending) : Prop := ∃ s : ByteArray, s.size ≤ 200 ∧ e = .returned (.string s)

set_option maxRecDepth 100000 in
set_option maxHeartbeats 4000000 in
theorem draw_read {a : Option Addr} {len cap blk off : Nat} {z : Nat → Int} (w : World) (h : Code0 w a len cap blk off z) :
    Calls Tryd.prog 18 #[.slice a len cap] w fun e w' => IsText e ∧ Below w.heap.size w w' := by
  go_enter Tryd.func18, Tryd.ntmps18
  go_wp2_with fail
  refine h.open.mono ?_
  rintro e w1 ⟨rfl, h1, b1⟩
  have hB1 := h1.2.1
  go_wp2_with fail
  refine (any_r _ _ 0 _ h1 (by omega)).mono ?_
  rintro e w2 ⟨⟨k, n, m, bn0, bn1, rfl⟩, ⟨q, hq, h2⟩, g2⟩
  have b2 : Below w.heap.size w w2 := b1.grown g2 (by omega) (fun j hj => by cases hj; omega)
  clear g2 h1 b1
  have hsm := txt_small k n m
  have HX : Hid (∀ W, Calls Tryd.prog 15 #[.agg #[.int .i64 k, .int .i64 n, .int .i64 m]] W fun e w' => e = .returned (.string (txt k n m)) ∧ Below W.heap.size W w') := fun W => spec_text k n m W
  obtain ⟨X, HXX⟩ : ∃ X, Hid (X = txt k n m) := ⟨_, Eq.refl (txt k n m)⟩
  rw [← HXX.out] at HX hsm
  clear HXX
  go_wp2_with fail
  refine (HX.out _).mono ?_
  rintro e w3 ⟨rfl, g3⟩
  have h3 := h2.later g3
  have b3 := b2.trans (g3.mono b2.size)
  clear g3 h2 b2 HX
  go_wp2_with fail
  refine (pick_r _ _ q 9 _ h3 (by omega) (by omega) (by omega)).mono ?_
  rintro e w4 ⟨t, t1, rfl, h4, g4⟩
  have hB3 := h3.2.1
  have b4 : Below w.heap.size w w4 := b3.grown g4 (by omega) (fun j hj => by cases hj; omega)
  have hB4 := h4.2.1
  clear g4 h3 b3
  by_cases t0 : t = 0
  · subst t0
    go_wp2_with fail
    refine (of_r _ _ (q + 1) w4.heap.size texts43 43 _ (h4.alloc _) (by decide) (by decide) (by omega) (by omega) (by exact rowS w4 texts43 9)).mono ?_
    rintro e w5 ⟨v, hv, rfl, h5, g5⟩
    have hv' := texts_small.1 v hv
    have b5 : Below w.heap.size w w5 := (b4.alloc (by omega) _).grown g5 (by simp; omega) (fun j hj => by cases hj; omega)
    clear g5 b4 hv
    go_wp2
    go_ret
    exact ⟨⟨v, by omega, rfl⟩, b5⟩
  · have t0' : ((t : Int) == 0) = false := by rw [beq_eq_false_iff_ne]; omega
    by_cases t2 : t = 1
    · subst t2
      go_wp2_with fail
      refine (of_r _ _ (q + 1) w4.heap.size textsA 5 _ (h4.alloc _) (by decide) (by decide) (by omega) (by omega) (by exact rowS w4 textsA 9)).mono ?_
      rintro e w5 ⟨v, hv, rfl, h5, g5⟩
      have hv' := texts_small.2.1 v hv
      have b5 : Below w.heap.size w w5 := (b4.alloc (by omega) _).grown g5 (by simp; omega) (fun j hj => by cases hj; omega)
      clear g5 b4 hv
      go_wp2
      go_ret
      exact ⟨⟨X ++ v, by rw [ByteArray.size_append]; omega, rfl⟩, b5⟩
    · have t2' : ((t : Int) == 1) = false := by rw [beq_eq_false_iff_ne]; omega
      by_cases t3 : t = 2
      · subst t3
        go_wp2_with fail
        refine (of_r _ _ (q + 1) w4.heap.size textsB 5 _ (h4.alloc _) (by decide) (by decide) (by omega) (by omega) (by exact rowS w4 textsB 9)).mono ?_
        rintro e w5 ⟨v, hv, rfl, h5, g5⟩
        have hv' := texts_small.2.2 v hv
        have b5 : Below w.heap.size w w5 := (b4.alloc (by omega) _).grown g5 (by simp; omega) (fun j hj => by cases hj; omega)
        clear g5 b4 hv
        go_wp2
        go_ret
        exact ⟨⟨v ++ X, by rw [ByteArray.size_append]; omega, rfl⟩, b5⟩
      · have t3' : ((t : Int) == 2) = false := by rw [beq_eq_false_iff_ne]; omega
        go_wp2
        go_ret
        exact ⟨⟨X, by omega, rfl⟩, b4⟩

set_option maxRecDepth 100000 in
set_option maxHeartbeats 20000000 in
theorem law3 {a a' : Option Addr} {len cap blk off len' cap' blk' off' : Nat} {z z' : Nat → Int} (w : World) (hT : Tabs w) (h1 : Code0 w a len cap blk off z) (h2 : Code0 w a' len' cap' blk' off' z') :
    Calls Tryd.prog 3 #[.slice a len cap, .slice a' len' cap'] w fun e w' => e = .returned (.bool true) ∧ Below w.heap.size w w' := by
  have i1 : ¬ (1048576 < (len : Int)) := by have := h1.short; omega
  have i2 : ¬ (1048576 < (len' : Int)) := by have := h2.short; omega
  go_enter Tryd.func3, Tryd.ntmps3
  go_wp2_with fail
  refine (draw_text w h1).mono ?_
  rintro e w1 ⟨⟨k, n, p, _, _, rfl⟩, b1⟩
  clear h1
  cases ho : okA k n p with
  | false =>
    have hX1 : (ByteArray.mk #[]).toList.isEmpty = true := by decide +kernel
    have HT1 : Hid (∀ W : World, Tabs W → Calls Tryd.prog 14 #[.agg #[.int .i64 k, .int .i64 n, .int .i64 p]] W fun e w' => e = .returned (.string ⟨#[]⟩) ∧ Below W.heap.size W w') := fun W hW => by have := impl_text k n p W hW; rwa [txt_not k n p ho] at this
    have HS1 : Hid (∀ W : World, Calls Tryd.prog 15 #[.agg #[.int .i64 k, .int .i64 n, .int .i64 p]] W fun e w' => e = .returned (.string ⟨#[]⟩) ∧ Below W.heap.size W w') := fun W => by have := spec_text k n p W; rwa [txt_not k n p ho] at this
    have HR1 : Hid (∀ W : World, Tabs W → Calls Tryd.prog 17 #[.string ⟨#[]⟩] W fun e w' => e = .returned (.tuple #[.agg #[.int .i64 0, .int .i64 0, .int .i64 0], .bool false]) ∧ Below W.heap.size W w') := fun W hW => impl_dev_no nt_empty (by decide) W hW
    have HO1 : Hid (∀ W : World, KT W → Calls Tryd.prog 16 #[.agg #[.int .i64 k, .int .i64 n, .int .i64 p]] W fun e w' => e = .returned (.bool false) ∧ Below W.heap.size W w') := fun W hW => by have := impl_ok k n p W hW; rwa [ho] at this
    obtain ⟨X, HX⟩ : ∃ X : ByteArray, Hid (X = ⟨#[]⟩) := ⟨_, Eq.refl (ByteArray.mk #[])⟩
    rw [← HX.out] at HT1 HS1 HR1 hX1
    clear HX ho
    have a1 : A3 (w1.alloc (.cells #[.int .i64 k, .int .i64 n, .int .i64 p] 24)) w1.heap.size k n p := A3.fresh w1 k n p 24
    have c1 := b1.alloc b1.size (.cells #[.int .i64 k, .int .i64 n, .int .i64 p] 24)
    clear b1
    go_wp2_with fail
    refine (HT1.out _ (hT.later c1)).mono ?_
    rintro e w2 ⟨rfl, g⟩
    have a2 := a1.later g
    have c2 := c1.trans (g.mono c1.size)
    clear g a1 c1 HT1
    have a2' := a2
    obtain ⟨x0, x1, x2, _, _, _⟩ := a2
    go_wp2_with fail
    refine (HS1.out _).mono ?_
    rintro e w3 ⟨rfl, g⟩
    have a3 := a2'.later g
    have c3 := c2.trans (g.mono c2.size)
    clear g a2' x0 x1 x2 c2 HS1
    have a3' := a3
    obtain ⟨x0, x1, x2, _, _, _⟩ := a3
    go_wp2_with fail
    refine (HO1.out _ (hT.k.later c3)).mono ?_
    rintro e w4 ⟨rfl, g⟩
    have a4 := a3'.later g
    have c4 := c3.trans (g.mono c3.size)
    clear g a3' x0 x1 x2 c3 HO1
    go_wp2_with fail
    refine (HR1.out _ (hT.later c4)).mono ?_
    rintro e w5 ⟨rfl, g⟩
    have a5 := (a4.later g).alloc (.cells #[.int .i64 0, .int .i64 0, .int .i64 0] 24)
    have c5 := c4.trans (g.mono c4.size)
    have e5 : A3 (w5.alloc (.cells #[.int .i64 0, .int .i64 0, .int .i64 0] 24)) w5.heap.size 0 0 0 := A3.fresh w5 0 0 0 24
    have c6 := c5.alloc c5.size (.cells #[.int .i64 0, .int .i64 0, .int .i64 0] 24)
    clear g a4 c4 c5 HR1
    obtain ⟨x0, x1, x2, _, _, _⟩ := a5
    obtain ⟨y0, y1, y2, _, _, _⟩ := e5
    go_wp2_with fail
    refine (draw_read _ (h2.later c6)).mono ?_
    rintro e w6 ⟨⟨T, hTs, rfl⟩, g⟩
    have c7 := c6.trans (g.mono c6.size)
    clear g c6 x0 x1 x2 y0 y1 y2
    by_cases hnt : NT T
    · have hT8 : T.size ≤ 1048576 := by omega
      have HR : Hid (∀ W : World, Tabs W → Calls Tryd.prog 17 #[.string T] W fun e w' => e = .returned (.tuple #[.agg #[.int .i64 0, .int .i64 0, .int .i64 0], .bool false]) ∧ Below W.heap.size W w') := fun W hW => impl_dev_no hnt hT8 W hW
      have HQ : Hid (∀ W : World, Calls Tryd.prog 19 #[.string T] W fun e w' => e = .returned (.tuple #[.agg #[.int .i64 0, .int .i64 0, .int .i64 0], .bool false]) ∧ Below W.heap.size W w') := fun W => spec_dev_no hnt hT8 W
      clear hT8 hnt hTs
      go_wp2_with fail
      refine (HR.out _ (hT.later c7)).mono ?_
      rintro e v1 ⟨rfl, g⟩
      have d1 := c7.trans (g.mono c7.size)
      have d1' := d1.alloc d1.size (.cells #[.int .i64 0, .int .i64 0, .int .i64 0] 24)
      have y1 : A3 (v1.alloc (.cells #[.int .i64 0, .int .i64 0, .int .i64 0] 24)) v1.heap.size 0 0 0 := A3.fresh v1 0 0 0 24
      clear g d1 HR
      go_wp2_with fail
      refine (HQ.out _).mono ?_
      rintro e v2 ⟨rfl, g⟩
      have d2 := d1'.trans (g.mono d1'.size)
      have y2 := (y1.later g).alloc (.cells #[.int .i64 0, .int .i64 0, .int .i64 0] 24)
      have x2 : A3 (v2.alloc (.cells #[.int .i64 0, .int .i64 0, .int .i64 0] 24)) v2.heap.size 0 0 0 := A3.fresh v2 0 0 0 24
      have d3 := d2.alloc d2.size (.cells #[.int .i64 0, .int .i64 0, .int .i64 0] 24)
      clear g d2 d1' y1 HQ
      have y2' := y2
      obtain ⟨q0, q1, q2, _, _, _⟩ := y2
      obtain ⟨r0, r1, r2, _, _, _⟩ := x2
      go_wp2
      go_ret
      exact ⟨rfl, d3⟩
    · obtain ⟨k', n', p', ho', rfl⟩ : ∃ k n p : Int, okA k n p = true ∧ txt k n p = T := Classical.byContradiction fun hn => hnt fun k n p ho e => hn ⟨k, n, p, ho, e⟩
      have HR : Hid (∀ W : World, Tabs W → Calls Tryd.prog 17 #[.string (txt k' n' p')] W fun e w' => e = .returned (.tuple #[.agg #[.int .i64 k', .int .i64 n', .int .i64 p'], .bool true]) ∧ Below W.heap.size W w') := fun W hW => impl_dev_yes ho' W hW
      have HQ : Hid (∀ W : World, Calls Tryd.prog 19 #[.string (txt k' n' p')] W fun e w' => e = .returned (.tuple #[.agg #[.int .i64 k', .int .i64 n', .int .i64 p'], .bool true]) ∧ Below W.heap.size W w') := fun W => spec_dev_yes ho' W
      have HO2 : Hid (∀ W : World, KT W → Calls Tryd.prog 16 #[.agg #[.int .i64 k', .int .i64 n', .int .i64 p']] W fun e w' => e = .returned (.bool true) ∧ Below W.heap.size W w') := fun W hW => by have := impl_ok k' n' p' W hW; rwa [ho'] at this
      have HT2 : Hid (∀ W : World, Tabs W → Calls Tryd.prog 14 #[.agg #[.int .i64 k', .int .i64 n', .int .i64 p']] W fun e w' => e = .returned (.string (txt k' n' p')) ∧ Below W.heap.size W w') := fun W hW => impl_text k' n' p' W hW
      obtain ⟨Y, HY⟩ : ∃ Y, Hid (Y = txt k' n' p') := ⟨_, Eq.refl (txt k' n' p')⟩
      rw [← HY.out] at HR HQ HT2 ⊢
      clear HY ho' hnt hTs
      go_wp2_with fail
      refine (HR.out _ (hT.later c7)).mono ?_
      rintro e v1 ⟨rfl, g⟩
      have d1 := c7.trans (g.mono c7.size)
      have d1' := d1.alloc d1.size (.cells #[.int .i64 k', .int .i64 n', .int .i64 p'] 24)
      have y1 : A3 (v1.alloc (.cells #[.int .i64 k', .int .i64 n', .int .i64 p'] 24)) v1.heap.size k' n' p' := A3.fresh v1 k' n' p' 24
      clear g d1 HR
      go_wp2_with fail
      refine (HQ.out _).mono ?_
      rintro e v2 ⟨rfl, g⟩
      have d2 := d1'.trans (g.mono d1'.size)
      have y2 := (y1.later g).alloc (.cells #[.int .i64 k', .int .i64 n', .int .i64 p'] 24)
      have x2 : A3 (v2.alloc (.cells #[.int .i64 k', .int .i64 n', .int .i64 p'] 24)) v2.heap.size k' n' p' := A3.fresh v2 k' n' p' 24
      have d3 := d2.alloc d2.size (.cells #[.int .i64 k', .int .i64 n', .int .i64 p'] 24)
      clear g d2 d1' y1 HQ
      have y2' := y2
      obtain ⟨q0, q1, q2, _, _, _⟩ := y2
      obtain ⟨r0, r1, r2, _, _, _⟩ := x2
      go_wp2_with fail
      refine (HO2.out _ (hT.k.later d3)).mono ?_
      rintro e v3 ⟨rfl, g⟩
      have d4 := d3.trans (g.mono d3.size)
      have y3 := y2'.later g
      obtain ⟨l0, l1, l2, _, _, _⟩ := y3
      clear g
      go_wp2_with fail
      refine (HT2.out _ (hT.later d4)).mono ?_
      rintro e v4 ⟨rfl, g⟩
      have d5 := d4.trans (g.mono d4.size)
      clear g
      go_wp2
      go_ret
      exact ⟨rfl, d5⟩
  | true =>
    have hX1 := not_empty (shape_of ho).ne
    have HT1 : Hid (∀ W : World, Tabs W → Calls Tryd.prog 14 #[.agg #[.int .i64 k, .int .i64 n, .int .i64 p]] W fun e w' => e = .returned (.string (txt k n p)) ∧ Below W.heap.size W w') := fun W hW => impl_text k n p W hW
    have HS1 : Hid (∀ W : World, Calls Tryd.prog 15 #[.agg #[.int .i64 k, .int .i64 n, .int .i64 p]] W fun e w' => e = .returned (.string (txt k n p)) ∧ Below W.heap.size W w') := fun W => spec_text k n p W
    have HR1 : Hid (∀ W : World, Tabs W → Calls Tryd.prog 17 #[.string (txt k n p)] W fun e w' => e = .returned (.tuple #[.agg #[.int .i64 k, .int .i64 n, .int .i64 p], .bool true]) ∧ Below W.heap.size W w') := fun W hW => impl_dev_yes ho W hW
    have HO1 : Hid (∀ W : World, KT W → Calls Tryd.prog 16 #[.agg #[.int .i64 k, .int .i64 n, .int .i64 p]] W fun e w' => e = .returned (.bool true) ∧ Below W.heap.size W w') := fun W hW => by have := impl_ok k n p W hW; rwa [ho] at this
    obtain ⟨X, HX⟩ : ∃ X, Hid (X = txt k n p) := ⟨_, Eq.refl (txt k n p)⟩
    rw [← HX.out] at HT1 HS1 HR1 hX1
    clear HX ho
    have a1 : A3 (w1.alloc (.cells #[.int .i64 k, .int .i64 n, .int .i64 p] 24)) w1.heap.size k n p := A3.fresh w1 k n p 24
    have c1 := b1.alloc b1.size (.cells #[.int .i64 k, .int .i64 n, .int .i64 p] 24)
    clear b1
    go_wp2_with fail
    refine (HT1.out _ (hT.later c1)).mono ?_
    rintro e w2 ⟨rfl, g⟩
    have a2 := a1.later g
    have c2 := c1.trans (g.mono c1.size)
    clear g a1 c1 HT1
    have a2' := a2
    obtain ⟨x0, x1, x2, _, _, _⟩ := a2
    go_wp2_with fail
    refine (HS1.out _).mono ?_
    rintro e w3 ⟨rfl, g⟩
    have a3 := a2'.later g
    have c3 := c2.trans (g.mono c2.size)
    clear g a2' x0 x1 x2 c2 HS1
    have a3' := a3
    obtain ⟨x0, x1, x2, _, _, _⟩ := a3
    go_wp2_with fail
    refine (HO1.out _ (hT.k.later c3)).mono ?_
    rintro e w4 ⟨rfl, g⟩
    have a4 := a3'.later g
    have c4 := c3.trans (g.mono c3.size)
    clear g a3' x0 x1 x2 c3 HO1
    go_wp2_with fail
    refine (HR1.out _ (hT.later c4)).mono ?_
    rintro e w5 ⟨rfl, g⟩
    have a5 := (a4.later g).alloc (.cells #[.int .i64 k, .int .i64 n, .int .i64 p] 24)
    have c5 := c4.trans (g.mono c4.size)
    have e5 : A3 (w5.alloc (.cells #[.int .i64 k, .int .i64 n, .int .i64 p] 24)) w5.heap.size k n p := A3.fresh w5 k n p 24
    have c6 := c5.alloc c5.size (.cells #[.int .i64 k, .int .i64 n, .int .i64 p] 24)
    clear g a4 c4 c5 HR1
    obtain ⟨x0, x1, x2, _, _, _⟩ := a5
    obtain ⟨y0, y1, y2, _, _, _⟩ := e5
    go_wp2_with fail
    refine (draw_read _ (h2.later c6)).mono ?_
    rintro e w6 ⟨⟨T, hTs, rfl⟩, g⟩
    have c7 := c6.trans (g.mono c6.size)
    clear g c6 x0 x1 x2 y0 y1 y2
    by_cases hnt : NT T
    · have hT8 : T.size ≤ 1048576 := by omega
      have HR : Hid (∀ W : World, Tabs W → Calls Tryd.prog 17 #[.string T] W fun e w' => e = .returned (.tuple #[.agg #[.int .i64 0, .int .i64 0, .int .i64 0], .bool false]) ∧ Below W.heap.size W w') := fun W hW => impl_dev_no hnt hT8 W hW
      have HQ : Hid (∀ W : World, Calls Tryd.prog 19 #[.string T] W fun e w' => e = .returned (.tuple #[.agg #[.int .i64 0, .int .i64 0, .int .i64 0], .bool false]) ∧ Below W.heap.size W w') := fun W => spec_dev_no hnt hT8 W
      clear hT8 hnt hTs
      go_wp2_with fail
      refine (HR.out _ (hT.later c7)).mono ?_
      rintro e v1 ⟨rfl, g⟩
      have d1 := c7.trans (g.mono c7.size)
      have d1' := d1.alloc d1.size (.cells #[.int .i64 0, .int .i64 0, .int .i64 0] 24)
      have y1 : A3 (v1.alloc (.cells #[.int .i64 0, .int .i64 0, .int .i64 0] 24)) v1.heap.size 0 0 0 := A3.fresh v1 0 0 0 24
      clear g d1 HR
      go_wp2_with fail
      refine (HQ.out _).mono ?_
      rintro e v2 ⟨rfl, g⟩
      have d2 := d1'.trans (g.mono d1'.size)
      have y2 := (y1.later g).alloc (.cells #[.int .i64 0, .int .i64 0, .int .i64 0] 24)
      have x2 : A3 (v2.alloc (.cells #[.int .i64 0, .int .i64 0, .int .i64 0] 24)) v2.heap.size 0 0 0 := A3.fresh v2 0 0 0 24
      have d3 := d2.alloc d2.size (.cells #[.int .i64 0, .int .i64 0, .int .i64 0] 24)
      clear g d2 d1' y1 HQ
      have y2' := y2
      obtain ⟨q0, q1, q2, _, _, _⟩ := y2
      obtain ⟨r0, r1, r2, _, _, _⟩ := x2
      go_wp2
      go_ret
      exact ⟨rfl, d3⟩
    · obtain ⟨k', n', p', ho', rfl⟩ : ∃ k n p : Int, okA k n p = true ∧ txt k n p = T := Classical.byContradiction fun hn => hnt fun k n p ho e => hn ⟨k, n, p, ho, e⟩
      have HR : Hid (∀ W : World, Tabs W → Calls Tryd.prog 17 #[.string (txt k' n' p')] W fun e w' => e = .returned (.tuple #[.agg #[.int .i64 k', .int .i64 n', .int .i64 p'], .bool true]) ∧ Below W.heap.size W w') := fun W hW => impl_dev_yes ho' W hW
      have HQ : Hid (∀ W : World, Calls Tryd.prog 19 #[.string (txt k' n' p')] W fun e w' => e = .returned (.tuple #[.agg #[.int .i64 k', .int .i64 n', .int .i64 p'], .bool true]) ∧ Below W.heap.size W w') := fun W => spec_dev_yes ho' W
      have HO2 : Hid (∀ W : World, KT W → Calls Tryd.prog 16 #[.agg #[.int .i64 k', .int .i64 n', .int .i64 p']] W fun e w' => e = .returned (.bool true) ∧ Below W.heap.size W w') := fun W hW => by have := impl_ok k' n' p' W hW; rwa [ho'] at this
      have HT2 : Hid (∀ W : World, Tabs W → Calls Tryd.prog 14 #[.agg #[.int .i64 k', .int .i64 n', .int .i64 p']] W fun e w' => e = .returned (.string (txt k' n' p')) ∧ Below W.heap.size W w') := fun W hW => impl_text k' n' p' W hW
      obtain ⟨Y, HY⟩ : ∃ Y, Hid (Y = txt k' n' p') := ⟨_, Eq.refl (txt k' n' p')⟩
      rw [← HY.out] at HR HQ HT2 ⊢
      clear HY ho' hnt hTs
      go_wp2_with fail
      refine (HR.out _ (hT.later c7)).mono ?_
      rintro e v1 ⟨rfl, g⟩
      have d1 := c7.trans (g.mono c7.size)
      have d1' := d1.alloc d1.size (.cells #[.int .i64 k', .int .i64 n', .int .i64 p'] 24)
      have y1 : A3 (v1.alloc (.cells #[.int .i64 k', .int .i64 n', .int .i64 p'] 24)) v1.heap.size k' n' p' := A3.fresh v1 k' n' p' 24
      clear g d1 HR
      go_wp2_with fail
      refine (HQ.out _).mono ?_
      rintro e v2 ⟨rfl, g⟩
      have d2 := d1'.trans (g.mono d1'.size)
      have y2 := (y1.later g).alloc (.cells #[.int .i64 k', .int .i64 n', .int .i64 p'] 24)
      have x2 : A3 (v2.alloc (.cells #[.int .i64 k', .int .i64 n', .int .i64 p'] 24)) v2.heap.size k' n' p' := A3.fresh v2 k' n' p' 24
      have d3 := d2.alloc d2.size (.cells #[.int .i64 k', .int .i64 n', .int .i64 p'] 24)
      clear g d2 d1' y1 HQ
      have y2' := y2
      obtain ⟨q0, q1, q2, _, _, _⟩ := y2
      obtain ⟨r0, r1, r2, _, _, _⟩ := x2
      go_wp2_with fail
      refine (HO2.out _ (hT.k.later d3)).mono ?_
      rintro e v3 ⟨rfl, g⟩
      have d4 := d3.trans (g.mono d3.size)
      have y3 := y2'.later g
      obtain ⟨l0, l1, l2, _, _, _⟩ := y3
      clear g
      go_wp2_with fail
      refine (HT2.out _ (hT.later d4)).mono ?_
      rintro e v4 ⟨rfl, g⟩
      have d5 := d4.trans (g.mono d4.size)
      clear g
      go_wp2
      go_ret
      exact ⟨rfl, d5⟩

set_option maxHeartbeats 1000000 in
theorem walk3 (a : Option Addr) (len cap : Nat) (zs : List Int) (a' : Option Addr) (len' cap' : Nat) (zs' : List Int) (w : World) (h : IsRow .u8 w a len cap zs) (h' : IsRow .u8 w a' len' cap' zs') (t1 : KT w) (t2 : PT w) (t3 : WT w) :
    Calls Tryd.prog 3 #[.slice a len cap, .slice a' len' cap'] w fun e w' => e = .returned (.bool true) ∧ Below w.heap.size w w' := by
  have hm : len ≤ maxLen := by
    rcases h with ⟨_, rfl, _⟩ | ⟨_, _, h1, h2, _⟩
    · omega
    · omega
  have hm' : len' ≤ maxLen := by
    rcases h' with ⟨_, rfl, _⟩ | ⟨_, _, h1, h2, _⟩
    · omega
    · omega
  unfold maxLen at hm hm'
  by_cases hl : len ≤ 1048576
  · by_cases hl' : len' ≤ 1048576
    · obtain ⟨blk, off, z, hc⟩ := h.code hl
      obtain ⟨blk', off', z', hc'⟩ := h'.code hl'
      exact law3 w ⟨t1, t2, t3⟩ hc hc'
    · have i1 : ¬ (1048576 : Int) < (len : Int) := by omega
      have i2 : (1048576 : Int) < (len' : Int) := by omega
      go_enter Tryd.func3, Tryd.ntmps3
      go_wp2
      go_ret
      exact ⟨rfl, Below.refl _ _⟩
  · have i1 : (1048576 : Int) < (len : Int) := by omega
    go_enter Tryd.func3, Tryd.ntmps3
    go_wp2
    go_ret
    exact ⟨rfl, Below.refl _ _⟩
end Go.Proofs.YtkaoajihpclpiaaDoor
