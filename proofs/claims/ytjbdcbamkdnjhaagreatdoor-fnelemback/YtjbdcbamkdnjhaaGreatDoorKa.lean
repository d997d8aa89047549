/- Draws: a contact or coil; the text of one, spoilt or not. -/
import Derived.Test.YtjbdcbamkdnjhaaGreatDoorEz
import Derived.Test.YtjbdcbamkdnjhaaGreatDoorEqM
namespace Go.Proofs.YtjbdcbamkdnjhaaGreatDoor
open Go.RowKit
set_option linter.unusedVariables false

set_option maxHeartbeats 2000000 in
theorem drawtext_r {a : Option Addr} {len cap blk off : Nat} {z : Nat → Int} (w : World) (h : Code0 w a len cap blk off z) :
    Calls Tryz.prog 8 #[.slice a len cap] w fun e w' => ElemL w.heap.size 5 e w' ∧ Below w.heap.size w w' := by
  go_enter Tryz.func8, Tryz.ntmps8
  go_wp2_with fail
  refine ((h.later ((Below.refl _ _).alloc (Nat.le_refl _) _)).open).mono ?_
  rintro e w1 ⟨rfl, h1, g1⟩
  simp only [World.size_alloc] at h1 g1 ⊢
  have S1 : E2 w1 w.heap.size (.int .i64 0) (.slice none 0 0) := (E2.fresh w (.int .i64 0) (.slice none 0 0) 25).later (by simpa using g1)
  have b1 : Below w.heap.size w w1 := ((Below.refl _ _).alloc (Nat.le_refl _) _).trans (g1.mono (by omega))
  clear g1
  have hRB := h1.1
  have hB1 := h1.2.1
  go_wp2_with fail
  refine (any4_r _ _ 0 _ h1 (by omega)).mono ?_
  rintro e w2 ⟨⟨op, a2, len2, cap2, xs, rfl, o1, o2, l1, c1, L1, bd1, O2⟩, ⟨q, hq, h2⟩, g2⟩
  have S2 := S1.grown g2 (by simp)
  have b2 : Below w.heap.size w w2 := b1.grown g2 (by omega) (fun j hj => by cases hj; omega)
  have O2 := O2.mono (H' := w.heap.size + 1) (by omega)
  have hl1 : Hid (len2 = xs.length) := l1
  clear g2 S1 h1 b1 l1 h2
  have u1 := S2.put (.int .i64 op) (.slice a2 len2 cap2)
  have OE := own_put (.int .i64 op) (.slice a2 len2 cap2) O2
  have BP : Hid (Below w.heap.size w ((w2.setCell ⟨w.heap.size, 0, none⟩ (.int .i64 op)).setCell ⟨w.heap.size, 1, none⟩ (.slice a2 len2 cap2))) := (b2.setCell (Nat.le_refl _) _).setCell (Nat.le_refl _) _
  obtain ⟨s0, s1, s2, s3⟩ := S2
  obtain ⟨q0, q1, _, _⟩ := u1
  go_wp2
  exact bodyPost_ret (v := .agg #[.int .i64 op, .slice a2 len2 cap2]) (by simp [results, Tryz.results8, go_sem, q0, q1]) rfl ⟨⟨op, _, len2, cap2, xs, rfl, by omega, by omega, hl1, c1, by omega, bd1, OE⟩, BP.out⟩

def texts43 : List ByteArray := [⟨#[]⟩, ⟨#[47]⟩, ⟨#[43, 88, 48]⟩, ⟨#[45, 88, 48]⟩, ⟨#[43, 88, 48, 58, 88, 49]⟩, ⟨#[47, 47, 88, 48]⟩, ⟨#[88, 48, 58, 69, 49]⟩, ⟨#[68, 49]⟩, ⟨#[69, 49]⟩, ⟨#[68, 49, 60, 82, 49]⟩, ⟨#[68, 49, 60, 68, 50, 60, 68, 51]⟩, ⟨#[68, 49, 61, 61, 68, 50]⟩, ⟨#[68, 49, 61, 60, 68, 50]⟩, ⟨#[68, 49, 62, 60, 68, 50]⟩, ⟨#[68, 49, 60]⟩, ⟨#[60, 68, 49]⟩, ⟨#[111, 117, 116, 58, 88, 48]⟩, ⟨#[111, 117, 116, 58]⟩, ⟨#[111, 117, 116]⟩, ⟨#[111, 117, 116, 58, 89, 48, 44, 89, 49]⟩, ⟨#[111, 117, 116, 58, 89, 48, 44]⟩, ⟨#[115, 101, 116, 58, 84, 49]⟩, ⟨#[116, 105, 109, 101, 114, 58, 84, 49, 44, 45, 49]⟩, ⟨#[116, 105, 109, 101, 114, 58, 84, 49]⟩, ⟨#[97, 100, 100, 58, 68, 49, 44, 68, 50]⟩, ⟨#[97, 100, 100, 58, 68, 49, 44, 68, 50, 44, 68, 51, 44, 68, 52]⟩, ⟨#[97, 100, 100, 58, 82, 49, 44, 68, 50, 44, 68, 51]⟩, ⟨#[114, 101, 109, 58, 82, 49, 44, 82, 50, 44, 82, 51]⟩, ⟨#[109, 111, 118, 101, 58, 88, 48, 44, 49]⟩, ⟨#[114, 101, 97, 108, 58, 82, 48, 44, 49, 46, 48]⟩, ⟨#[119, 104, 111, 108, 101, 58, 68, 48, 44, 49]⟩, ⟨#[45, 53, 60, 68, 49]⟩, ⟨#[45, 48, 46, 48, 61, 82, 49]⟩, ⟨#[110, 97, 110, 60, 62, 110, 97, 110]⟩, ⟨#[45, 88, 48, 58, 69, 49]⟩, ⟨#[43, 77, 54, 51, 58, 69, 51, 49]⟩, ⟨#[111, 117, 116, 32, 58, 89, 48]⟩, ⟨#[111, 117, 116, 58, 89, 48, 32]⟩, ⟨#[79, 117, 116, 58, 89, 48]⟩, ⟨#[99, 111, 117, 110, 116, 58, 67, 49, 44, 49, 46, 48]⟩, ⟨#[115, 116, 101, 112, 58, 77, 49]⟩, ⟨#[112, 117, 108, 115, 101, 58, 89, 49, 44, 69, 48]⟩, ⟨#[112, 117, 108, 115, 101, 58, 89, 49, 58, 69, 48]⟩]
def textsA : List ByteArray := [⟨#[48]⟩, ⟨#[32]⟩, ⟨#[44]⟩, ⟨#[58]⟩, ⟨#[61]⟩, ⟨#[88, 48]⟩]
def textsB : List ByteArray := [⟨#[47]⟩, ⟨#[43]⟩, ⟨#[45]⟩, ⟨#[32]⟩, ⟨#[111, 117, 116, 58]⟩]
theorem texts_small : (∀ v ∈ texts43, v.size ≤ 20) ∧ (∀ v ∈ textsA, v.size ≤ 20) ∧ (∀ v ∈ textsB, v.size ≤ 20) := by
  refine ⟨?_, ?_, ?_⟩ <;> decide +kernel
theorem rowS (w : World) (xs : List ByteArray) (t : TypeId) : ∀ j x, xs[j]? = some x → (w.alloc (.cells (xs.map Value.string).toArray t)).cell? ⟨w.heap.size, j, none⟩ = some (.string x) := by
  intro j x hj
  rw [World.cell?_alloc_at _ _ _ _ rfl]
  simp [hj]
def IsText (e : Ending) : Prop := ∃ s : ByteArray, s.size ≤ 1000 ∧ e = .returned (.string s)
theorem etx_small (op : Int) (xs : List Arg) : (etx op xs).size ≤ 400 := by
  unfold etx
  split
  · rename_i h
    rw [etl_ba, ByteArray.size_append]
    have h1 : (ahd op).size ≤ 6 := by
      rcases op_cases op with h | ⟨n, hn, rfl⟩
      · rw [(out_all op h).1]; decide
      · rcases c38 n hn with rfl | rfl | rfl | rfl | rfl | rfl | rfl | rfl | rfl | rfl | rfl | rfl | rfl | rfl | rfl | rfl | rfl | rfl | rfl | rfl | rfl | rfl | rfl | rfl | rfl | rfl | rfl | rfl | rfl | rfl | rfl | rfl | rfl | rfl | rfl | rfl | rfl | rfl
        all_goals decide
    have h2 := join_le (xs.map tl) (btw op).data.toList (by rw [List.length_map]; exact (rtk_3 h).2) (fun x hx => by
      obtain ⟨y, _, rfl⟩ := List.mem_map.1 hx
      have := txt_le y.1 y.2.1 y.2.2
      rw [Lib.size_eq] at this
      exact this) (by have := btw_le op; rw [Lib.size_eq] at this; exact this)
    have h3 : (⟨(Lib.join (xs.map tl) (btw op).data.toList).toArray⟩ : ByteArray).size = (Lib.join (xs.map tl) (btw op).data.toList).length := by simp only [ByteArray.size, List.size_toArray]
    omega
  · decide

set_option maxRecDepth 100000 in
set_option maxHeartbeats 4000000 in
theorem drawread_r {a : Option Addr} {len cap blk off : Nat} {z : Nat → Int} (w : World) (h : Code0 w a len cap blk off z) :
    Calls Tryz.prog 15 #[.slice a len cap] w fun e w' => IsText e ∧ Below w.heap.size w w' := by
  go_enter Tryz.func15, Tryz.ntmps15
  go_wp2_with fail
  refine h.open.mono ?_
  rintro e w1 ⟨rfl, h1, b1⟩
  have hB1 := h1.2.1
  go_wp2_with fail
  refine (any4_r _ _ 0 _ h1 (by omega)).mono ?_
  rintro e w2 ⟨⟨op, a2, len2, cap2, xs, rfl, o1, o2, l1, c1, L1, bd1, O2⟩, ⟨q, hq, h2⟩, g2⟩
  have b2 : Below w.heap.size w w2 := b1.grown g2 (by omega) (fun j hj => by cases hj; omega)
  have hsm := etx_small op xs
  have HX : Hid (Calls Tryz.prog 10 #[.agg #[.int .i64 op, .slice a2 len2 cap2]] w2 fun e w' => e = .returned (.string (etx op xs)) ∧ Below w2.heap.size w2 w') := spec_etext op a2 xs len2 cap2 l1 w2 O2.sl
  obtain ⟨X, HXX⟩ : ∃ X, Hid (X = etx op xs) := ⟨_, Eq.refl (etx op xs)⟩
  rw [← HXX.out] at HX hsm
  clear HXX g2 h1 b1 l1 O2
  go_wp2_with fail
  refine HX.out.mono ?_
  rintro e w3 ⟨rfl, g3⟩
  have h3 := h2.later g3
  have b3 := b2.trans (g3.mono b2.size)
  clear g3 h2 b2 HX
  go_wp2_with fail
  refine (pick_r _ _ q 9 _ h3 (by omega) (by omega) (by omega)).mono ?_
  rintro e w4 ⟨t, t1, rfl, h4, g4⟩
  have hB3 := h3.2.1
  have b4 : Below w.heap.size w w4 := b3.grown g4 (by omega) (fun j hj => by cases hj; omega)
  have hB4 := h4.2.1
  clear g4 h3 b3
  by_cases t0 : t = 0
  · subst t0
    go_wp2_with fail
    refine (of_r _ _ (q + 1) w4.heap.size texts43 43 _ (h4.alloc _) (by decide) (by decide) (by omega) (by omega) (by exact rowS w4 texts43 9)).mono ?_
    rintro e w5 ⟨v, hv, rfl, h5, g5⟩
    have hv' := texts_small.1 v hv
    have b5 : Below w.heap.size w w5 := (b4.alloc (by omega) _).grown g5 (by simp; omega) (fun j hj => by cases hj; omega)
    clear g5 b4 hv
    go_wp2
    go_ret
    exact ⟨⟨v, by omega, rfl⟩, b5⟩
  · have t0' : ((t : Int) == 0) = false := by rw [beq_eq_false_iff_ne]; omega
    by_cases t2 : t = 1
    · subst t2
      go_wp2_with fail
      refine (of_r _ _ (q + 1) w4.heap.size textsA 6 _ (h4.alloc _) (by decide) (by decide) (by omega) (by omega) (by exact rowS w4 textsA 9)).mono ?_
      rintro e w5 ⟨v, hv, rfl, h5, g5⟩
      have hv' := texts_small.2.1 v hv
      have b5 : Below w.heap.size w w5 := (b4.alloc (by omega) _).grown g5 (by simp; omega) (fun j hj => by cases hj; omega)
      clear g5 b4 hv
      go_wp2
      go_ret
      exact ⟨⟨X ++ v, by rw [ByteArray.size_append]; omega, rfl⟩, b5⟩
    · have t2' : ((t : Int) == 1) = false := by rw [beq_eq_false_iff_ne]; omega
      by_cases t3 : t = 2
      · subst t3
        go_wp2_with fail
        refine (of_r _ _ (q + 1) w4.heap.size textsB 5 _ (h4.alloc _) (by decide) (by decide) (by omega) (by omega) (by exact rowS w4 textsB 9)).mono ?_
        rintro e w5 ⟨v, hv, rfl, h5, g5⟩
        have hv' := texts_small.2.2 v hv
        have b5 : Below w.heap.size w w5 := (b4.alloc (by omega) _).grown g5 (by simp; omega) (fun j hj => by cases hj; omega)
        clear g5 b4 hv
        go_wp2
        go_ret
        exact ⟨⟨v ++ X, by rw [ByteArray.size_append]; omega, rfl⟩, b5⟩
      · have t3' : ((t : Int) == 2) = false := by rw [beq_eq_false_iff_ne]; omega
        go_wp2
        go_ret
        exact ⟨⟨X, by omega, rfl⟩, b4⟩
end Go.Proofs.YtjbdcbamkdnjhaaGreatDoor
