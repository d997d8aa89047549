/- The specification's draw of a text of a stack; the two readers at every text. -/
import Derived.Test.YtlpeianinlnbeaaBa
namespace Go.Proofs.Ytlpeianinlnbeaa
open Go.RowKit
set_option linter.unusedVariables false

def IsText (e : Ending) : Prop := ∃ t : ByteArray, t.size ≤ 1000 ∧ e = .returned (.string t)

set_option maxHeartbeats 2000000 in
theorem draw_read {a : Option Addr} {len cap blk off : Nat} {z : Nat → Int} (w : World) (h : Code0 w a len cap blk off z) :
    Calls Try.prog 37 #[.slice a len cap] w fun e w' => IsText e ∧ Below w.heap.size w w' := by
  go_enter Try.func37, Try.ntmps37
  go_wp2_with fail
  refine (h.open).mono ?_
  rintro e w1 ⟨rfl, h1, b1⟩
  go_wp2_with fail
  refine (draw_r _ _ 0 _ h1 (by omega)).mono ?_
  rintro e w2 ⟨⟨b, n, hb0, hb1, rfl⟩, ⟨q, hq, h2⟩, g2⟩
  have b2 : Below w.heap.size w w2 := b1.grown g2 b1.size (fun j hj => by simp at hj; omega)
  clear g2 b1 h1
  go_wp2_with fail
  refine (spec_text b n _ hb0 hb1).mono ?_
  rintro e w3 ⟨rfl, g3⟩
  have h3 := h2.later g3
  have b3 : Below w.heap.size w w3 := b2.trans (g3.mono b2.size)
  have hts := textV_size b n
  obtain ⟨t, HT⟩ : ∃ t, Hid (t = textV b n) := ⟨_, rfl⟩
  rw [← HT.out] at hts
  rw [← HT.out]
  clear g3 b2 h2 HT
  go_wp2_with fail
  refine (pick_r _ _ q 8 _ h3 (by omega) (by omega) (by omega)).mono ?_
  rintro e w4 ⟨x, x1, rfl, h4, g4⟩
  have b4 : Below w.heap.size w w4 := b3.grown g4 b3.size (fun j hj => by simp at hj; omega)
  have z4 : w.heap.size + 1 ≤ w4.heap.size := h4.2.1
  clear g4 b3 h3
  by_cases t0 : x = 0
  · subst t0
    go_wp2_with fail
    refine (of_r _ _ (q + 1) w4.heap.size [⟨#[]⟩, ⟨#[124]⟩, ⟨#[124, 124]⟩, ⟨#[124, 50]⟩, ⟨#[48, 49]⟩, ⟨#[124, 48, 48, 48, 48, 48, 48, 48, 48, 48, 48, 48, 48, 48, 48, 48, 48]⟩, ⟨#[124, 48, 48, 48, 48, 48, 48, 48, 48, 48, 48, 48, 48, 48, 48, 48, 48, 48]⟩, ⟨#[124, 49, 49, 49, 49, 49, 49, 49, 49, 49, 49, 49, 49, 49, 49, 49, 49]⟩, ⟨#[124, 32, 49]⟩, ⟨#[124, 49, 10]⟩] 10 _ (h4.alloc _) (by decide) (by decide) (by omega) (by omega) (by exact strs_row w4 _ 9)).mono ?_
    rintro e w5 ⟨v, hv, rfl, h5, g5⟩
    have hvs : v.size ≤ 1000 := by
      simp only [List.mem_cons, List.not_mem_nil, or_false] at hv
      rcases hv with rfl | rfl | rfl | rfl | rfl | rfl | rfl | rfl | rfl | rfl <;> decide
    have b5 : Below w.heap.size w w5 := (b4.alloc b4.size _).grown g5 (by have := b4.size; simp; omega) (fun j hj => by simp at hj; omega)
    clear g5 b4 h4 hv h5
    go_wp2
    go_ret
    exact ⟨⟨v, hvs, rfl⟩, b5⟩
  · by_cases t2 : x = 1
    · subst t2
      go_wp2_with fail
      refine (of_r _ _ (q + 1) w4.heap.size [⟨#[48]⟩, ⟨#[49]⟩, ⟨#[124]⟩, ⟨#[32]⟩] 4 _ (h4.alloc _) (by decide) (by decide) (by omega) (by omega) (by exact strs_row w4 _ 9)).mono ?_
      rintro e w5 ⟨v, hv, rfl, h5, g5⟩
      have hvs : v.size ≤ 1 := by
        simp only [List.mem_cons, List.not_mem_nil, or_false] at hv
        rcases hv with rfl | rfl | rfl | rfl <;> decide
      have b5 : Below w.heap.size w w5 := (b4.alloc b4.size _).grown g5 (by have := b4.size; simp; omega) (fun j hj => by simp at hj; omega)
      clear g5 b4 h4 hv h5
      have hcs : (t ++ v).size ≤ 1000 := by simp; omega
      go_wp2
      go_ret
      exact ⟨⟨_, hcs, rfl⟩, b5⟩
    · have u0 : ((x : Int) == 0) = false := by simp; omega
      have u1 : ((x : Int) == 1) = false := by simp; omega
      go_wp2
      go_ret
      exact ⟨⟨t, by omega, rfl⟩, b4⟩

/-- Both readers at one text: one answer; what is read is ok and is written as the text. -/
theorem read_both (s : ByteArray) (hs : s.size ≤ 1048576) :
    ∃ (V M : Int) (r : Bool), Hid (∀ W : World, Calls Try.prog 38 #[.string s] W fun e w' => e = .returned (.tuple #[.agg #[.int .u16 V, .int .i64 M], .bool r]) ∧ Below W.heap.size W w') ∧
      Hid (∀ W : World, Calls Try.prog 35 #[.string s] W fun e w' => e = .returned (.tuple #[.agg #[.int .u16 V, .int .i64 M], .bool r]) ∧ Below W.heap.size W w') ∧
      ((r = false ∧ V = 0 ∧ M = 0) ∨ (r = true ∧ 0 ≤ V ∧ V ≤ 65535 ∧ okS 16 V M = true ∧ textV V M = s)) := by
  have hs2 : s.size ≤ maxLen := by unfold maxLen; omega
  cases hd : s.data.toList with
  | nil =>
    have h0 : s.size = 0 := by rw [Lib.size_eq, hd]; rfl
    exact ⟨0, 0, false, fun W => spec_read_empty s W h0, fun W => impl_read_other s W hs2 (fun D h => by rw [hd] at h; cases h), .inl ⟨rfl, rfl, rfl⟩⟩
  | cons c D =>
    have hsz : s.size = D.length + 1 := by rw [Lib.size_eq, hd]; simp
    have hc : s[0] = c := by
      have : s[0] = s.data.toList[0]'(by rw [hd]; simp) := rfl
      rw [this]; simp only [hd]; rfl
    by_cases h124 : c = 124
    · subst h124
      by_cases h16 : D.length ≤ 16
      · cases hg : gd D with
        | true =>
          obtain ⟨v0, v1, hok, htx⟩ := back_of_read D hg h16
          refine ⟨val (bs D).reverse, D.length, true, fun W => ?_, fun W => ?_, .inr ⟨rfl, v0, v1, hok, ?_⟩⟩
          · rw [← readV_good hg]; exact spec_read_in s D W hd h16
          · rw [← readV_good hg]; exact impl_read_in s D W hs2 hd h16
          · apply ByteArray.ext
            apply Array.ext'
            rw [htx, hd]
        | false =>
          refine ⟨0, 0, false, fun W => ?_, fun W => ?_, .inl ⟨rfl, rfl, rfl⟩⟩
          · rw [← readV_bad hg]; exact spec_read_in s D W hd h16
          · rw [← readV_bad hg]; exact impl_read_in s D W hs2 hd h16
      · exact ⟨0, 0, false, fun W => spec_read_other s W hs (by omega) (.inr (by omega)), fun W => impl_read_long s D W hs hd (by omega), .inl ⟨rfl, rfl, rfl⟩⟩
    · exact ⟨0, 0, false, fun W => spec_read_other s W hs (by omega) (.inl (by rw [hc]; exact h124)), fun W => impl_read_other s W hs2 (fun D' h => by rw [hd] at h; simp at h; exact h124 h.1), .inl ⟨rfl, rfl, rfl⟩⟩

/-- Reading what is written of a stack. -/
theorem read_text (b n : Int) (hb0 : 0 ≤ b) (hb1 : b ≤ 65535) :
    ∃ (V M : Int), Hid (∀ W : World, Calls Try.prog 35 #[.string (textV b n)] W fun e w' => e = .returned (.tuple #[.agg #[.int .u16 V, .int .i64 M], .bool (okS 16 b n)]) ∧ Below W.heap.size W w') ∧
      ((okS 16 b n = false ∧ V = 0 ∧ M = 0) ∨ (okS 16 b n = true ∧ V = b ∧ M = n)) := by
  have hsz := textV_size b n
  have hs2 : (textV b n).size ≤ maxLen := by unfold maxLen; omega
  cases hok : okS 16 b n with
  | true =>
    obtain ⟨N, rfl, h1, h2⟩ := okS_nat hok
    obtain ⟨D, hd, hg, hl, hv⟩ := read_of_text b N hb0 hok
    refine ⟨b, N, fun W => ?_, .inr ⟨rfl, rfl, rfl⟩⟩
    have h := impl_read_in (textV b N) D W hs2 hd (by omega)
    rw [readV_good hg, hv, hl] at h
    exact h
  | false =>
    refine ⟨0, 0, fun W => ?_, .inl ⟨rfl, rfl, rfl⟩⟩
    exact impl_read_other (textV b n) W hs2 (fun D h => by simp [textV, hok] at h)
end Go.Proofs.Ytlpeianinlnbeaa
