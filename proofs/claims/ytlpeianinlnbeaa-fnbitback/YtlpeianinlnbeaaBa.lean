/- The specification's draws of texts; reading back what is written, as mathematics. -/
import Derived.Test.YtlpeianinlnbeaaH
import Derived.Test.YtlpeianinlnbeaaY
import Derived.Test.YtlpeianinlnbeaaTx
namespace Go.Proofs.Ytlpeianinlnbeaa
open Go.RowKit
set_option linter.unusedVariables false

set_option maxHeartbeats 400000 in
theorem of_r (B R p g : Nat) (xs : List ByteArray) (cap : Nat) (w : World) (h : Reader B w R p) (hL : 0 < xs.length) (hL2 : xs.length ≤ 1000) (hp : p < 1000000) (hg : B ≤ g)
    (hx : ∀ j x, xs[j]? = some x → w.cell? ⟨g, j, none⟩ = some (.string x)) :
    Calls Try.prog 78 #[.pointer (some ⟨R, 0, none⟩), .slice (some ⟨g, 0, none⟩) xs.length cap] w fun e w' => ∃ v, v ∈ xs ∧ e = .returned (.string v) ∧ Reader B w' R (p + 1) ∧ w.grownBy w' (some R) := by
  obtain ⟨L, HL⟩ : ∃ L, Hid (L = xs.length) := ⟨_, rfl⟩
  rw [← HL.out] at hL hL2 ⊢
  have hRB := h.1
  go_enter Try.func78, Try.ntmps78
  go_wp2_with fail
  refine (pick_r B R p L _ h (by omega) (by omega) hp).mono ?_
  rintro e w1 ⟨r, r1, rfl, h1, g1⟩
  have hrl : r < xs.length := by rw [← HL.out]; omega
  have hc : w1.cell? ⟨g, r, none⟩ = some (.string xs[r]) := g1.cell (hx r _ (List.getElem?_eq_getElem hrl)) (by simp; omega)
  obtain ⟨v, HV⟩ : ∃ v : ByteArray, Hid (v = xs[r]) := ⟨xs[r], rfl⟩
  rw [← HV.out] at hc
  have HM : Hid (v ∈ xs) := by rw [HV.out]; exact List.getElem_mem hrl
  clear HV
  go_wp2
  go_ret
  exact ⟨v, HM.out, rfl, h1, g1⟩

set_option maxHeartbeats 400000 in
theorem draw_text {a : Option Addr} {len cap blk off : Nat} {z : Nat → Int} (w : World) (h : Code0 w a len cap blk off z) :
    Calls Try.prog 33 #[.slice a len cap] w fun e w' => IsStack e ∧ Below w.heap.size w w' := by
  go_enter Try.func33, Try.ntmps33
  go_wp2_with fail
  refine ((h.later ((Below.refl _ _).alloc (Nat.le_refl _) _)).open).mono ?_
  rintro e w1 ⟨rfl, h1, g1⟩
  simp only [World.size_alloc] at h1 g1 ⊢
  have s1 : Sk .u16 w1 w.heap.size 0 0 := (Sk.fresh .u16 w 0 0 25).later g1 (by omega)
  have b1 : Below w.heap.size w w1 := ((Below.refl _ _).alloc (Nat.le_refl _) _).trans (g1.mono (by omega))
  clear g1
  go_wp2_with fail
  refine (draw_r _ _ 0 _ h1 (by omega)).mono ?_
  rintro e w3 ⟨⟨b, n, hb0, hb1, rfl⟩, _, g3⟩
  have s3 : Sk .u16 w3 w.heap.size 0 0 := s1.grown g3 s1.lt (by simp)
  have b3 : Below w.heap.size w w3 := b1.grown g3 b1.size (fun j hj => by simp at hj; omega)
  clear g3 s1 b1 h1
  obtain ⟨q0, q1, _, _⟩ := s3.set b n
  obtain ⟨c0, c1, f0, f1⟩ := s3
  go_wp2
  exact bodyPost_ret (v := .agg #[.int .u16 b, .int .i64 n]) (by simp [results, Try.results33, go_sem, q0, q1]) rfl ⟨⟨b, n, hb0, hb1, rfl⟩, by go_grown⟩

def textV (b n : Int) : ByteArray := if okS 16 b n then ⟨(tb (bitAt (nb 16 b n) (nn 16 b n)) (nn 16 b n)).toArray⟩ else ⟨#[]⟩
theorem textV_size (b n : Int) : (textV b n).size ≤ 17 := by
  unfold textV
  split
  · have := nn_le 16 b n
    rw [Lib.size_eq]
    simp [tb_length]
    exact this
  · decide
theorem spec_text (b n : Int) (w : World) (hb0 : 0 ≤ b) (hb1 : b ≤ 65535) :
    Calls Try.prog 36 #[.agg #[.int .u16 b, .int .i64 n]] w fun e w' => e = .returned (.string (textV b n)) ∧ Below w.heap.size w w' := by
  cases hok : okS 16 b n with
  | true => simp only [textV, hok, if_true]; exact spec_text_ok b n w hb0 hb1 hok
  | false => simp only [textV, hok]; exact spec_text_no b n w hb0 hb1 hok
theorem impl_text (b n : Int) (w : World) (hb0 : 0 ≤ b) (hb1 : b ≤ 65535) :
    Calls Try.prog 34 #[.agg #[.int .u16 b, .int .i64 n]] w fun e w' => e = .returned (.string (textV b n)) ∧ Below w.heap.size w w' := by
  cases hok : okS 16 b n with
  | true => simp only [textV, hok, if_true]; exact impl_text_ok b n w hb0 hb1 hok
  | false => simp only [textV, hok]; exact impl_text_no b n w hb0 hb1 hok

theorem strs_row (w : World) (xs : List ByteArray) (t : TypeId) : ∀ j x, xs[j]? = some x → (w.alloc (.cells (xs.map Value.string).toArray t)).cell? ⟨w.heap.size, j, none⟩ = some (.string x) := by
  intro j x hj
  rw [World.cell?_alloc_at _ _ _ _ rfl]
  simp [hj]

theorem rb_val : ∀ l : List Bool, rb l.length (val l) = l
  | [] => rfl
  | x :: xs => by
    have ih := rb_val xs
    have hx := bit01_bd x
    have h1 : (bit01 x + 2 * val xs) % 2 = bit01 x := by omega
    have h2 : (bit01 x + 2 * val xs) / 2 = val xs := by omega
    simp only [List.length_cons, rb, val, h1, h2, ih]
    cases x <;> simp [bit01]

theorem tb_eq (f : Nat → Bool) (D : List UInt8) (hg : gd D = true) : ∀ k, k ≤ D.length → (∀ j, j < k → (bs D)[j]? = some (f j)) → tb f k = 124 :: D.take k
  | 0, _, _ => rfl
  | k + 1, hk, hf => by
    have ih := tb_eq f D hg k (by omega) (fun j hj => hf j (by omega))
    have h1 := hf k (by omega)
    have hkD : k < D.length := by omega
    have h2 : (bs D)[k]? = some (D[k] == 49) := by simp [bs, hkD]
    rw [h2] at h1
    have h3 : (D[k] == 49) = f k := Option.some.inj h1
    have h4 := List.all_eq_true.1 hg (D[k]) (List.getElem_mem hkD)
    simp only [tb, ih, take_get D k hkD, List.cons_append]
    congr 2
    cases hfk : f k with
    | true => rw [hfk] at h3; have h5 := eq_of_beq h3; simp [h5]
    | false =>
      rw [hfk] at h3
      simp [h3] at h4
      simpa using h4.symm

/-- What a good text reads as is ok, and is written as that text. -/
theorem back_of_read (D : List UInt8) (hg : gd D = true) (hD : D.length ≤ 16) :
    0 ≤ val (bs D).reverse ∧ val (bs D).reverse ≤ 65535 ∧ okS 16 (val (bs D).reverse) D.length = true ∧ (textV (val (bs D).reverse) D.length).data.toList = 124 :: D := by
  have hb := val_bd (bs D).reverse
  have hl : (bs D).reverse.length = D.length := by simp [bs]
  rw [hl] at hb
  have hp := pow_cap D.length 16 hD
  have e16 : (2 : Int) ^ 16 = 65536 := by decide
  have hok : okS 16 (val (bs D).reverse) D.length = true := by
    unfold okS
    rw [decide_eq_true_iff]
    exact ⟨by omega, by omega, by simpa using hb.2⟩
  have hnb : nb 16 (val (bs D).reverse) D.length = val (bs D).reverse := by rw [nb, if_pos hok]
  have hnn : nn 16 (val (bs D).reverse) D.length = D.length := by rw [nn, if_pos hok]; simp
  have hr : rb D.length (val (bs D).reverse) = (bs D).reverse := by
    have := rb_val (bs D).reverse
    rw [hl] at this
    exact this
  refine ⟨hb.1, by omega, hok, ?_⟩
  simp only [textV, hok, if_true, hnb, hnn]
  rw [tb_eq _ D hg D.length (Nat.le_refl _) (fun j hj => ?_), List.take_length]
  · have := rev_get (val (bs D).reverse) D.length j hj
    rw [hr, List.reverse_reverse] at this
    exact this

/-- What is written of a stack that is ok reads as it. -/
theorem read_of_text (b : Int) (N : Nat) (hb0 : 0 ≤ b) (hok : okS 16 b N = true) :
    ∃ D, (textV b N).data.toList = 124 :: D ∧ gd D = true ∧ D.length = N ∧ val (bs D).reverse = b := by
  have hok' := hok
  simp [okS] at hok'
  have hnb : nb 16 b N = b := by rw [nb, if_pos hok]
  have hnn : nn 16 b N = N := by rw [nn, if_pos hok]; simp
  have key : ∀ (f : Nat → Bool) k, ∃ D, tb f k = 124 :: D ∧ gd D = true ∧ D.length = k ∧ bs D = (List.range k).map f := by
    intro f k
    induction k with
    | zero => exact ⟨[], rfl, rfl, rfl, rfl⟩
    | succ k ih =>
      obtain ⟨D, h1, h2, h3, h4⟩ := ih
      refine ⟨D ++ [if f k then 49 else 48], by simp [tb, h1], ?_, by simp [h3], ?_⟩
      · rw [gd_snoc, h2]; cases f k <;> rfl
      · rw [List.range_succ, List.map_append, ← h4]
        cases hf : f k <;> simp [bs, hf]
  obtain ⟨D, h1, h2, h3, h4⟩ := key (bitAt b N) N
  refine ⟨D, by simp only [textV, hok, if_true, hnb, hnn]; exact h1, h2, h3, ?_⟩
  have e : bs D = (rb N b).reverse := by
    apply List.ext_getElem?
    intro j
    rw [h4]
    by_cases hj : j < N
    · rw [rev_get b N j hj]; simp [hj]
    · rw [List.getElem?_eq_none (by simp; omega), List.getElem?_eq_none (by simp [rb_length]; omega)]
  rw [e, List.reverse_reverse, val_rb N b hb0, Int.emod_eq_of_lt hb0 (by simpa using hok'.2)]
end Go.Proofs.Ytlpeianinlnbeaa
