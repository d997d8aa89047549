/- The law FnPicSum, of what is drawn. -/
import Derived.Test.YtjogmhicehlboaaObaM
import Derived.Test.YtjogmhicehlboaaPcaM
import Derived.Test.YtjogmhicehlboaaQkn
import Derived.Test.YtjogmhicehlboaaYlM
import Derived.Test.YtjogmhicehlboaaPccM
namespace Go.Proofs.Ytjogmhicehlboaa
open Go.RowKit Go.Shelf
set_option linter.unusedVariables false
set_option linter.unusedSimpArgs false

theorem atL_app1 (l k : List Nat) (j : Nat) (h : j < l.length) : atL (l ++ k) j = atL l j := by
  unfold atL
  rw [List.getD_eq_getElem?_getD, List.getElem?_append_left h, List.getD_eq_getElem?_getD]
theorem atL_app2 (l k : List Nat) (j : Nat) : atL (l ++ k) (l.length + j) = atL k j := by
  unfold atL
  rw [List.getD_eq_getElem?_getD, List.getElem?_append_right (by omega), List.getD_eq_getElem?_getD, Nat.add_sub_cancel_left]
/-- What the draw leaves. -/
def SmR (w : World) (e : Ending) (w' : World) : Prop :=
  ∃ (g n c : Nat) (l : List Nat), e = .returned (.slice (some ⟨g, 0, none⟩) n c) ∧ n ≤ 20101 ∧ OwL w' w.heap.size (.slice (some ⟨g, 0, none⟩) n c) l ∧ (∀ b ∈ l, b < 256) ∧ Below w.heap.size w w'
set_option maxRecDepth 10000 in
set_option maxHeartbeats 8000000 in
theorem law_picsum {a1 : Option Addr} {len1 cap1 : Nat} (w : World) (hl1 : len1 ≤ 1048576)
    (HD : Hid (Calls Try.prog 8 #[.slice a1 len1 cap1] w fun e w' => SmR w e w')) :
    Calls Try.prog 3 #[.slice a1 len1 cap1] w fun e w' => e = .returned (.bool true) ∧ Below w.heap.size w w' := by
  have i1 : ¬ (1048576 : Int) < (len1 : Int) := by omega
  go_enter Try.func3, Try.ntmps3
  go_wp2_with fail
  refine HD.out.mono ?_
  rintro e w1 ⟨g, n, c, l, rfl, hn, ho, hl, b1⟩
  have hnl := Rr.owl_len ho
  obtain ⟨f, Hf⟩ : ∃ f, Hid (f = atL l) := ⟨_, rfl⟩
  have hf : ∀ j, f j < 256 := by rw [Hf.out]; exact atL_lt hl
  have HBt : Hid (∀ W, Below w1.heap.size w1 W → Bt W (some ⟨g, 0, none⟩) n f) := fun W b => by
    have h1 := ho.later b
    rw [hnl] at h1
    have := owL_bt h1
    rw [← hnl, ← Hf.out] at this
    exact this
  obtain ⟨S, HS⟩ : ∃ S, Hid (S = sumF f n) := ⟨_, rfl⟩
  have hS : S < 65536 := by rw [HS.out]; exact sumF_lt f hf n
  have HI : Hid (Calls Try.prog 9 #[.slice (some ⟨g, 0, none⟩) n c] w1 fun e w' => e = .returned (.int .u16 (S : Nat)) ∧ w1 = w') := by rw [HS.out]; exact psum_i _ n c f hf w1 (by omega) (HBt.out w1 (Below.refl _ _))
  have HP : Hid (∀ W, Below w1.heap.size w1 W → Calls Try.prog 10 #[.slice (some ⟨g, 0, none⟩) n c] W fun e w' => e = .returned (.int .u16 (S : Nat)) ∧ W = w') := fun W b => by rw [HS.out]; exact psum_s _ n c f hf W (by omega) (HBt.out W b)
  have HN : Hid (∀ W, Calls Try.prog 9 #[.slice none 0 0] W fun e w' => e = .returned (.int .u16 65535) ∧ W = w') := fun W => psum_i none 0 0 (fun _ => 0) (fun _ => by omega) W (by omega) (.inl rfl)
  -- the bytes with their sum
  have gA : Below w1.heap.size w1 (w1.alloc (.cells #[] 5)) := (Below.refl _ _).alloc (Nat.le_refl _) _
  have hg := (ho.own g rfl).2
  obtain ⟨g2, cap2, W2, hr2, ho2, hg2, _⟩ := Rr.app_bytes (w1.alloc (.cells #[] 5)) w1.heap.size w1.heap.size 0 0 n c [] l (some ⟨g, 0, none⟩) (Rr.owl_made w1 _ (Nat.le_refl _)) hnl (by omega) (by simp) (fun _ => ⟨g, 0, rfl, fun j x hx => by
    rw [Nat.zero_add, gA.cell (p := ⟨g, j, none⟩) hg]
    exact Rr.owl_at ho j x hx⟩)
  simp only [Nat.zero_add, List.nil_append] at hr2 ho2
  have b2 : Below w1.heap.size w1 W2 := gA.grown hg2 (by simp) (fun j hj => by cases hj; omega)
  have hs2 := b2.size
  have gB : Below W2.heap.size W2 (W2.alloc (.cells #[.int .u8 ((S / 256 : Nat) : Int), .int .u8 ((S % 256 : Nat) : Int)] 5)) := (Below.refl _ _).alloc (Nat.le_refl _) _
  obtain ⟨g3, cap3, W3, hr3, ho3, hg3, _⟩ := Rr.app_bytes (W2.alloc (.cells #[.int .u8 ((S / 256 : Nat) : Int), .int .u8 ((S % 256 : Nat) : Int)] 5)) w1.heap.size g2 n cap2 2 2 l [S / 256, S % 256] (some ⟨W2.heap.size, 0, none⟩) (ho2.later gB) rfl (by omega) (by simp; omega) (fun _ => ⟨W2.heap.size, 0, rfl, fun j x hx => by
    rw [Nat.zero_add]
    match j, hx with
    | 0, hx => simp at hx; subst hx; simp
    | 1, hx => simp at hx; subst hx; simp
    | j + 2, hx => simp at hx⟩)
  have b3 : Below w1.heap.size w1 W3 := (b2.trans (gB.mono hs2)).grown hg3 (by simp; omega) (fun j hj => by cases hj; exact (ho2.own g2 rfl).1)
  have HR2 : Hid (∀ ty, (Builtin.append_ #[22, 22] ty #[.slice (some ⟨w1.heap.size, 0, none⟩) 0 0, .slice (some ⟨g, 0, none⟩) n c]).run Try.prog (w1.alloc (.cells #[] 5)) = .ok (.slice (some ⟨g2, 0, none⟩) n cap2) W2) := hr2
  have HR3 : Hid (∀ ty, (Builtin.append_ #[22, 22] ty #[.slice (some ⟨g2, 0, none⟩) n cap2, .slice (some ⟨W2.heap.size, 0, none⟩) 2 2]).run Try.prog (W2.alloc (.cells #[.int .u8 ((S / 256 : Nat) : Int), .int .u8 ((S % 256 : Nat) : Int)] 5)) = .ok (.slice (some ⟨g3, 0, none⟩) (n + 2) cap3) W3) := hr3
  have HB3 : Hid (Below w1.heap.size w1 W3 ∧ Below w.heap.size w W3) := ⟨b3, b1.trans (b3.mono b1.size)⟩
  have hl3 : ∀ b ∈ l ++ [S / 256, S % 256], b < 256 := fun b hb => by
    rcases List.mem_append.1 hb with hb | hb
    · exact hl b hb
    · simp at hb; omega
  have HZ : Hid (Calls Try.prog 9 #[.slice (some ⟨g3, 0, none⟩) (n + 2 : Nat) cap3] W3 fun e w' => e = .returned (.int .u16 0) ∧ W3 = w') := by
    have hlen : n + 2 = (l ++ [S / 256, S % 256]).length := by rw [List.length_append, ← hnl]; rfl
    have h4 : Bt W3 (some ⟨g3, 0, none⟩) (n + 2) (atL (l ++ [S / 256, S % 256])) := by
      have h5 := ho3
      rw [hlen] at h5 ⊢
      exact owL_bt h5
    have h6 := psum_i (some ⟨g3, 0, none⟩) (n + 2) cap3 (atL (l ++ [S / 256, S % 256])) (atL_lt hl3) W3 (by omega) h4
    have h7 : sumF (atL (l ++ [S / 256, S % 256])) (n + 2) = 0 := by
      refine sum_zero (f := f) hf (fun j hj => ?_) ?_ ?_
      · rw [atL_app1 _ _ _ (by omega), Hf.out]
      · rw [← HS.out, show n = l.length + 0 by omega, atL_app2]; rfl
      · rw [← HS.out, show n + 1 = l.length + 1 by omega, atL_app2]; rfl
    rw [h7] at h6
    exact h6
  have q1 : ((S : Int)).tdiv 256 = ((S / 256 : Nat) : Int) := by rw [Int.tdiv_eq_ediv_of_nonneg (by omega)]; omega
  have q2 : ((S : Int)).tmod 256 = ((S % 256 : Nat) : Int) := by rw [Int.tmod_eq_emod_of_nonneg (by omega)]; omega
  obtain ⟨hi, hhi⟩ : ∃ x, S / 256 = x := ⟨_, rfl⟩
  obtain ⟨lo, hlo⟩ : ∃ x, S % 256 = x := ⟨_, rfl⟩
  have hhi2 : hi < 256 := by omega
  have hlo2 : lo < 256 := by omega
  have HSn : Hid (S = hi * 256 + lo) := (by omega : S = hi * 256 + lo)
  rw [hhi] at HR3 q1
  rw [hlo] at HR3 q2
  have u1 : IntKind.u8.wrap (hi : Int) = (hi : Int) := by rw [IntKind.wrap_u8']; omega
  have u2 : IntKind.u8.wrap (lo : Int) = (lo : Int) := by rw [IntKind.wrap_u8']; omega
  clear ho hl hnl HD b1 hf HBt HS gA hg hr2 ho2 hg2 b2 hs2 gB hr3 ho3 hg3 b3 hl3 hhi hlo
  go_wp2_with fail
  refine HI.out.mono ?_
  rintro e w2 ⟨rfl, rfl⟩
  clear HI
  go_wp2_with (first
    | (at_builtin; refine Rr.wpList_app_run rfl (.tmp 13) (.tmp 14) 22 rfl _ _ rfl rfl _ _ HR2.out ?_)
    | (at_builtin; refine Rr.wpList_app_run rfl (.tmp 15) (.tmp 22) 22 rfl _ _ rfl rfl _ _ HR3.out ?_))
  refine (HP.out W3 HB3.out.1).mono ?_
  rintro e w3 ⟨rfl, rfl⟩
  clear HP HR2 HR3 q1 q2 u1 u2
  go_wp2_with fail
  refine HZ.out.mono ?_
  rintro e w4 ⟨rfl, rfl⟩
  go_wp2_with fail
  refine (HN.out _).mono ?_
  rintro e w5 ⟨rfl, rfl⟩
  go_wp2
  go_ret
  exact ⟨rfl, HB3.out.2⟩
end Go.Proofs.Ytjogmhicehlboaa
