/- The specification's ForkPush, ForkPop, ForkTop; the exact laws of forks. -/
import Derived.Test.YtlpeianinlnbeaaF
namespace Go.Proofs.Ytlpeianinlnbeaa
open Go.RowKit
set_option linter.unusedVariables false

theorem spec_push16 (b n : Int) (x : Bool) (W : World) (h0 : 0 ≤ b) (h1 : b ≤ 65535) :
    Calls Try.prog 45 #[.agg #[.int .u16 b, .int .i64 n], .bool x] W fun e w' => e = .returned (.agg #[.int .u16 (2 * nb 16 b n % 65536 + bit01 x), .int .i64 (min (nn 16 b n + 1) 16 : Nat)]) ∧ Below W.heap.size W w' := by
  have hB := nb_bd 16 b n h0
  have hs := spec_push b n x W h0 h1
  rw [Ls_rev, Ls_length, val_push x _ _ (nn16 b n) hB.1 hB.2] at hs
  exact hs
theorem spec_pop16 (b n : Int) (W : World) (h0 : 0 ≤ b) (h1 : b ≤ 65535) :
    Calls Try.prog 47 #[.agg #[.int .u16 b, .int .i64 n]] W fun e w' => e = .returned (.tuple #[.agg #[.int .u16 (nb 16 b n / 2), .int .i64 (nn 16 b n - 1 : Nat)], .bool (nb 16 b n % 2 == 1)]) ∧ Below W.heap.size W w' := by
  have hB := nb_bd 16 b n h0
  rcases list_split (Ls b n) with hl | ⟨l', x, hl⟩
  · have hN : nn 16 b n = 0 := by rw [← Ls_length, hl]; rfl
    have hB0 : nb 16 b n = 0 := by have := hB.2; rw [hN] at this; have := hB.1; omega
    have hs := spec_pop_empty b n W h0 h1 hl
    rw [hN, hB0]
    exact hs
  · have hr := Ls_rev b n
    rw [hl] at hr
    obtain ⟨m1, m2, m3, _⟩ := pop_math hr (nn16 b n) hB.1 hB.2
    have hs := spec_pop_some b n l' x W h0 h1 hl
    rw [m2, m3, m1] at hs
    exact hs
theorem spec_top16 (b n : Int) (W : World) (h0 : 0 ≤ b) (h1 : b ≤ 65535) :
    Calls Try.prog 48 #[.agg #[.int .u16 b, .int .i64 n]] W fun e w' => e = .returned (.bool (nb 16 b n % 2 == 1)) ∧ Below W.heap.size W w' := by
  have hB := nb_bd 16 b n h0
  rcases list_split (Ls b n) with hl | ⟨l', x, hl⟩
  · have hN : nn 16 b n = 0 := by rw [← Ls_length, hl]; rfl
    have hB0 : nb 16 b n = 0 := by have := hB.2; rw [hN] at this; have := hB.1; omega
    rw [hB0]
    exact spec_top_empty b n W h0 h1 hl
  · have hr := Ls_rev b n
    rw [hl] at hr
    obtain ⟨m1, _⟩ := pop_math hr (nn16 b n) hB.1 hB.2
    rw [← m1]
    exact spec_top_some b n l' x W h0 h1 hl

theorem nn8 (b n : Int) : nn 8 b n ≤ 8 := nn_le 8 b n
theorem wide_norm (b n : Int) (h0 : 0 ≤ b) : nb 16 (nb 8 b n) (nn 8 b n) = nb 8 b n ∧ nn 16 (nb 8 b n) (nn 8 b n) = nn 8 b n := by
  have hB := nb_bd 8 b n h0
  have hN := nn8 b n
  have hok : okS 16 (nb 8 b n) (nn 8 b n) = true := by
    unfold okS
    rw [decide_eq_true_iff]
    refine ⟨by omega, by omega, by simpa using hB.2⟩
  constructor
  · rw [nb, if_pos hok]
  · rw [nn, if_pos hok]; simp

set_option maxHeartbeats 1000000 in
theorem spec_fork_push (b n : Int) (x : Bool) (w : World) (hb0 : 0 ≤ b) (hb1 : b ≤ 255) :
    Calls Try.prog 42 #[.agg #[.int .u8 b, .int .i64 n], .bool x] w fun e w' => e = .returned (.agg #[.int .u8 (2 * nb 8 b n % 256 + bit01 x), .int .i64 (min (nn 8 b n + 1) 8 : Nat)]) ∧ Below w.heap.size w w' := by
  have hw := wide_norm b n hb0
  have hB0 := (nb_bd 8 b n hb0).1
  have hB1 := nb_le 8 b n hb0
  have hN := nn8 b n
  have hx := bit01_bd x
  have hp : ∀ W : World, Calls Try.prog 45 #[.agg #[.int .u16 (nb 8 b n), .int .i64 (nn 8 b n)], .bool x] W fun e w' => e = .returned (.agg #[.int .u16 (2 * nb 8 b n + bit01 x), .int .i64 (nn 8 b n + 1 : Nat)]) ∧ Below W.heap.size W w' := by
    intro W
    have h := spec_push16 (nb 8 b n) (nn 8 b n) x W hB0 (by omega)
    rw [hw.1, hw.2] at h
    have e1 : 2 * nb 8 b n % 65536 = 2 * nb 8 b n := Int.emod_eq_of_lt (by omega) (by omega)
    have e2 : min (nn 8 b n + 1) 16 = nn 8 b n + 1 := by omega
    rw [e1, e2] at h
    exact h
  have HP : Hid (∀ W : World, Calls Try.prog 45 #[.agg #[.int .u16 (nb 8 b n), .int .i64 (nn 8 b n)], .bool x] W fun e w' => e = .returned (.agg #[.int .u16 (2 * nb 8 b n + bit01 x), .int .i64 (nn 8 b n + 1 : Nat)]) ∧ Below W.heap.size W w') := hp
  have hm := fun W : World => spec_small (2 * nb 8 b n + bit01 x) (nn 8 b n + 1) W (by omega) (by omega) (by omega)
  have eV : (2 * nb 8 b n + bit01 x) % 256 = 2 * nb 8 b n % 256 + bit01 x := by omega
  rw [eV] at hm
  have HM : Hid (∀ W : World, Calls Try.prog 81 #[.agg #[.int .u16 (2 * nb 8 b n + bit01 x), .int .i64 (nn 8 b n + 1 : Nat)]] W fun e w' => e = .returned (.agg #[.int .u8 (2 * nb 8 b n % 256 + bit01 x), .int .i64 (min (nn 8 b n + 1) 8 : Nat)]) ∧ Below W.heap.size W w') := hm
  clear hp hm eV hw
  obtain ⟨V, HV⟩ : ∃ V, Hid (V = 2 * nb 8 b n % 256 + bit01 x) := ⟨_, rfl⟩
  obtain ⟨M, HN⟩ : ∃ M, Hid (M = min (nn 8 b n + 1) 8) := ⟨_, rfl⟩
  rw [← HV.out, ← HN.out]
  rw [← HV.out, ← HN.out] at HM
  go_enter Try.func42, Try.ntmps42
  go_wp2_with fail
  refine (spec_wide b n _ hb0 hb1).mono ?_
  rintro e w1 ⟨rfl, g1⟩
  have b1 : Below w.heap.size w w1 := (((Below.refl _ _).alloc (Nat.le_refl _) _).alloc (by simp) _).trans (g1.mono (by simp; omega))
  have s1 : Sk .u8 w1 (w.heap.size + 1) 0 0 := by
    have h := (Sk.fresh .u8 (w.alloc (.cells #[.int .u8 b, .int .i64 n] 36)) 0 0 36).later g1 (by simp)
    simpa using h
  clear g1
  go_wp2_with fail
  refine (HP.out _).mono ?_
  rintro e w2 ⟨rfl, g2⟩
  have s2 : Sk .u8 w2 (w.heap.size + 1) 0 0 := s1.later g2 s1.lt
  have b2 : Below w.heap.size w w2 := b1.trans (g2.mono b1.size)
  clear g2 b1 s1
  go_wp2_with fail
  refine (HM.out _).mono ?_
  rintro e w3 ⟨rfl, g3⟩
  have s3 : Sk .u8 w3 (w.heap.size + 1) 0 0 := s2.later g3 s2.lt
  have b3 : Below w.heap.size w w3 := b2.trans (g3.mono b2.size)
  clear g3 b2 s2
  obtain ⟨q0, q1, _, _⟩ := s3.set V M
  obtain ⟨c0, c1, f0, f1⟩ := s3
  go_wp2
  exact bodyPost_ret (v := .agg #[.int .u8 V, .int .i64 M]) (by simp [results, Try.results42, go_sem, q0, q1]) rfl ⟨rfl, by go_grown⟩

set_option maxHeartbeats 1000000 in
theorem spec_fork_pop (b n : Int) (w : World) (hb0 : 0 ≤ b) (hb1 : b ≤ 255) :
    Calls Try.prog 55 #[.agg #[.int .u8 b, .int .i64 n]] w fun e w' => e = .returned (.tuple #[.agg #[.int .u8 (nb 8 b n / 2), .int .i64 (nn 8 b n - 1 : Nat)], .bool (nb 8 b n % 2 == 1)]) ∧ Below w.heap.size w w' := by
  have hw := wide_norm b n hb0
  have hB0 := (nb_bd 8 b n hb0).1
  have hB1 := nb_le 8 b n hb0
  have hN := nn8 b n
  have HP : Hid (∀ W : World, Calls Try.prog 47 #[.agg #[.int .u16 (nb 8 b n), .int .i64 (nn 8 b n)]] W fun e w' => e = .returned (.tuple #[.agg #[.int .u16 (nb 8 b n / 2), .int .i64 (nn 8 b n - 1 : Nat)], .bool (nb 8 b n % 2 == 1)]) ∧ Below W.heap.size W w') := by
    intro W
    have h := spec_pop16 (nb 8 b n) (nn 8 b n) W hB0 (by omega)
    rw [hw.1, hw.2] at h
    exact h
  have hm := fun W : World => spec_small (nb 8 b n / 2) (nn 8 b n - 1) W (by omega) (by omega) (by omega)
  have eV : (nb 8 b n / 2) % 256 = nb 8 b n / 2 := by omega
  have eM : min (nn 8 b n - 1) 8 = nn 8 b n - 1 := by omega
  rw [eV, eM] at hm
  have HM : Hid (∀ W : World, Calls Try.prog 81 #[.agg #[.int .u16 (nb 8 b n / 2), .int .i64 (nn 8 b n - 1 : Nat)]] W fun e w' => e = .returned (.agg #[.int .u8 (nb 8 b n / 2), .int .i64 (nn 8 b n - 1 : Nat)]) ∧ Below W.heap.size W w') := hm
  clear hm eV eM hw
  obtain ⟨V, HV⟩ : ∃ V, Hid (V = nb 8 b n / 2) := ⟨_, rfl⟩
  obtain ⟨M, HN⟩ : ∃ M, Hid (M = nn 8 b n - 1) := ⟨_, rfl⟩
  obtain ⟨r, HR⟩ : ∃ r, Hid (r = (nb 8 b n % 2 == 1)) := ⟨_, rfl⟩
  rw [← HV.out, ← HN.out, ← HR.out]
  rw [← HV.out, ← HN.out] at HM
  rw [← HV.out, ← HN.out, ← HR.out] at HP
  go_enter Try.func55, Try.ntmps55
  go_wp2_with fail
  refine (spec_wide b n _ hb0 hb1).mono ?_
  rintro e w1 ⟨rfl, g1⟩
  have b1 : Below w.heap.size w w1 := (((Below.refl _ _).alloc (Nat.le_refl _) _).alloc (by simp) _).trans (g1.mono (by simp; omega))
  have s1 : Sk .u8 w1 (w.heap.size + 1) 0 0 := by
    have h := (Sk.fresh .u8 (w.alloc (.cells #[.int .u8 b, .int .i64 n] 36)) 0 0 36).later g1 (by simp)
    simpa using h
  clear g1
  go_wp2_with fail
  refine (HP.out _).mono ?_
  rintro e w2 ⟨rfl, g2⟩
  have s2 : Sk .u8 w2 (w.heap.size + 1) 0 0 := s1.later g2 s1.lt
  have b2 : Below w.heap.size w w2 := b1.trans (g2.mono b1.size)
  clear g2 b1 s1
  go_wp2_with fail
  refine (HM.out _).mono ?_
  rintro e w3 ⟨rfl, g3⟩
  have s3 : Sk .u8 w3 (w.heap.size + 1) 0 0 := (s2.alloc _).later g3 (by have := s2.lt; simp; omega)
  have b3 : Below w.heap.size w w3 := (b2.alloc b2.size _).trans (g3.mono (by have := b2.size; simp; omega))
  clear g3 b2 s2
  obtain ⟨q0, q1, _, _⟩ := s3.set V M
  obtain ⟨c0, c1, f0, f1⟩ := s3
  go_wp2
  exact bodyPost_ret (v := .tuple #[.agg #[.int .u8 V, .int .i64 M], .bool r]) (by simp [results, Try.results55, go_sem, q0, q1]) rfl ⟨rfl, by go_grown⟩

set_option maxHeartbeats 1000000 in
theorem spec_fork_top (b n : Int) (w : World) (hb0 : 0 ≤ b) (hb1 : b ≤ 255) :
    Calls Try.prog 56 #[.agg #[.int .u8 b, .int .i64 n]] w fun e w' => e = .returned (.bool (nb 8 b n % 2 == 1)) ∧ Below w.heap.size w w' := by
  have hw := wide_norm b n hb0
  have hB0 := (nb_bd 8 b n hb0).1
  have hB1 := nb_le 8 b n hb0
  obtain ⟨r, HR⟩ : ∃ r, Hid (r = (nb 8 b n % 2 == 1)) := ⟨_, rfl⟩
  have HP : Hid (∀ W : World, Calls Try.prog 48 #[.agg #[.int .u16 (nb 8 b n), .int .i64 (nn 8 b n)]] W fun e w' => e = .returned (.bool r) ∧ Below W.heap.size W w') := by
    intro W
    have h := spec_top16 (nb 8 b n) (nn 8 b n) W hB0 (by omega)
    rw [hw.1] at h
    rw [HR.out]
    exact h
  rw [← HR.out]
  clear hw
  go_enter Try.func56, Try.ntmps56
  go_wp2_with fail
  refine (spec_wide b n _ hb0 hb1).mono ?_
  rintro e w1 ⟨rfl, g1⟩
  have b1 : Below w.heap.size w w1 := ((Below.refl _ _).alloc (Nat.le_refl _) _).trans (g1.mono (by simp))
  clear g1
  go_wp2_with fail
  refine (HP.out _).mono ?_
  rintro e w2 ⟨rfl, g2⟩
  have b2 : Below w.heap.size w w2 := b1.trans (g2.mono b1.size)
  clear g2 b1
  go_wp2
  go_ret
  exact ⟨rfl, b2⟩

theorem walk16 (b n : Int) (w : World) (hb : (Lit.int .u8 b).wf = true) (hn : (Lit.int .i64 n).wf = true) :
    Calls Try.prog 16 #[.agg #[.int .u8 b, .int .i64 n]] w fun e w' => e = .returned (.bool true) ∧ Below w.heap.size w w' := by
  have h := bounds_u8 hb
  exact law16 b n _ w (fun W => spec_fork_ok b n W h.1 (by omega)) (fun W => impl_fork_ok b n W h.1 (by omega))
theorem walk17 (b n : Int) (x : Bool) (w : World) (hb : (Lit.int .u8 b).wf = true) (hn : (Lit.int .i64 n).wf = true) :
    Calls Try.prog 17 #[.agg #[.int .u8 b, .int .i64 n], .bool x] w fun e w' => e = .returned (.bool true) ∧ Below w.heap.size w w' := by
  have h := bounds_u8 hb
  exact law17 b n x _ _ w (fun W => spec_fork_push b n x W h.1 (by omega)) (fun W => impl_push8 b n x W h.1 (by omega))
theorem walk18 (b n : Int) (w : World) (hb : (Lit.int .u8 b).wf = true) (hn : (Lit.int .i64 n).wf = true) :
    Calls Try.prog 18 #[.agg #[.int .u8 b, .int .i64 n]] w fun e w' => e = .returned (.bool true) ∧ Below w.heap.size w w' := by
  have h := bounds_u8 hb
  exact law18 b n _ _ _ w (fun W => spec_fork_pop b n W h.1 (by omega)) (fun W => impl_pop8 b n W h.1 (by omega))
theorem walk19 (b n : Int) (w : World) (hb : (Lit.int .u8 b).wf = true) (hn : (Lit.int .i64 n).wf = true) :
    Calls Try.prog 19 #[.agg #[.int .u8 b, .int .i64 n]] w fun e w' => e = .returned (.bool true) ∧ Below w.heap.size w w' := by
  have h := bounds_u8 hb
  exact law19 b n _ w (fun W => spec_fork_top b n W h.1 (by omega)) (fun W => impl_top8 b n W h.1 (by omega))
end Go.Proofs.Ytlpeianinlnbeaa
