/- The law FnBitTurn. -/
import Derived.Test.YtlpeianinlnbeaaC
import Derived.Test.YtlpeianinlnbeaaH
import Derived.Test.YtlpeianinlnbeaaQ
namespace Go.Proofs.Ytlpeianinlnbeaa
open Go.RowKit
set_option linter.unusedVariables false

set_option maxHeartbeats 1000000 in
theorem wb_rows (g1 g2 n c1 c2 o2 : Nat) (f : Nat → Bool) (w : World) (h1 : ∀ j, j < n → w.cell? ⟨g1, j, none⟩ = some (.bool (f j))) (h2 : ∀ j, j < n → w.cell? ⟨g2, o2 + j, none⟩ = some (.bool (f j))) (hn : n ≤ 1000) :
    Calls Try.prog 22 #[.slice (some ⟨g1, 0, none⟩) n c1, .slice (some ⟨g2, o2, none⟩) n c2] w fun e w' => e = .returned (.bool true) ∧ Below w.heap.size w w' := by
  have H1 : Hid (∀ j, j < n → w.cell? ⟨g1, j, none⟩ = some (.bool (f j))) := h1
  have H2 : Hid (∀ j, j < n → w.cell? ⟨g2, o2 + j, none⟩ = some (.bool (f j))) := h2
  clear h1 h2
  go_enter Try.func22, Try.ntmps22
  go_wp2
  go_loopw [5] (fun i wr => ∃ k m : Nat, k ≤ n ∧ i = .int .i64 k ∧ wr = w.drewN m) (fun i _ => n - (intOf i).toNat)
  case atStart => exact ⟨0, 0, Nat.zero_le _, rfl, rfl⟩
  case round =>
    obtain ⟨k, m, hk, rfl, rfl⟩ := hrel
    by_cases hlt : k < n
    · have d1 := H1.out k hlt
      have d2 := H2.out k hlt
      have i1 : (k : Int) < (n : Int) := by omega
      go_wp2
      go_quiet (fail)
      go_wp2
      go_roundw
      case rel => exact ⟨k + 1, _, by omega, by go_num, rfl⟩
      case measure => simp [intOf]; omega
    · go_wp2
      go_ret
      exact ⟨rfl, below_drewN (Below.refl _ _) _⟩
set_option maxHeartbeats 400000 in
theorem wb_nil (g c1 : Nat) (w : World) :
    Calls Try.prog 22 #[.slice (some ⟨g, 0, none⟩) 0 c1, .slice none 0 0] w fun e w' => e = .returned (.bool true) ∧ Below w.heap.size w w' := by
  go_enter Try.func22, Try.ntmps22
  go_wp2
  go_rounds 1
  go_ret
  exact ⟨rfl, Below.refl _ _⟩
theorem wb_any (g n c1 base : Nat) (v : Value) (f : Nat → Bool) (w : World) (h1 : Rw w g n f) (h2 : RowV w base v n f) (hn : n ≤ 1000) :
    Calls Try.prog 22 #[.slice (some ⟨g, 0, none⟩) n c1, v] w fun e w' => e = .returned (.bool true) ∧ Below w.heap.size w w' := by
  rcases h2 with ⟨rfl, rfl⟩ | ⟨g2, cap, rfl, _, h3⟩
  · exact wb_nil g c1 w
  · exact wb_rows g g2 n c1 cap 0 f w h1.cell (fun j hj => by rw [Nat.zero_add]; exact h3.cell j hj) hn

set_option maxHeartbeats 1000000 in
theorem draw_bit_turn {a : Option Addr} {len cap blk off : Nat} {z : Nat → Int} (w : World) (h : Code0 w a len cap blk off z) :
    Calls Try.prog 39 #[.slice a len cap] w fun e w' => (∃ (b n : Int) (x : Bool), 0 ≤ b ∧ b ≤ 65535 ∧ e = .returned (.tuple #[.agg #[.int .u16 b, .int .i64 n], .bool x])) ∧ Below w.heap.size w w' := by
  go_enter Try.func39, Try.ntmps39
  go_wp2_with fail
  refine ((h.later ((Below.refl _ _).alloc (Nat.le_refl _) _)).open).mono ?_
  rintro e w1 ⟨rfl, h1, g1⟩
  simp only [World.size_alloc] at h1 g1 ⊢
  have s1 : Sk .u16 w1 w.heap.size 0 0 := (Sk.fresh .u16 w 0 0 25).later g1 (by omega)
  have b1 : Below w.heap.size w w1 := ((Below.refl _ _).alloc (Nat.le_refl _) _).trans (g1.mono (by omega))
  clear g1
  go_wp2_with fail
  refine (pick_r _ _ 0 2 _ h1 (by omega) (by omega) (by omega)).mono ?_
  rintro e w2 ⟨x, x1, rfl, h2, g2⟩
  have s2 : Sk .u16 w2 w.heap.size 0 0 := s1.grown g2 s1.lt (by simp)
  have b2 : Below w.heap.size w w2 := b1.grown g2 b1.size (fun j hj => by simp at hj; omega)
  clear g2 s1 b1 h1
  go_wp2_with fail
  refine (draw_r _ _ (0 + 1) _ h2 (by omega)).mono ?_
  rintro e w3 ⟨⟨b, n, hb0, hb1, rfl⟩, _, g3⟩
  have s3 : Sk .u16 w3 w.heap.size 0 0 := s2.grown g3 s2.lt (by simp)
  have b3 : Below w.heap.size w w3 := b2.grown g3 b2.size (fun j hj => by simp at hj; omega)
  clear g3 s2 b2 h2
  obtain ⟨q0, q1, _, _⟩ := s3.set b n
  obtain ⟨c0, c1, f0, f1⟩ := s3
  go_wp2
  exact bodyPost_ret (v := .tuple #[.agg #[.int .u16 b, .int .i64 n], .bool ((x : Int) == 1)]) (by simp [results, Try.results39, go_sem, q0, q1]) rfl ⟨⟨b, n, _, hb0, hb1, rfl⟩, by go_grown⟩

theorem nn_norm (V : Int) (N : Nat) (h0 : 0 ≤ V) (hN : N ≤ 16) (h : V < 2 ^ N) : okS 16 V N = true ∧ nb 16 V N = V ∧ nn 16 V N = N := by
  have hok : okS 16 V N = true := by
    unfold okS
    rw [decide_eq_true_iff]
    exact ⟨by omega, by omega, by simpa using h⟩
  exact ⟨hok, by rw [nb, if_pos hok], by rw [nn, if_pos hok]; simp⟩

theorem turn_math (B : Int) (N : Nat) (y : Bool) (h0 : 0 ≤ B) (hB : B < 2 ^ N) (hN : N ≤ 16) (hp : 0 < N) :
    0 ≤ 2 * (B / 2) % 65536 + bit01 y ∧ 2 * (B / 2) % 65536 + bit01 y < 2 ^ N ∧ bitAt B N (N - 1) = (B % 2 == 1) ∧
      ∀ j, j < N → bitAt (2 * (B / 2) % 65536 + bit01 y) N j = if j = N - 1 then y else bitAt B N j := by
  have hy := bit01_bd y
  obtain ⟨K, rfl⟩ : ∃ K, N = K + 1 := ⟨N - 1, by omega⟩
  have hK := pow_cap K 15 (by omega)
  have e15 : (2 : Int) ^ 15 = 32768 := by decide
  rw [Int.pow_succ] at hB
  have e : 2 * (B / 2) % 65536 = 2 * (B / 2) := by omega
  rw [e]
  refine ⟨by omega, by rw [Int.pow_succ]; omega, by simp [bitAt], ?_⟩
  intro j hj
  by_cases hjN : j = K + 1 - 1
  · rw [if_pos hjN]
    have e2 : K + 1 - 1 - j = 0 := by omega
    have : (2 * (B / 2) + bit01 y) % 2 = bit01 y := by omega
    simp only [bitAt, e2, Int.pow_zero, Int.ediv_one, this]
    cases y <;> simp [bit01]
  · simp only [hjN, if_false, bitAt]
    obtain ⟨d, hd⟩ : ∃ d, K + 1 - 1 - j = d + 1 := ⟨K + 1 - 1 - j - 1, by omega⟩
    rw [hd, Int.pow_succ, Int.mul_comm ((2 : Int) ^ d) 2, ← Int.ediv_ediv_of_nonneg (by decide), ← Int.ediv_ediv_of_nonneg (by decide)]
    have : (2 * (B / 2) + bit01 y) / 2 = B / 2 := by omega
    rw [this]

set_option maxHeartbeats 4000000 in
theorem law6_in {a : Option Addr} {len cap blk off : Nat} {z : Nat → Int} (w : World) (h : Code0 w a len cap blk off z) :
    Calls Try.prog 6 #[.slice a len cap] w fun e w' => e = .returned (.bool true) ∧ Below w.heap.size w w' := by
  have hlen := h.short
  go_enter Try.func6, Try.ntmps6
  go_wp2_with fail
  refine (draw_bit_turn _ h).mono ?_
  rintro e w1 ⟨⟨b, n, y, hb0, hb1, rfl⟩, b1⟩
  have z1 := b1.size
  have hB := nb_bd 16 b n hb0
  have hN : nn 16 b n ≤ 16 := nn_le 16 b n
  have HS : Hid (∀ W : World, Calls Try.prog 23 #[.agg #[.int .u16 b, .int .i64 n]] W fun e w' => ∃ v, e = .returned v ∧ RowV w' W.heap.size v (nn 16 b n) (bitAt (nb 16 b n) (nn 16 b n)) ∧ Below W.heap.size W w') := fun W => spec_list16 b n W hb0 hb1
  have HPOP : Hid (∀ W : World, Calls Try.prog 25 #[.agg #[.int .u16 b, .int .i64 n]] W fun e w' => e = .returned (.tuple #[.agg #[.int .u16 (nb 16 b n / 2), .int .i64 (nn 16 b n - 1 : Nat)], .bool (nb 16 b n % 2 == 1)]) ∧ Below W.heap.size W w') := fun W => impl_pop16 b n W hb0 (by omega)
  have HTOP : Hid (∀ W : World, Calls Try.prog 29 #[.agg #[.int .u16 b, .int .i64 n]] W fun e w' => e = .returned (.bool (nb 16 b n % 2 == 1)) ∧ Below W.heap.size W w') := fun W => impl_top16 b n W hb0 (by omega)
  obtain ⟨XB, XM, hX0, hX1, HT, HXOK, hcase⟩ : ∃ XB XM : Int, 0 ≤ XB ∧ XB ≤ 65535 ∧
      Hid (∀ W : World, Calls Try.prog 40 #[.agg #[.int .u16 b, .int .i64 n], .bool y] W fun e w' => e = .returned (.agg #[.int .u16 XB, .int .i64 XM]) ∧ Below W.heap.size W w') ∧
      Hid (∀ W : World, Calls Try.prog 26 #[.agg #[.int .u16 XB, .int .i64 XM]] W fun e w' => e = .returned (.bool true) ∧ Below W.heap.size W w') ∧
      ((nn 16 b n = 0 ∧ XB = 0 ∧ XM = 0 ∧ (nb 16 b n % 2 == 1) = false) ∨ (0 < nn 16 b n ∧ bitAt (nb 16 b n) (nn 16 b n) (nn 16 b n - 1) = (nb 16 b n % 2 == 1) ∧
        ∀ W : World, Calls Try.prog 21 #[.agg #[.int .u16 XB, .int .i64 XM]] W fun e w' => ∃ g, e = .returned (.slice (some ⟨g, 0, none⟩) (nn 16 b n) (nn 16 b n)) ∧ W.heap.size ≤ g ∧ Rw w' g (nn 16 b n) (fun j => if j = nn 16 b n - 1 then y else bitAt (nb 16 b n) (nn 16 b n) j) ∧ Below W.heap.size W w')) := by
    by_cases h0 : nn 16 b n = 0
    · have hB0 : nb 16 b n = 0 := by have h2 := hB.2; rw [h0] at h2; have := hB.1; omega
      exact ⟨0, 0, by omega, by omega, fun W => impl_turn_empty b n y W hb0 (by omega) h0, fun W => impl_ok 0 0 W (by omega) (by omega), .inl ⟨h0, rfl, rfl, by rw [hB0]; rfl⟩⟩
    · obtain ⟨t1, t2, t3, t4⟩ := turn_math (nb 16 b n) (nn 16 b n) y hB.1 hB.2 hN (by omega)
      have hc := pow_cap (nn 16 b n) 16 hN
      have e16 : (2 : Int) ^ 16 = 65536 := by decide
      obtain ⟨o1, o2, o3⟩ := nn_norm _ (nn 16 b n) t1 hN t2
      refine ⟨_, _, t1, by omega, fun W => impl_turn_some b n y W hb0 (by omega) (by omega), fun W => ?_, .inr ⟨by omega, t3, fun W => ?_⟩⟩
      · have h := impl_ok _ (nn 16 b n) W t1 (by omega)
        rw [o1] at h
        exact h
      · refine (impl_list _ (nn 16 b n) W t1 (by omega)).mono ?_
        rintro e w' ⟨g, rfl, hg, hR, hb⟩
        rw [o2, o3] at hR
        rw [o3]
        exact ⟨g, rfl, hg, hR.congr t4, hb⟩
  obtain ⟨N, HN⟩ : ∃ N, Hid (N = nn 16 b n) := ⟨_, rfl⟩
  obtain ⟨f, HF⟩ : ∃ f, Hid (f = bitAt (nb 16 b n) (nn 16 b n)) := ⟨_, rfl⟩
  obtain ⟨tp, HTP⟩ : ∃ tp, Hid (tp = (nb 16 b n % 2 == 1)) := ⟨_, rfl⟩
  obtain ⟨PB, HPB⟩ : ∃ PB, Hid (PB = nb 16 b n / 2) := ⟨_, rfl⟩
  obtain ⟨PM, HPM⟩ : ∃ PM : Int, Hid (PM = (nn 16 b n - 1 : Nat)) := ⟨_, rfl⟩
  rw [← HF.out, ← HN.out] at HS
  rw [← HPB.out, ← HPM.out, ← HTP.out] at HPOP
  rw [← HTP.out] at HTOP
  rw [← HF.out, ← HTP.out, ← HN.out] at hcase
  rw [← HN.out] at hN
  have HCASE : Hid ((N = 0 ∧ XB = 0 ∧ XM = 0 ∧ tp = false) ∨ (0 < N ∧ f (N - 1) = tp ∧ ∀ W : World, Calls Try.prog 21 #[.agg #[.int .u16 XB, .int .i64 XM]] W fun e w' => ∃ g, e = .returned (.slice (some ⟨g, 0, none⟩) N N) ∧ W.heap.size ≤ g ∧ Rw w' g N (fun j => if j = N - 1 then y else f j) ∧ Below W.heap.size W w')) := hcase
  clear hcase HF HTP HPB HPM HN hB h
  go_wp2_with fail
  refine (HS.out _).mono ?_
  rintro e w2 ⟨v, rfl, v2, g2⟩
  have s2 : Sk .u16 w2 w1.heap.size b n := (Sk.fresh .u16 w1 b n 25).later g2 (by simp)
  have b2 : Below w.heap.size w w2 := (b1.alloc z1 _).trans (g2.mono (by simp; omega))
  have z2 := b2.size
  simp only [World.size_alloc] at v2
  clear g2 b1
  have sc0 := s2.c0
  have sc1 := s2.c1
  go_wp2_with fail
  refine (HT.out _).mono ?_
  rintro e w3 ⟨rfl, g3⟩
  have v3 := v2.kept (gb_below g3) (fun j hj => by cases hj)
  have s3 := s2.later g3 s2.lt
  have b3 : Below w.heap.size w w3 := b2.trans (g3.mono z2)
  have z3 := b3.size
  clear g3 b2 v2 s2 sc0 sc1
  have HVL : Hid (∀ g0 l0 c0, v = .slice (some ⟨g0, 0, none⟩) l0 c0 → g0 < w3.heap.size) := by
    intro g0 l0 c0 h
    rcases v3 with ⟨_, h2⟩ | ⟨g', cap', h2, _, h3⟩
    · rw [h2] at h; cases h
    · rw [h2] at h
      cases h
      exact h3.lt
  have v3a := v3.kept (World.grownBy_alloc w3 (.cells #[.int .u16 XB, .int .i64 XM] 25) none) (fun j hj => by cases hj)
  have s3a := s3.alloc (.cells #[.int .u16 XB, .int .i64 XM] 25)
  have x3a : Sk .u16 (w3.alloc (.cells #[.int .u16 XB, .int .i64 XM] 25)) w3.heap.size XB XM := Sk.fresh .u16 w3 XB XM 25
  have sc0 := s3a.c0
  have sc1 := s3a.c1
  go_wp2_with fail
  refine (HPOP.out _).mono ?_
  rintro e w4 ⟨rfl, g4⟩
  have v4 := v3a.kept (gb_below g4) (fun j hj => by cases hj)
  have s4 := s3a.later g4 s3a.lt
  have x4 := x3a.later g4 x3a.lt
  have b4 : Below w.heap.size w w4 := (b3.alloc z3 _).trans (g4.mono (by simp; omega))
  have z4 := b4.size
  clear g4 b3 v3 v3a s3 s3a x3a sc0 sc1
  have v4a := v4.kept (World.grownBy_alloc w4 (.cells #[.int .u16 PB, .int .i64 PM] 25) none) (fun j hj => by cases hj)
  have s4a := s4.alloc (.cells #[.int .u16 PB, .int .i64 PM] 25)
  have x4a := x4.alloc (.cells #[.int .u16 PB, .int .i64 PM] 25)
  have sc0 := s4a.c0
  have sc1 := s4a.c1
  go_wp2_with fail
  refine (HTOP.out _).mono ?_
  rintro e w5 ⟨rfl, g5⟩
  have v5 := v4a.kept (gb_below g5) (fun j hj => by cases hj)
  have x5 := x4a.later g5 x4a.lt
  have b5 : Below w.heap.size w w5 := (b4.alloc z4 _).trans (g5.mono (by simp; omega))
  have z5 := b5.size
  clear g5 b4 v4 v4a s4 s4a x4 x4a sc0 sc1
  have xc0 := x5.c0
  have xc1 := x5.c1
  go_wp2_with fail
  refine (HXOK.out _).mono ?_
  rintro e w6 ⟨rfl, g6⟩
  have v6 := v5.kept (gb_below g6) (fun j hj => by cases hj)
  have x6 := x5.later g6 x5.lt
  have b6 : Below w.heap.size w w6 := b5.trans (g6.mono z5)
  have z6 := b6.size
  clear g6 b5 v5 x5 xc0 xc1 HS HT HPOP HTOP HXOK
  have xc0 := x6.c0
  have xc1 := x6.c1
  rcases v6 with ⟨hN0, rfl⟩ | ⟨g, cap, rfl, hg, hR⟩
  · rcases HCASE.out with ⟨_, rfl, rfl, rfl⟩ | ⟨hp, _⟩
    · subst hN0
      clear HCASE
      go_wp2
      go_ret
      exact ⟨rfl, b6⟩
    · omega
  · rcases HCASE.out with ⟨hN0, rfl, rfl, rfl⟩ | ⟨hp, hlast, HL⟩
    · subst hN0
      clear HCASE
      go_wp2
      go_ret
      exact ⟨rfl, b6⟩
    · obtain ⟨K, rfl⟩ : ∃ K, N = K + 1 := ⟨N - 1, by omega⟩
      have eK : K + 1 - 1 = K := by omega
      rw [eK] at hlast HL
      have HLL : Hid (∀ W : World, Calls Try.prog 21 #[.agg #[.int .u16 XB, .int .i64 XM]] W fun e w' => ∃ g, e = .returned (.slice (some ⟨g, 0, none⟩) (K + 1) (K + 1)) ∧ W.heap.size ≤ g ∧ Rw w' g (K + 1) (fun j => if j = K then y else f j) ∧ Below W.heap.size W w') := HL
      have hc := hR.cell K (by omega)
      rw [hlast] at hc
      have hfz := hR.frz K
      have hglt := hR.lt
      have i3 : ((K : Int) + 1 == 0) = false := by simp; omega
      clear HCASE HL eK hlast
      have hgx : g ≠ w3.heap.size := by have := HVL.out g _ _ rfl; omega
      have R7 := hR.set K (by omega) y
      have x7 : Sk .u16 (w6.setCell ⟨g, K, none⟩ (.bool y)) w3.heap.size XB XM := x6.other g K hgx _
      have b7 : Below w.heap.size w (w6.setCell ⟨g, K, none⟩ (.bool y)) := b6.setCell (by show w.heap.size ≤ g; omega) _
      have z7 := b7.size
      have xd0 := x7.c0
      have xd1 := x7.c1
      go_wp2_with fail
      refine (HLL.out _).mono ?_
      rintro e w8 ⟨g', rfl, hg', R8, g8⟩
      have Q8 := R7.later g8 R7.lt
      have b8 : Below w.heap.size w w8 := b7.trans (g8.mono z7)
      have z8 := b8.size
      clear g8 b7 R7 x7 xd0 xd1 b6 x6 xc0 xc1 hR hc hfz
      go_wp2_with fail
      refine (wb_rows g' g (K + 1) (K + 1) cap 0 _ _ R8.cell (fun j hj => by rw [Nat.zero_add]; exact Q8.cell j hj) (by omega)).mono ?_
      rintro e w9 ⟨rfl, g9⟩
      have b9 : Below w.heap.size w w9 := b8.trans (g9.mono z8)
      clear g9 b8
      go_wp2
      go_ret
      exact ⟨rfl, b9⟩

set_option maxHeartbeats 400000 in
theorem walk6 (a : Option Addr) (len cap : Nat) (zs : List Int) (w : World) (h : IsRow .u8 w a len cap zs) :
    Calls Try.prog 6 #[.slice a len cap] w fun e w' => e = .returned (.bool true) ∧ Below w.heap.size w w' := by
  by_cases hl : len ≤ 1048576
  · obtain ⟨blk, off, z, hc⟩ := h.code hl
    exact law6_in w hc
  · have hcap : len ≤ maxLen := by
      rcases h with ⟨_, rfl, _⟩ | ⟨_, _, h1, h2, _⟩
      · omega
      · omega
    unfold maxLen at hcap
    have i1 : (1048576 : Int) < (len : Int) := by omega
    go_enter Try.func6, Try.ntmps6
    go_wp2
    go_ret
    exact ⟨rfl, Below.refl _ _⟩
end Go.Proofs.Ytlpeianinlnbeaa
