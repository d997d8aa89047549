/- The law FnBitList. -/
import Derived.Test.YtlpeianinlnbeaaLa
namespace Go.Proofs.Ytlpeianinlnbeaa
open Go.RowKit
set_option linter.unusedVariables false

set_option maxHeartbeats 1000000 in
theorem draw_bit_push {a : Option Addr} {len cap blk off : Nat} {z : Nat → Int} (w : World) (h : Code0 w a len cap blk off z) :
    Calls Try.prog 20 #[.slice a len cap] w fun e w' => (∃ (b n : Int) (x : Bool), 0 ≤ b ∧ b ≤ 65535 ∧ e = .returned (.tuple #[.agg #[.int .u16 b, .int .i64 n], .bool x])) ∧ Below w.heap.size w w' := by
  go_enter Try.func20, Try.ntmps20
  go_wp2_with fail
  refine ((h.later ((Below.refl _ _).alloc (Nat.le_refl _) _)).open).mono ?_
  rintro e w1 ⟨rfl, h1, g1⟩
  simp only [World.size_alloc] at h1 g1 ⊢
  have s1 : Sk .u16 w1 w.heap.size 0 0 := (Sk.fresh .u16 w 0 0 25).later g1 (by omega)
  have b1 : Below w.heap.size w w1 := ((Below.refl _ _).alloc (Nat.le_refl _) _).trans (g1.mono (by omega))
  clear g1
  go_wp2_with fail
  refine (pick_r _ _ 0 2 _ h1 (by omega) (by omega) (by omega)).mono ?_
  rintro e w2 ⟨x, x1, rfl, h2, g2⟩
  have s2 : Sk .u16 w2 w.heap.size 0 0 := s1.grown g2 s1.lt (by simp)
  have b2 : Below w.heap.size w w2 := b1.grown g2 b1.size (fun j hj => by simp at hj; omega)
  clear g2 s1 b1 h1
  go_wp2_with fail
  refine (draw_r _ _ (0 + 1) _ h2 (by omega)).mono ?_
  rintro e w3 ⟨⟨b, n, hb0, hb1, rfl⟩, _, g3⟩
  have s3 : Sk .u16 w3 w.heap.size 0 0 := s2.grown g3 s2.lt (by simp)
  have b3 : Below w.heap.size w w3 := b2.grown g3 b2.size (fun j hj => by simp at hj; omega)
  clear g3 s2 b2 h2
  obtain ⟨q0, q1, _, _⟩ := s3.set b n
  obtain ⟨c0, c1, f0, f1⟩ := s3
  go_wp2
  exact bodyPost_ret (v := .tuple #[.agg #[.int .u16 b, .int .i64 n], .bool ((x : Int) == 1)]) (by simp [results, Try.results20, go_sem, q0, q1]) rfl ⟨⟨b, n, _, hb0, hb1, rfl⟩, by go_grown⟩


theorem fl_snoc (f : Nat → Bool) (n : Nat) (y : Bool) : ∀ j, j < n + 1 → (fl f n ++ [Value.bool y])[j]? = some (.bool (if j = n then y else f j)) := by
  intro j hj
  have hl : (fl f n).length = n := by simp [fl]
  by_cases h : j = n
  · subst h
    rw [if_pos rfl, List.getElem?_append_right (by omega), hl]
    simp
  · have hj' : j < n := by omega
    rw [if_neg h, List.getElem?_append_left (by rw [hl]; exact hj')]
    simp [fl, hj']

set_option maxHeartbeats 4000000 in
set_option maxRecDepth 100000 in
theorem law3_in {a : Option Addr} {len cap blk off : Nat} {z : Nat → Int} (w : World) (h : Code0 w a len cap blk off z) :
    Calls Try.prog 3 #[.slice a len cap] w fun e w' => e = .returned (.bool true) ∧ Below w.heap.size w w' := by
  have hlen := h.short
  obtain ⟨i0, hi, hz0, hz1, hz2⟩ := info_parts Try.info4
  go_enter Try.func3, Try.ntmps3
  go_wp2_with fail
  refine (draw_bit_push _ h).mono ?_
  rintro e w1 ⟨⟨b, n, y, hb0, hb1, rfl⟩, b1⟩
  have z1 := b1.size
  have hB := nb_bd 16 b n hb0
  have hN : nn 16 b n ≤ 16 := nn_le 16 b n
  obtain ⟨N, HN⟩ : ∃ N, Hid (N = nn 16 b n) := ⟨_, rfl⟩
  obtain ⟨f, HF⟩ : ∃ f, Hid (f = bitAt (nb 16 b n) (nn 16 b n)) := ⟨_, rfl⟩
  obtain ⟨ok, HO⟩ : ∃ ok, Hid (ok = okS 16 b n) := ⟨_, rfl⟩
  have HS : Hid (∀ W : World, Calls Try.prog 23 #[.agg #[.int .u16 b, .int .i64 n]] W fun e w' => ∃ v, e = .returned v ∧ RowV w' W.heap.size v N f ∧ Below W.heap.size W w') := by
    rw [HF.out, HN.out]; exact fun W => spec_list16 b n W hb0 hb1
  have HL : Hid (∀ W : World, Calls Try.prog 21 #[.agg #[.int .u16 b, .int .i64 n]] W fun e w' => ∃ g, e = .returned (.slice (some ⟨g, 0, none⟩) N N) ∧ W.heap.size ≤ g ∧ Rw w' g N f ∧ Shp w' g N ∧ Below W.heap.size W w') := by
    rw [HF.out, HN.out]; exact fun W => impl_list_own b n W hb0 (by omega)
  have HOK : Hid (∀ W : World, Calls Try.prog 27 #[.agg #[.int .u16 b, .int .i64 n]] W fun e w' => e = .returned (.bool ok) ∧ Below W.heap.size W w') := by
    rw [HO.out]; exact fun W => spec_ok b n W hb0 hb1
  obtain ⟨PB, PN, BB, BM, HPUSH, HPOP, HPOK, HPL, hcase⟩ : ∃ (PB : Int) (PN : Nat) (BB BM : Int),
      Hid (∀ W : World, Calls Try.prog 24 #[.agg #[.int .u16 b, .int .i64 n], .bool y] W fun e w' => e = .returned (.agg #[.int .u16 PB, .int .i64 PN]) ∧ Below W.heap.size W w') ∧
      Hid (∀ W : World, Calls Try.prog 25 #[.agg #[.int .u16 PB, .int .i64 PN]] W fun e w' => e = .returned (.tuple #[.agg #[.int .u16 BB, .int .i64 BM], .bool y]) ∧ Below W.heap.size W w') ∧
      Hid (∀ W : World, Calls Try.prog 26 #[.agg #[.int .u16 PB, .int .i64 PN]] W fun e w' => e = .returned (.bool true) ∧ Below W.heap.size W w') ∧
      Hid (∀ W : World, Calls Try.prog 21 #[.agg #[.int .u16 PB, .int .i64 PN]] W fun e w' => ∃ g, e = .returned (.slice (some ⟨g, 0, none⟩) PN PN) ∧ W.heap.size ≤ g ∧ Rw w' g PN (if N = 16 then (fun j => if j + 1 = N then y else f (j + 1)) else (fun j => if j = N then y else f j)) ∧ Below W.heap.size W w') ∧
      ((N = 16 ∧ PN = 16) ∨ (N < 16 ∧ PN = N + 1 ∧ (ok = true → BB = b ∧ BM = n))) := by
    by_cases h16 : nn 16 b n = 16
    · have h2 := hB.2
      rw [h16] at h2
      obtain ⟨t1, t2, t3, t4⟩ := push_full (nb 16 b n) y hB.1 h2
      obtain ⟨o1, o2, o3⟩ := nn_norm _ 16 t1 (by omega) t2
      have e16 : (2 : Int) ^ 16 = 65536 := by decide
      have em : min (nn 16 b n + 1) 16 = 16 := by omega
      refine ⟨2 * nb 16 b n % 65536 + bit01 y, 16, (2 * nb 16 b n % 65536 + bit01 y) / 2, (16 - 1 : Nat), fun W => ?_, fun W => ?_, fun W => ?_, fun W => ?_, .inl ⟨by rw [HN.out]; exact h16, rfl⟩⟩
      · have h := impl_push16 b n y W hb0 (by omega)
        rw [em] at h
        exact h
      · have h := impl_pop16 (2 * nb 16 b n % 65536 + bit01 y) (16 : Nat) W t1 (by omega)
        rw [o2, o3, t3] at h
        exact h
      · have h := impl_ok (2 * nb 16 b n % 65536 + bit01 y) (16 : Nat) W t1 (by omega)
        rw [o1] at h
        exact h
      · refine (impl_list (2 * nb 16 b n % 65536 + bit01 y) (16 : Nat) W t1 (by omega)).mono ?_
        rintro e w' ⟨g, rfl, hg, hR, hb⟩
        rw [o2, o3] at hR
        rw [o3]
        refine ⟨g, rfl, hg, hR.congr (fun j hj => ?_), hb⟩
        rw [HF.out, HN.out, h16, if_pos rfl]
        exact t4 j hj
    · obtain ⟨t1, t2, t3, t4, t5⟩ := push_more (nb 16 b n) (nn 16 b n) y hB.1 hB.2 (by omega)
      obtain ⟨o1, o2, o3⟩ := nn_norm _ (nn 16 b n + 1) t1 (by omega) t2
      have hc := pow_cap (nn 16 b n + 1) 16 (by omega)
      have e16 : (2 : Int) ^ 16 = 65536 := by decide
      have em : min (nn 16 b n + 1) 16 = nn 16 b n + 1 := by omega
      refine ⟨2 * nb 16 b n % 65536 + bit01 y, nn 16 b n + 1, nb 16 b n, (nn 16 b n : Nat), fun W => ?_, fun W => ?_, fun W => ?_, fun W => ?_, .inr ⟨by rw [HN.out]; omega, by rw [HN.out], fun hk => ?_⟩⟩
      · have h := impl_push16 b n y W hb0 (by omega)
        rw [em] at h
        exact h
      · have h := impl_pop16 (2 * nb 16 b n % 65536 + bit01 y) (nn 16 b n + 1 : Nat) W t1 (by omega)
        rw [o2, o3, t3, t4] at h
        exact h
      · have h := impl_ok (2 * nb 16 b n % 65536 + bit01 y) (nn 16 b n + 1 : Nat) W t1 (by omega)
        rw [o1] at h
        exact h
      · refine (impl_list (2 * nb 16 b n % 65536 + bit01 y) (nn 16 b n + 1 : Nat) W t1 (by omega)).mono ?_
        rintro e w' ⟨g, rfl, hg, hR, hb⟩
        rw [o2, o3] at hR
        rw [o3]
        refine ⟨g, rfl, hg, hR.congr (fun j hj => ?_), hb⟩
        rw [HF.out, HN.out, if_neg h16]
        exact t5 j hj
      · rw [HO.out] at hk
        obtain ⟨K, rfl, _, _⟩ := okS_nat hk
        exact ⟨by rw [nb, if_pos hk], by rw [nn, if_pos hk]; simp⟩
  rw [← HN.out] at hN
  have HCASE : Hid ((N = 16 ∧ PN = 16) ∨ (N < 16 ∧ PN = N + 1 ∧ (ok = true → BB = b ∧ BM = n))) := hcase
  clear hcase HF HO HN hB h
  go_wp2_with fail
  refine (HL.out _).mono ?_
  rintro e w2 ⟨g, rfl, hg, R2, P2, g2⟩
  have s2 : Sk .u16 w2 w1.heap.size b n := (Sk.fresh .u16 w1 b n 25).later g2 (by simp)
  have b2 : Below w.heap.size w w2 := (b1.alloc z1 _).trans (g2.mono (by simp; omega))
  have z2 := b2.size
  simp only [World.size_alloc] at hg
  have gl := R2.lt
  clear g2 b1
  have sc0 := s2.c0
  have sc1 := s2.c1
  go_wp2_with fail
  refine (HS.out _).mono ?_
  rintro e w3 ⟨v, rfl, v3, g3⟩
  have R3 := R2.later g3 R2.lt
  have P3 := P2.later g3 R2.lt
  have s3 := s2.later g3 s2.lt
  have b3 : Below w.heap.size w w3 := b2.trans (g3.mono z2)
  have z3 := b3.size
  have m3 := g3.size
  clear g3 b2 s2 sc0 sc1 R2 P2
  go_wp2_with fail
  refine (wb_any g N N _ v f _ R3 v3 (by omega)).mono ?_
  rintro e w4 ⟨rfl, g4⟩
  have R4 := R3.later g4 R3.lt
  have P4 := P3.later g4 R3.lt
  have s4 := s3.later g4 s3.lt
  have b4 : Below w.heap.size w w4 := b3.trans (g4.mono z3)
  have z4 := b4.size
  have m4 := g4.size
  clear g4 b3 s3 R3 P3 v3
  have sc0 := s4.c0
  have sc1 := s4.c1
  go_wp2_with fail
  refine (HPUSH.out _).mono ?_
  rintro e w5 ⟨rfl, g5⟩
  have R5 := R4.later g5 R4.lt
  have P5 := P4.later g5 R4.lt
  have s5 := s4.later g5 s4.lt
  have b5 : Below w.heap.size w w5 := b4.trans (g5.mono z4)
  have z5 := b5.size
  have m5 := g5.size
  clear g5 b4 s4 R4 P4 sc0 sc1
  have own5 : w5.ownsRow (w1.heap.size + 1) 4 1 (.slice (some ⟨g, 0, none⟩) N N) N (fl f N) := own_of R5 P5 (Nat.le_refl _) (by unfold maxLen; omega) (by omega)
  have own5a := own5.alloc (.cells #[.int .u16 PB, .int .i64 PN] 25)
  have s5a := s5.alloc (.cells #[.int .u16 PB, .int .i64 PN] 25)
  have p5a : Sk .u16 (w5.alloc (.cells #[.int .u16 PB, .int .i64 PN] 25)) w5.heap.size PB PN := Sk.fresh .u16 w5 PB PN 25
  have b5a : Below w.heap.size w (w5.alloc (.cells #[.int .u16 PB, .int .i64 PN] 25)) := b5.alloc z5 _
  clear R5 P5 own5 s5
  go_wp2_with (at_builtin; refine wpList_append_lies _ rfl _ _ 28 rfl (w1.heap.size + 1) 4 i0 (.bool false) 1 1 Try.underlying28 hi hz0 hz1 hz2 rfl (by decide) _ _ _ rfl (own5a.alloc _) ⟨w5.heap.size + 1, 0, none⟩ 1 1 [.bool y] rfl rfl ?c1 ?c2 (by decide) ?c3 ?c4 ?c5 _ rfl ?_)
  case c1 =>
    have h := cell_one_new (w5.alloc (.cells #[.int .u16 PB, .int .i64 PN] 25)) (.bool y) 4
    simpa using h
  case c2 => intro u hu; simp at hu; subst hu; rfl
  case c3 => unfold maxLen; omega
  case c4 => omega
  case c5 => simp; omega
  intro g2 cap2 w6 own6 g6 hat hlt6
  have R6 : Rw w6 g2 (N + 1) (fun j => if j = N then y else f j) := rw_of own6 (fl_snoc f N y)
  have c6 : N + 1 ≤ cap2 := by
    rcases own6.2 with ⟨hv, _⟩ | ⟨g', cap', cur, hv, _, _, h4, _⟩
    · cases hv
    · cases hv; exact h4
  have s6 := (s5a.alloc (.cells #[.bool y] 4)).grown g6 (by simp; omega) (by simp [Value.ownBlock]; omega)
  have p6 := (p5a.alloc (.cells #[.bool y] 4)).grown g6 (by simp; omega) (by simp [Value.ownBlock]; omega)
  have b6 : Below w.heap.size w w6 := (b5a.alloc (by have := b5a.size; omega) _).grown g6 (by have := b5a.size; simp; omega) (fun j hj => by simp [Value.ownBlock] at hj; omega)
  have z6 := b6.size
  clear own6 g6 hat own5a s5a p5a b5 b5a HPUSH HS HL
  have pc0 := p6.c0
  have pc1 := p6.c1
  rcases HCASE.out with ⟨rfl, rfl⟩ | ⟨hlt, rfl, hback⟩
  · clear HCASE
    have i1 : (1 : Int) ≤ (17 : Int) := by decide
    have ncap : cap2 ≠ 1 := by omega
    have i2 : (17 : Int) ≤ (cap2 : Int) := by omega
    simp only [if_true] at HPL
    go_wp2_with fail
    refine (HPOP.out _).mono ?_
    rintro e w7 ⟨rfl, g7⟩
    have R7 := (R6.later g7 R6.lt).later ((Below.refl w7.heap.size w7).alloc (Nat.le_refl _) (.cells #[.int .u16 BB, .int .i64 BM] 25)) (R6.later g7 R6.lt).lt
    have p7 := (p6.later g7 p6.lt).alloc (.cells #[.int .u16 BB, .int .i64 BM] 25)
    have s7 := (s6.later g7 s6.lt).alloc (.cells #[.int .u16 BB, .int .i64 BM] 25)
    have k7 : Sk .u16 (w7.alloc (.cells #[.int .u16 BB, .int .i64 BM] 25)) w7.heap.size BB BM := Sk.fresh .u16 w7 BB BM 25
    have b7 : Below w.heap.size w (w7.alloc (.cells #[.int .u16 BB, .int .i64 BM] 25)) := (b6.trans (g7.mono z6)).alloc (b6.trans (g7.mono z6)).size _
    have z7 := b7.size
    clear g7 R6 p6 s6 b6 pc0 pc1 HPOP
    have pc0 := p7.c0
    have pc1 := p7.c1
    go_wp2_with fail
    refine (HPOK.out _).mono ?_
    rintro e w8 ⟨rfl, g8⟩
    have R8 := R7.later g8 R7.lt
    have p8 := p7.later g8 p7.lt
    have s8 := s7.later g8 s7.lt
    have k8 := k7.later g8 k7.lt
    have b8 := b7.trans (g8.mono z7)
    have z8 := b8.size
    clear g8 R7 p7 s7 k7 b7 pc0 pc1 HPOK
    have pc0 := p8.c0
    have pc1 := p8.c1
    go_wp2_with fail
    refine (HPL.out _).mono ?_
    rintro e w9 ⟨g', rfl, hg', R9, g9⟩
    have Q9 := R8.later g9 R8.lt
    have s9 := s8.later g9 s8.lt
    have k9 := k8.later g9 k8.lt
    have b9 := b8.trans (g9.mono z8)
    have z9 := b9.size
    clear g9 R8 p8 s8 k8 b8 pc0 pc1 HPL
    go_wp2_with fail
    refine (wb_rows g' g2 16 16 (cap2 - 1) 1 _ _ R9.cell (fun j hj => by rw [Nat.add_comm 1 j]; exact Q9.cell (j + 1) (by omega)) (by omega)).mono ?_
    rintro e w10 ⟨rfl, g10⟩
    have b10 := b9.trans (g10.mono z9)
    clear g10 b9 s9 k9 R9 Q9
    go_wp2
    go_ret
    exact ⟨rfl, b10⟩
  · have HBK : Hid (ok = true → BB = b ∧ BM = n) := hback
    have nf : ¬ N = 16 := by omega
    simp only [nf, if_false] at HPL
    clear HCASE hback nf
    have i2 : ¬ (16 : Int) < (N : Int) + 1 := by omega
    have i3 : ((N : Int) == 16) = false := by simp; omega
    go_wp2_with fail
    refine (HPOP.out _).mono ?_
    rintro e w7 ⟨rfl, g7⟩
    have R7 := (R6.later g7 R6.lt).later ((Below.refl w7.heap.size w7).alloc (Nat.le_refl _) (.cells #[.int .u16 BB, .int .i64 BM] 25)) (R6.later g7 R6.lt).lt
    have p7 := (p6.later g7 p6.lt).alloc (.cells #[.int .u16 BB, .int .i64 BM] 25)
    have s7 := (s6.later g7 s6.lt).alloc (.cells #[.int .u16 BB, .int .i64 BM] 25)
    have k7 : Sk .u16 (w7.alloc (.cells #[.int .u16 BB, .int .i64 BM] 25)) w7.heap.size BB BM := Sk.fresh .u16 w7 BB BM 25
    have b7 : Below w.heap.size w (w7.alloc (.cells #[.int .u16 BB, .int .i64 BM] 25)) := (b6.trans (g7.mono z6)).alloc (b6.trans (g7.mono z6)).size _
    have z7 := b7.size
    clear g7 R6 p6 s6 b6 pc0 pc1 HPOP
    have pc0 := p7.c0
    have pc1 := p7.c1
    go_wp2_with fail
    refine (HPOK.out _).mono ?_
    rintro e w8 ⟨rfl, g8⟩
    have R8 := R7.later g8 R7.lt
    have p8 := p7.later g8 p7.lt
    have s8 := s7.later g8 s7.lt
    have k8 := k7.later g8 k7.lt
    have b8 := b7.trans (g8.mono z7)
    have z8 := b8.size
    clear g8 R7 p7 s7 k7 b7 pc0 pc1 HPOK
    have pc0 := p8.c0
    have pc1 := p8.c1
    go_wp2_with fail
    refine (HPL.out _).mono ?_
    rintro e w9 ⟨g', rfl, hg', R9, g9⟩
    have Q9 := R8.later g9 R8.lt
    have s9 := s8.later g9 s8.lt
    have k9 := k8.later g9 k8.lt
    have b9 := b8.trans (g9.mono z8)
    have z9 := b9.size
    clear g9 R8 p8 s8 k8 b8 pc0 pc1 HPL
    go_wp2_with fail
    refine (wb_rows g' g2 (N + 1) (N + 1) cap2 0 _ _ R9.cell (fun j hj => by rw [Nat.zero_add]; exact Q9.cell j hj) (by omega)).mono ?_
    rintro e w10 ⟨rfl, g10⟩
    have s10 := s9.later g10 s9.lt
    have k10 := k9.later g10 k9.lt
    have b10 := b9.trans (g10.mono z9)
    have z10 := b10.size
    clear g10 b9 s9 k9 R9 Q9
    have sc0 := s10.c0
    have sc1 := s10.c1
    go_wp2_with fail
    refine (HOK.out _).mono ?_
    rintro e w11 ⟨rfl, g11⟩
    have s11 := s10.later g11 s10.lt
    have k11 := k10.later g11 k10.lt
    have b11 := b10.trans (g11.mono z10)
    clear g11 b10 s10 k10 sc0 sc1
    obtain ⟨sc0, sc1, _, _⟩ := s11
    obtain ⟨kc0, kc1, _, _⟩ := k11
    cases ok with
    | false =>
      go_wp2
      go_ret
      exact ⟨rfl, b11⟩
    | true =>
      obtain ⟨rfl, rfl⟩ := HBK.out rfl
      clear HBK
      go_wp2
      go_ret
      exact ⟨rfl, b11⟩

set_option maxHeartbeats 400000 in
theorem walk3 (a : Option Addr) (len cap : Nat) (zs : List Int) (w : World) (h : IsRow .u8 w a len cap zs) :
    Calls Try.prog 3 #[.slice a len cap] w fun e w' => e = .returned (.bool true) ∧ Below w.heap.size w w' := by
  by_cases hl : len ≤ 1048576
  · obtain ⟨blk, off, z, hc⟩ := h.code hl
    exact law3_in w hc
  · have hcap : len ≤ maxLen := by
      rcases h with ⟨_, rfl, _⟩ | ⟨_, _, h1, h2, _⟩
      · omega
      · omega
    unfold maxLen at hcap
    have i1 : (1048576 : Int) < (len : Int) := by omega
    go_enter Try.func3, Try.ntmps3
    go_wp2
    go_ret
    exact ⟨rfl, Below.refl _ _⟩
end Go.Proofs.Ytlpeianinlnbeaa
