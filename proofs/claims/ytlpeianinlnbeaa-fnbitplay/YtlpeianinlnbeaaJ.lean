/- The law FnFork. -/
import Derived.Test.YtlpeianinlnbeaaH
import Derived.Laws.StructEq
namespace Go.Proofs.Ytlpeianinlnbeaa
open Go.RowKit
set_option linter.unusedVariables false

theorem Sk.drew {k : IntKind} {w : World} {bl : Nat} {b n : Int} (h : Sk k w bl b n) : Sk k w.drew bl b n := ⟨h.c0, h.c1, h.f0, h.f1⟩

theorem fork_math (b n : Int) (x : Bool) (h0 : 0 ≤ b) (h1 : b ≤ 255) :
    ∃ PB PN BB BN : Int, PB = 2 * nb 8 b n % 256 + bit01 x ∧ PN = (min (nn 8 b n + 1) 8 : Nat) ∧ 0 ≤ PB ∧ PB ≤ 255 ∧ okS 8 PB PN = true ∧ nb 8 PB PN = PB ∧ (nn 8 PB PN : Int) = PN ∧ (PB % 2 == 1) = x ∧
      BB = PB / 2 ∧ BN = (nn 8 PB PN - 1 : Nat) ∧ (okS 8 b n = false → PN = 1 ∧ BB = 0 ∧ BN = 0) ∧ (okS 8 b n = true → (n = 8 ∧ PN = 8) ∨ ((n == 8) = false ∧ BB = b ∧ BN = n ∧ PN = n + 1)) := by
  have hB := nb_bd 8 b n h0
  have hB1 := nb_le 8 b n h0
  have hN := nn8 b n
  have hx := bit01_bd x
  have hp8 : (2 : Int) ^ 8 = 256 := by decide
  obtain ⟨N, hNd⟩ : ∃ N, nn 8 b n = N := ⟨_, rfl⟩
  obtain ⟨C, hCd⟩ : ∃ C, nb 8 b n = C := ⟨_, rfl⟩
  rw [hNd] at hB hN ⊢
  rw [hCd] at hB hB1 ⊢
  have hM : min (N + 1) 8 ≤ 8 := by omega
  have hlt : 2 * C % 256 + bit01 x < 2 ^ min (N + 1) 8 := by
    by_cases h : N ≤ 7
    · have e : min (N + 1) 8 = N + 1 := by omega
      rw [e, Int.pow_succ]
      have := hB.2
      omega
    · have e : min (N + 1) 8 = 8 := by omega
      rw [e, hp8]
      omega
  have hok : okS 8 (2 * C % 256 + bit01 x) (min (N + 1) 8 : Nat) = true := by
    unfold okS
    rw [decide_eq_true_iff]
    exact ⟨by omega, by omega, by simpa using hlt⟩
  refine ⟨_, _, _, _, rfl, rfl, by omega, by omega, hok, by rw [nb, if_pos hok], by rw [nn, if_pos hok]; simp, ?_, rfl, rfl, ?_, ?_⟩
  · have hm : (2 * C % 256 + bit01 x) % 2 = bit01 x := by omega
    rw [hm]
    cases x <;> simp [bit01]
  · intro hno
    have e1 : C = 0 := by rw [← hCd, nb, hno]; rfl
    have e2 : N = 0 := by rw [← hNd, nn, hno]; rfl
    have e3 : nn 8 (2 * C % 256 + bit01 x) (min (N + 1) 8 : Nat) = min (N + 1) 8 := by rw [nn, if_pos hok]; simp
    rw [e3, e1, e2]
    refine ⟨by simp, by omega, by simp⟩
  · intro hyes
    have e1 : C = b := by rw [← hCd, nb, hyes]; rfl
    have e3 : nn 8 (2 * C % 256 + bit01 x) (min (N + 1) 8 : Nat) = min (N + 1) 8 := by rw [nn, if_pos hok]; simp
    obtain ⟨K, hK, h8, hlt8⟩ := okS_nat hyes
    have e2 : N = K := by rw [← hNd, nn, hyes, hK]; simp
    rw [e3]
    by_cases hn8 : n = 8
    · exact .inl ⟨hn8, by omega⟩
    · right
      have hKp : (2 : Int) ^ K ≤ 2 ^ 7 := pow_cap K 7 (by omega)
      have h128 : (2 : Int) ^ 7 = 128 := by decide
      refine ⟨by simp [hn8], by omega, by omega, by omega⟩

set_option maxHeartbeats 4000000 in
theorem law7_in {a : Option Addr} {len cap blk off : Nat} {z : Nat → Int} (w : World) (h : Code0 w a len cap blk off z) :
    Calls Try.prog 7 #[.slice a len cap] w fun e w' => e = .returned (.bool true) ∧ Below w.heap.size w w' := by
  have hlen := h.short
  go_enter Try.func7, Try.ntmps7
  go_wp2_with fail
  refine (draw_fork_push _ h).mono ?_
  rintro e w1 ⟨⟨b, n, x, hb0, hb1, rfl⟩, b1⟩
  obtain ⟨PB, PN, BB, BN, EPB, EPN, hp0, hp1, hpok, hpb, hpn, hpx, EBB, EBN, hno, hyes⟩ := fork_math b n x hb0 hb1
  have HPUSH : Hid (∀ W : World, Calls Try.prog 28 #[.agg #[.int .u8 b, .int .i64 n], .bool x] W fun e w' => e = .returned (.agg #[.int .u8 PB, .int .i64 PN]) ∧ Below W.heap.size W w') := by
    intro W; rw [EPB, EPN]; exact impl_push8 b n x W hb0 (by omega)
  have HSPUSH : Hid (∀ W : World, Calls Try.prog 42 #[.agg #[.int .u8 b, .int .i64 n], .bool x] W fun e w' => e = .returned (.agg #[.int .u8 PB, .int .i64 PN]) ∧ Below W.heap.size W w') := by
    intro W; rw [EPB, EPN]; exact spec_fork_push b n x W hb0 (by omega)
  have HOK : Hid (∀ W : World, Calls Try.prog 32 #[.agg #[.int .u8 PB, .int .i64 PN]] W fun e w' => e = .returned (.bool true) ∧ Below W.heap.size W w') := by
    intro W; have h := impl_fork_ok PB PN W hp0 hp1; rw [hpok] at h; exact h
  have HTOP : Hid (∀ W : World, Calls Try.prog 30 #[.agg #[.int .u8 PB, .int .i64 PN]] W fun e w' => e = .returned (.bool x) ∧ Below W.heap.size W w') := by
    intro W; have h := impl_top8 PB PN W hp0 (by omega); rw [hpb, hpx] at h; exact h
  have HPOP : Hid (∀ W : World, Calls Try.prog 31 #[.agg #[.int .u8 PB, .int .i64 PN]] W fun e w' => e = .returned (.tuple #[.agg #[.int .u8 BB, .int .i64 BN], .bool x]) ∧ Below W.heap.size W w') := by
    intro W; have h := impl_pop8 PB PN W hp0 (by omega); rw [hpb, hpx, ← EBB, ← EBN] at h; exact h
  have HFOK : Hid (∀ W : World, Calls Try.prog 43 #[.agg #[.int .u8 b, .int .i64 n]] W fun e w' => e = .returned (.bool (okS 8 b n)) ∧ Below W.heap.size W w') := fun W => spec_fork_ok b n W hb0 hb1
  have HNO : Hid (okS 8 b n = false → PN = 1 ∧ BB = 0 ∧ BN = 0) := hno
  have HYES : Hid (okS 8 b n = true → (n = 8 ∧ PN = 8) ∨ ((n == 8) = false ∧ BB = b ∧ BN = n ∧ PN = n + 1)) := hyes
  clear EPB EPN hpok hpb hpn hpx EBB EBN hno hyes h
  go_wp2_with fail
  refine (HPUSH.out _).mono ?_
  rintro e w2 ⟨rfl, g2⟩
  have f2 : Sk .u8 w2 w1.heap.size b n := (Sk.fresh .u8 w1 b n 36).later g2 (by simp)
  have b2 : Below w.heap.size w w2 := (b1.alloc b1.size _).trans (g2.mono (by have := b1.size; simp; omega))
  have n2 := f2.lt
  clear g2 b1
  go_wp2_with fail
  refine (HPOP.out _).mono ?_
  rintro e w3 ⟨rfl, g3⟩
  have f3 : Sk .u8 w3 w1.heap.size b n := (f2.alloc _).later g3 (by simp; omega)
  have p3 : Sk .u8 w3 w2.heap.size PB PN := (Sk.fresh .u8 w2 PB PN 36).later g3 (by simp)
  have b3 : Below w.heap.size w w3 := (b2.alloc b2.size _).trans (g3.mono (by have := b2.size; simp; omega))
  have n3 := p3.lt
  clear g3 b2 f2
  have f4 : Sk .u8 (w3.alloc (.cells #[.int .u8 BB, .int .i64 BN] 36)) w1.heap.size b n := f3.alloc _
  have p4 : Sk .u8 (w3.alloc (.cells #[.int .u8 BB, .int .i64 BN] 36)) w2.heap.size PB PN := p3.alloc _
  have k4 : Sk .u8 (w3.alloc (.cells #[.int .u8 BB, .int .i64 BN] 36)) w3.heap.size BB BN := Sk.fresh .u8 w3 BB BN 36
  have b4 : Below w.heap.size w (w3.alloc (.cells #[.int .u8 BB, .int .i64 BN] 36)) := b3.alloc b3.size _
  have f4' := f4.drew
  have p4' := p4.drew
  have k4' := k4.drew
  have b4' := b4.drew
  obtain ⟨fc0, fc1, _, _⟩ := f4
  obtain ⟨pc0, pc1, _, _⟩ := p4
  obtain ⟨kc0, kc1, _, _⟩ := k4
  clear b3 b4
  go_wp2
  go_region_with (first
    | (go_at_call 32; refine (HOK.out _).mono ?_; rintro e w5 ⟨rfl, g5⟩; have f5 := f4'.later g5 f4'.lt; have p5 := p4'.later g5 p4'.lt; have k5 := k4'.later g5 k4'.lt; have b5 := b4'.trans (g5.mono b4'.size); obtain ⟨fd0, fd1, _, _⟩ := f5; obtain ⟨pd0, pd1, _, _⟩ := p5; obtain ⟨kd0, kd1, _, _⟩ := k5)
    | (go_at_call 30; refine (HTOP.out _).mono ?_; rintro e w6 ⟨rfl, g6⟩; have b6 := b5.trans (g6.mono b5.size); have fe0 := cell_later g6 fd0; have fe1 := cell_later g6 fd1; have pe0 := cell_later g6 pd0; have pe1 := cell_later g6 pd1; have ke0 := cell_later g6 kd0; have ke1 := cell_later g6 kd1)
    | (go_at_call 42; refine (HSPUSH.out _).mono ?_; rintro e w7 ⟨rfl, g7⟩; have b7 := b6.trans (g7.mono b6.size); have ff0 := cell_later g7 fe0; have ff1 := cell_later g7 fe1; have pf0 := cell_later g7 pe0; have pf1 := cell_later g7 pe1; have kf0 := cell_later g7 ke0; have kf1 := cell_later g7 ke1))
  all_goals
    clear g5 g6 g7 fc0 fc1 pc0 pc1 kc0 kc1 fd0 fd1 pd0 pd1 kd0 kd1 fe0 fe1 pe0 pe1 ke0 ke1 b4' f4' p4' k4' b5 b6 f3 p3 HPUSH HSPUSH HOK HTOP HPOP
    go_wp2_with fail
    refine (HFOK.out _).mono ?_
    rintro e w8 ⟨rfl, g8⟩
    have b8 := b7.trans (g8.mono b7.size)
    have fg0 := cell_later g8 ff0
    have fg1 := cell_later g8 ff1
    have pg0 := cell_later g8 pf0
    have pg1 := cell_later g8 pf1
    have kg0 := cell_later g8 kf0
    have kg1 := cell_later g8 kf1
    clear g8 b7 ff0 ff1 pf0 pf1 kf0 kf1 HFOK
    cases hok : okS 8 b n with
    | false =>
      obtain ⟨rfl, rfl, rfl⟩ := HNO.out hok
      clear HNO HYES
      go_wp2
      go_ret
      exact ⟨rfl, b8⟩
    | true =>
      obtain ⟨K, hK, hK8, _⟩ := okS_nat hok
      have hn0 : 0 ≤ n := by omega
      have hn8 : n ≤ 8 := by omega
      clear hK hK8
      rcases HYES.out hok with ⟨rfl, rfl⟩ | ⟨hn, rfl, rfl, rfl⟩
      · clear HNO HYES
        go_wp2
        go_ret
        exact ⟨rfl, b8⟩
      · clear HNO HYES
        go_wp2
        go_ret
        exact ⟨rfl, b8⟩
end Go.Proofs.Ytlpeianinlnbeaa
