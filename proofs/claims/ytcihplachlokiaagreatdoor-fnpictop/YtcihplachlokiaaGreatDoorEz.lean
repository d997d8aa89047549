/- Spoiling whatever is drawn; a contact or coil, one in 16 spoilt. -/
import Derived.Test.YtcihplachlokiaaGreatDoorEkM
import Derived.Test.YtcihplachlokiaaGreatDoorEw
import Derived.Test.YtcihplachlokiaaGreatDoorEy
namespace Go.Proofs.YtcihplachlokiaaGreatDoor.Rr
open Go.RowKit
set_option linter.unusedVariables false

theorem spoil_e (B R p : Nat) (op : Int) (a : Option Addr) (len cap L H : Nat) (xs : List Arg) (w : World) (h : Reader B w R p) (hp : p < 9700000) (hlen : Hid (len = xs.length)) (hL : len ≤ L) (hL9 : L ≤ 9) (hcap : len ≤ cap) (ho1 : -100 ≤ op) (ho2 : op ≤ 100) (hbd : Bd xs) (hO : Own w H a xs) :
    Calls Tryz.prog 37 #[.pointer (some ⟨R, 0, none⟩), .agg #[.int .i64 op, .slice a len cap]] w fun e w' => ElemL w.heap.size (L + 1) e w' ∧ (∃ q, q ≤ p + 30 ∧ Reader B w' R q) ∧ w.grownBy w' (some R) := by
  have hl : len = xs.length := hlen
  by_cases h0 : xs = []
  · subst h0
    simp at hl
    subst hl
    exact spoil_r0 B R p op a cap L w h hp ho1 ho2
  · rcases hO with e | ⟨b, o, rfl, _, hx⟩
    · exact absurd e h0
    · have : 1 ≤ xs.length := by cases xs with
        | nil => exact absurd rfl h0
        | cons => simp
      exact spoil_r B R p op b o len cap L xs w h hp hl (by omega) hL hL9 hcap ho1 ho2 hbd hx
theorem own_put {w : World} {b : Nat} {a : Option Addr} {xs : List Arg} (u v : Value) (h : Own w (b + 1) a xs) : Own ((w.setCell ⟨b, 0, none⟩ u).setCell ⟨b, 1, none⟩ v) b a xs := by
  rcases h with h | ⟨c, o, h1, h2, h3⟩
  · exact .inl h
  · exact .inr ⟨c, o, h1, by omega, (h3.other b 0 (by omega) u).other b 1 (by omega) v⟩
theorem own_put2 {w : World} {b H H' : Nat} {a : Option Addr} {xs : List Arg} (u v : Value) (h : Own w H a xs) (hb : b < H) (hH : H' ≤ H) : Own ((w.setCell ⟨b, 0, none⟩ u).setCell ⟨b, 1, none⟩ v) H' a xs := by
  rcases h with h | ⟨c, o, h1, h2, h3⟩
  · exact .inl h
  · exact .inr ⟨c, o, h1, by omega, (h3.other b 0 (by omega) u).other b 1 (by omega) v⟩
theorem Own.other {w : World} {H b o : Nat} {a : Option Addr} {xs : List Arg} (h : Own w H a xs) (hb : ∀ c o', a = some ⟨c, o', none⟩ → b ≠ c) (u : Value) : Own (w.setCell ⟨b, o, none⟩ u) H a xs := by
  rcases h with h | ⟨c, o', h1, h2, h3⟩
  · exact .inl h
  · exact .inr ⟨c, o', h1, h2, h3.other b o (hb c o' h1) u⟩

set_option maxRecDepth 10000 in
set_option maxHeartbeats 4000000 in
theorem any4_r (B R p : Nat) (w : World) (h : Reader B w R p) (hp : p < 9600000) :
    Calls Tryz.prog 38 #[.pointer (some ⟨R, 0, none⟩)] w fun e w' => ElemL w.heap.size 5 e w' ∧ (∃ q, q ≤ p + 200 ∧ Reader B w' R q) ∧ w.grownBy w' (some R) := by
  have hRB := h.1
  have hBw := h.2.1
  have S0 := E2.fresh w (.int .i64 0) (.slice none 0 0) 42
  go_enter Tryz.func38, Tryz.ntmps38
  go_wp2_with fail
  refine (coil_r B R p _ (h.alloc _) (by omega)).mono ?_
  rintro e w1 ⟨⟨op, a, len, cap, xs, rfl, o1, o2, l1, c1, L1, bd1, O1⟩, ⟨q1, hq1, h1⟩, g1⟩
  have G1 : w.grownBy w1 (some R) := gb_pick (gb_alloc (gb_refl _ _) _) g1
  have S1 := S0.grown g1 (by simp; omega)
  have lt1 := S1.lt
  have O1 := O1.mono (H' := w.heap.size + 1) (by simp)
  have hl1 : Hid (len = xs.length) := l1
  clear g1 h S0 l1
  go_wp2_with fail
  refine (pick_r B R q1 2 _ (h1.alloc _) (by omega) (by omega) (by omega)).mono ?_
  rintro e w2 ⟨t, t1, rfl, h2, g2⟩
  have G2 : w.grownBy w2 (some R) := gb_pick (gb_alloc G1 _) g2
  have S2 := (S1.alloc _).grown g2 (by simp; omega)
  have A2 := (E2.fresh w1 (.int .i64 op) (.slice a len cap) 42).grown g2 (by simp; omega)
  have O2 := (O1.grown (World.grownBy_alloc w1 (.cells #[.int .i64 op, .slice a len cap] 42) (some R)) (by omega)).grown g2 (by omega)
  have lt2 := A2.lt
  clear g2 G1 S1 O1 h1
  by_cases ht : t = 0
  · subst ht
    have A2' := A2
    obtain ⟨a0, a1, a2, a3⟩ := A2'
    go_wp2_with fail
    refine (contact_r B R (q1 + 1) _ h2 (by omega)).mono ?_
    rintro e w3 ⟨⟨op2, b2, len2, cap2, ys, rfl, o21, o22, l2, c2, L2, bd2, O3⟩, ⟨q3, hq3, h3⟩, g3⟩
    have G3 : w.grownBy w3 (some R) := gb_pick G2 g3
    have S3 := S2.grown g3 (by simp; omega)
    have A3' := A2.grown g3 (by simp; omega)
    have hl2 : Hid (len2 = ys.length) := l2
    clear g3 G2 S2 A2 O2 h2 l2 a0 a1 a2 a3 hl1 bd1 c1 L1 o1 o2
    have A4 := A3'.put (.int .i64 op2) (.slice b2 len2 cap2)
    have S4 := (S3.other w1.heap.size 0 (by omega) (.int .i64 op2)).other w1.heap.size 1 (by omega) (.slice b2 len2 cap2)
    have h4 := (h3.set w1.heap.size 0 (.int .i64 op2) (by omega)).set w1.heap.size 1 (.slice b2 len2 cap2) (by omega)
    have G4 : w.grownBy ((w3.setCell ⟨w1.heap.size, 0, none⟩ (.int .i64 op2)).setCell ⟨w1.heap.size, 1, none⟩ (.slice b2 len2 cap2)) (some R) := gb_put (gb_put G3 (by omega)) (by omega)
    have O4 : Own ((w3.setCell ⟨w1.heap.size, 0, none⟩ (.int .i64 op2)).setCell ⟨w1.heap.size, 1, none⟩ (.slice b2 len2 cap2)) (w.heap.size + 1) b2 ys := own_put2 (.int .i64 op2) (.slice b2 len2 cap2) O3 lt2 (by omega)
    obtain ⟨a0, a1, a2, a3⟩ := A3'
    go_wp2_with fail
    refine (pick_r B R _ 16 _ h4 (by omega) (by omega) (by omega)).mono ?_
    rintro e w5 ⟨s, s1, rfl, h5, g5⟩
    have G5 : w.grownBy w5 (some R) := gb_pick G4 g5
    have S5 := S4.grown g5 (by simp; omega)
    have A5 := A4.grown g5 (by simp; omega)
    have O5 := O4.grown g5 (by omega)
    clear g5 G4 S4 A4 O4 h4
    by_cases hs : s = 0
    · subst hs
      obtain ⟨a0, a1, a2, a3⟩ := id A5
      go_wp2_with fail
      refine (spoil_e B R _ op2 b2 len2 cap2 4 (w.heap.size + 1) ys _ h5 (by omega) hl2 (by omega) (by omega) c2 (by omega) (by omega) bd2 O5).mono ?_
      rintro e w6 ⟨⟨op3, b3, len3, cap3, zs, rfl, o31, o32, l3, c3, L3, bd3, O6⟩, ⟨q6, hq6, h6⟩, g6⟩
      have G6 : w.grownBy w6 (some R) := gb_pick G5 g6
      have lt5 := S5.lt
      have S6 := S5.grown g6 (by simp; omega)
      have O6 := O6.mono (H' := w.heap.size + 1) (by omega)
      have hl3 : Hid (len3 = zs.length) := l3
      clear l3 g6 G5 S5 A5 O5 h5 a0 a1 a2 a3
      obtain ⟨u1, u2, u3⟩ := elem_put (.int .i64 op3) (.slice b3 len3 cap3) S6 h6 G6 hBw (Nat.le_refl _)
      have OE := own_put (.int .i64 op3) (.slice b3 len3 cap3) O6
      obtain ⟨s0, s1, s2, s3⟩ := S6
      obtain ⟨q0, q1, _, _⟩ := u1
      go_wp2
      exact bodyPost_ret (v := .agg #[.int .i64 op3, .slice b3 len3 cap3]) (by simp [results, Tryz.results38, go_sem, q0, q1]) rfl ⟨⟨op3, _, len3, cap3, zs, rfl, by omega, by omega, hl3, c3, by omega, bd3, OE⟩, ⟨_, by omega, u2⟩, u3⟩
    · have hs' : ((s : Int) == 0) = false := by simp; omega
      obtain ⟨a0, a1, a2, a3⟩ := id A5
      obtain ⟨u1, u2, u3⟩ := elem_put (.int .i64 op2) (.slice b2 len2 cap2) S5 h5 G5 hBw (Nat.le_refl _)
      have OE := own_put (.int .i64 op2) (.slice b2 len2 cap2) O5
      obtain ⟨s0, s1, s2, s3⟩ := S5
      obtain ⟨q0, q1, _, _⟩ := u1
      go_wp2
      exact bodyPost_ret (v := .agg #[.int .i64 op2, .slice b2 len2 cap2]) (by simp [results, Tryz.results38, go_sem, q0, q1]) rfl ⟨⟨op2, _, len2, cap2, ys, rfl, by omega, by omega, hl2, c2, by omega, bd2, OE⟩, ⟨_, by omega, u2⟩, u3⟩
  · have ht' : ((t : Int) == 0) = false := by simp; omega
    go_wp2_with fail
    refine (pick_r B R _ 16 _ h2 (by omega) (by omega) (by omega)).mono ?_
    rintro e w3 ⟨s, s1, rfl, h3, g3⟩
    have G3 : w.grownBy w3 (some R) := gb_pick G2 g3
    have S3 := S2.grown g3 (by simp; omega)
    have A3 := A2.grown g3 (by simp; omega)
    have O3 := O2.grown g3 (by omega)
    clear g3 G2 S2 A2 O2 h2
    by_cases hs : s = 0
    · subst hs
      obtain ⟨a0, a1, a2, a3⟩ := id A3
      go_wp2_with fail
      refine (spoil_e B R _ op a len cap 4 (w.heap.size + 1) xs _ h3 (by omega) hl1 (by omega) (by omega) c1 (by omega) (by omega) bd1 O3).mono ?_
      rintro e w4 ⟨⟨op3, b3, len3, cap3, zs, rfl, o31, o32, l3, c3, L3, bd3, O4⟩, ⟨q4, hq4, h4⟩, g4⟩
      have G4 : w.grownBy w4 (some R) := gb_pick G3 g4
      have lt3 := S3.lt
      have S4 := S3.grown g4 (by simp; omega)
      have O4 := O4.mono (H' := w.heap.size + 1) (by omega)
      have hl3 : Hid (len3 = zs.length) := l3
      clear l3 g4 G3 S3 A3 O3 h3 a0 a1 a2 a3
      obtain ⟨u1, u2, u3⟩ := elem_put (.int .i64 op3) (.slice b3 len3 cap3) S4 h4 G4 hBw (Nat.le_refl _)
      have OE := own_put (.int .i64 op3) (.slice b3 len3 cap3) O4
      obtain ⟨s0, s1, s2, s3⟩ := S4
      obtain ⟨q0, q1, _, _⟩ := u1
      go_wp2
      exact bodyPost_ret (v := .agg #[.int .i64 op3, .slice b3 len3 cap3]) (by simp [results, Tryz.results38, go_sem, q0, q1]) rfl ⟨⟨op3, _, len3, cap3, zs, rfl, by omega, by omega, hl3, c3, by omega, bd3, OE⟩, ⟨_, by omega, u2⟩, u3⟩
    · have hs' : ((s : Int) == 0) = false := by simp; omega
      obtain ⟨a0, a1, a2, a3⟩ := id A3
      obtain ⟨u1, u2, u3⟩ := elem_put (.int .i64 op) (.slice a len cap) S3 h3 G3 hBw (Nat.le_refl _)
      have OE := own_put (.int .i64 op) (.slice a len cap) O3
      obtain ⟨s0, s1, s2, s3⟩ := S3
      obtain ⟨q0, q1, _, _⟩ := u1
      go_wp2
      exact bodyPost_ret (v := .agg #[.int .i64 op, .slice a len cap]) (by simp [results, Tryz.results38, go_sem, q0, q1]) rfl ⟨⟨op, _, len, cap, xs, rfl, by omega, by omega, hl1, c1, by omega, bd1, OE⟩, ⟨_, by omega, u2⟩, u3⟩
end Go.Proofs.YtcihplachlokiaaGreatDoor.Rr

