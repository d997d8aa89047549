/- A contact or coil, one in two spoilt. -/
import Derived.Test.YtddjohelgeieiaaDoorEz
namespace Go.Proofs.YtddjohelgeieiaaDoor
open Go.RowKit
set_option linter.unusedVariables false

set_option maxRecDepth 10000 in
set_option maxHeartbeats 4000000 in
theorem half4_r {a : Option Addr} {len cap blk off : Nat} {z : Nat → Int} (w : World) (h : Code0 w a len cap blk off z) :
    Calls Tryd.prog 24 #[.slice a len cap] w fun e w' => ElemL w.heap.size 6 e w' ∧ Below w.heap.size w w' := by
  go_enter Tryd.func24, Tryd.ntmps24
  go_wp2_with fail
  refine ((h.later ((Below.refl _ _).alloc (Nat.le_refl _) _)).open).mono ?_
  rintro e w1 ⟨rfl, h1, g1⟩
  simp only [World.size_alloc] at h1 g1 ⊢
  have S1 : E2 w1 w.heap.size (.int .i64 0) (.slice none 0 0) := (E2.fresh w (.int .i64 0) (.slice none 0 0) 25).later (by simpa using g1)
  have b1 : Below w.heap.size w w1 := ((Below.refl _ _).alloc (Nat.le_refl _) _).trans (g1.mono (by omega))
  clear g1
  have hRB := h1.1
  have hB1 := h1.2.1
  go_wp2_with fail
  refine (any4_r _ _ 0 _ h1 (by omega)).mono ?_
  rintro e w2 ⟨⟨op, a2, len2, cap2, xs, rfl, o1, o2, l1, c1, L1, bd1, O2⟩, ⟨q, hq, h2⟩, g2⟩
  have S2 := S1.grown g2 (by simp)
  have b2 : Below w.heap.size w w2 := b1.grown g2 (by omega) (fun j hj => by cases hj; omega)
  have O2 := O2.mono (H' := w.heap.size + 1 + 1) (by omega)
  have hl1 : Hid (len2 = xs.length) := l1
  have z2 := h2.2.1
  clear g2 S1 h1 b1 l1
  go_wp2_with fail
  refine (pick_r _ _ q 2 _ (h2.alloc _) (by omega) (by omega) (by omega)).mono ?_
  rintro e w3 ⟨t, t1, rfl, h3, g3⟩
  have S3 := (S2.alloc _).grown g3 (by simp)
  have A3' := (E2.fresh w2 (.int .i64 op) (.slice a2 len2 cap2) 25).grown g3 (by simp; omega)
  have O3 := (O2.grown (World.grownBy_alloc w2 (.cells #[.int .i64 op, .slice a2 len2 cap2] 25) (some (w.heap.size + 1))) (by omega)).grown g3 (by omega)
  have b3 : Below w.heap.size w w3 := (b2.alloc (by omega) _).grown g3 (by simp; omega) (fun j hj => by cases hj; omega)
  clear g3 S2 h2 b2 O2
  by_cases ht : t = 0
  · subst ht
    obtain ⟨a0, a1, a2', a3⟩ := id A3'
    go_wp2_with fail
    refine (spoil_e _ _ (q + 1) op a2 len2 cap2 5 (w.heap.size + 1 + 1) xs _ h3 (by omega) hl1 (by omega) (by omega) c1 (by omega) (by omega) bd1 O3).mono ?_
    rintro e w4 ⟨⟨op3, b3', len3, cap3, zs, rfl, o31, o32, l3, c3, L3, bd3, O4⟩, ⟨q4, hq4, h4⟩, g4⟩
    have z3 := h3.2.1
    have S4 := S3.grown g4 (by simp)
    have b4 : Below w.heap.size w w4 := b3.grown g4 (by omega) (fun j hj => by cases hj; omega)
    have O4 := O4.mono (H' := w.heap.size + 1) (by omega)
    have hl3 : Hid (len3 = zs.length) := l3
    clear l3 g4 S3 A3' O3 h3 b3 a0 a1 a2' a3
    have u1 := S4.put (.int .i64 op3) (.slice b3' len3 cap3)
    have OE := own_put (.int .i64 op3) (.slice b3' len3 cap3) O4
    obtain ⟨s0, s1, s2, s3⟩ := S4
    obtain ⟨q0, q1, _, _⟩ := u1
    go_wp2
    exact bodyPost_ret (v := .agg #[.int .i64 op3, .slice b3' len3 cap3]) (by simp [results, Tryd.results24, go_sem, q0, q1]) rfl ⟨⟨op3, _, len3, cap3, zs, rfl, by omega, by omega, hl3, c3, by omega, bd3, OE⟩, by go_grown⟩
  · have ht' : ((t : Int) == 0) = false := by simp; omega
    obtain ⟨a0, a1, a2', a3⟩ := id A3'
    have O3 := O3.mono (H' := w.heap.size + 1) (by omega)
    have u1 := S3.put (.int .i64 op) (.slice a2 len2 cap2)
    have OE := own_put (.int .i64 op) (.slice a2 len2 cap2) O3
    obtain ⟨s0, s1, s2, s3⟩ := S3
    obtain ⟨q0, q1, _, _⟩ := u1
    go_wp2
    exact bodyPost_ret (v := .agg #[.int .i64 op, .slice a2 len2 cap2]) (by simp [results, Tryd.results24, go_sem, q0, q1]) rfl ⟨⟨op, _, len2, cap2, xs, rfl, by omega, by omega, hl1, c1, by omega, bd1, OE⟩, by go_grown⟩

set_option maxHeartbeats 2000000 in
theorem draw4_r {a : Option Addr} {len cap blk off : Nat} {z : Nat → Int} (w : World) (h : Code0 w a len cap blk off z) :
    Calls Tryd.prog 9 #[.slice a len cap] w fun e w' => ElemL w.heap.size 6 e w' ∧ Below w.heap.size w w' := by
  go_enter Tryd.func9, Tryd.ntmps9
  go_wp2_with fail
  refine (half4_r _ (h.later ((Below.refl _ _).alloc (Nat.le_refl _) _))).mono ?_
  rintro e w1 ⟨⟨op, a2, len2, cap2, xs, rfl, o1, o2, l1, c1, L1, bd1, O2⟩, g1⟩
  have S1 : E2 w1 w.heap.size (.int .i64 0) (.slice none 0 0) := (E2.fresh w (.int .i64 0) (.slice none 0 0) 25).later g1
  have b1 : Below w.heap.size w w1 := ((Below.refl _ _).alloc (Nat.le_refl _) _).trans (g1.mono (by simp))
  have O1 := O2.mono (H' := w.heap.size + 1) (by simp)
  have hl1 : Hid (len2 = xs.length) := l1
  clear g1 l1 O2
  have u1 := S1.put (.int .i64 op) (.slice a2 len2 cap2)
  have OE := own_put (.int .i64 op) (.slice a2 len2 cap2) O1
  obtain ⟨s0, s1, s2, s3⟩ := S1
  obtain ⟨q0, q1, _, _⟩ := u1
  go_wp2
  exact bodyPost_ret (v := .agg #[.int .i64 op, .slice a2 len2 cap2]) (by simp [results, Tryd.results9, go_sem, q0, q1]) rfl ⟨⟨op, _, len2, cap2, xs, rfl, by omega, by omega, hl1, c1, by omega, bd1, OE⟩, by go_grown⟩
end Go.Proofs.YtddjohelgeieiaaDoor

