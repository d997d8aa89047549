/- Elements held against each other by the law's own weSame. -/
import Derived.Test.YtjbdcbamkdnjhaaGreatDoorJnM
import Derived.Test.YtjbdcbamkdnjhaaGreatDoorKa
import Derived.Laws.StructEq
namespace Go.Proofs.YtjbdcbamkdnjhaaGreatDoor
open Go.RowKit Go.Shelf Go.Lib
set_option linter.unusedVariables false

theorem neq_arg (k n p : Int) (w : World) : (binOp .neq 59 (.agg #[.int .i64 k, .int .i64 n, .int .i64 p]) (.agg #[.int .i64 k, .int .i64 n, .int .i64 p])).run Tryz.prog w = .ok (.bool false) w := by
  simp [go_sem]

set_option maxRecDepth 10000 in
set_option maxHeartbeats 2000000 in
theorem we_r (op : Int) (a1 a2 : Option Addr) (xs : List Arg) (len c1 c2 : Nat) (hlen : len = xs.length) (hbig : len ≤ 1048576) (w : World) (h1 : Sl w a1 xs) (h2 : Sl w a2 xs) :
    Calls Tryz.prog 14 #[.agg #[.int .i64 op, .slice a1 len c1], .agg #[.int .i64 op, .slice a2 len c2]] w fun e w' => e = .returned (.bool true) ∧ Below w.heap.size w w' := by
  have HL : Hid (len = xs.length) := hlen
  clear hlen
  have b0 : Below w.heap.size w ((w.alloc (.cells #[.int .i64 op, .slice a1 len c1] 25)).alloc (.cells #[.int .i64 op, .slice a2 len c2] 25)) := ((Below.refl _ _).alloc (Nat.le_refl _) _).alloc (by simp) _
  have EA : E2 ((w.alloc (.cells #[.int .i64 op, .slice a1 len c1] 25)).alloc (.cells #[.int .i64 op, .slice a2 len c2] 25)) w.heap.size (.int .i64 op) (.slice a1 len c1) := (E2.fresh w _ _ _).alloc _
  have EB : E2 ((w.alloc (.cells #[.int .i64 op, .slice a1 len c1] 25)).alloc (.cells #[.int .i64 op, .slice a2 len c2] 25)) (w.heap.size + 1) (.int .i64 op) (.slice a2 len c2) := by
    have := E2.fresh (w.alloc (.cells #[.int .i64 op, .slice a1 len c1] 25)) (.int .i64 op) (.slice a2 len c2) 25
    rwa [World.size_alloc] at this
  have hS1 := h1.later b0
  have hS2 := h2.later b0
  go_enter Tryz.func14, Tryz.ntmps14
  go_wp2_with fail
  generalize (w.alloc (.cells #[.int .i64 op, .slice a1 len c1] 25)).alloc (.cells #[.int .i64 op, .slice a2 len c2] 25) = W0 at b0 EA EB hS1 hS2 ⊢
  have HS : Hid (Sl W0 a1 xs ∧ Sl W0 a2 xs ∧ Below w.heap.size w W0 ∧ E2 W0 w.heap.size (.int .i64 op) (.slice a1 len c1) ∧ E2 W0 (w.heap.size + 1) (.int .i64 op) (.slice a2 len c2)) := ⟨hS1, hS2, b0, EA, EB⟩
  clear b0 EA EB hS1 hS2 h1 h2
  go_loopg [5] len (fun g i wr => ∃ n : Nat, n + g = len ∧ i = .int .i64 n ∧ Hid (Below W0.heap.size W0 wr))
  case atStart => exact ⟨0, by omega, rfl, Below.refl _ _⟩
  case round =>
    obtain ⟨n, hn, rfl, HB⟩ := hrel
    obtain ⟨x0, x1, _, _⟩ := HS.out.2.2.2.1.later HB.out
    obtain ⟨y0, y1, _, _⟩ := HS.out.2.2.2.2.later HB.out
    by_cases hlt : n < len
    · have i1 : (n : Int) < (len : Int) := by omega
      have i3 : (0 : Int) ≤ (n : Int) := by omega
      obtain ⟨x, hxn⟩ : ∃ x, xs[n]? = some x := ⟨_, List.getElem?_eq_getElem (by have := HL.out; omega)⟩
      obtain ⟨b, o, rfl, ho⟩ : ∃ b o, a1 = some ⟨b, o, none⟩ ∧ Ops W0 b o xs := by
        rcases HS.out.1 with h | h
        · rw [h] at hxn; simp at hxn
        · exact h
      obtain ⟨b', o', rfl, ho'⟩ : ∃ b o, a2 = some ⟨b, o, none⟩ ∧ Ops W0 b o xs := by
        rcases HS.out.2.1 with h | h
        · rw [h] at hxn; simp at hxn
        · exact h
      obtain ⟨z0, z1, z2⟩ := (ho.later HB.out) n x hxn
      obtain ⟨z3, z4, z5⟩ := (ho'.later HB.out) n x hxn
      clear ho ho'
      have j1 := cell_regrown x1
      have j2 := cell_regrown y1
      have k0 := cell_regrown z0
      have k1 := cell_regrown z1
      have k2 := cell_regrown z2
      have k3 := cell_regrown z3
      have k4 := cell_regrown z4
      have k5 := cell_regrown z5
      have nq := neq_arg x.1 x.2.1 x.2.2
      go_upto_region 6 with fail
      refine wp_region_quiet_below (by kernel_rfl) (by kernel_rfl) ?_
      repeat (go_big_quiet_step (fail))
      refine wpQuiet_nil ?_
      intro _ hw'
      obtain ⟨⟨dq, osq⟩, hw''⟩ := hw'
      subst hw''
      have HB2 : Hid (Below W0.heap.size W0 (Sort.grow (redrawn wr dq) osq)) := HB.out.trans ((below_regrown wr dq osq).mono HB.out.size)
      go_wp2
      go_roundg (gk - 1)
      case measure => omega
      case rel => exact ⟨n + 1, by omega, by simp, HB2⟩
    · have i1 : ¬ ((n : Int) < (len : Int)) := by omega
      have BE : Hid (Below w.heap.size w wr) := HS.out.2.2.1.trans (HB.out.mono HS.out.2.2.1.size)
      go_wp2
      go_ret
      exact ⟨rfl, BE.out⟩
end Go.Proofs.YtjbdcbamkdnjhaaGreatDoor
