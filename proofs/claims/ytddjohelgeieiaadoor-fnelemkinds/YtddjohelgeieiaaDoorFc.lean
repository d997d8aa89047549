/- The law FnElemKinds: its walk. -/
import Derived.Test.YtddjohelgeieiaaDoorFb
import Derived.Lib.QuietBelow
namespace Go.Proofs.YtddjohelgeieiaaDoor
open Go.RowKit
set_option linter.unusedVariables false

set_option maxRecDepth 10000 in
set_option maxHeartbeats 8000000 in
theorem law_kinds {a : Option Addr} {len cap blk off : Nat} {zz : Nat → Int} (w : World) (hT : Tabs w) (h : Code0 w a len cap blk off zz) :
    Calls Tryd.prog 3 #[.slice a len cap] w fun e w' => e = .returned (.bool true) ∧ Below w.heap.size w w' := by
  have hl := h.short
  have hK := hT.k
  go_enter Tryd.func3, Tryd.ntmps3
  go_wp2_with fail
  refine (draw4_r w h).mono ?_
  rintro e w1 ⟨⟨op, a1, ln, cp, xs, rfl, o1, o2, l1, c1, L1, bd1, O1⟩, b1⟩
  have hl1 : Hid (ln = xs.length) := l1
  have SL : Sl w1 a1 xs := O1.sl
  have A2 : E2 (w1.alloc (.cells #[.int .i64 op, .slice a1 ln cp] 25)) w1.heap.size (.int .i64 op) (.slice a1 ln cp) := E2.fresh w1 _ _ _
  have C2 : Below w.heap.size w (w1.alloc (.cells #[.int .i64 op, .slice a1 ln cp] 25)) := b1.alloc b1.size _
  have D2 : Below w1.heap.size w1 (w1.alloc (.cells #[.int .i64 op, .slice a1 ln cp] 25)) := (Below.refl _ _).alloc (Nat.le_refl _) _
  clear l1 h O1 b1
  cases hr : rtk op xs with
  | false =>
    have HA : Hid (∀ W : World, KT W → Sl W a1 xs → Calls Tryd.prog 10 #[.agg #[.int .i64 op, .slice a1 ln cp]] W fun e w' => e = .returned (.bool false) ∧ Below W.heap.size W w') := fun W hW hS => by have := impl_iscontact op a1 xs ln cp hl1 W hW hS; simpa [hr] using this
    have HB : Hid (∀ W : World, KT W → Sl W a1 xs → Calls Tryd.prog 11 #[.agg #[.int .i64 op, .slice a1 ln cp]] W fun e w' => e = .returned (.bool false) ∧ Below W.heap.size W w') := fun W hW hS => by have := impl_iscoil op a1 xs ln cp hl1 W hW hS; simpa [hr] using this
    have SA : Hid (∀ W : World, Sl W a1 xs → Calls Tryd.prog 12 #[.agg #[.int .i64 op, .slice a1 ln cp]] W fun e w' => e = .returned (.bool false) ∧ Below W.heap.size W w') := fun W hS => by have := spec_iscontact op a1 xs ln cp hl1 W hS; simpa [hr] using this
    have SB : Hid (∀ W : World, Sl W a1 xs → Calls Tryd.prog 13 #[.agg #[.int .i64 op, .slice a1 ln cp]] W fun e w' => e = .returned (.bool false) ∧ Below W.heap.size W w') := fun W hS => by have := spec_iscoil op a1 xs ln cp hl1 W hS; simpa [hr] using this
    obtain ⟨x0, x1, _, _⟩ := id A2
    go_wp2_with fail
    refine (HA.out _ (hK.later C2) (SL.later D2)).mono ?_
    rintro e w3 ⟨rfl, g⟩
    have A3 := A2.later g
    have C3 := C2.trans (g.mono C2.size)
    have D3 := D2.trans (g.mono D2.size)
    clear g A2 C2 D2 x0 x1
    obtain ⟨x0, x1, _, _⟩ := id A3
    go_wp2_with fail
    refine (HB.out _ (hK.later C3) (SL.later D3)).mono ?_
    rintro e w4 ⟨rfl, g⟩
    have A4 := A3.later g
    have C4 := C3.trans (g.mono C3.size)
    have D4 := D3.trans (g.mono D3.size)
    clear g A3 C3 D3 x0 x1
    obtain ⟨x0, x1, _, _⟩ := id A4
    go_wp2_with fail
    refine (SA.out _ (SL.later D4)).mono ?_
    rintro e w5 ⟨rfl, g⟩
    have A5 := A4.later g
    have C5 := C4.trans (g.mono C4.size)
    have D5 := D4.trans (g.mono D4.size)
    clear g A4 C4 D4 x0 x1
    obtain ⟨x0, x1, _, _⟩ := id A5
    go_wp2_with fail
    refine (SB.out _ (SL.later D5)).mono ?_
    rintro e w6 ⟨rfl, g⟩
    have A6 := A5.later g
    have C6 := C5.trans (g.mono C5.size)
    have D6 := D5.trans (g.mono D5.size)
    clear g A5 C5 D5 x0 x1
    have HT : Hid (∀ W : World, Tabs W → Sl W a1 xs → Calls Tryd.prog 14 #[.agg #[.int .i64 op, .slice a1 ln cp]] W fun e w' => e = .returned (.string ⟨#[]⟩) ∧ Below W.heap.size W w') := fun W hW hS => by have := impl_etext op a1 xs ln cp hl1 W hW hS; simpa [etx, hr] using this
    obtain ⟨x0, x1, _, _⟩ := id A6
    go_wp2_with fail
    refine (HT.out _ (hT.later C6) (SL.later D6)).mono ?_
    rintro e w7 ⟨rfl, g⟩
    have C7 := C6.trans (g.mono C6.size)
    go_wp2
    go_ret
    exact ⟨by simp, C7⟩
  | true =>
    rcases rtk_op hr with ho | ho
    · have e1 : op ≤ 10 := ho.2
      have e2 : ¬ (21 ≤ op) := by omega
      have HA : Hid (∀ W : World, KT W → Sl W a1 xs → Calls Tryd.prog 10 #[.agg #[.int .i64 op, .slice a1 ln cp]] W fun e w' => e = .returned (.bool true) ∧ Below W.heap.size W w') := fun W hW hS => by have := impl_iscontact op a1 xs ln cp hl1 W hW hS; simpa [hr, e1, e2] using this
      have HB : Hid (∀ W : World, KT W → Sl W a1 xs → Calls Tryd.prog 11 #[.agg #[.int .i64 op, .slice a1 ln cp]] W fun e w' => e = .returned (.bool false) ∧ Below W.heap.size W w') := fun W hW hS => by have := impl_iscoil op a1 xs ln cp hl1 W hW hS; simpa [hr, e1, e2] using this
      have SA : Hid (∀ W : World, Sl W a1 xs → Calls Tryd.prog 12 #[.agg #[.int .i64 op, .slice a1 ln cp]] W fun e w' => e = .returned (.bool true) ∧ Below W.heap.size W w') := fun W hS => by have := spec_iscontact op a1 xs ln cp hl1 W hS; simpa [hr, e1, e2] using this
      have SB : Hid (∀ W : World, Sl W a1 xs → Calls Tryd.prog 13 #[.agg #[.int .i64 op, .slice a1 ln cp]] W fun e w' => e = .returned (.bool false) ∧ Below W.heap.size W w') := fun W hS => by have := spec_iscoil op a1 xs ln cp hl1 W hS; simpa [hr, e1, e2] using this
      obtain ⟨x0, x1, _, _⟩ := id A2
      go_wp2_with fail
      refine (HA.out _ (hK.later C2) (SL.later D2)).mono ?_
      rintro e w3 ⟨rfl, g⟩
      have A3 := A2.later g
      have C3 := C2.trans (g.mono C2.size)
      have D3 := D2.trans (g.mono D2.size)
      clear g A2 C2 D2 x0 x1
      obtain ⟨x0, x1, _, _⟩ := id A3
      go_wp2_with fail
      refine (HB.out _ (hK.later C3) (SL.later D3)).mono ?_
      rintro e w4 ⟨rfl, g⟩
      have A4 := A3.later g
      have C4 := C3.trans (g.mono C3.size)
      have D4 := D3.trans (g.mono D3.size)
      clear g A3 C3 D3 x0 x1
      obtain ⟨x0, x1, _, _⟩ := id A4
      go_wp2_with fail
      refine (SA.out _ (SL.later D4)).mono ?_
      rintro e w5 ⟨rfl, g⟩
      have A5 := A4.later g
      have C5 := C4.trans (g.mono C4.size)
      have D5 := D4.trans (g.mono D4.size)
      clear g A4 C4 D4 x0 x1
      obtain ⟨x0, x1, _, _⟩ := id A5
      go_wp2_with fail
      refine (SB.out _ (SL.later D5)).mono ?_
      rintro e w6 ⟨rfl, g⟩
      have A6 := A5.later g
      have C6 := C5.trans (g.mono C5.size)
      have D6 := D5.trans (g.mono D5.size)
      clear g A5 C5 D5 x0 x1
      obtain ⟨x0, x1, _, _⟩ := id A6
      go_wp2
      go_loopg [6] ln (fun g i wr => ∃ n : Nat, n + g = ln ∧ i = .int .i64 n ∧ Below w6.heap.size w6 wr)
      case atStart => exact ⟨0, by omega, rfl, Below.refl _ _⟩
      case round =>
        obtain ⟨n, hn, rfl, hb⟩ := hrel
        have A7 := A6.later hb
        have C7 := C6.trans (hb.mono C6.size)
        have D7 := D6.trans (hb.mono D6.size)
        obtain ⟨y0, y1, _, _⟩ := id A7
        by_cases hlt : n < ln
        · have i1 : (n : Int) < (ln : Int) := by omega
          obtain ⟨x, hxn⟩ : ∃ x, xs[n]? = some x := ⟨_, List.getElem?_eq_getElem (by have := hl1.out; omega)⟩
          have hok := rtk_okA hr n x hxn
          have HD : Hid (∀ W : World, KT W → Calls Tryd.prog 15 #[.agg #[.int .i64 x.1, .int .i64 x.2.1, .int .i64 x.2.2]] W fun e w' => e = .returned (.bool true) ∧ Below W.heap.size W w') := fun W hW => by have := impl_ok x.1 x.2.1 x.2.2 W hW; rwa [hok] at this
          rcases SL.later D7 with e | ⟨b, o, rfl, hO⟩
          · subst e; simp at hxn
          obtain ⟨z0, z1, z2⟩ := hO n x hxn
          clear hok hr
          go_wp2_with fail
          refine (HD.out _ (hK.later C7)).mono ?_
          rintro e w8 ⟨rfl, g⟩
          go_wp2
          go_roundg (gk - 1)
          case measure => omega
          case rel => exact ⟨n + 1, by omega, by simp, hb.trans (g.mono hb.size)⟩
        · have i1 : ¬ ((n : Int) < (ln : Int)) := by omega
          have hn' : ((ndP op).length : Int) = (ln : Int) := by have h1 := rtk_ndP hr; have h2 := hl1.out; omega
          have hN : nmE op = ⟨#[]⟩ := nm_out op (by omega)
          have k0 := cell_regrown y0
          have k1 := cell_regrown y1
          have cA : ∀ d os, Calls Tryd.prog 16 #[.int .i64 op] (Sort.grow (redrawn wr d) os) fun e w'' => e = .returned (.int .i64 (ln : Int)) ∧ ∃ p : Regrown, w'' = Sort.grow (redrawn wr p.d) p.os :=
            fun d os => Calls.regrown_of (by have := impl_arity op (Sort.grow (redrawn wr d) os); rwa [hn'] at this)
          have cN : ∀ d os, Calls Tryd.prog 17 #[.int .i64 op] (Sort.grow (redrawn wr d) os) fun e w'' => e = .returned (.string ⟨#[]⟩) ∧ ∃ p : Regrown, w'' = Sort.grow (redrawn wr p.d) p.os :=
            fun d os => Calls.regrown_of (by have := impl_name op (Sort.grow (redrawn wr d) os); rwa [hN] at this)
          clear hn' hr
          go_upto_region 15 with fail
          refine wp_region_quiet_below (by kernel_rfl) (by kernel_rfl) ?_
          repeat (go_big_quiet_step (first | exact cA _ _ | exact cN _ _))
          refine wpQuiet_nil ?_
          intro _ hw'
          obtain ⟨⟨dq, osq⟩, hw''⟩ := hw'
          subst hw''
          go_wp2
          go_ret
          exact ⟨by simp, C7.trans ((below_regrown wr dq osq).mono C7.size)⟩
    · have e1 : ¬ (op ≤ 10) := by omega
      have e2 : 21 ≤ op := ho.1
      have HA : Hid (∀ W : World, KT W → Sl W a1 xs → Calls Tryd.prog 10 #[.agg #[.int .i64 op, .slice a1 ln cp]] W fun e w' => e = .returned (.bool false) ∧ Below W.heap.size W w') := fun W hW hS => by have := impl_iscontact op a1 xs ln cp hl1 W hW hS; simpa [hr, e1, e2] using this
      have HB : Hid (∀ W : World, KT W → Sl W a1 xs → Calls Tryd.prog 11 #[.agg #[.int .i64 op, .slice a1 ln cp]] W fun e w' => e = .returned (.bool true) ∧ Below W.heap.size W w') := fun W hW hS => by have := impl_iscoil op a1 xs ln cp hl1 W hW hS; simpa [hr, e1, e2] using this
      have SA : Hid (∀ W : World, Sl W a1 xs → Calls Tryd.prog 12 #[.agg #[.int .i64 op, .slice a1 ln cp]] W fun e w' => e = .returned (.bool false) ∧ Below W.heap.size W w') := fun W hS => by have := spec_iscontact op a1 xs ln cp hl1 W hS; simpa [hr, e1, e2] using this
      have SB : Hid (∀ W : World, Sl W a1 xs → Calls Tryd.prog 13 #[.agg #[.int .i64 op, .slice a1 ln cp]] W fun e w' => e = .returned (.bool true) ∧ Below W.heap.size W w') := fun W hS => by have := spec_iscoil op a1 xs ln cp hl1 W hS; simpa [hr, e1, e2] using this
      obtain ⟨x0, x1, _, _⟩ := id A2
      go_wp2_with fail
      refine (HA.out _ (hK.later C2) (SL.later D2)).mono ?_
      rintro e w3 ⟨rfl, g⟩
      have A3 := A2.later g
      have C3 := C2.trans (g.mono C2.size)
      have D3 := D2.trans (g.mono D2.size)
      clear g A2 C2 D2 x0 x1
      obtain ⟨x0, x1, _, _⟩ := id A3
      go_wp2_with fail
      refine (HB.out _ (hK.later C3) (SL.later D3)).mono ?_
      rintro e w4 ⟨rfl, g⟩
      have A4 := A3.later g
      have C4 := C3.trans (g.mono C3.size)
      have D4 := D3.trans (g.mono D3.size)
      clear g A3 C3 D3 x0 x1
      obtain ⟨x0, x1, _, _⟩ := id A4
      go_wp2_with fail
      refine (SA.out _ (SL.later D4)).mono ?_
      rintro e w5 ⟨rfl, g⟩
      have A5 := A4.later g
      have C5 := C4.trans (g.mono C4.size)
      have D5 := D4.trans (g.mono D4.size)
      clear g A4 C4 D4 x0 x1
      obtain ⟨x0, x1, _, _⟩ := id A5
      go_wp2_with fail
      refine (SB.out _ (SL.later D5)).mono ?_
      rintro e w6 ⟨rfl, g⟩
      have A6 := A5.later g
      have C6 := C5.trans (g.mono C5.size)
      have D6 := D5.trans (g.mono D5.size)
      clear g A5 C5 D5 x0 x1
      obtain ⟨x0, x1, _, _⟩ := id A6
      go_wp2
      go_loopg [6] ln (fun g i wr => ∃ n : Nat, n + g = ln ∧ i = .int .i64 n ∧ Below w6.heap.size w6 wr)
      case atStart => exact ⟨0, by omega, rfl, Below.refl _ _⟩
      case round =>
        obtain ⟨n, hn, rfl, hb⟩ := hrel
        have A7 := A6.later hb
        have C7 := C6.trans (hb.mono C6.size)
        have D7 := D6.trans (hb.mono D6.size)
        obtain ⟨y0, y1, _, _⟩ := id A7
        by_cases hlt : n < ln
        · have i1 : (n : Int) < (ln : Int) := by omega
          obtain ⟨x, hxn⟩ : ∃ x, xs[n]? = some x := ⟨_, List.getElem?_eq_getElem (by have := hl1.out; omega)⟩
          have hok := rtk_okA hr n x hxn
          have HD : Hid (∀ W : World, KT W → Calls Tryd.prog 15 #[.agg #[.int .i64 x.1, .int .i64 x.2.1, .int .i64 x.2.2]] W fun e w' => e = .returned (.bool true) ∧ Below W.heap.size W w') := fun W hW => by have := impl_ok x.1 x.2.1 x.2.2 W hW; rwa [hok] at this
          rcases SL.later D7 with e | ⟨b, o, rfl, hO⟩
          · subst e; simp at hxn
          obtain ⟨z0, z1, z2⟩ := hO n x hxn
          clear hok hr
          go_wp2_with fail
          refine (HD.out _ (hK.later C7)).mono ?_
          rintro e w8 ⟨rfl, g⟩
          go_wp2
          go_roundg (gk - 1)
          case measure => omega
          case rel => exact ⟨n + 1, by omega, by simp, hb.trans (g.mono hb.size)⟩
        · have i1 : ¬ ((n : Int) < (ln : Int)) := by omega
          have hn' : ((ndP op).length : Int) = (ln : Int) := by have h1 := rtk_ndP hr; have h2 := hl1.out; omega
          obtain ⟨N, hN⟩ : ∃ N, nmE op = N := ⟨_, rfl⟩
          have hNe : N.toList.isEmpty = false := by rw [← hN]; exact nm_some op ho.1 ho.2
          have k0 := cell_regrown y0
          have k1 := cell_regrown y1
          have cA : ∀ d os, Calls Tryd.prog 16 #[.int .i64 op] (Sort.grow (redrawn wr d) os) fun e w'' => e = .returned (.int .i64 (ln : Int)) ∧ ∃ p : Regrown, w'' = Sort.grow (redrawn wr p.d) p.os :=
            fun d os => Calls.regrown_of (by have := impl_arity op (Sort.grow (redrawn wr d) os); rwa [hn'] at this)
          have cN : ∀ d os, Calls Tryd.prog 17 #[.int .i64 op] (Sort.grow (redrawn wr d) os) fun e w'' => e = .returned (.string N) ∧ ∃ p : Regrown, w'' = Sort.grow (redrawn wr p.d) p.os :=
            fun d os => Calls.regrown_of (by have := impl_name op (Sort.grow (redrawn wr d) os); rwa [hN] at this)
          clear hn' hr
          go_upto_region 15 with fail
          refine wp_region_quiet_below (by kernel_rfl) (by kernel_rfl) ?_
          repeat (go_big_quiet_step (first | exact cA _ _ | exact cN _ _))
          refine wpQuiet_nil ?_
          intro _ hw'
          obtain ⟨⟨dq, osq⟩, hw''⟩ := hw'
          subst hw''
          go_wp2
          go_ret
          exact ⟨by simp, C7.trans ((below_regrown wr dq osq).mono C7.size)⟩

set_option maxHeartbeats 400000 in
theorem walk_kinds (a : Option Addr) (len cap : Nat) (zs : List Int) (w : World) (h : IsRow .u8 w a len cap zs) (hk : KT w) (hp : PT w) (hw : WT w) :
    Calls Tryd.prog 3 #[.slice a len cap] w fun e w' => e = .returned (.bool true) ∧ Below w.heap.size w w' := by
  by_cases hl : len ≤ 1048576
  · obtain ⟨blk, off, z, hc⟩ := h.code hl
    exact law_kinds w ⟨hk, hp, hw⟩ hc
  · have hcap : len ≤ maxLen := by
      rcases h with ⟨_, rfl, _⟩ | ⟨_, _, h1, h2, _⟩
      · omega
      · omega
    unfold maxLen at hcap
    have i1 : (1048576 : Int) < (len : Int) := by omega
    go_enter Tryd.func3, Tryd.ntmps3
    go_wp2
    go_ret
    exact ⟨rfl, Below.refl _ _⟩
end Go.Proofs.YtddjohelgeieiaaDoor

