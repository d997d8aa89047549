/- A list that keeps to heights and grammar is drawn. -/
import Derived.Test.YtcihplachlokiaaGreatDoorYcM
import Derived.Deep.AppendLies
namespace Go.Proofs.YtcihplachlokiaaGreatDoor.Rr
open Go.RowKit
set_option linter.unusedVariables false
variable {LB : Nat}

theorem RD.off {W : World} {H pb pb' : Nat} {v : Value} {xs : List InstT} (h : RD LB W H pb v xs) (hp : pb' < H) : RD LB W H pb' v xs := by
  have hl := h.lt
  obtain ⟨h1, cs, h2, h3⟩ := h
  refine ⟨fun e => by have := hl _ e; omega, cs, h2.move fun f x c _ hh => ⟨hh.1, hh.2.move (gb_refl _ none) (fun b _ _ _ => by simp) (fun b b1 _ b3 => ⟨by omega, b3.2⟩)⟩, h3⟩
/-- What a draw of a list leaves: the list, of at most L instructions; d numbers read at most. -/
def ListR (LB : Nat) (w : World) (B R p L d : Nat) (e : Ending) (w' : World) : Prop :=
  ∃ (a : Option Addr) (n cap q : Nat) (xs : List InstT), e = .returned (.slice a n cap) ∧ Hid (n = xs.length) ∧ n ≤ L ∧ q ≤ p + d ∧ RD LB w' w.heap.size R (.slice a n cap) xs ∧ Reader B w' R q ∧ w.grownBy w' (some R)
/-- The same, and short operands. -/
def ListS (LB : Nat) (w : World) (B R p L d : Nat) (e : Ending) (w' : World) : Prop :=
  ∃ (a : Option Addr) (n cap q : Nat) (xs : List InstT), e = .returned (.slice a n cap) ∧ Hid (n = xs.length) ∧ n ≤ L ∧ q ≤ p + d ∧ RD LB w' w.heap.size R (.slice a n cap) xs ∧ Reader B w' R q ∧ w.grownBy w' (some R) ∧ ∀ x ∈ xs, x.one.args.length ≤ 8
theorem ListS.r {w : World} {B R p L d : Nat} {e : Ending} {w' : World} (h : ListS LB w B R p L d e w') : ListR LB w B R p L d e w' := by
  obtain ⟨a, n, cap, q, xs, h1, h2, h3, h4, h5, h6, h7, _⟩ := h
  exact ⟨a, n, cap, q, xs, h1, h2, h3, h4, h5, h6, h7⟩
theorem play_end {w w' : World} {B R pb p q oc on L d : Nat} {oa : Option Addr} {bits forks : Int} {base fresh : Bool} (h : Play LB w B R pb w' q oa on oc bits forks base fresh) (hn : on ≤ L) (hq : q ≤ p + d) : ListS LB w B R p L d (.returned (.slice oa on oc)) w' := by
  obtain ⟨xs, e, hx, h8⟩ := h.row
  exact ⟨oa, on, oc, q, xs, rfl, e, hn, hq, hx.off h.RB.1, h.rd, h.gr, h8⟩
theorem play_new {w : World} {B R p : Nat} (h : Reader B w R p) (t : TypeId) : Play LB w B R w.heap.size (w.alloc (.cells #[.pointer (some ⟨R, 0, none⟩), .slice none 0 0, .int .i64 0, .int .i64 0, .bool false, .bool false] t)) p none 0 0 0 0 false false :=
  ⟨h.alloc _, gb_alloc (gb_refl _ _) _, h.2.1, Nat.le_refl _, by simp, by simp, by simp, by simp, by simp, by simp, fun o => by simp, [], rfl, RD.nil _ _ _, fun x hx => by cases hx⟩

set_option maxRecDepth 10000 in
set_option maxHeartbeats 8000000 in
theorem sure_r (w : World) (B R p : Nat) (h : Reader B w R p) (hp : p < 9300000) :
    Calls Tryz.prog 54 #[.pointer (some ⟨R, 0, none⟩)] w fun e w' => ListS LB w B R p 2800 240000 e w' := by
  have hRB := h.1
  have hBw := h.2.1
  have hPk : ∀ (W : World) (q : Nat) (N : Int) (pb : Nat) (oa : Option Addr) (n oc : Nat) (b k : Int) (ba fr : Bool), Play LB w B R pb W q oa n oc b k ba fr → 1 ≤ N → N ≤ 10000000 → q < 10000000 → Calls Tryz.prog 13 #[.pointer (some ⟨R, 0, none⟩), .int .i64 N] W fun e w' => ∃ r : Nat, (r : Int) < N ∧ e = .returned (.int .i64 r) ∧ Play LB w B R pb w' (q + 1) oa n oc b k ba fr :=
    fun W q N pb oa n oc b k ba fr hP h1 h2 h3 => (pick_r B R q N W hP.rd h1 h2 h3).mono fun e w' ⟨r, r1, e1, hr, g1⟩ => ⟨r, r1, e1, hP.move g1 hr⟩
  have HPk : Hid (∀ (W : World) (q : Nat) (N : Int) (pb : Nat) (oa : Option Addr) (n oc : Nat) (b k : Int) (ba fr : Bool), Play LB w B R pb W q oa n oc b k ba fr → 1 ≤ N → N ≤ 10000000 → q < 10000000 → Calls Tryz.prog 13 #[.pointer (some ⟨R, 0, none⟩), .int .i64 N] W fun e w' => ∃ r : Nat, (r : Int) < N ∧ e = .returned (.int .i64 r) ∧ Play LB w B R pb w' (q + 1) oa n oc b k ba fr) := hPk
  have HP0 : Hid (Play LB w B R w.heap.size (w.alloc (.cells #[.pointer (some ⟨R, 0, none⟩), .slice none 0 0, .int .i64 0, .int .i64 0, .bool false, .bool false] 96)) p none 0 0 0 0 false false) := play_new h _
  obtain ⟨pb, Hpb⟩ : ∃ pb, Hid (pb = w.heap.size) := ⟨_, rfl⟩
  clear h hPk
  go_enter Tryz.func54, Tryz.ntmps54
  go_wp2_with fail
  refine (HPk.out _ _ 30 _ _ _ _ _ _ _ _ HP0.out (by omega) (by omega) (by omega)).mono ?_
  rintro e w1 ⟨r, hr, rfl, hP1⟩
  have HP1 : Hid (Play LB w B R w.heap.size w1 (p + 1) none 0 0 0 0 false false) := hP1
  have x1 := hP1.c1
  clear hP1 HP0
  by_cases hr0 : r = 0
  · subst hr0
    go_wp2
    go_ret
    exact play_end HP1.out (by omega) (by omega)
  have j0 : ((r : Int) == 0) = false := by simp; omega
  go_wp2_with fail
  refine (HPk.out _ _ 3 _ _ _ _ _ _ _ _ HP1.out (by omega) (by omega) (by omega)).mono ?_
  rintro e w2 ⟨s, hs, rfl, hP2⟩
  have HP2 : Hid (Play LB w B R w.heap.size w2 (p + 1 + 1) none 0 0 0 0 false false) := hP2
  clear hP2 HP1 x1 j0 hr0
  go_wp2
  go_loopg [4] (1 + s) (fun gk i wr => ∃ (q : Nat) (oa : Option Addr) (m oc : Nat) (bt : Int) (ba fr : Bool), i = .int .i64 (gk : Int) ∧ gk ≤ 3 ∧ q + 7001 * gk ≤ p + 2 + 21003 ∧ m + 900 * gk ≤ 2700 ∧ Hid (Play LB w B R w.heap.size wr q oa m oc bt 0 ba fr))
  case atStart => exact ⟨p + 2, none, 0, 0, 0, false, false, by simp, by omega, by omega, by omega, HP2⟩
  case round =>
    clear HP2
    obtain ⟨q, oa1, m, oc1, bt, ba, fr, rfl, hg, hq, hm, HP⟩ := hrel
    by_cases i1 : (0 : Int) < (gk : Int)
    · go_wp2_with fail
      refine (HPk.out _ _ 14 _ _ _ _ _ _ _ _ HP.out (by omega) (by omega) (by omega)).mono ?_
      rintro e w3 ⟨t, ht, rfl, hP3⟩
      have HS : Hid (Calls Tryz.prog 70 #[.pointer (some ⟨w.heap.size, 0, none⟩), .int .i64 (t : Int)] w3 fun e w' => RungP LB w B R w.heap.size (q + 1) m e w') := rung_r t _ _ _ _ _ _ _ _ _ _ _ _ hP3 (by omega) (by omega) (by omega)
      clear HP hP3
      go_wp2_with fail
      refine HS.out.mono ?_
      rintro e w4 ⟨rfl, q4, oa4, n4, oc4, ba4, fr4, hq4, hn4, hn5, hP4⟩
      have HP4 : Hid (Play LB w B R w.heap.size w4 q4 oa4 n4 oc4 0 0 ba4 fr4) := hP4
      clear hP4 HS
      go_wp2
      go_roundg (gk - 1)
      case measure => omega
      case rel => exact ⟨q4, oa4, n4, oc4, 0, ba4, fr4, by congr 1; omega, by omega, by omega, by omega, HP4⟩
    · go_wp2_with fail
      refine (HPk.out _ _ 16 _ _ _ _ _ _ _ _ HP.out (by omega) (by omega) (by omega)).mono ?_
      rintro e w3 ⟨t, ht, rfl, hP3⟩
      have HP3 : Hid (Play LB w B R w.heap.size w3 (q + 1) oa1 m oc1 bt 0 ba fr) := hP3
      have x1 := hP3.c1
      clear HP hP3
      by_cases ht0 : t = 0
      · subst ht0
        clear x1
        go_wp2
        go_loopg [] 30 (fun gj wr => ∃ (q : Nat) (oa : Option Addr) (m oc : Nat) (bt : Int) (ba fr : Bool), gj ≤ 30 ∧ q + 7100 * gj ≤ p + 21006 + 213000 ∧ m ≤ 2700 ∧ 60 ≤ m + 2 * gj ∧ Hid (Play LB w B R w.heap.size wr q oa m oc bt 0 ba fr))
        case atStart => exact ⟨q + 1, oa1, m, oc1, bt, ba, fr, by omega, by omega, by omega, by omega, HP3⟩
        case round =>
          clear HP3
          obtain ⟨q5, oa5, m5, oc5, bt5, ba5, fr5, hg5, hq5, hm5, hm6, HP⟩ := hrel
          have x1 := HP.out.c1
          by_cases i2 : (m5 : Int) < 60
          · go_wp2_with fail
            refine (HPk.out _ _ 40 _ _ _ _ _ _ _ _ HP.out (by omega) (by omega) (by omega)).mono ?_
            rintro e w6 ⟨u, hu, rfl, hP6⟩
            have HS : Hid (Calls Tryz.prog 70 #[.pointer (some ⟨w.heap.size, 0, none⟩), .int .i64 (u : Int)] w6 fun e w' => RungP LB w B R w.heap.size (q5 + 1) m5 e w') := rung_r u _ _ _ _ _ _ _ _ _ _ _ _ hP6 (by omega) (by omega) (by omega)
            clear HP hP6 x1
            go_wp2_with fail
            refine HS.out.mono ?_
            rintro e w7 ⟨rfl, q7, oa7, n7, oc7, ba7, fr7, hq7, hn7, hn8, hP7⟩
            have HP7 : Hid (Play LB w B R w.heap.size w7 q7 oa7 n7 oc7 0 0 ba7 fr7) := hP7
            clear hP7 HS
            go_wp2
            go_roundg (gk - 1)
            case measure => omega
            case rel => exact ⟨q7, oa7, n7, oc7, 0, ba7, fr7, by omega, by omega, by omega, by omega, HP7⟩
          · go_wp2
            go_ret
            exact play_end HP.out (by omega) (by omega)
      · have j0 : ((t : Int) == 0) = false := by simp; omega
        go_wp2
        go_ret
        exact play_end HP3.out (by omega) (by omega)
end Go.Proofs.YtcihplachlokiaaGreatDoor.Rr
/- An instruction that is ok is drawn. -/
namespace Go.Proofs.YtcihplachlokiaaGreatDoor.Rr
open Go.RowKit
set_option linter.unusedVariables false
variable {LB : Nat}

/-- What a draw of an instruction leaves. -/
def InstR (LB : Nat) (w : World) (e : Ending) (w' : World) : Prop :=
  ∃ (c op : Int) (a : Option Addr) (len cap : Nat) (xs : List Arg), e = .returned (.agg #[.int .i64 c, .int .i64 op, .slice a len cap]) ∧ Hid (len = xs.length) ∧ (len ≤ cap ∧ ((c ≤ 3 ∨ c = 10) → 1 ≤ len)) ∧ Fin1 LB ⟨c, ⟨op, xs⟩⟩ ∧ Own w' w.heap.size a xs
theorem three_put {W : World} {b : Nat} {x y z : Value} (x' y' z' : Value) (h : W.cell? ⟨b, 0, none⟩ = some x ∧ W.cell? ⟨b, 1, none⟩ = some y ∧ W.cell? ⟨b, 2, none⟩ = some z) :
    (((W.setCell ⟨b, 0, none⟩ x').setCell ⟨b, 1, none⟩ y').setCell ⟨b, 2, none⟩ z').cell? ⟨b, 0, none⟩ = some x' ∧ (((W.setCell ⟨b, 0, none⟩ x').setCell ⟨b, 1, none⟩ y').setCell ⟨b, 2, none⟩ z').cell? ⟨b, 1, none⟩ = some y' ∧ (((W.setCell ⟨b, 0, none⟩ x').setCell ⟨b, 1, none⟩ y').setCell ⟨b, 2, none⟩ z').cell? ⟨b, 2, none⟩ = some z' := by
  refine ⟨?_, ?_, ?_⟩
  · exact (World.cell?_setCell_other _ _ _ _ (by simp)).trans ((World.cell?_setCell_other _ _ _ _ (by simp)).trans (World.cell?_setCell_same _ _ _ h.1))
  · exact (World.cell?_setCell_other _ _ _ _ (by simp)).trans (World.cell?_setCell_same _ _ _ ((World.cell?_setCell_other _ _ _ _ (by simp)).trans h.2.1))
  · exact World.cell?_setCell_same _ _ _ ((World.cell?_setCell_other _ _ _ _ (by simp)).trans ((World.cell?_setCell_other _ _ _ _ (by simp)).trans h.2.2))
theorem own_set3 {w : World} {b H H' : Nat} {a : Option Addr} {xs : List Arg} (u v z : Value) (h : Own w H a xs) (hb : b < H) (hH : H' ≤ H) : Own (((w.setCell ⟨b, 0, none⟩ u).setCell ⟨b, 1, none⟩ v).setCell ⟨b, 2, none⟩ z) H' a xs := by
  rcases h with h | ⟨c, o, h1, h2, h3⟩
  · exact .inl h
  · exact .inr ⟨c, o, h1, by omega, ((h3.other b 0 (by omega) u).other b 1 (by omega) v).other b 2 (by omega) z⟩

set_option maxRecDepth 10000 in
set_option maxHeartbeats 8000000 in
theorem inst_r (B R p : Nat) (w : World) (h : Reader B w R p) (hp : p < 9690000) :
    Calls Tryz.prog 34 #[.pointer (some ⟨R, 0, none⟩)] w fun e w' => InstR LB w e w' ∧ (∃ q, q ≤ p + 70 ∧ Reader B w' R q) ∧ w.grownBy w' (some R) := by
  have hRB := h.1
  have hBw := h.2.1
  have hN := fun W (hW : Reader B W R p) hx => num_r B R p (w.heap.size + 1) [1, 1, 1, 2, 2, 2, 3, 3, 4, 5, 6, 7, 8, 9, 10, 10, 10, 11] 18 W hW (by simp) (by simp) (by omega) (by omega) hx
  have kA : (w.alloc (.cells #[.int .i64 0, .int .i64 0, .slice none 0 0] 44)).heap[w.heap.size]? = some (.cells #[.int .i64 0, .int .i64 0, .slice none 0 0] 44 (0, 0)) := heap_alloc_last w _
  go_enter Tryz.func34, Tryz.ntmps34
  go_wp2_with fail
  refine (hN _ ((h.alloc _).alloc _) (cells_row2 w _ [1, 1, 1, 2, 2, 2, 3, 3, 4, 5, 6, 7, 8, 9, 10, 10, 10, 11] 3)).mono ?_
  rintro e w1 ⟨v, hv, rfl, h1, g1⟩
  have G1 : w.grownBy w1 (some R) := gb_pick (gb_alloc (gb_alloc (gb_refl _ _) _) _) g1
  have GA : (w.alloc (.cells #[.int .i64 0, .int .i64 0, .slice none 0 0] 44)).grownBy w1 (some R) := gb_pick (gb_alloc (gb_refl _ _) _) g1
  have hv1 : 1 ≤ v ∧ v ≤ 11 := by simp at hv; omega
  have hlt : w.heap.size < w1.heap.size := by have := g1.size; simp at this; omega
  clear g1 h hN hv
  by_cases i1 : v ≤ 3
  · go_wp2_with fail
    refine (contact_r B R (p + 1) _ h1 (by omega)).mono ?_
    rintro e w2 ⟨⟨op, a, len, cap, xs, rfl, o1, o2, l1, cc1, L1, bd1, O2⟩, ⟨q, hq, h2⟩, g2⟩
    obtain ⟨⟨k0, k1, k2⟩, j0, j1, j2⟩ := three_at kA (gb_pick GA g2) (by simp; omega)
    obtain ⟨t0, t1, t2⟩ := three_put (.int .i64 v) (.int .i64 op) (.slice a len cap) ⟨k0, k1, k2⟩
    have G2 : w.grownBy w2 (some R) := gb_pick G1 g2
    have hl1 : Hid (len = xs.length) := l1
    have OE : Own (((w2.setCell ⟨w.heap.size, 0, none⟩ (.int .i64 v)).setCell ⟨w.heap.size, 1, none⟩ (.int .i64 op)).setCell ⟨w.heap.size, 2, none⟩ (.slice a len cap)) w.heap.size a xs := own_set3 _ _ _ O2 hlt (by omega)
    have RE := ((h2.set w.heap.size 0 (.int .i64 v) hBw).set w.heap.size 1 (.int .i64 op) hBw).set w.heap.size 2 (.slice a len cap) hBw
    have GE : w.grownBy (((w2.setCell ⟨w.heap.size, 0, none⟩ (.int .i64 v)).setCell ⟨w.heap.size, 1, none⟩ (.int .i64 op)).setCell ⟨w.heap.size, 2, none⟩ (.slice a len cap)) (some R) := gb_put (gb_put (gb_put G2 (Nat.le_refl _)) (Nat.le_refl _)) (Nat.le_refl _)
    have FE : Fin1 LB ⟨v, ⟨op, xs⟩⟩ := ⟨⟨by show -100 ≤ v; omega, by show v ≤ 100; omega⟩, ⟨o1, o2⟩, by show xs.length ≤ LB + 9; omega, bd1⟩
    clear g2 GA G1 h1 l1 O2 h2 G2 kA
    go_wp2
    exact bodyPost_ret (v := .agg #[.int .i64 v, .int .i64 op, .slice a len cap]) (by simp [results, Tryz.results34, go_sem, t0, t1, t2]) rfl ⟨⟨v, op, a, len, cap, xs, rfl, hl1, ⟨cc1, fun _ => L1.2⟩, FE, OE⟩, ⟨q, by omega, RE⟩, GE⟩
  by_cases i2 : v = 10
  · have j10 : (v == 10) = true := by simp [i2]
    have H2 : Hid (v = 10) := i2
    clear i2
    go_wp2_with fail
    refine (coil_r B R (p + 1) _ h1 (by omega)).mono ?_
    rintro e w2 ⟨⟨op, a, len, cap, xs, rfl, o1, o2, l1, cc1, L1, bd1, O2⟩, ⟨q, hq, h2⟩, g2⟩
    obtain ⟨⟨k0, k1, k2⟩, j0, j1, j2⟩ := three_at kA (gb_pick GA g2) (by simp; omega)
    obtain ⟨t0, t1, t2⟩ := three_put (.int .i64 v) (.int .i64 op) (.slice a len cap) ⟨k0, k1, k2⟩
    have G2 : w.grownBy w2 (some R) := gb_pick G1 g2
    have hl1 : Hid (len = xs.length) := l1
    have OE : Own (((w2.setCell ⟨w.heap.size, 0, none⟩ (.int .i64 v)).setCell ⟨w.heap.size, 1, none⟩ (.int .i64 op)).setCell ⟨w.heap.size, 2, none⟩ (.slice a len cap)) w.heap.size a xs := own_set3 _ _ _ O2 hlt (by omega)
    have RE := ((h2.set w.heap.size 0 (.int .i64 v) hBw).set w.heap.size 1 (.int .i64 op) hBw).set w.heap.size 2 (.slice a len cap) hBw
    have GE : w.grownBy (((w2.setCell ⟨w.heap.size, 0, none⟩ (.int .i64 v)).setCell ⟨w.heap.size, 1, none⟩ (.int .i64 op)).setCell ⟨w.heap.size, 2, none⟩ (.slice a len cap)) (some R) := gb_put (gb_put (gb_put G2 (Nat.le_refl _)) (Nat.le_refl _)) (Nat.le_refl _)
    have FE : Fin1 LB ⟨v, ⟨op, xs⟩⟩ := ⟨⟨by show -100 ≤ v; omega, by show v ≤ 100; omega⟩, ⟨o1, o2⟩, by show xs.length ≤ LB + 9; omega, bd1⟩
    clear g2 GA G1 h1 l1 O2 h2 G2 kA
    go_wp2
    exact bodyPost_ret (v := .agg #[.int .i64 v, .int .i64 op, .slice a len cap]) (by simp [results, Tryz.results34, go_sem, t0, t1, t2]) rfl ⟨⟨v, op, a, len, cap, xs, rfl, hl1, ⟨cc1, fun _ => L1.2⟩, FE, OE⟩, ⟨q, by omega, RE⟩, GE⟩
  · have j10 : (v == 10) = false := by simp [i2]
    have HN3 : Hid (¬ (v ≤ 3 ∨ v = 10)) := (by omega : ¬ (v ≤ 3 ∨ v = 10))
    clear i2
    obtain ⟨⟨k0, k1, k2⟩, j0, j1, j2⟩ := three_at kA GA (by simp; omega)
    obtain ⟨t0, t1, t2⟩ := three_put (.int .i64 v) (.int .i64 0) (.slice none 0 0) ⟨k0, k1, k2⟩
    have RE := ((h1.set w.heap.size 0 (.int .i64 v) hBw).set w.heap.size 1 (.int .i64 0) hBw).set w.heap.size 2 (.slice none 0 0) hBw
    have GE : w.grownBy (((w1.setCell ⟨w.heap.size, 0, none⟩ (.int .i64 v)).setCell ⟨w.heap.size, 1, none⟩ (.int .i64 0)).setCell ⟨w.heap.size, 2, none⟩ (.slice none 0 0)) (some R) := gb_put (gb_put (gb_put G1 (Nat.le_refl _)) (Nat.le_refl _)) (Nat.le_refl _)
    have FE : Fin1 LB ⟨v, ⟨0, []⟩⟩ := ⟨⟨by show -100 ≤ v; omega, by show v ≤ 100; omega⟩, ⟨by show (-100 : Int) ≤ 0; omega, by show (0 : Int) ≤ 100; omega⟩, Nat.zero_le _, fun x hx => by cases hx⟩
    clear GA G1 h1 kA
    go_wp2
    exact bodyPost_ret (v := .agg #[.int .i64 v, .int .i64 0, .slice none 0 0]) (by simp [results, Tryz.results34, go_sem, t0, t1, t2]) rfl ⟨⟨v, 0, none, 0, 0, [], rfl, rfl, ⟨Nat.le_refl _, fun h => absurd h HN3.out⟩, FE, .inl rfl⟩, ⟨_, by omega, RE⟩, GE⟩
end Go.Proofs.YtcihplachlokiaaGreatDoor.Rr
/- Lists that are drawn: more elements by an append; two instructions that are held beside the list. -/
namespace Go.Proofs.YtcihplachlokiaaGreatDoor.Rr
open Go.RowKit
set_option linter.unusedVariables false
variable {LB : Nat}

theorem _root_.Go.Proofs.YtcihplachlokiaaGreatDoor.Each.append {α : Type} {R : List Nat → α → List Value → Prop} {z : Nat} {F G : List Nat} {xs ys : List α} {cs ds : List Value} (h : Each R z F xs cs) (k : Each R z G ys ds) : Each R z (F ++ G) (xs ++ ys) (cs ++ ds) := by
  induction k with
  | nil => simpa using h
  | add k hc hr ih => rw [← List.append_assoc, ← List.append_assoc, ← List.append_assoc]; exact .add ih hc hr
/-- Instructions, in their cells. -/
abbrev EFs (LB : Nat) (W : World) (H : Nat) (ok : Nat → Prop) (xs : List InstT) (cs : List Value) : Prop := Each (fun f x c => f = [] ∧ EF LB W H ok x c) 3 [] xs cs
theorem EFs.one {W : World} {H : Nat} {ok : Nat → Prop} {x : InstT} {c : List Value} (h : EF LB W H ok x c) : EFs LB W H ok [x] c := by
  have hc : c.length = 3 := by obtain ⟨a, cap, e, _⟩ := h; rw [e]; rfl
  have := Each.add (R := fun f x c => f = [] ∧ EF LB W H ok x c) (z := 3) .nil hc ⟨rfl, h⟩
  simpa using this
theorem EFs.two {W : World} {H : Nat} {ok : Nat → Prop} {x y : InstT} {c d : List Value} (h : EF LB W H ok x c) (k : EF LB W H ok y d) : EFs LB W H ok [x, y] (c ++ d) := (EFs.one h).append (EFs.one k)
theorem EF.plain (W : World) (H : Nat) (ok : Nat → Prop) (c : Int) (h1 : -100 ≤ c) (h2 : c ≤ 100) : EF LB W H ok (⟨c, ⟨0, []⟩⟩ : InstT) [.int .i64 c, .int .i64 0, .slice none 0 0] := ⟨none, 0, rfl, Nat.le_refl _, ⟨⟨h1, h2⟩, ⟨by show (-100 : Int) ≤ 0; omega, by show (0 : Int) ≤ 100; omega⟩, Nat.zero_le _, fun x hx => by cases hx⟩, .inl rfl⟩
/-- More instructions. -/
theorem RD.pushes {w4 w5 : World} {H pb : Nat} {v : Value} {xs ys : List InstT} {cs c : List Value} {g1 cap1 : Nat} (h1 : v.ownBlock ≠ some pb) (h2 : EFs LB w4 H (fun b => b ≠ pb ∧ some b ≠ v.ownBlock) xs cs)
    (hN : EFs LB w4 H (fun b => b ≠ pb ∧ some b ≠ v.ownBlock) ys c) (hpb : pb < w4.heap.size)
    (own5 : w5.ownsRow H 44 3 (.slice (some ⟨g1, 0, none⟩) (xs.length + ys.length) cap1) (xs.length + ys.length) (cs ++ c)) (g5 : w4.grownBy w5 v.ownBlock) (hat : v.ownBlock = some g1 ∨ g1 = w4.heap.size) :
    (∀ x c, EF LB w4 H (fun b => b ≠ pb ∧ some b ≠ v.ownBlock) x c → EF LB w5 H (fun b => b ≠ pb ∧ some b ≠ some g1) x c) ∧ RD LB w5 H pb (.slice (some ⟨g1, 0, none⟩) (xs.length + ys.length) cap1) (xs ++ ys) := by
  have key : ∀ x c, EF LB w4 H (fun b => b ≠ pb ∧ some b ≠ v.ownBlock) x c → EF LB w5 H (fun b => b ≠ pb ∧ some b ≠ some g1) x c := fun x c h => h.move g5 (fun b _ _ b3 => b3.2) (fun b b1 b2 b3 => ⟨b3.1, fun e => by
    rcases hat with h | h
    · exact b3.2 (by rw [h, ← e])
    · simp at e; omega⟩)
  refine ⟨key, ?_, cs ++ c, ?_, ?_⟩
  · show some g1 ≠ some pb
    rcases hat with h | h
    · rw [← h]; exact h1
    · simp; omega
  · exact (h2.append hN).move fun f x c _ hh => ⟨hh.1, key x c hh.2⟩
  · simpa using own5
/-- A list that is being made, and two instructions held in blocks beside it. -/
structure DS (LB : Nat) (w : World) (B R i j : Nat) (x y : InstT) (cx cy : List Value) (W : World) (p : Nat) (v : Value) (n : Nat) : Prop where
  rd : Reader B W R p
  gr : w.grownBy W (some R)
  row : ∃ xs : List InstT, n = xs.length ∧ RD LB W w.heap.size R v xs
  ex : EF LB W w.heap.size (fun b => b ≠ R ∧ some b ≠ v.ownBlock) x cx
  ey : EF LB W w.heap.size (fun b => b ≠ R ∧ some b ≠ v.ownBlock) y cy
  bi : W.heap[i]? = some (.cells cx.toArray 44 (0, 0))
  bj : W.heap[j]? = some (.cells cy.toArray 44 (0, 0))
  ni : v.ownBlock ≠ some i ∧ R ≠ i
  nj : v.ownBlock ≠ some j ∧ R ≠ j
variable {w W W' : World} {B R i j p n : Nat} {x y : InstT} {cx cy : List Value} {v : Value}
theorem DS.move (h : DS LB w B R i j x y cx cy W p v n) {q : Nat} (g : W.grownBy W' (some R)) (hr : Reader B W' R q) : DS LB w B R i j x y cx cy W' q v n := by
  have hRw : R < w.heap.size ∨ w.heap.size ≤ R := by omega
  obtain ⟨xs, e, hx⟩ := h.row
  have hl := hx.lt
  refine ⟨hr, gb_pick h.gr g, ⟨xs, e, ?_⟩, h.ex.move g (fun b _ _ b3 e => b3.1 (by simpa using e)) (fun _ _ _ b3 => b3), h.ey.move g (fun b _ _ b3 e => b3.1 (by simpa using e)) (fun _ _ _ b3 => b3), ?_, ?_, h.ni, h.nj⟩
  · exact hx.move g (fun k hk => .inr (.inl (by cases hk; rfl)))
  · exact (g.block _ (Array.getElem?_eq_some_iff.1 h.bi).1 (by simpa using fun e => h.ni.2 e.symm)).trans h.bi
  · exact (g.block _ (Array.getElem?_eq_some_iff.1 h.bj).1 (by simpa using fun e => h.nj.2 e.symm)).trans h.bj
theorem DS.alloc (h : DS LB w B R i j x y cx cy W p v n) (o : Obj) : DS LB w B R i j x y cx cy (W.alloc o) p v n := h.move (gb_alloc (gb_refl _ _) o) (h.rd.alloc o)
theorem DS.push (h : DS LB w B R i j x y cx cy W p v n) (hBw : B ≤ w.heap.size) (ys : List InstT) (c : List Value) (hE : EFs LB W w.heap.size (fun b => b ≠ R ∧ some b ≠ v.ownBlock) ys c) (o : Obj) :
    ∃ cs, (W.alloc o).ownsRow w.heap.size 44 3 v n cs ∧ w.heap.size ≤ W.heap.size ∧ (∀ k, v.ownBlock = some k → k < W.heap.size) ∧
      ∀ (w5 : World) (g1 cap1 : Nat), w5.ownsRow w.heap.size 44 3 (.slice (some ⟨g1, 0, none⟩) (n + ys.length) cap1) (n + ys.length) (cs ++ c) → (W.alloc o).grownBy w5 v.ownBlock → (v.ownBlock = some g1 ∨ g1 = W.heap.size + 1) → DS LB w B R i j x y cx cy w5 p (.slice (some ⟨g1, 0, none⟩) (n + ys.length) cap1) (n + ys.length) := by
  have hA := h.alloc o
  obtain ⟨xs, e, hx⟩ := hA.row
  have hl := hx.lt
  obtain ⟨xs0, _, hx0⟩ := h.row
  obtain ⟨h1, cs, h2, h3⟩ := hx
  refine ⟨cs, by rw [e]; exact h3, h.gr.size, fun k hk => (hx0.lt k hk).2, ?_⟩
  intro w5 g1 cap1 o5 g5 hat
  have o6 := o5
  rw [e] at o6
  have hat' : v.ownBlock = some g1 ∨ g1 = (W.alloc o).heap.size := by simpa using hat
  obtain ⟨key, hR⟩ := RD.pushes (ys := ys) h1 h2 (hE.move fun f x c _ hh => ⟨hh.1, hh.2.move (World.grownBy_alloc W o none) (fun _ _ _ _ => by simp) (fun _ _ _ b3 => b3)⟩) (by have := h.rd.1; have := h.rd.2.1; simp; omega) o6 g5 hat'
  have hn : ∀ k, v.ownBlock ≠ some k → k < (W.alloc o).heap.size → some g1 ≠ some k := fun k hk hk2 e => by
    rcases hat' with h | h
    · exact hk (by rw [h, e])
    · simp at e; omega
  have li := (Array.getElem?_eq_some_iff.1 hA.bi).1
  have lj := (Array.getElem?_eq_some_iff.1 hA.bj).1
  refine ⟨hA.rd.kept g5 (fun k hk => by have := hl k hk; omega), gb_then hA.gr g5 (fun k hk => .inl (hl k hk).1), ⟨xs ++ ys, by rw [e]; simp, by rw [e]; exact hR⟩, key _ _ hA.ex, key _ _ hA.ey, ?_, ?_, ⟨hn i h.ni.1 li, h.ni.2⟩, ⟨hn j h.nj.1 lj, h.nj.2⟩⟩
  · exact (g5.block _ li (fun e => h.ni.1 e.symm)).trans hA.bi
  · exact (g5.block _ lj (fun e => h.nj.1 e.symm)).trans hA.bj
end Go.Proofs.YtcihplachlokiaaGreatDoor.Rr
/- A list at or beyond the bounds of its stacks is drawn. -/
namespace Go.Proofs.YtcihplachlokiaaGreatDoor.Rr
open Go.RowKit
set_option linter.unusedVariables false
variable {LB : Nat}

theorem news_of (W : World) (l : List Value) (t : TypeId) : ∀ (q : Nat) (v : Value), l[q]? = some v → (W.alloc (.cells l.toArray t)).cell? ((⟨W.heap.size, 0, none⟩ : Addr).add q) = some v := by
  intro q v hq
  have : (⟨W.heap.size, 0, none⟩ : Addr).add q = ⟨W.heap.size, q, none⟩ := by unfold Addr.add; split <;> simp_all
  rw [this, cell_of_row _ _ _ _ _ _ (heap_alloc_last _ _), List.getElem?_toArray]
  exact hq
theorem three_of {W : World} {b : Nat} {t : TypeId} {x y z : Value} (k : W.heap[b]? = some (.cells [x, y, z].toArray t (0, 0))) : W.cell? ⟨b, 0, none⟩ = some x ∧ W.cell? ⟨b, 1, none⟩ = some y ∧ W.cell? ⟨b, 2, none⟩ = some z :=
  ⟨(cell_of_row _ _ _ _ _ _ k).trans rfl, (cell_of_row _ _ _ _ _ _ k).trans rfl, (cell_of_row _ _ _ _ _ _ k).trans rfl⟩
theorem RD.made (w : World) (R : Nat) (hR : R < w.heap.size) : RD LB (w.alloc (.cells #[] 44)) w.heap.size R (.slice (some ⟨w.heap.size, 0, none⟩) 0 0) [] :=
  ⟨by show some w.heap.size ≠ some R; simp; omega, [], .nil, by have := World.ownsRow_made (base := w.heap.size) (e := 44) (size := 3) w #[] 0 (by simp) (by unfold maxLen; omega) rfl; simpa using this⟩
theorem ds_start {w w2 w4 : World} {B R q : Nat} {op op' : Int} {a a' : Option Addr} {cap cap' : Nat} {xs ys : List Arg} (hRB : R < B) (hBw : B ≤ w.heap.size)
    (g2 : (w.alloc (.cells #[] 44)).grownBy w2 (some R)) (hc : xs.length ≤ cap) (hf : Fin1 LB ⟨1, ⟨op, xs⟩⟩) (O2 : Own w2 (w.heap.size + 1) a xs)
    (g4 : (w2.alloc (.cells #[.int .i64 1, .int .i64 op, .slice a xs.length cap] 44)).grownBy w4 (some R)) (hc' : ys.length ≤ cap') (hf' : Fin1 LB ⟨10, ⟨op', ys⟩⟩) (O4 : Own w4 (w2.heap.size + 1) a' ys) (h4 : Reader B w4 R q) :
    DS LB w B R w2.heap.size w4.heap.size ⟨1, ⟨op, xs⟩⟩ ⟨10, ⟨op', ys⟩⟩ [.int .i64 1, .int .i64 op, .slice a xs.length cap] [.int .i64 10, .int .i64 op', .slice a' ys.length cap'] (w4.alloc (.cells #[.int .i64 10, .int .i64 op', .slice a' ys.length cap'] 44)) q (.slice (some ⟨w.heap.size, 0, none⟩) 0 0) 0 := by
  have s2 : w.heap.size + 1 ≤ w2.heap.size := by have := g2.size; simpa using this
  have s4 : w2.heap.size + 1 ≤ w4.heap.size := by have := g4.size; simpa using this
  have G4 : (w.alloc (.cells #[] 44)).grownBy w4 (some R) := gb_pick (gb_alloc g2 _) g4
  have Gx : w2.grownBy (w4.alloc (.cells #[.int .i64 10, .int .i64 op', .slice a' ys.length cap'] 44)) (some R) := gb_alloc (gb_pick (gb_alloc (gb_refl _ _) _) g4) _
  have hb : ∀ b, w.heap.size + 1 ≤ b → b ≠ R ∧ some b ≠ (Value.slice (some ⟨w.heap.size, 0, none⟩) 0 0).ownBlock := fun b hb => ⟨by omega, by simp [Value.ownBlock]; omega⟩
  have k2 : (w2.alloc (.cells #[.int .i64 1, .int .i64 op, .slice a xs.length cap] 44)).heap[w2.heap.size]? = some (.cells #[.int .i64 1, .int .i64 op, .slice a xs.length cap] 44 (0, 0)) := heap_alloc_last w2 _
  have k4 : w4.heap[w2.heap.size]? = some (.cells #[.int .i64 1, .int .i64 op, .slice a xs.length cap] 44 (0, 0)) := (g4.block _ (by simp) (by simp; omega)).trans k2
  refine ⟨h4.alloc _, gb_alloc (gb_pick (gb_alloc (gb_refl _ _) _) G4) _, ⟨[], rfl, ((RD.made w R (by omega)).move G4 (fun j hj => .inr (.inl (by cases hj; rfl)))).move (World.grownBy_alloc _ _ none) (fun j hj => by cases hj)⟩, ?_, ?_, ?_, heap_alloc_last w4 _, ?_, ?_⟩
  · exact (EF.of (x := ⟨1, ⟨op, xs⟩⟩) hc hf O2 (by omega) hb).move Gx (fun b _ _ b3 e => b3.1 (by simpa using e)) (fun _ _ _ b3 => b3)
  · exact (EF.of (x := ⟨10, ⟨op', ys⟩⟩) hc' hf' O4 (by omega) (fun b h => hb b (by omega))).move (World.grownBy_alloc _ _ none) (fun _ _ _ _ => by simp) (fun _ _ _ b3 => b3)
  · exact (heap_alloc_old _ _ (h := by omega)).trans k4
  · exact ⟨by simp [Value.ownBlock]; omega, by omega⟩
  · exact ⟨by simp [Value.ownBlock]; omega, by omega⟩
theorem ds_end {w W : World} {B R i j p q n cap L d : Nat} {x y : InstT} {cx cy : List Value} {a : Option Addr} (h : DS LB w B R i j x y cx cy W q (.slice a n cap) n) (hn : n ≤ L) (hq : q ≤ p + d) : ListR LB w B R p L d (.returned (.slice a n cap)) W := by
  obtain ⟨xs, e, hx⟩ := h.row
  exact ⟨a, n, cap, q, xs, rfl, e, hn, hq, hx, h.rd, h.gr⟩

end Go.Proofs.YtcihplachlokiaaGreatDoor.Rr
/- Lists that are drawn: copied, cut, written over. -/
namespace Go.Proofs.YtcihplachlokiaaGreatDoor.Rr
open Go.RowKit
set_option linter.unusedVariables false
variable {LB : Nat}

/-- Instructions by their places. -/
def EFi (LB : Nat) (W : World) (H : Nat) (ok : Nat → Prop) (xs : List InstT) (cs : List Value) : Prop := cs.length = xs.length * 3 ∧ ∀ j x, xs[j]? = some x → ∃ c, EF LB W H ok x c ∧ ∀ i, i < 3 → cs[j * 3 + i]? = c[i]?
theorem EFs.i {W : World} {H : Nat} {ok : Nat → Prop} {xs : List InstT} {cs : List Value} (h : EFs LB W H ok xs cs) : EFi LB W H ok xs cs := by
  refine ⟨h.len, fun j x hx => ?_⟩
  obtain ⟨f, c, F1, F2, cs1, cs2, _, e2, e3, e4, hr⟩ := h.at j x hx
  refine ⟨c, hr.2, fun i hi => ?_⟩
  rw [e2, List.append_assoc, List.getElem?_append_right (by omega), List.getElem?_append_left (by omega)]
  congr 1
  omega
theorem EF.len {W : World} {H : Nat} {ok : Nat → Prop} {x : InstT} {c : List Value} (h : EF LB W H ok x c) : c.length = 3 := by
  obtain ⟨a, cap, e, _⟩ := h
  rw [e]; rfl
theorem EFi.s {W : World} {H : Nat} {ok : Nat → Prop} : ∀ (n : Nat) (xs : List InstT) (cs : List Value), xs.length = n → EFi LB W H ok xs cs → EFs LB W H ok xs cs
  | 0, xs, cs, hn, h => by
    obtain rfl := List.length_eq_zero_iff.1 hn
    have : cs = [] := List.length_eq_zero_iff.1 (by simpa using h.1)
    subst this
    exact .nil
  | n + 1, xs, cs, hn, h => by
    rcases List.eq_nil_or_concat xs with rfl | ⟨l, x, rfl⟩
    · simp at hn
    rw [List.concat_eq_append] at *
    have hl : l.length = n := by simpa using hn
    have hcs : cs.length = n * 3 + 3 := by have := h.1; simp at this; omega
    obtain ⟨c, hc, hi⟩ := h.2 n x (by rw [List.getElem?_append_right (by omega)]; simp [hl])
    have e : cs = cs.take (n * 3) ++ c := by
      apply List.ext_getElem?
      intro i
      by_cases h1 : i < n * 3
      · rw [List.getElem?_append_left (by rw [List.length_take]; omega), List.getElem?_take_of_lt h1]
      · rw [List.getElem?_append_right (by rw [List.length_take]; omega), List.length_take, show min (n * 3) cs.length = n * 3 by omega]
        by_cases h2 : i < n * 3 + 3
        · rw [← hi (i - n * 3) (by omega)]
          congr 1; omega
        · rw [List.getElem?_eq_none (by omega), List.getElem?_eq_none (by rw [hc.len]; omega)]
    have h1 : EFs LB W H ok l (cs.take (n * 3)) := EFi.s n l _ hl ⟨by rw [List.length_take]; omega, fun j y hy => by
      have hj : j < l.length := (List.getElem?_eq_some_iff.1 hy).1
      obtain ⟨d, hd, hk⟩ := h.2 j y (by rw [List.getElem?_append_left hj]; exact hy)
      exact ⟨d, hd, fun i hi => by rw [List.getElem?_take_of_lt (by omega)]; exact hk i hi⟩⟩
    rw [e]
    exact Each.add h1 hc.len ⟨rfl, hc⟩
theorem EFi.one {W : World} {H : Nat} {ok : Nat → Prop} {xs : List InstT} {cs : List Value} (h : EFi LB W H ok xs cs) : ∀ u ∈ cs, u.oneCell' = true := by
  intro u hu
  obtain ⟨i, hi⟩ := List.mem_iff_getElem?.1 hu
  have hl := (List.getElem?_eq_some_iff.1 hi).1
  rw [h.1] at hl
  obtain ⟨c, hc, hk⟩ := h.2 (i / 3) _ (List.getElem?_eq_getElem (by omega))
  have h1 := hk (i % 3) (by omega)
  rw [show i / 3 * 3 + i % 3 = i by omega, hi] at h1
  have hm : u ∈ c := List.mem_of_getElem? h1.symm
  obtain ⟨a, cap, e, _⟩ := hc
  rw [e] at hm
  simp at hm
  rcases hm with rfl | rfl | rfl <;> rfl
/-- A drawn list's cells. -/
theorem RD.cells {W : World} {H pb : Nat} {v : Value} {xs : List InstT} (h : RD LB W H pb v xs) : ∃ cs, cs.length = xs.length * 3 ∧ (∀ u ∈ cs, u.oneCell' = true) ∧ W.ownsRow H 44 3 v xs.length cs ∧ EFi LB W H (fun b => b ≠ pb ∧ some b ≠ v.ownBlock) xs cs := by
  obtain ⟨h1, cs, h2, h3⟩ := h
  exact ⟨cs, h2.len, (EFs.i h2).one, h3, EFs.i h2⟩
/-- The beginning of a drawn list. -/
theorem RD.take {W : World} {H pb g n cap : Nat} {xs : List InstT} (h : RD LB W H pb (.slice (some ⟨g, 0, none⟩) n cap) xs) (k : Nat) (hk : k ≤ xs.length) : RD LB W H pb (.slice (some ⟨g, 0, none⟩) k cap) (xs.take k) := by
  obtain ⟨h1, cs, h2, h3⟩ := h
  have hl : (xs.take k).length = k := by simp; omega
  refine ⟨h1, cs.take (k * 3), EFi.s k _ _ hl ⟨by rw [hl, List.length_take, h2.len]; omega, fun j x hx => ?_⟩, ?_⟩
  · have hj : j < k := by have := (List.getElem?_eq_some_iff.1 hx).1; omega
    rw [List.getElem?_take_of_lt hj] at hx
    obtain ⟨c, hc, hi⟩ := (EFs.i h2).2 j x hx
    exact ⟨c, hc, fun i hi' => by rw [List.getElem?_take_of_lt (by omega)]; exact hi i hi'⟩
  · rcases h3.2 with ⟨h', _⟩ | ⟨g', cap', cur, h', hb, hg, hnc, hcm, hcs, htake⟩
    · simp at h'
    · simp only [Value.slice.injEq, Option.some.injEq, Addr.mk.injEq, and_true] at h'
      obtain ⟨rfl, hn, rfl⟩ := h'
      rw [hl]
      refine ⟨by rw [List.length_take, h2.len]; omega, .inr ⟨g, cap, cur, rfl, hb, hg, by omega, hcm, hcs, ?_⟩⟩
      rw [← htake, List.take_take, show min (k * 3) (xs.length * 3) = k * 3 by omega]
/-- A drawn list copied into a new block. -/
theorem RD.copied {W w1 : World} {H pb g cap : Nat} {v : Value} {xs : List InstT} {cs : List Value} (h2 : EFi LB W H (fun b => b ≠ pb ∧ some b ≠ v.ownBlock) xs cs) (hB : Below W.heap.size W w1) (own1 : w1.ownsRow H 44 3 (.slice (some ⟨g, 0, none⟩) xs.length cap) xs.length cs) (hg : W.heap.size ≤ g) (hp : pb < W.heap.size) : RD LB w1 H pb (.slice (some ⟨g, 0, none⟩) xs.length cap) xs := by
  refine ⟨by show some g ≠ some pb; simp; omega, cs, (EFi.s _ xs cs rfl h2).move fun f x c _ hh => ⟨hh.1, hh.2.move (gb_below hB) (fun _ _ _ _ => by simp) (fun b _ b2 b3 => ⟨b3.1, ?_⟩)⟩, own1⟩
  show some b ≠ some g
  simp; omega
/-- An instruction of a drawn list written over. -/
theorem RD.put {W W' : World} {H pb g cap k : Nat} {xs : List InstT} {y : InstT} {cs cs' c : List Value} (h1 : some g ≠ some pb) (h2 : EFi LB W H (fun b => b ≠ pb ∧ some b ≠ some g) xs cs) (gW : W.grownBy W' (some g)) (own' : W'.ownsRow H 44 3 (.slice (some ⟨g, 0, none⟩) xs.length cap) xs.length cs')
    (hc : EF LB W H (fun b => b ≠ pb ∧ some b ≠ some g) y c) (hlen : cs'.length = cs.length) (hne : ∀ i, i < k * 3 ∨ k * 3 + 3 ≤ i → cs'[i]? = cs[i]?) (hk : ∀ i, i < 3 → cs'[k * 3 + i]? = c[i]?) : RD LB W' H pb (.slice (some ⟨g, 0, none⟩) xs.length cap) (xs.set k y) := by
  have hm : ∀ x c, EF LB W H (fun b => b ≠ pb ∧ some b ≠ some g) x c → EF LB W' H (fun b => b ≠ pb ∧ some b ≠ some g) x c := fun x c h => h.move gW (fun b _ _ b3 => b3.2) (fun _ _ _ b3 => b3)
  refine ⟨h1, cs', EFi.s _ _ _ rfl ⟨by rw [hlen, h2.1]; simp, fun j x hx => ?_⟩, by rw [List.length_set]; exact own'⟩
  by_cases hj : j = k
  · subst hj
    have hjl : j < xs.length := by have := (List.getElem?_eq_some_iff.1 hx).1; simpa using this
    rw [List.getElem?_set_self hjl] at hx
    obtain rfl := Option.some.inj hx
    exact ⟨c, hm _ _ hc, hk⟩
  · rw [List.getElem?_set_ne (fun e => hj e.symm)] at hx
    obtain ⟨d, hd, hi⟩ := h2.2 j x hx
    exact ⟨d, hm _ _ hd, fun i hi' => by rw [hne _ (by omega)]; exact hi i hi'⟩
end Go.Proofs.YtcihplachlokiaaGreatDoor.Rr
