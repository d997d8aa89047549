/- The law FnExactSureTrace. -/
import Derived.Test.YtcmmiamnbefefaaCd
namespace Go.Proofs.Ytcmmiamnbefefaa
open Go.RowKit
set_option linter.unusedVariables false

theorem TrIs.base_le {W : World} {base base' : Nat} {v : Value} {xs : List InstT} {n : Nat} (h : TrIs W base v xs n) (hb : base' ≤ base) : TrIs W base' v xs n := by
  refine ⟨h.1, ?_⟩
  rcases h.2 with h | ⟨g1, cap, cur, e1, e2, e3, e4⟩
  · exact .inl h
  · exact .inr ⟨g1, cap, cur, e1, by omega, e3, e4⟩
/-- A row of heights that no mark has touched. -/
theorem TrIs.marked {W W' : World} {base lo hi : Nat} {v : Value} {xs : List InstT} {n : Nat} (h : TrIs W base v xs n) (g : WMk lo hi W W') (hb : ∀ k, v.ownBlock = some k → k < lo ∨ hi ≤ k) : TrIs W' base v xs n := by
  refine ⟨h.1, ?_⟩
  rcases h.2 with h | ⟨g1, cap, cur, rfl, e2, e3, e4⟩
  · exact .inl h
  · exact .inr ⟨g1, cap, cur, rfl, e2, (g.out g1 (Array.getElem?_eq_some_iff.1 e3).1 (hb g1 rfl)).trans e3, e4⟩
theorem TrIs.grown {W W' : World} {base : Nat} {v : Value} {xs : List InstT} {n : Nat} {row : Option Nat} (h : TrIs W base v xs n) (g : W.grownBy W' row) (hb : ∀ k, v.ownBlock = some k → some k ≠ row) : TrIs W' base v xs n := by
  refine ⟨h.1, ?_⟩
  rcases h.2 with h | ⟨g1, cap, cur, rfl, e2, e3, e4⟩
  · exact .inl h
  · exact .inr ⟨g1, cap, cur, rfl, e2, (g.block g1 (Array.getElem?_eq_some_iff.1 e3).1 (hb g1 rfl)).trans e3, e4⟩

set_option maxRecDepth 10000 in
set_option maxHeartbeats 4000000 in
theorem law_trace (v : Value) (w : World) (ha : ∃ xs, InstsIs w 0 v xs) :
    Calls Try.prog 4 #[v] w fun e w' => e = .returned (.bool true) ∧ Below w.heap.size w w' := by
  obtain ⟨xs, hx⟩ := ha
  have HX : Hid (InstsIs w 0 v xs) := hx
  clear hx
  have LX : Hid (∀ W, Below w.heap.size w W → InstsIs W 0 v xs) := fun W g => instsIs_move (Keeps.of_below g 0) (Nat.le_refl _) HX.out
  obtain ⟨p, Hp⟩ : ∃ p, Hid (p = xs.length + (xs.map wI).sum) := ⟨_, rfl⟩
  go_enter Try.func4, Try.ntmps4
  go_wp2_with fail
  refine (sz_insts 1048576 (by omega) (by omega) v xs w 0 HX.out).mono ?_
  rintro e w1 ⟨rfl, g1⟩
  rw [← Hp.out]
  have b1 : Below w.heap.size w w1 := g1
  clear g1
  by_cases hp : (p : Int) ≤ 1048576
  case neg =>
    rw [szR_no hp]
    go_wp2
    go_ret
    exact ⟨rfl, b1⟩
  rw [szR_yes hp]
  have i1 : ¬ ((1048576 : Int) - p < 0) := by omega
  have hlen : xs.length ≤ 1048576 := by have := Hp.out; omega
  have HBg : Hid (xs.length + (xs.map wI).sum ≤ 1048576) := (by have := Hp.out; omega : xs.length + (xs.map wI).sum ≤ 1048576)
  have HTX : Hid (∀ W, Below w.heap.size w W → Calls Try.prog 11 #[v] W fun r w' => ∃ v', r = .returned v' ∧ InstsIs w' W.heap.size v' xs ∧ BP W.heap.size W w') := fun W g => to_instsP v xs W 0 (LX.out W g) HBg.out
  have HPS : Hid (∀ W v lo, InstsIs W lo v xs → Calls Try.prog 8 #[v] W fun e w' => TrR xs W e w') := fun W v lo h => trace_s v xs W lo h hlen
  have HPI : Hid (∀ W v lo, InstsIs W lo v xs → Calls Try.prog 12 #[v] W fun e w' => TrR xs W e w') := fun W v lo h => trace_i v xs W lo h hlen
  obtain ⟨N, HN⟩ : ∃ N, Hid (N = trN xs) := ⟨_, rfl⟩
  have hNle : N ≤ 1000 := by rw [HN.out]; exact trN_le xs
  clear LX HX Hp hlen
  go_wp2_with fail
  refine (HTX.out _ b1).mono ?_
  rintro e w2 ⟨t1, rfl, k1, g2⟩
  have b2 := b1.trans (g2.bel.mono b1.size)
  have K1 : Hid (InstsIs w2 0 t1 xs) := instsIs_move (Keeps.refl _ _) (Nat.zero_le _) k1
  clear g2 k1 b1
  go_wp2_with fail
  refine (HPS.out _ _ _ K1.out).mono ?_
  rintro e w3 ⟨vw, rfl, hw3, g3⟩
  have b3 := b2.trans (g3.mono b2.size)
  rw [← HN.out] at hw3
  have TW3 : Hid (TrIs w3 0 vw xs N) := hw3.base_le (Nat.zero_le _)
  have HVl : Hid (∀ k, vw.ownBlock = some k → k < w3.heap.size) := fun k hk => (hw3.lt k hk).2
  clear g3 K1 b2 hw3
  go_wp2_with fail
  refine (HTX.out _ b3).mono ?_
  rintro e w4 ⟨x0, rfl, k4, g4⟩
  have b4 := b3.trans (g4.bel.mono b3.size)
  have TW4 : Hid (TrIs w4 0 vw xs N) := TW3.out.later g4.bel
  have X4 : Hid (InstsIs w4 w3.heap.size x0 xs ∧ Plain w3.heap.size w4) := ⟨k4, g4.plain⟩
  have hs34 : w3.heap.size ≤ w4.heap.size := g4.size
  have hb3 : w.heap.size ≤ w3.heap.size := b3.size
  clear g4 k4 b3 TW3
  go_wp2_with fail
  refine (HPI.out _ _ _ X4.out.1).mono ?_
  rintro e w5 ⟨vg, rfl, hg5, g5⟩
  have b5 := b4.trans (g5.mono b4.size)
  rw [← HN.out] at hg5
  have TW5 : Hid (TrIs w5 0 vw xs N) := TW4.out.later g5
  have TG5 : Hid (TrIs w5 w4.heap.size vg xs N) := hg5
  have HG4 : Hid (Below w4.heap.size w4 w5) := g5
  clear g5 b4 TW4 hg5
  go_wp2_with fail
  refine (eq_states vg vw xs N w4.heap.size 0 hNle w5 TG5.out TW5.out).mono ?_
  rintro e w6 ⟨rfl, g6⟩
  have b6 := b5.trans (g6.mono b5.size)
  have TW6 : Hid (TrIs w6 0 vw xs N) := TW5.out.later g6
  have TG6 : Hid (TrIs w6 w4.heap.size vg xs N) := TG5.out.later g6
  have HG6 : Hid (Below w4.heap.size w4 w6) := HG4.out.trans (g6.mono HG4.out.size)
  clear g6 b5 TW5 TG5 HG4
  go_wp2_with fail
  refine (HTX.out _ b6).mono ?_
  rintro e w7 ⟨x2, rfl, k7, g7⟩
  have b7 := b6.trans (g7.bel.mono b6.size)
  have TW7 : Hid (TrIs w7 0 vw xs N) := TW6.out.later g7.bel
  have TG7 : Hid (TrIs w7 w4.heap.size vg xs N) := TG6.out.later g7.bel
  have HG7 : Hid (Below w4.heap.size w4 w7) := HG6.out.trans (g7.bel.mono HG6.out.size)
  have X7 : Hid (InstsIs w7 0 x0 xs) := instsIs_move (Keeps.of_below HG7.out 0) (Nat.zero_le _) (instsIs_move (Keeps.refl _ _) (Nat.zero_le _) X4.out.1)
  have Z7 : Hid (InstsIs w7 0 x2 xs) := instsIs_move (Keeps.refl _ _) (Nat.zero_le _) k7
  clear g7 k7 b6 TW6 TG6 HG6
  go_wp2_with fail
  refine (eq_insts x0 x2 xs xs w7 0 0 X7.out Z7.out).mono ?_
  rintro e w8 ⟨rfl, g8⟩
  rw [eqB_refl]
  have b8 := b7.trans (g8.mono b7.size)
  have TW8 : Hid (TrIs w8 0 vw xs N) := TW7.out.later g8
  have TG8 : Hid (TrIs w8 w4.heap.size vg xs N) := TG7.out.later g8
  have HG8 : Hid (Below w4.heap.size w4 w8) := HG7.out.trans (g8.mono HG7.out.size)
  clear g8 b7 TW7 TG7 HG7 X7 Z7
  go_wp2_with fail
  refine (mark_insts_w w3.heap.size w4.heap.size x0 xs w4 w8 X4.out.1 X4.out.2 (Nat.le_refl _) (WMk.of_below _ _ HG8.out) HBg.out).mono ?_
  rintro e w9 ⟨K, rfl, hK0, g9⟩
  have i2 : ¬ (K < 0) := by omega
  have i2d : decide (K < 0) = false := by simp; omega
  have b9 : Below w.heap.size w w9 := WMk.below b8 g9 hb3 b8.size
  have TW9 : Hid (TrIs w9 0 vw xs N) := TW8.out.marked g9 (fun k hk => .inl (HVl.out k hk))
  have TG9 : Hid (TrIs w9 w4.heap.size vg xs N) := TG8.out.marked g9 (fun k hk => .inr (TG8.out.lt k hk).1)
  clear g9 b8 TW8 TG8 HG8 X4
  go_wp2_with fail
  refine (eq_states vg vw xs N w4.heap.size 0 hNle w9 TG9.out TW9.out).mono ?_
  rintro e wa ⟨rfl, ga⟩
  have ba := b9.trans (ga.mono b9.size)
  have TWa : Hid (TrIs wa 0 vw xs N) := TW9.out.later ga
  have TGa : Hid (TrIs wa w4.heap.size vg xs N) := TG9.out.later ga
  clear ga b9 TW9 TG9
  go_wp2_with fail
  refine (mark_any TGa.out hNle).mono ?_
  rintro e wb ⟨rfl, hMb, gb⟩
  have bb : Below w.heap.size w wb := ba.grown gb ba.size (fun j hj => by have := (TGa.out.lt j hj).1; omega)
  have TWb : Hid (TrIs wb 0 vw xs N) := TWa.out.grown gb (fun k hk e => by have h1 := HVl.out k hk; have h2 := (TGa.out.lt k e.symm).1; omega)
  have Mb : Hid (Marks wb w4.heap.size vg N) := hMb
  clear hMb gb ba TWa TGa
  obtain ⟨M, HM⟩ : ∃ M, Hid (M = 1 + 2 * (N : Int)) := ⟨_, rfl⟩
  have hM0 : 0 ≤ M := by rw [HM.out]; omega
  rw [← HM.out]
  go_wp2_with fail
  refine (held_any Mb.out hNle).mono ?_
  rintro e wc ⟨rfl, rfl⟩
  rw [← HM.out]
  have i3 : ¬ (M < 0) := by omega
  go_wp2_with fail
  refine (HTX.out _ bb).mono ?_
  rintro e wd ⟨t2, rfl, kd, gd⟩
  have bd := bb.trans (gd.bel.mono bb.size)
  have TWd : Hid (TrIs wd 0 vw xs N) := TWb.out.later gd.bel
  have Md : Hid (Marks wd w4.heap.size vg N) := Mb.out.later gd.bel
  have Kd : Hid (InstsIs wd 0 t2 xs) := instsIs_move (Keeps.refl _ _) (Nat.zero_le _) kd
  clear gd kd bb TWb Mb
  go_wp2_with fail
  refine (HPI.out _ _ _ Kd.out).mono ?_
  rintro e wf ⟨vh, rfl, hhf, gf⟩
  rw [← HN.out] at hhf
  have bf := bd.trans (gf.mono bd.size)
  have TWf : Hid (TrIs wf 0 vw xs N) := TWd.out.later gf
  have Mf : Hid (Marks wf w4.heap.size vg N) := Md.out.later gf
  have THf : Hid (TrIs wf 0 vh xs N) := hhf.base_le (Nat.zero_le _)
  clear gf bd TWd Md Kd hhf
  go_wp2_with fail
  refine (eq_states vh vw xs N 0 0 hNle wf THf.out TWf.out).mono ?_
  rintro e wg ⟨rfl, gg⟩
  have bg := bf.trans (gg.mono bf.size)
  have Mg : Hid (Marks wg w4.heap.size vg N) := Mf.out.later gg
  clear gg bf TWf Mf THf
  go_wp2_with fail
  refine (held_any Mg.out hNle).mono ?_
  rintro e wh ⟨rfl, rfl⟩
  rw [← HM.out]
  go_wp2
  go_ret
  exact ⟨rfl, bg⟩
end Go.Proofs.Ytcmmiamnbefefaa
