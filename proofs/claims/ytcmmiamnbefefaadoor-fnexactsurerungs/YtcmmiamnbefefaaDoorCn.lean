/- The law FnExactSureRungs. -/
import Derived.Test.YtcmmiamnbefefaaDoorCm
namespace Go.Proofs.YtcmmiamnbefefaaDoor
open Go.RowKit
set_option linter.unusedVariables false


set_option maxRecDepth 10000 in
set_option maxHeartbeats 4000000 in
theorem law_rungs (v : Value) (w : World) (ha : ∃ xs, InstsIs w 0 v xs) (hT : KT w) (hL : LT w) :
    Calls Tryd.prog 6 #[v] w fun e w' => e = .returned (.bool true) ∧ Below w.heap.size w w' := by
  obtain ⟨xs, hx⟩ := ha
  have HX : Hid (InstsIs w 0 v xs) := hx
  clear hx
  have LX : Hid (∀ W, Below w.heap.size w W → InstsIs W 0 v xs) := fun W g => instsIs_move (Keeps.of_below g 0) (Nat.le_refl _) HX.out
  obtain ⟨p, Hp⟩ : ∃ p, Hid (p = xs.length + (xs.map wI).sum) := ⟨_, rfl⟩
  go_enter Tryd.func6, Tryd.ntmps6
  go_wp2_with fail
  refine (sz_insts 1048576 (by omega) (by omega) v xs w 0 HX.out).mono ?_
  rintro e w1 ⟨rfl, g1⟩
  rw [← Hp.out]
  have b1 : Below w.heap.size w w1 := g1
  clear g1
  by_cases hp : (p : Int) ≤ 1048576
  case neg =>
    rw [szR_no hp]
    go_wp2
    go_ret
    exact ⟨rfl, b1⟩
  rw [szR_yes hp]
  have i1 : ¬ ((1048576 : Int) - p < 0) := by omega
  have HBg : Hid (xs.length + (xs.map wI).sum ≤ 1048576) := (by have := Hp.out; omega : xs.length + (xs.map wI).sum ≤ 1048576)
  have HBd : Hid ((rungsT xs).length ≤ 1000 ∧ (∀ r ∈ rungsT xs, r.length ≤ 1000) ∧ ((rungsT xs).map tR).sum ≤ 4000000) := rungs_bounds HBg.out
  have HTX : Hid (∀ W, Below w.heap.size w W → Calls Tryd.prog 12 #[v] W fun r w' => ∃ v', r = .returned v' ∧ InstsIs w' W.heap.size v' xs ∧ BP W.heap.size W w' ∧ ∃ a, v' = .slice a xs.length xs.length) := fun W g => to_instsQ v xs W 0 (LX.out W g) HBg.out
  have HPS : Hid (∀ W a, InstsIs W 0 (.slice a xs.length xs.length) xs → Calls Tryd.prog 15 #[.slice a xs.length xs.length] W fun e w' => RungsR xs W e w') := fun W a h => rungs_s a xs.length xs W 0 (Nat.le_refl _) h HBg.out
  have HPI : Hid (∀ W v lo, Below w.heap.size w W → InstsIs W lo v xs → Calls Tryd.prog 16 #[v] W fun e w' => RungsR xs W e w') := fun W v lo g h => rungs_i v xs W lo h HBg.out (hT.later g) (hL.later g)
  obtain ⟨rs, HRs⟩ : ∃ r, Hid (r = rungsT xs) := ⟨_, rfl⟩
  rw [← HRs.out] at HBd
  have hnr : rs.length ≤ 1000 := HBd.out.1
  clear LX HX Hp hT hL
  go_wp2_with fail
  refine (HTX.out _ b1).mono ?_
  rintro e w2 ⟨t1, rfl, k1, g2, a2, rfl⟩
  have b2 := b1.trans (g2.bel.mono b1.size)
  have K1 : Hid (InstsIs w2 0 (.slice a2 xs.length xs.length) xs) := instsIs_move (Keeps.refl _ _) (Nat.zero_le _) k1
  have HPS1 : Hid (Calls Tryd.prog 15 #[.slice a2 xs.length xs.length] w2 fun e w' => RungsR xs w2 e w') := HPS.out w2 a2 K1.out
  obtain ⟨xl, Hxl⟩ : ∃ l, Hid (l = xs.length) := ⟨_, rfl⟩
  rw [← Hxl.out] at HPS1 ⊢
  clear g2 k1 b1 K1
  go_wp2_with fail
  refine HPS1.out.mono ?_
  rintro e w3 ⟨Fw, aw, mw, cw, rfl, hw3, hFw, g3⟩
  have b3 := b2.trans (g3.mono b2.size)
  rw [← HRs.out] at hw3
  have TW3 : Hid (SSOwn w3 w2.heap.size Fw (.slice aw mw cw) rs) := hw3
  have HVl : Hid (∀ k ∈ Fw, k < w3.heap.size) := fun k hk => (SSOwn.lt hw3 k hk).2
  clear g3 b2 hw3 HPS1
  go_wp2_with fail
  refine (HTX.out _ b3).mono ?_
  rintro e w4 ⟨x0, rfl, k4, g4, -⟩
  have b4 := b3.trans (g4.bel.mono b3.size)
  have TW4 : Hid (SSOwn w4 w2.heap.size Fw (.slice aw mw cw) rs) := TW3.out.later g4.bel
  have X4 : Hid (InstsIs w4 w3.heap.size x0 xs ∧ Plain w3.heap.size w4) := ⟨k4, g4.plain⟩
  have hs34 : w3.heap.size ≤ w4.heap.size := g4.size
  have hb3 : w.heap.size ≤ w3.heap.size := b3.size
  clear g4 k4 b3 TW3
  go_wp2_with fail
  refine (HPI.out _ _ _ b4 X4.out.1).mono ?_
  rintro e w5 ⟨Fg, ag, mg, cg, rfl, hg5, hFg, g5⟩
  have b5 := b4.trans (g5.mono b4.size)
  rw [← HRs.out] at hg5
  have TW5 : Hid (SSOwn w5 w2.heap.size Fw (.slice aw mw cw) rs) := TW4.out.later g5
  have TG5 : Hid (SSOwn w5 w4.heap.size Fg (.slice ag mg cg) rs) := hg5
  have HG4 : Hid (Below w4.heap.size w4 w5) := g5
  have HFg : Hid (Fg.Nodup) := hFg
  clear g5 b4 TW4 hg5 hFg hFw
  go_wp2_with fail
  refine (eq_ss _ _ rs 0 0 hnr w5 (TG5.out.is (Nat.zero_le _)) (TW5.out.is (Nat.zero_le _))).mono ?_
  rintro e w6 ⟨rfl, g6⟩
  have b6 := b5.trans (g6.mono b5.size)
  have TW6 : Hid (SSOwn w6 w2.heap.size Fw (.slice aw mw cw) rs) := TW5.out.later g6
  have TG6 : Hid (SSOwn w6 w4.heap.size Fg (.slice ag mg cg) rs) := TG5.out.later g6
  have HG6 : Hid (Below w4.heap.size w4 w6) := HG4.out.trans (g6.mono HG4.out.size)
  clear g6 b5 TW5 TG5 HG4
  go_wp2_with fail
  refine (HTX.out _ b6).mono ?_
  rintro e w7 ⟨x2, rfl, k7, g7, -⟩
  have b7 := b6.trans (g7.bel.mono b6.size)
  have TW7 : Hid (SSOwn w7 w2.heap.size Fw (.slice aw mw cw) rs) := TW6.out.later g7.bel
  have TG7 : Hid (SSOwn w7 w4.heap.size Fg (.slice ag mg cg) rs) := TG6.out.later g7.bel
  have HG7 : Hid (Below w4.heap.size w4 w7) := HG6.out.trans (g7.bel.mono HG6.out.size)
  have X7 : Hid (InstsIs w7 0 x0 xs) := instsIs_move (Keeps.of_below HG7.out 0) (Nat.zero_le _) (instsIs_move (Keeps.refl _ _) (Nat.zero_le _) X4.out.1)
  have Z7 : Hid (InstsIs w7 0 x2 xs) := instsIs_move (Keeps.refl _ _) (Nat.zero_le _) k7
  clear g7 k7 b6 TW6 TG6 HG6
  go_wp2_with fail
  refine (eq_insts x0 x2 xs xs w7 0 0 X7.out Z7.out).mono ?_
  rintro e w8 ⟨rfl, g8⟩
  rw [eqB_refl]
  have b8 := b7.trans (g8.mono b7.size)
  have TW8 : Hid (SSOwn w8 w2.heap.size Fw (.slice aw mw cw) rs) := TW7.out.later g8
  have TG8 : Hid (SSOwn w8 w4.heap.size Fg (.slice ag mg cg) rs) := TG7.out.later g8
  have HG8 : Hid (Below w4.heap.size w4 w8) := HG7.out.trans (g8.mono HG7.out.size)
  clear g8 b7 TW7 TG7 HG7 X7 Z7
  go_wp2_with fail
  refine (mark_insts_w w3.heap.size w4.heap.size x0 xs w4 w8 X4.out.1 X4.out.2 (Nat.le_refl _) (WMk.of_below _ _ HG8.out) HBg.out).mono ?_
  rintro e w9 ⟨K, rfl, hK0, g9⟩
  have i2 : ¬ (K < 0) := by omega
  have i2d : decide (K < 0) = false := by simp; omega
  have b9 : Below w.heap.size w w9 := WMk.below b8 g9 hb3 b8.size
  have TW9 : Hid (SSOwn w9 w2.heap.size Fw (.slice aw mw cw) rs) := ss_same TW8.out (fun k hk => g9.out k (SSOwn.lt TW8.out k hk).2 (.inl (HVl.out k hk)))
  have TG9 : Hid (SSOwn w9 w4.heap.size Fg (.slice ag mg cg) rs) := ss_same TG8.out (fun k hk => g9.out k (SSOwn.lt TG8.out k hk).2 (.inr (SSOwn.lt TG8.out k hk).1))
  clear g9 b8 TW8 TG8 HG8 X4
  go_wp2_with fail
  refine (eq_ss _ _ rs 0 0 hnr w9 (TG9.out.is (Nat.zero_le _)) (TW9.out.is (Nat.zero_le _))).mono ?_
  rintro e wa ⟨rfl, ga⟩
  have ba := b9.trans (ga.mono b9.size)
  have TWa : Hid (SSOwn wa w2.heap.size Fw (.slice aw mw cw) rs) := TW9.out.later ga
  have TGa : Hid (SSOwn wa w4.heap.size Fg (.slice ag mg cg) rs) := TG9.out.later ga
  clear ga b9 TW9 TG9
  obtain ⟨L, hL1, hL2, hL3, hL4, hL5⟩ := ss_addr TGa.out HFg.out
  have HOk : Hid (LOk L w4.heap.size wa.heap.size wa) := ⟨hL2, hL3, hL4, by rw [hL1]; exact HBd.out.2.2⟩
  have HSL : Hid (SSL wa L (.slice ag mg cg) rs ∧ L.length = (rs.map tR).sum) := ⟨hL5, hL1⟩
  clear hL1 hL2 hL3 hL4 hL5
  go_wp2_with fail
  refine (mark_ss L w4.heap.size wa.heap.size _ rs wa wa HOk.out HSL.out.1 HSL.out.2 hnr HBd.out.2.1 (MkL.none (WMk.refl _ _ _))).mono ?_
  rintro e wb ⟨rfl, hMb⟩
  have bb : Below w.heap.size w wb := WMk.below ba hMb.wm (by omega) ba.size
  have TWb : Hid (SSOwn wb w2.heap.size Fw (.slice aw mw cw) rs) := ss_same TWa.out (fun k hk => hMb.wm.out k (SSOwn.lt TWa.out k hk).2 (.inl (by have := HVl.out k hk; omega)))
  have Mb : Hid (MkL L L.length w4.heap.size wa.heap.size wa wb) := hMb
  clear hMb ba TWa TGa
  obtain ⟨M, HM⟩ : ∃ M, Hid (M = 1 + (L.length : Int)) := ⟨_, rfl⟩
  have hM0 : 0 ≤ M := by rw [HM.out]; omega
  rw [← HM.out]
  go_wp2_with fail
  refine (held_ss L w4.heap.size wa.heap.size _ rs wa wb HOk.out HSL.out.1 HSL.out.2 hnr HBd.out.2.1 Mb.out).mono ?_
  rintro e wc ⟨rfl, rfl⟩
  rw [← HM.out]
  have i3 : ¬ (M < 0) := by omega
  go_wp2_with fail
  refine (HTX.out _ bb).mono ?_
  rintro e wd ⟨t2, rfl, kd, gd, -⟩
  have bd := bb.trans (gd.bel.mono bb.size)
  have TWd : Hid (SSOwn wd w2.heap.size Fw (.slice aw mw cw) rs) := TWb.out.later gd.bel
  have Md : Hid (MkL L L.length w4.heap.size wa.heap.size wa wd) := Mb.out.later gd.bel
  have Kd : Hid (InstsIs wd 0 t2 xs) := instsIs_move (Keeps.refl _ _) (Nat.zero_le _) kd
  clear gd kd bb TWb Mb
  go_wp2_with fail
  refine (HPI.out _ _ _ bd Kd.out).mono ?_
  rintro e wf ⟨Fh, ah, mh, ch, rfl, hhf, _, gf⟩
  rw [← HRs.out] at hhf
  have bf := bd.trans (gf.mono bd.size)
  have TWf : Hid (SSOwn wf w2.heap.size Fw (.slice aw mw cw) rs) := TWd.out.later gf
  have Mf : Hid (MkL L L.length w4.heap.size wa.heap.size wa wf) := Md.out.later gf
  have THf : Hid (SSIs wf 0 (.slice ah mh ch) rs) := SSOwn.is hhf (Nat.zero_le _)
  clear gf bd TWd Md Kd hhf
  go_wp2_with fail
  refine (eq_ss _ _ rs 0 0 hnr wf THf.out (TWf.out.is (Nat.zero_le _))).mono ?_
  rintro e wg ⟨rfl, gg⟩
  have bg := bf.trans (gg.mono bf.size)
  have Mg : Hid (MkL L L.length w4.heap.size wa.heap.size wa wg) := Mf.out.later gg
  clear gg bf TWf Mf THf
  go_wp2_with fail
  refine (held_ss L w4.heap.size wa.heap.size _ rs wa wg HOk.out HSL.out.1 HSL.out.2 hnr HBd.out.2.1 Mg.out).mono ?_
  rintro e wh ⟨rfl, rfl⟩
  rw [← HM.out]
  go_wp2
  go_ret
  exact ⟨rfl, bg⟩
theorem walk_rungs (v : Value) (w : World) (ha : ∃ xs, InstsIs w 0 v xs) (hL : LT w) (hT : KT w) :
    Calls Tryd.prog 6 #[v] w fun e w' => e = .returned (.bool true) ∧ Below w.heap.size w w' := law_rungs v w ha hT hL
end Go.Proofs.YtcmmiamnbefefaaDoor
