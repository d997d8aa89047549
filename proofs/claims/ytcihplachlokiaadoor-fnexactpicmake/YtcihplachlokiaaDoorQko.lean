/- The law FnExactPicMake: its walk. -/
import Derived.Test.YtcihplachlokiaaDoorQkn
import Derived.Test.YtcihplachlokiaaDoorDe
namespace Go.Proofs.YtcihplachlokiaaDoor
open Go.RowKit Go.Shelf
set_option linter.unusedVariables false
set_option linter.unusedSimpArgs false

set_option maxRecDepth 10000 in
set_option maxHeartbeats 8000000 in
theorem law_pmake (v : Value) (w : World) (ha : ∃ xs, InstsIs w 0 v xs) :
    Calls Tryd.prog 4 #[v] w fun e w' => e = .returned (.bool true) ∧ Below w.heap.size w w' := by
  obtain ⟨xs, hx⟩ := ha
  have HX : Hid (InstsIs w 0 v xs) := hx
  clear hx
  have LX : Hid (∀ W, Below w.heap.size w W → InstsIs W 0 v xs) := fun W g => instsIs_move (Keeps.of_below g 0) (Nat.le_refl _) HX.out
  obtain ⟨p, Hp⟩ : ∃ p, Hid (p = xs.length + (xs.map wI).sum) := ⟨_, rfl⟩
  go_enter Tryd.func4, Tryd.ntmps4
  go_wp2_with fail
  refine (sz_insts 1048576 (by omega) (by omega) v xs w 0 HX.out).mono ?_
  rintro e w1 ⟨rfl, g1⟩
  rw [← Hp.out]
  have b1 : Below w.heap.size w w1 := g1
  clear g1
  by_cases hp : (p : Int) ≤ 1048576
  case neg =>
    rw [szR_no hp]
    go_wp2
    go_ret
    exact ⟨rfl, b1⟩
  rw [szR_yes hp]
  have i1 : ¬ ((1048576 : Int) - p < 0) := by omega
  have hlen : xs.length ≤ 1048576 := by have := Hp.out; omega
  have HBg : Hid (xs.length + (xs.map wI).sum ≤ 1048576) := (by have := Hp.out; omega : xs.length + (xs.map wI).sum ≤ 1048576)
  obtain ⟨N, HN⟩ : ∃ N, Hid (N = (ansL xs).length) := ⟨_, rfl⟩
  obtain ⟨f, Hf⟩ : ∃ f, Hid (f = atL (ansL xs)) := ⟨_, rfl⟩
  obtain ⟨F1, HF1⟩ : ∃ F, Hid (F = (pfT xs).1) := ⟨_, rfl⟩
  obtain ⟨F2, HF2⟩ : ∃ F : Int, Hid (F = ((pfT xs).2 : Nat)) := ⟨_, rfl⟩
  have HNb : Hid (N ≤ 1048576) := (by rw [HN.out]; exact ansL_len xs : N ≤ 1048576)
  have HTX : Hid (∀ W, Below w.heap.size w W → Calls Tryd.prog 11 #[v] W fun r w' => ∃ v', r = .returned v' ∧ InstsIs w' W.heap.size v' xs ∧ BP W.heap.size W w') := fun W g => to_instsP v xs W 0 (LX.out W g) HBg.out
  have HPS : Hid (∀ W v' lo, InstsIs W lo v' xs → Calls Tryd.prog 10 #[v'] W fun e w' => ∃ (a : Option Addr) (c : Nat), e = .returned (.tuple #[.slice a N c, .agg #[.int .i64 F1, .int .i64 F2]]) ∧ Ob w' W.heap.size a N f ∧ Below W.heap.size W w') := fun W v' lo h => by
    obtain ⟨a, c, rfl, _, h2⟩ := slI_of h
    exact (mk_s a c xs.length xs W rfl hlen h2).mono fun e w' h => mkR_u HN.out Hf.out HF1.out HF2.out h
  have HPI : Hid (∀ W v' lo, InstsIs W lo v' xs → Calls Tryd.prog 12 #[v'] W fun e w' => ∃ (a : Option Addr) (c : Nat), e = .returned (.tuple #[.slice a N c, .agg #[.int .i64 F1, .int .i64 F2]]) ∧ Ob w' W.heap.size a N f ∧ Below W.heap.size W w') := fun W v' lo h => by
    obtain ⟨a, c, rfl, _, h2⟩ := slI_of h
    exact (mk_i a c xs.length xs W rfl hlen h2).mono fun e w' h => mkR_u HN.out Hf.out HF1.out HF2.out h
  have HEb : Hid (∀ W a1 a2 c1 c2, Bt W a1 N f → Bt W a2 N f → Calls Tryd.prog 13 #[.slice a1 N c1, .slice a2 N c2] W fun e w' => e = .returned (.bool true) ∧ Below W.heap.size W w') := fun W a1 a2 c1 c2 h1 h2 => eq_bytes a1 a2 N c1 c2 f W h1 h2 HNb.out
  have HEf : Hid (∀ W, Calls Tryd.prog 14 #[.agg #[.int .i64 F1, .int .i64 F2], .agg #[.int .i64 F1, .int .i64 F2]] W fun e w' => e = .returned (.bool true) ∧ Below W.heap.size W w') := fun W => eq_pf F1 F2 W
  clear LX HX Hp hlen HN Hf HF1 HF2 hp
  go_wp2_with fail
  refine (HTX.out _ b1).mono ?_
  rintro e w2 ⟨t1, rfl, k1, g2⟩
  have b2 : Hid (Below w.heap.size w w2) := b1.trans (g2.bel.mono b1.size)
  have HC1 : Hid (Calls Tryd.prog 10 #[t1] w2 fun e w' => ∃ (a : Option Addr) (c : Nat), e = .returned (.tuple #[.slice a N c, .agg #[.int .i64 F1, .int .i64 F2]]) ∧ Ob w' w2.heap.size a N f ∧ Below w2.heap.size w2 w') := HPS.out w2 t1 _ k1
  clear g2 k1 b1 HPS
  go_wp2_with fail
  refine HC1.out.mono ?_
  rintro e w3 ⟨aw, cw, rfl, o3, g3⟩
  have gA3 : Below w3.heap.size w3 (w3.alloc (.cells #[.int .i64 F1, .int .i64 F2] 26)) := (Below.refl _ _).alloc (Nat.le_refl _) _
  have b3 : Hid (Below w.heap.size w (w3.alloc (.cells #[.int .i64 F1, .int .i64 F2] 26))) := b2.out.trans ((g3.trans (gA3.mono g3.size)).mono b2.out.size)
  have W3 : Hid (PA w3.heap.size w2.heap.size F1 F2 aw N f (w3.alloc (.cells #[.int .i64 F1, .int .i64 F2] 26))) := ⟨o3.later gA3, heap_alloc_last _ _⟩
  have hs3 : (w3.alloc (.cells #[.int .i64 F1, .int .i64 F2] 26)).heap.size = w3.heap.size + 1 := by simp
  have HLw : Hid (∀ g, aw = some ⟨g, 0, none⟩ → g < w3.heap.size) := (fun g hg => (ob_lt o3 g hg).2 : ∀ g, aw = some ⟨g, 0, none⟩ → g < w3.heap.size)
  have hw3 : w.heap.size ≤ w3.heap.size := (b2.out.trans (g3.mono b2.out.size)).size
  clear g3 gA3 o3 b2 HC1
  go_wp2_with fail
  refine (HTX.out _ b3.out).mono ?_
  rintro e w4 ⟨x0, rfl, k4, g4⟩
  have b4 : Hid (Below w.heap.size w w4) := b3.out.trans (g4.bel.mono b3.out.size)
  have W4 : Hid (PA w3.heap.size w2.heap.size F1 F2 aw N f w4) := W3.out.later g4.bel
  have hs4 : w3.heap.size + 1 ≤ w4.heap.size := by rw [← hs3]; exact g4.size
  have X4 : Hid (InstsIs w4 (w3.heap.size + 1) x0 xs ∧ Plain (w3.heap.size + 1) w4) := ⟨by rw [← hs3]; exact k4, by rw [← hs3]; exact g4.plain⟩
  have HC2 : Hid (Calls Tryd.prog 12 #[x0] w4 fun e w' => ∃ (a : Option Addr) (c : Nat), e = .returned (.tuple #[.slice a N c, .agg #[.int .i64 F1, .int .i64 F2]]) ∧ Ob w' w4.heap.size a N f ∧ Below w4.heap.size w4 w') := HPI.out w4 x0 _ k4
  clear g4 k4 b3 W3
  go_wp2_with fail
  refine HC2.out.mono ?_
  rintro e w5 ⟨ag, cg, rfl, o5, g5⟩
  have gA5 : Below w5.heap.size w5 (w5.alloc (.cells #[.int .i64 F1, .int .i64 F2] 26)) := (Below.refl _ _).alloc (Nat.le_refl _) _
  have E5 : Hid (Below w4.heap.size w4 (w5.alloc (.cells #[.int .i64 F1, .int .i64 F2] 26))) := g5.trans (gA5.mono g5.size)
  have b5 : Hid (Below w.heap.size w (w5.alloc (.cells #[.int .i64 F1, .int .i64 F2] 26))) := b4.out.trans (E5.out.mono b4.out.size)
  have W5 : Hid (PA w3.heap.size w2.heap.size F1 F2 aw N f (w5.alloc (.cells #[.int .i64 F1, .int .i64 F2] 26))) := W4.out.later E5.out
  have G5 : Hid (PA w5.heap.size w4.heap.size F1 F2 ag N f (w5.alloc (.cells #[.int .i64 F1, .int .i64 F2] 26))) := ⟨o5.later gA5, heap_alloc_last _ _⟩
  have HLg : Hid (∀ g, ag = some ⟨g, 0, none⟩ → w4.heap.size ≤ g ∧ g < w5.heap.size) := (fun g hg => ob_lt o5 g hg : ∀ g, ag = some ⟨g, 0, none⟩ → w4.heap.size ≤ g ∧ g < w5.heap.size)
  have hs5 : w4.heap.size ≤ w5.heap.size := g5.size
  have HOb : Hid (∀ g, (Value.slice ag N cg).ownBlock = some g → ag = some ⟨g, 0, none⟩) := (fun g hg => by
    rcases o5 with ⟨h, _⟩ | ⟨g', h, _, _⟩
    · rw [h] at hg; simp [Value.ownBlock] at hg
    · rw [h] at hg; simp [Value.ownBlock] at hg; rw [h, hg] : ∀ g, (Value.slice ag N cg).ownBlock = some g → ag = some ⟨g, 0, none⟩)
  obtain ⟨B5, hB5⟩ : ∃ B, w5.heap.size = B := ⟨_, rfl⟩
  rw [hB5] at G5 HLg hs5
  clear g5 gA5 o5 b4 W4 HC2
  obtain ⟨p0, p1, p2⟩ := W5.out.cells
  obtain ⟨q0, q1, q2⟩ := G5.out.cells
  go_wp2_with fail
  generalize (w5.alloc (.cells #[.int .i64 F1, .int .i64 F2] 26)) = w6 at E5 b5 W5 G5 p0 p1 p2 q0 q1 q2 ⊢
  refine (HEb.out w6 _ _ _ _ G5.out.1.bt W5.out.1.bt).mono ?_
  rintro e w7 ⟨rfl, g7⟩
  have b7 : Hid (Below w.heap.size w w7) := b5.out.trans (g7.mono b5.out.size)
  have E7 : Hid (Below w4.heap.size w4 w7) := E5.out.trans (g7.mono E5.out.size)
  have W7 : Hid (PA w3.heap.size w2.heap.size F1 F2 aw N f w7) := W5.out.later g7
  have G7 : Hid (PA B5 w4.heap.size F1 F2 ag N f w7) := G5.out.later g7
  clear g7 b5 E5 W5 G5 p0 p1 p2 q0 q1 q2 hB5
  obtain ⟨p0, p1, p2⟩ := W7.out.cells
  obtain ⟨q0, q1, q2⟩ := G7.out.cells
  go_wp2_with fail
  refine (HEf.out _).mono ?_
  rintro e w8 ⟨rfl, g8⟩
  have b8 : Hid (Below w.heap.size w w8) := b7.out.trans (g8.mono b7.out.size)
  have E8 : Hid (Below w4.heap.size w4 w8) := E7.out.trans (g8.mono E7.out.size)
  have W8 : Hid (PA w3.heap.size w2.heap.size F1 F2 aw N f w8) := W7.out.later g8
  have G8 : Hid (PA B5 w4.heap.size F1 F2 ag N f w8) := G7.out.later g8
  clear g8 b7 E7 W7 G7 p0 p1 p2 q0 q1 q2
  go_wp2_with fail
  refine (HTX.out _ b8.out).mono ?_
  rintro e w9 ⟨x2, rfl, k9, g9⟩
  have b9 : Hid (Below w.heap.size w w9) := b8.out.trans (g9.bel.mono b8.out.size)
  have E9 : Hid (Below w4.heap.size w4 w9) := E8.out.trans (g9.bel.mono E8.out.size)
  have W9 : Hid (PA w3.heap.size w2.heap.size F1 F2 aw N f w9) := W8.out.later g9.bel
  have G9 : Hid (PA B5 w4.heap.size F1 F2 ag N f w9) := G8.out.later g9.bel
  have X9 : Hid (InstsIs w9 0 x0 xs ∧ InstsIs w9 0 x2 xs) := ⟨instsIs_move (Keeps.of_below E9.out 0) (Nat.zero_le _) (instsIs_move (Keeps.refl _ _) (Nat.zero_le _) X4.out.1), instsIs_move (Keeps.refl _ _) (Nat.zero_le _) k9⟩
  clear g9 k9 b8 E8 W8 G8
  go_wp2_with fail
  refine (eq_insts x0 x2 xs xs w9 0 0 X9.out.1 X9.out.2).mono ?_
  rintro e wa ⟨rfl, ga⟩
  rw [eqB_refl]
  have ba : Hid (Below w.heap.size w wa) := b9.out.trans (ga.mono b9.out.size)
  have Ea : Hid (Below w4.heap.size w4 wa) := E9.out.trans (ga.mono E9.out.size)
  have Wa : Hid (PA w3.heap.size w2.heap.size F1 F2 aw N f wa) := W9.out.later ga
  have Ga : Hid (PA B5 w4.heap.size F1 F2 ag N f wa) := G9.out.later ga
  clear ga b9 E9 W9 G9 X9
  go_wp2_with fail
  refine (mark_insts_w (w3.heap.size + 1) w4.heap.size x0 xs w4 wa X4.out.1 X4.out.2 (Nat.le_refl _) (WMk.of_below _ _ Ea.out) HBg.out).mono ?_
  rintro e wb ⟨K, rfl, hK0, gb⟩
  have i2 : ¬ (K < 0) := by omega
  have bb : Hid (Below w.heap.size w wb) := WMk.below ba.out gb (by omega) ba.out.size
  have Wb : Hid (PA w3.heap.size w2.heap.size F1 F2 aw N f wb) := Wa.out.same fun g hg => gb.out g (by
    rcases hg with h | h
    · exact (ob_lt Wa.out.1 g h).2
    · rw [h]; exact Wa.out.cells.2.2) (.inl (by
    rcases hg with h | h
    · have := HLw.out g h; omega
    · omega))
  have Gb : Hid (PA B5 w4.heap.size F1 F2 ag N f wb) := Ga.out.same fun g hg => gb.out g (by
    rcases hg with h | h
    · exact (ob_lt Ga.out.1 g h).2
    · rw [h]; exact Ga.out.cells.2.2) (.inr (by
    rcases hg with h | h
    · exact (HLg.out g h).1
    · omega))
  clear gb ba Ea Wa Ga X4
  obtain ⟨p0, p1, p2⟩ := Wb.out.cells
  obtain ⟨q0, q1, q2⟩ := Gb.out.cells
  go_wp2_with fail
  refine (HEb.out wb _ _ _ _ Gb.out.1.bt Wb.out.1.bt).mono ?_
  rintro e wc ⟨rfl, gc⟩
  have bc : Hid (Below w.heap.size w wc) := bb.out.trans (gc.mono bb.out.size)
  have Wc : Hid (PA w3.heap.size w2.heap.size F1 F2 aw N f wc) := Wb.out.later gc
  have Gc : Hid (PA B5 w4.heap.size F1 F2 ag N f wc) := Gb.out.later gc
  clear gc bb Wb Gb p0 p1 p2 q0 q1 q2
  obtain ⟨p0, p1, p2⟩ := Wc.out.cells
  obtain ⟨q0, q1, q2⟩ := Gc.out.cells
  go_wp2_with fail
  refine (HEf.out _).mono ?_
  rintro e wd ⟨rfl, gd⟩
  have bd : Hid (Below w.heap.size w wd) := bc.out.trans (gd.mono bc.out.size)
  have Wd : Hid (PA w3.heap.size w2.heap.size F1 F2 aw N f wd) := Wc.out.later gd
  have Gd : Hid (PA B5 w4.heap.size F1 F2 ag N f wd) := Gc.out.later gd
  clear gd bc Wc Gc p0 p1 p2 q0 q1 q2
  go_wp2_with fail
  refine (mark_ob w4.heap.size ag N cg f _ Gd.out.1 HNb.out).mono ?_
  rintro e we ⟨rfl, qe, ge⟩
  have hown : ∀ g, (Value.slice ag N cg).ownBlock = some g → w4.heap.size ≤ g ∧ g < B5 := fun g hg => HLg.out g (HOb.out g hg)
  have be : Hid (Below w.heap.size w we) := bd.out.grown ge bd.out.size (fun j hj => by have := (hown j hj).1; omega)
  have We : Hid (PA w3.heap.size w2.heap.size F1 F2 aw N f we) := Wd.out.same fun g hg => ge.block g (by
    rcases hg with h | h
    · exact (ob_lt Wd.out.1 g h).2
    · rw [h]; exact Wd.out.cells.2.2) (fun e => by
    have h1 := (hown g e.symm).1
    rcases hg with h | h
    · have := HLw.out g h; omega
    · omega)
  have Me : Hid (Ob we w4.heap.size ag N mk8) := qe
  have j1 : ¬ (1 + (N : Int) < 0) := by omega
  have j2 : (1 + (N : Int) != 1 + (N : Int)) = false := by simp
  clear ge qe bd Wd Gd hown
  go_wp2_with fail
  refine (held_ob w4.heap.size ag N cg _ Me.out HNb.out).mono ?_
  rintro e wf ⟨rfl, gf⟩
  have bf : Hid (Below w.heap.size w wf) := be.out.trans (gf.mono be.out.size)
  have Wf : Hid (PA w3.heap.size w2.heap.size F1 F2 aw N f wf) := We.out.later gf
  have Mf : Hid (Ob wf w4.heap.size ag N mk8) := Me.out.later gf
  clear gf be We Me
  go_wp2_with fail
  refine (HTX.out _ bf.out).mono ?_
  rintro e wg ⟨x3, rfl, kg, gg⟩
  have bg : Hid (Below w.heap.size w wg) := bf.out.trans (gg.bel.mono bf.out.size)
  have Wg : Hid (PA w3.heap.size w2.heap.size F1 F2 aw N f wg) := Wf.out.later gg.bel
  have Mg : Hid (Ob wg w4.heap.size ag N mk8) := Mf.out.later gg.bel
  have HC3 : Hid (Calls Tryd.prog 12 #[x3] wg fun e w' => ∃ (a : Option Addr) (c : Nat), e = .returned (.tuple #[.slice a N c, .agg #[.int .i64 F1, .int .i64 F2]]) ∧ Ob w' wg.heap.size a N f ∧ Below wg.heap.size wg w') := HPI.out wg x3 _ kg
  clear gg kg bf Wf Mf HTX
  go_wp2_with fail
  refine HC3.out.mono ?_
  rintro e wh ⟨ah, ch, rfl, oh, gh⟩
  have gAh : Below wh.heap.size wh (wh.alloc (.cells #[.int .i64 F1, .int .i64 F2] 26)) := (Below.refl _ _).alloc (Nat.le_refl _) _
  have gH := gh.trans (gAh.mono gh.size)
  have bh : Hid (Below w.heap.size w (wh.alloc (.cells #[.int .i64 F1, .int .i64 F2] 26))) := bg.out.trans (gH.mono bg.out.size)
  have Wh : Hid (PA w3.heap.size w2.heap.size F1 F2 aw N f (wh.alloc (.cells #[.int .i64 F1, .int .i64 F2] 26))) := Wg.out.later gH
  have Mh : Hid (Ob (wh.alloc (.cells #[.int .i64 F1, .int .i64 F2] 26)) w4.heap.size ag N mk8) := Mg.out.later gH
  have Hh : Hid (PA wh.heap.size wg.heap.size F1 F2 ah N f (wh.alloc (.cells #[.int .i64 F1, .int .i64 F2] 26))) := ⟨oh.later gAh, heap_alloc_last _ _⟩
  obtain ⟨Bh, hBh⟩ : ∃ B, wh.heap.size = B := ⟨_, rfl⟩
  rw [hBh] at Hh
  clear gAh gH gh oh bg Wg Mg HC3
  obtain ⟨p0, p1, p2⟩ := Wh.out.cells
  obtain ⟨q0, q1, q2⟩ := Hh.out.cells
  go_wp2_with fail
  generalize (wh.alloc (.cells #[.int .i64 F1, .int .i64 F2] 26)) = wi at bh Wh Mh Hh p0 p1 p2 q0 q1 q2 ⊢
  refine (HEb.out wi _ _ _ _ Hh.out.1.bt Wh.out.1.bt).mono ?_
  rintro e wj ⟨rfl, gj⟩
  have bj : Hid (Below w.heap.size w wj) := bh.out.trans (gj.mono bh.out.size)
  have Wj : Hid (PA w3.heap.size w2.heap.size F1 F2 aw N f wj) := Wh.out.later gj
  have Hj : Hid (PA Bh wg.heap.size F1 F2 ah N f wj) := Hh.out.later gj
  have Mj : Hid (Ob wj w4.heap.size ag N mk8) := Mh.out.later gj
  clear gj bh Wh Mh Hh p0 p1 p2 q0 q1 q2 hBh
  obtain ⟨p0, p1, p2⟩ := Wj.out.cells
  obtain ⟨q0, q1, q2⟩ := Hj.out.cells
  go_wp2_with fail
  refine (HEf.out _).mono ?_
  rintro e wk ⟨rfl, gk⟩
  have bk : Hid (Below w.heap.size w wk) := bj.out.trans (gk.mono bj.out.size)
  have Mk : Hid (Ob wk w4.heap.size ag N mk8) := Mj.out.later gk
  clear gk bj Wj Hj Mj p0 p1 p2 q0 q1 q2
  go_wp2_with fail
  refine (held_ob w4.heap.size ag N cg _ Mk.out HNb.out).mono ?_
  rintro e wl ⟨rfl, gl⟩
  have bl := bk.out.trans (gl.mono bk.out.size)
  clear gl bk Mk
  go_wp2
  go_ret
  exact ⟨rfl, bl⟩
theorem walk_pmake (v : Value) (w : World) (ha : ∃ xs, InstsIs w 0 v xs) (_ : KT w) :
    Calls Tryd.prog 4 #[v] w fun e w' => e = .returned (.bool true) ∧ Below w.heap.size w w' := law_pmake v w ha
end Go.Proofs.YtcihplachlokiaaDoor
