/- A list is spoilt. -/
import Derived.Test.YtcihplachlokiaaGreatDoorYlM
import Derived.Test.YtcihplachlokiaaGreatDoorEz
namespace Go.Proofs.YtcihplachlokiaaGreatDoor.Rr
open Go.RowKit
set_option linter.unusedVariables false
variable {LB : Nat}

set_option maxRecDepth 10000 in
set_option maxHeartbeats 8000000 in
theorem lspoil_r (hLB : LB ≤ 1) (NN : Nat) (hN : 1100 ≤ NN) (hN9 : NN ≤ 8000) (w : World) (B R p H : Nat) (h : Reader B w R p) (hBH : B ≤ H) (hHw : H ≤ w.heap.size) (a : Option Addr) (n cap : Nat) (xs : List InstT) (hn : Hid (n = xs.length)) (hn2 : n ≤ NN) (hx : RD LB w H R (.slice a n cap) xs) (hx8 : Hid (∀ x ∈ xs, x.one.args.length ≤ LB + 8)) (hp : p < 9500000) :
    Calls Tryz.prog 14 #[.pointer (some ⟨R, 0, none⟩), .slice a n cap] w fun e w' => ListH LB H w B R p (NN + 1) 1500 e w' := by
  have hinfo : (Tryz.prog.info? 44).map (fun i => (i.zero, i.size, i.bytes)) = some (some (.agg #[.int .i64 0, .int .i64 0, .slice none 0 0]), 3, 40) := by kernel_rfl
  obtain ⟨ti, hi, hzz⟩ := Option.map_eq_some_iff.1 hinfo
  simp only [Prod.mk.injEq] at hzz
  obtain ⟨hz0, hz1, hz2⟩ := hzz
  have HI : Hid (Tryz.prog.info? 44 = some ti ∧ ti.zero = some (.agg #[.int .i64 0, .int .i64 0, .slice none 0 0]) ∧ ti.size = 3 ∧ ti.bytes = 40) := ⟨hi, hz0, hz1, hz2⟩
  clear hi hz0 hz1 hz2 hinfo
  have hRB := h.1
  obtain ⟨cs, hcl, hone, hown, hefi⟩ := hx.cells
  have hnl := hn.out
  have own0 : (w.alloc (.cells #[] 44)).ownsRow H 44 3 (.slice (some ⟨w.heap.size, 0, none⟩) 0 0) 0 [] := World.ownsRow_made (base := H) (e := 44) (size := 3) w #[] 0 hHw (by unfold maxLen; omega) rfl
  obtain ⟨g, cp, w1, hr1, own1, gg1, hg1⟩ := app_list (w.alloc (.cells #[] 44)) H w.heap.size 0 0 n cap [] cs a own0 (by rw [hcl, hnl]) hone (by omega) (by simp; omega) (fun h0 => by
    rcases hown.2 with ⟨_, hz⟩ | ⟨g', cap', cur, e', hb, hgg, _⟩
    · omega
    · simp only [Value.slice.injEq] at e'
      obtain ⟨rfl, _, _⟩ := e'
      refine ⟨g', 0, rfl, fun j u hu => ?_⟩
      have := hown.cells (g := g') rfl j u hu
      rw [show (⟨g', 0, none⟩ : Addr).add j = ⟨g', 0 + j, none⟩ from Addr.add_mid g' 0 j] at this
      exact (Keeps.of_below ((Below.refl _ _).alloc (Nat.le_refl _) _) 0) _ _ _ (Nat.zero_le _) this)
  simp only [Nat.zero_add, List.nil_append] at hr1 own1
  have B1 : Below w.heap.size w w1 := ((Below.refl _ _).alloc (Nat.le_refl _) _).grown gg1 (by simp) (fun j hj => by cases hj; omega)
  have hgw : w.heap.size ≤ g := by
    rcases hg1 with h | h
    · omega
    · simp at h; omega
  have HO1 : Hid (OS LB w B R H w1 p g n cp xs) := ⟨h.later B1, gb_below' (gb_refl _ _) B1, hnl, ⟨hgw, by omega⟩, by
    have := RD.copied hefi B1 (by rw [← hnl]; exact own1) hgw (by omega)
    rw [hnl]; exact this⟩
  have HR1 : Hid (∀ ty, (Builtin.append_ #[23, 23] ty #[.slice (some ⟨w.heap.size, 0, none⟩) 0 0, .slice a n cap]).run Tryz.prog (w.alloc (.cells #[] 44)) = .ok (.slice (some ⟨g, 0, none⟩) n cp) w1) := hr1
  have HPk : Hid (∀ (W : World) (N : Int) (q n : Nat) (ys : List InstT), OS LB w B R H W q g n cp ys → 1 ≤ N → N ≤ 10000000 → q < 10000000 → Calls Tryz.prog 13 #[.pointer (some ⟨R, 0, none⟩), .int .i64 N] W fun e w' => ∃ r : Nat, (r : Int) < N ∧ e = .returned (.int .i64 r) ∧ OS LB w B R H w' (q + 1) g n cp ys) :=
    fun W N q n ys hO h1 h2 h3 => (pick_r B R q N W hO.1 h1 h2 h3).mono fun e w' ⟨r, r1, e1, hr, gr⟩ => ⟨r, r1, e1, hO.move gr hr⟩
  clear hr1 own1 gg1 hg1 own0 hown hefi hone hcl hx h hnl B1
  by_cases hn0 : n = 0
  · subst hn0
    go_enter Tryz.func14, Tryz.ntmps14
    go_wp2_with (at_builtin; refine wpList_app_run rfl _ _ 23 rfl _ _ rfl rfl _ _ HR1.out ?_)
    clear HR1
    refine (inst_r (LB := LB) B R p _ HO1.out.1 (by omega)).mono ?_
    rintro e w4 ⟨⟨c, op, b, len, bc, ys, rfl, hl, ⟨hbc, _⟩, hf, O⟩, ⟨q, hq, h4⟩, g4⟩
    have hO4 : OS LB w B R H w4 q g 0 cp xs := HO1.out.move g4 h4
    have hlt1 := HO1.out.lt
    have hs4 := g4.size
    obtain ⟨cs4, hcl4, hone4, hown4, hefi4⟩ := hO4.2.2.2.2.cells
    have hx0 : xs = [] := List.length_eq_zero_iff.1 hO4.2.2.1.symm
    subst hx0
    have own5 : (w4.alloc (.cells #[.int .i64 c, .int .i64 op, .slice b len bc] 44)).ownsRow H 44 3 (.slice (some ⟨g, 0, none⟩) 0 cp) 0 cs4 := World.ownsRow.alloc hown4 _
    have news5 := news_of w4 [.int .i64 c, .int .i64 op, .slice b len bc] 44
    have HY : Hid (∀ (w5 : World) (g1 cap1 : Nat), w5.ownsRow H 44 3 (.slice (some ⟨g1, 0, none⟩) (0 + 1) cap1) (0 + 1) (cs4 ++ [.int .i64 c, .int .i64 op, .slice b len bc]) → (w4.alloc (.cells #[.int .i64 c, .int .i64 op, .slice b len bc] 44)).grownBy w5 (Value.slice (some ⟨g, 0, none⟩) 0 cp).ownBlock → ((Value.slice (some ⟨g, 0, none⟩) 0 cp).ownBlock = some g1 ∨ g1 = w4.heap.size + 1) →
        ListH LB H w B R p (NN + 1) 1500 (.returned (.slice (some ⟨g1, 0, none⟩) (0 + 1) cap1)) w5) := fun w5 g1 cap1 o5 g5 hat => by
      obtain ⟨r1, r2, r3⟩ := RD.inst (w := w) (W := w1) (W' := w4) (xs := []) (n := 0) (cap := cp) (sa := some ⟨g, 0, none⟩) (c := c) (op := op) (ys := ys) hRB hBH (by omega) hO4.2.2.2.2.1 hefi4 (fun k hk => by cases hk; exact hlt1) hl.out hbc hf O h4 hO4.2.1 (by omega) (fun k hk => by cases hk; exact hgw) o5 g5 hat hs4
      exact ⟨_, 0 + 1, cap1, q, _, rfl, (by show 0 + 1 = _; rfl), by omega, by omega, r1, r2, r3⟩
    clear HO1 hO4 hcl4 hone4 hown4 hefi4 O hf h4 g4
    go_wp2_with (at_builtin; refine wpList_append_lies _ rfl _ _ 23 rfl H 44 ti (.agg #[.int .i64 0, .int .i64 0, .slice none 0 0]) 3 40 Tryz.underlying23 HI.out.1 HI.out.2.1 HI.out.2.2.1 HI.out.2.2.2 rfl (by decide) _ 0 cs4 rfl own5 ⟨w4.heap.size, 0, none⟩ 1 1 [.int .i64 c, .int .i64 op, .slice b len bc] rfl rfl news5 ?c2 (by omega) ?c3 ?c4 ?c5 _ rfl ?_)
    case c2 => first | (intro u hu; simp at hu; rcases hu with rfl | rfl | rfl <;> rfl) | exact ⟨rfl, rfl, rfl⟩
    case c3 => unfold maxLen; omega
    case c4 => omega
    case c5 => first | omega | (simp; omega)
    intro g8 cap8 w8 own8 gg8 hat8 hlt8
    have HF : Hid (ListH LB H w B R p (NN + 1) 1500 (.returned (.slice (some ⟨g8, 0, none⟩) (0 + 1) cap8)) w8) := HY.out w8 g8 cap8 own8 gg8 (by simpa using hat8)
    clear own5 news5 own8 gg8 hat8 hlt8 HY
    go_wp2
    go_ret
    exact HF.out
  have i0 : ((n : Int) == 0) = false := by simp; omega
  go_enter Tryz.func14, Tryz.ntmps14
  go_wp2_with (at_builtin; refine wpList_app_run rfl _ _ 23 rfl _ _ rfl rfl _ _ HR1.out ?_)
  clear HR1
  refine (HPk.out _ (n : Int) _ _ _ HO1.out (by omega) (by omega) (by omega)).mono ?_
  rintro e w2 ⟨k, hk, rfl, hO2⟩
  go_wp2_with fail
  refine (HPk.out _ 9 _ _ _ hO2 (by omega) (by omega) (by omega)).mono ?_
  rintro e w3 ⟨r, hr, rfl, hO3⟩
  have HO : Hid (OS LB w B R H w3 (p + 1 + 1) g n cp xs) := hO3
  clear hO2 hO3 HO1
  have hkn : k < n := by omega
  have i1 : (k : Int) < (n : Int) := by omega
  have i2 : (0 : Int) ≤ (k : Int) := by omega
  have hgl := HO.out.lt
  have hcap : n ≤ cp := by
    obtain ⟨g', cap', c, e, hc, _⟩ := HO.out.2.2.2.2.cell k _ (List.getElem?_eq_getElem (by have := hn.out; omega))
    simp only [Value.slice.injEq] at e
    have := hn.out
    omega
  have hr2 : r = 0 ∨ r = 1 ∨ r = 2 ∨ r = 3 ∨ r = 4 ∨ r = 5 ∨ r = 6 ∨ r = 7 ∨ r = 8 := by omega
  rcases hr2 with rfl | rfl | rfl | rfl | rfl | rfl | rfl | rfl | rfl
  · clear HI
    have hO4 : OS LB w B R H w3.drew (p + 1 + 1) g n cp xs := HO.out.move (gb_drew (gb_refl _ _)) HO.out.1.drew
    have hkc : k ≤ cp := by omega
    obtain ⟨K1, HK1⟩ : ∃ q, Hid (q = k + 1) := ⟨_, rfl⟩
    have hw1 : IntKind.i64.wrap ((k : Int) + 1) = (K1 : Int) := by have := HK1.out; rw [IntKind.wrap_i64]; omega
    have hK1 : K1 ≤ n := by have := HK1.out; omega
    by_cases hcp : cp = K1
    · have hnK : n = K1 := by have := HK1.out; omega
      have HF : Hid (ListH LB H w B R p (NN + 1) 1500 (.returned (.slice (some ⟨g, 0, none⟩) k cp)) w3.drew) := (hO4.take k (by omega)).ret (by omega) (by omega)
      clear HO hO4 hcap
      subst hcp
      subst hnK
      go_wp2_with fail
      go_region_law (first | fail)
      all_goals go_wp2
      all_goals go_ret
      all_goals exact HF.out
    obtain ⟨g1, cap1, W1, hr1, hO1⟩ := hO4.cut k hkn (by omega) (cp - (k + 1)) (some ⟨g, (k + 1) * 3, none⟩) (fun _ => rfl)
    rw [← HK1.out] at hr1 hO1
    have HR1' : Hid (∀ ty, (Builtin.append_ #[23, 23] ty #[.slice (some ⟨g, 0, none⟩) k cp, .slice (some ⟨g, K1 * 3, none⟩) (n - K1) (cp - K1)]).run Tryz.prog w3.drew = .ok (.slice (some ⟨g1, 0, none⟩) (k + (n - K1)) cap1) W1) := hr1
    have HF : Hid (ListH LB H w B R p (NN + 1) 1500 (.returned (.slice (some ⟨g1, 0, none⟩) (k + (n - K1)) cap1)) W1) := hO1.ret (by have := HK1.out; omega) (by omega)
    clear HO hO4 hr1 hO1
    go_wp2_with fail
    go_region_law
      (first
        | (refine step_app_run (by rfl) (.tmp 37) (.tmp 41) 23 (by rfl) (.slice (some ⟨g, 0, none⟩) k cp) (.slice (some ⟨g, K1 * 3, none⟩) (n - K1) (cp - K1)) (by simp [Act.eval, Act.put]) (by simp [Act.eval, Act.put]) (.slice (some ⟨g1, 0, none⟩) (k + (n - K1)) cap1) W1 HR1'.out ?_)
        | fail)
    all_goals go_wp2
    all_goals go_ret
    all_goals exact HF.out
  · clear HI
    have hO4 : OS LB w B R H w3.drew (p + 1 + 1) g n cp xs := HO.out.move (gb_drew (gb_refl _ _)) HO.out.1.drew
    obtain ⟨g4, cap4, W4, hr4, hP4, hB4, hg4⟩ := hO4.split k (by omega) (by omega)
    have HR4 : Hid (∀ ty, (Builtin.append_ #[23, 23] ty #[.slice (some ⟨w3.heap.size, 0, none⟩) 0 0, .slice (some ⟨g, 0, none⟩) k cp]).run Tryz.prog (w3.drew.alloc (.cells #[] 44)) = .ok (.slice (some ⟨g4, 0, none⟩) k cap4) W4) := hr4
    have HRd : Hid (Reader B W4 R (p + 1 + 1)) := hP4.1
    have HJ : Hid (∀ (w5 : World) (q : Nat) (c op : Int) (b : Option Addr) (len bc : Nat) (ys : List Arg), Hid (len = ys.length) → len ≤ bc → Fin1 LB ⟨c, ⟨op, ys⟩⟩ → Own w5 W4.heap.size b ys → q ≤ p + 1 + 1 + 70 → Reader B w5 R q → W4.grownBy w5 (some R) →
        ∃ (g6 cap6 : Nat) (W6 : World), (∀ ty, (Builtin.append_ #[23, 23] ty #[.slice (some ⟨g4, 0, none⟩) k cap4, .slice (some ⟨w5.heap.size, 0, none⟩) 1 1]).run Tryz.prog (w5.alloc (.cells #[.int .i64 c, .int .i64 op, .slice b len bc] 44)) = .ok (.slice (some ⟨g6, 0, none⟩) (k + 1) cap6) W6) ∧
        ∃ (g7 cap7 : Nat) (W7 : World), (∀ ty, (Builtin.append_ #[23, 23] ty #[.slice (some ⟨g6, 0, none⟩) (k + 1) cap6, .slice (some ⟨g, k * 3, none⟩) (n - k) (cp - k)]).run Tryz.prog W6 = .ok (.slice (some ⟨g7, 0, none⟩) (k + 1 + (n - k)) cap7) W7) ∧ ListH LB H w B R p (NN + 1) 1500 (.returned (.slice (some ⟨g7, 0, none⟩) (k + 1 + (n - k)) cap7)) W7) := by
      intro w5 q c op b len bc ys hl hbc hf O hq h5 g5
      have hl4 := hP4.lt
      have hE : EF LB w5 H (fun b => b ≠ R ∧ some b ≠ some g4) ⟨c, ⟨op, ys⟩⟩ [.int .i64 c, .int .i64 op, .slice b len bc] := by
        rw [hl.out]
        exact EF.of (x := ⟨c, ⟨op, ys⟩⟩) (by show ys.length ≤ bc; have := hl.out; omega) hf O (by omega) (fun z hz => ⟨by omega, by show some z ≠ some g4; simp; omega⟩)
      obtain ⟨g6, cap6, W6, hr6, g7, cap7, W7, hr7, zs, hO7⟩ := hO4.joined hkn (by omega) hP4 hB4 hg4 g5 h5 _ _ _ _ hE
      exact ⟨g6, cap6, W6, hr6, g7, cap7, W7, hr7, hO7.ret (by omega) (by omega)⟩
    have hkc : k ≤ cp := by omega
    have hkc2 : k ≤ n := by omega
    have hkc3 : ¬ cp = k := by omega
    clear HO hO4 hr4 hP4 hB4 hg4
    go_wp2_with fail
    go_region_law
      (first
        | (refine step_app_run (by rfl) (.tmp 45) (.tmp 48) 23 (by rfl) _ _ (by rfl) (by rfl) _ W4 HR4.out ?_)
        | (go_simp; refine (inst_r (LB := LB) B R (p + 1 + 1) _ HRd.out (by omega)).mono ?_; rintro e w5 ⟨⟨c, op, b, len, bc, ys, rfl, hl, ⟨hbc, _⟩, hf, O⟩, ⟨q, hq, h5⟩, g5⟩; obtain ⟨g6, cap6, W6, hr6, g7, cap7, W7, hr7, hF⟩ := HJ.out w5 q c op b len bc ys hl hbc hf O hq h5 g5; have HR6 : Hid (∀ ty, (Builtin.append_ #[23, 23] ty #[.slice (some ⟨g4, 0, none⟩) k cap4, .slice (some ⟨w5.heap.size, 0, none⟩) 1 1]).run Tryz.prog (w5.alloc (.cells #[.int .i64 c, .int .i64 op, .slice b len bc] 44)) = .ok (.slice (some ⟨g6, 0, none⟩) (k + 1) cap6) W6) := hr6; have HR7 : Hid (∀ ty, (Builtin.append_ #[23, 23] ty #[.slice (some ⟨g6, 0, none⟩) (k + 1) cap6, .slice (some ⟨g, k * 3, none⟩) (n - k) (cp - k)]).run Tryz.prog W6 = .ok (.slice (some ⟨g7, 0, none⟩) (k + 1 + (n - k)) cap7) W7) := hr7; have HF : Hid (ListH LB H w B R p (NN + 1) 1500 (.returned (.slice (some ⟨g7, 0, none⟩) (k + 1 + (n - k)) cap7)) W7) := hF; clear hr6 hr7 hF hl hbc hf O h5 g5; dsimp only)
        | (refine step_app_run (by rfl) (.tmp 49) (.tmp 52) 23 (by rfl) _ _ (by rfl) (by rfl) _ W6 HR6.out ?_)
        | (refine step_app_run (by rfl) (.tmp 53) (.tmp 56) 23 (by rfl) _ _ (by rfl) (by rfl) _ W7 HR7.out ?_)
        | fail)
    all_goals go_wp2
    all_goals go_ret
    all_goals exact HF.out
  · clear HI
    go_wp2_with fail
    refine (inst_r (LB := LB) B R (p + 1 + 1) _ HO.out.1 (by omega)).mono ?_
    rintro e w4 ⟨⟨c, op, b, len, bc, ys, rfl, hl, ⟨hbc, _⟩, hf, O⟩, ⟨q, hq, h4⟩, g4⟩
    have HO4 : Hid (OS LB w B R H w4 q g n cp xs) := HO.out.move g4 h4
    have hE : EF LB w4 H (fun b => b ≠ R ∧ some b ≠ some g) ⟨c, ⟨op, ys⟩⟩ [.int .i64 c, .int .i64 op, .slice b len bc] := by
      rw [hl.out]
      exact EF.of (x := ⟨c, ⟨op, ys⟩⟩) (by show ys.length ≤ bc; have := hl.out; omega) hf O (by omega) (fun z hz => ⟨by omega, by show some z ≠ some g; simp; omega⟩)
    have HF : Hid (OS LB w B R H (((w4.setCell ⟨g, k * 3, none⟩ (.int .i64 c)).setCell ⟨g, k * 3 + 1, none⟩ (.int .i64 op)).setCell ⟨g, k * 3 + 2, none⟩ (.slice b len bc)) q g n cp (xs.set k ⟨c, ⟨op, ys⟩⟩)) := HO4.out.put3 k hkn _ _ _ _ hE
    obtain ⟨c', op', b', len', bc', ys', _, _, _, _, _, ⟨k0, k1, k2⟩, fz, _⟩ := HO4.out.at k hkn
    have f0 := fz (k * 3)
    have f1 := fz (k * 3 + 1)
    have f2 := fz (k * 3 + 2)
    clear HO HO4 hE fz g4 h4 O hf
    go_wp2
    go_ret
    exact HF.out.ret (by omega) (by omega)
  · clear HI
    go_wp2_with fail
    refine (HPk.out _ 14 _ _ _ HO.out (by omega) (by omega) (by omega)).mono ?_
    rintro e w4 ⟨s, hs, rfl, hO4⟩
    obtain ⟨zs, hF⟩ := hO4.put1 k hkn ((s : Int) - 1) (by omega) (by omega)
    have HF : Hid (OS LB w B R H (w4.setCell ⟨g, k * 3, none⟩ (.int .i64 ((s : Int) - 1))) (p + 1 + 1 + 1) g n cp zs) := hF
    obtain ⟨c', op', b', len', bc', ys', _, _, _, _, _, ⟨k0, k1, k2⟩, fz, _⟩ := hO4.at k hkn
    have f0 := fz (k * 3)
    clear HO hO4 fz hF
    go_wp2
    go_ret
    exact HF.out.ret (by omega) (by omega)
  · obtain ⟨c, op, b, len, bc, ys, hl, hbc, hf, hE, hO, ⟨k0, k1, k2⟩, fz, hmem⟩ := HO.out.at k hkn
    have h8 : ys.length ≤ LB + 8 := hx8.out _ hmem
    have f0 := fz (k * 3)
    have f1 := fz (k * 3 + 1)
    have f2 := fz (k * 3 + 2)
    have HL : Hid (len = ys.length) := hl
    clear hl fz
    clear HI
    have HS : Hid (Calls Tryz.prog 37 #[.pointer (some ⟨R, 0, none⟩), .agg #[.int .i64 op, .slice b len bc]] w3 fun e w' => ElemL w3.heap.size (LB + 8 + 1) e w' ∧ (∃ q, q ≤ p + 1 + 1 + 30 ∧ Reader B w' R q) ∧ w3.grownBy w' (some R)) := spoil_e B R (p + 1 + 1) op b len bc (LB + 8) H ys _ HO.out.1 (by omega) HL (by have := h8; have := HL.out; omega) (by omega) hbc hf.2.1.1 hf.2.1.2 hf.2.2.2 hO
    go_wp2_with fail
    refine HS.out.mono ?_
    rintro e w4 ⟨⟨op4, b4, len4, bc4, zs, rfl, o41, o42, l4, c4, L4, bd4, O4⟩, ⟨q, hq, h4⟩, g4⟩
    have HL4 : Hid (len4 = zs.length) := l4
    clear l4
    have hO4 : OS LB w B R H w4 q g n cp xs := HO.out.move g4 h4
    obtain ⟨vs, hF⟩ := hO4.put2 k hkn op4 b4 bc4 zs (by omega) (by omega) (by have := HL4.out; omega) bd4 (by have := HL4.out; omega) w3.heap.size (by omega) O4
    rw [← HL4.out] at hF
    have HF : Hid (OS LB w B R H ((w4.setCell ⟨g, k * 3 + 1, none⟩ (.int .i64 op4)).setCell ⟨g, k * 3 + 2, none⟩ (.slice b4 len4 bc4)) q g n cp vs) := hF
    obtain ⟨c', op', b', len', bc', ys', _, _, _, _, _, ⟨j0, j1, j2⟩, fz', _⟩ := hO4.at k hkn
    have e1 := fz' (k * 3 + 1)
    have e2 := fz' (k * 3 + 2)
    clear HO hO4 fz' hF g4 h4 O4
    go_wp2
    go_ret
    exact HF.out.ret (by omega) (by omega)
  · have HF : Hid (OS LB w B R H w3 (p + 1 + 1) g k cp (xs.take k)) := HO.out.take k (by omega)
    clear HO
    go_wp2
    go_ret
    exact HF.out.ret (by omega) (by omega)
  · obtain ⟨c, op, b, len, bc, ys, hl, hbc, hf, hE, hO, ⟨k0, k1, k2⟩, fz, hmem⟩ := HO.out.at k hkn
    have h8 : ys.length ≤ LB + 8 := hx8.out _ hmem
    have f0 := fz (k * 3)
    have f1 := fz (k * 3 + 1)
    have f2 := fz (k * 3 + 2)
    have HL : Hid (len = ys.length) := hl
    clear hl fz
    have hne : g ≠ w3.heap.size := by omega
    have hR3 : R < w3.heap.size := by omega
    have hO4 := HO.out.alloc (.cells #[.int .i64 c, .int .i64 op, .slice b len bc] 44)
    have hE4 : EF LB (w3.alloc (.cells #[.int .i64 c, .int .i64 op, .slice b len bc] 44)) H (fun b => b ≠ R ∧ some b ≠ some g) ⟨c, ⟨op, ys⟩⟩ [.int .i64 c, .int .i64 op, .slice b len bc] := hE.move (World.grownBy_alloc _ _ none) (fun _ _ _ _ => by simp) (fun _ _ _ b3 => b3)
    have HS : Hid (OS LB w B R H (w3.alloc (.cells #[.int .i64 c, .int .i64 op, .slice b len bc] 44)) (p + 1 + 1) g n cp xs ∧ EF LB (w3.alloc (.cells #[.int .i64 c, .int .i64 op, .slice b len bc] 44)) H (fun b => b ≠ R ∧ some b ≠ some g) ⟨c, ⟨op, ys⟩⟩ [.int .i64 c, .int .i64 op, .slice b len bc] ∧ (w3.alloc (.cells #[.int .i64 c, .int .i64 op, .slice b len bc] 44)).heap[w3.heap.size]? = some (.cells [.int .i64 c, .int .i64 op, .slice b len bc].toArray 44 (0, 0)) ∧ w3.heap.size ≠ g) := ⟨hO4, hE4, heap_alloc_last w3 _, by omega⟩
    obtain ⟨Y, HYi⟩ : ∃ Y : InstT, Hid (Y = ⟨c, ⟨op, ys⟩⟩) := ⟨_, rfl⟩
    rw [← HYi.out] at HS
    have HPk2 : Hid (∀ (W : World) (q g n cp : Nat) (ys : List InstT), OS LB w B R H W q g n cp ys → q < 10000000 → Calls Tryz.prog 13 #[.pointer (some ⟨R, 0, none⟩), .int .i64 2] W fun e w' => ∃ r : Nat, r < 2 ∧ e = .returned (.int .i64 r) ∧ OS LB w B R H w' (q + 1) g n cp ys ∧ W.grownBy w' (some R)) :=
      fun W q g n cp ys hO h3 => (pick_r B R q 2 W hO.1 (by omega) (by omega) h3).mono fun e w' ⟨r, r1, e1, hr, gr⟩ => ⟨r, by omega, e1, hO.move gr hr, gr⟩
    clear hO4 hE4 hE hf hO HO HPk HL
    go_wp2
    go_loopg [5] 1001 (fun gk v wr => ∃ (g' m cp' q : Nat) (zs : List InstT), v = .slice (some ⟨g', 0, none⟩) m cp' ∧ m ≤ NN + 1 ∧ 1001 ≤ m + gk ∧ q + gk ≤ p + 2 + 1001 ∧ Hid (OS LB w B R H wr q g' m cp' zs ∧ EF LB wr H (fun b => b ≠ R ∧ some b ≠ some g') Y [.int .i64 c, .int .i64 op, .slice b len bc] ∧ wr.heap[w3.heap.size]? = some (.cells [.int .i64 c, .int .i64 op, .slice b len bc].toArray 44 (0, 0)) ∧ w3.heap.size ≠ g'))
    case atStart => exact ⟨g, n, cp, p + 1 + 1, xs, rfl, by omega, by omega, by omega, HS⟩
    case round =>
      clear HS k0 k1 k2 f0 f1 f2 hcap hgl hne
      obtain ⟨g', m, cp', q, zs, rfl, hm, hmg, hq, HS⟩ := hrel
      go_wp2_with fail
      refine (HPk2.out _ _ _ _ _ _ HS.out.1 (by omega)).mono ?_
      rintro e w5 ⟨s, hs, rfl, hO5, gr5⟩
      have b5 : w5.heap[w3.heap.size]? = some (.cells [.int .i64 c, .int .i64 op, .slice b len bc].toArray 44 (0, 0)) := (gr5.block _ (Array.getElem?_eq_some_iff.1 HS.out.2.2.1).1 (by simp; omega)).trans HS.out.2.2.1
      have e5 : EF LB w5 H (fun b => b ≠ R ∧ some b ≠ some g') Y [.int .i64 c, .int .i64 op, .slice b len bc] := HS.out.2.1.move gr5 (fun b _ _ b3 e => b3.1 (by simpa using e)) (fun _ _ _ b3 => b3)
      have hn5 := HS.out.2.2.2
      obtain ⟨k0, k1, k2⟩ := three_of b5
      by_cases i5 : (m : Int) < 1000 + (s : Int)
      · obtain ⟨cs5, own5, hY⟩ := hO5.more Y _ e5 (.cells #[.int .i64 c, .int .i64 op, .slice b len bc] 44)
        have HY : Hid (∀ (w6 : World) (g1 cap1 : Nat), w6.ownsRow H 44 3 (.slice (some ⟨g1, 0, none⟩) (m + 1) cap1) (m + 1) (cs5 ++ [.int .i64 c, .int .i64 op, .slice b len bc]) → (w5.alloc (.cells #[.int .i64 c, .int .i64 op, .slice b len bc] 44)).grownBy w6 (Value.slice (some ⟨g', 0, none⟩) m cp').ownBlock → ((Value.slice (some ⟨g', 0, none⟩) m cp').ownBlock = some g1 ∨ g1 = w5.heap.size + 1) →
            ∃ vs, OS LB w B R H w6 (q + 1) g1 (m + 1) cap1 vs ∧ EF LB w6 H (fun b => b ≠ R ∧ some b ≠ some g1) Y [.int .i64 c, .int .i64 op, .slice b len bc] ∧ w6.heap[w3.heap.size]? = some (.cells [.int .i64 c, .int .i64 op, .slice b len bc].toArray 44 (0, 0)) ∧ w3.heap.size ≠ g1) := fun w6 g1 cap1 o6 g6 hat => by
          obtain ⟨z1, z2, z3⟩ := hY w6 g1 cap1 o6 g6 hat
          obtain ⟨z4, z5⟩ := z3 w3.heap.size (Array.getElem?_eq_some_iff.1 b5).1 hn5
          exact ⟨_, z1, z2, z4.trans b5, z5⟩
        have news5 := news_of w5 [.int .i64 c, .int .i64 op, .slice b len bc] 44
        have hH5 : H ≤ w5.heap.size := by have := hO5.lt; omega
        clear hY hO5 gr5 b5 e5 HS
        go_wp2_with (at_builtin; refine wpList_append_lies _ rfl _ _ 23 rfl H 44 ti (.agg #[.int .i64 0, .int .i64 0, .slice none 0 0]) 3 40 Tryz.underlying23 HI.out.1 HI.out.2.1 HI.out.2.2.1 HI.out.2.2.2 rfl (by decide) _ m cs5 rfl own5 ⟨w5.heap.size, 0, none⟩ 1 1 [.int .i64 c, .int .i64 op, .slice b len bc] rfl rfl news5 ?c2 (by omega) ?c3 ?c4 ?c5 _ rfl ?_)
        case c2 => first | (intro u hu; simp at hu; rcases hu with rfl | rfl | rfl <;> rfl) | exact ⟨rfl, rfl, rfl⟩
        case c3 => unfold maxLen; omega
        case c4 => omega
        case c5 => first | omega | (simp; omega)
        intro g8 cap8 w8 own8 gg8 hat8 hlt8
        obtain ⟨vs, hv⟩ := HY.out w8 g8 cap8 own8 gg8 (by simpa using hat8)
        have HV : Hid (OS LB w B R H w8 (q + 1) g8 (m + 1) cap8 vs ∧ EF LB w8 H (fun b => b ≠ R ∧ some b ≠ some g8) Y [.int .i64 c, .int .i64 op, .slice b len bc] ∧ w8.heap[w3.heap.size]? = some (.cells [.int .i64 c, .int .i64 op, .slice b len bc].toArray 44 (0, 0)) ∧ w3.heap.size ≠ g8) := hv
        clear own5 news5 own8 gg8 hat8 hlt8 HY hv k0 k1 k2
        go_wp2
        go_roundg (gk - 1)
        case measure => omega
        case rel => exact ⟨g8, m + 1, cap8, q + 1, vs, rfl, by omega, by omega, by omega, HV⟩
      · have HF : Hid (OS LB w B R H w5 (q + 1) g' m cp' zs) := hO5
        clear hO5 gr5 b5 e5 HS k0 k1 k2
        go_wp2
        go_ret
        exact HF.out.ret (by omega) (by omega)
  · clear HI
    go_wp2_with fail
    refine (HPk.out _ (n : Int) _ _ _ HO.out (by omega) (by omega) (by omega)).mono ?_
    rintro e w4 ⟨j, hj, rfl, hO4⟩
    have hjn : j < n := by omega
    have i3 : (j : Int) < (n : Int) := by omega
    have i4 : (0 : Int) ≤ (j : Int) := by omega
    obtain ⟨c, op, b, len, bc, ys, hl, hbc, hf, hE, _, ⟨k0, k1, k2⟩, _, _⟩ := hO4.at k hkn
    obtain ⟨c', op', b', len', bc', ys', hl', hbc', hf', hE', _, ⟨j0, j1, j2⟩, _, _⟩ := hO4.at j hjn
    have hgl4 := hO4.lt
    have hne : g ≠ w4.heap.size := by omega
    have hne' : w4.heap.size ≠ g := by omega
    have hO5 := hO4.alloc (.cells #[.int .i64 c, .int .i64 op, .slice b len bc] 44)
    have mv : ∀ x d, EF LB w4 H (fun b => b ≠ R ∧ some b ≠ some g) x d → EF LB (w4.alloc (.cells #[.int .i64 c, .int .i64 op, .slice b len bc] 44)) H (fun b => b ≠ R ∧ some b ≠ some g) x d := fun x d h => h.move (World.grownBy_alloc _ _ none) (fun _ _ _ _ => by simp) (fun _ _ _ b3 => b3)
    obtain ⟨W6, hr6, hO6, g6⟩ := hO5.store3 k hkn _ _ _ _ (mv _ _ hE')
    have kA : (w4.alloc (.cells #[.int .i64 c, .int .i64 op, .slice b len bc] 44)).heap[w4.heap.size]? = some (.cells #[.int .i64 c, .int .i64 op, .slice b len bc] 44 (0, 0)) := heap_alloc_last w4 _
    obtain ⟨⟨m0, m1, m2⟩, _⟩ := three_at kA g6 (by simp; omega)
    obtain ⟨W7, hr7, hO7, g7⟩ := hO6.store3 j hjn _ _ _ _ ((mv _ _ hE).move g6 (fun _ _ _ b3 => b3.2) (fun _ _ _ b3 => b3))
    have HS6 : Hid ((storeVar 44 ⟨g, k * 3, none⟩ (.agg #[.int .i64 c', .int .i64 op', .slice b' len' bc'])).run Tryz.prog (w4.alloc (.cells #[.int .i64 c, .int .i64 op, .slice b len bc] 44)) = .ok () W6) := hr6
    have HS7 : Hid ((storeVar 44 ⟨g, j * 3, none⟩ (.agg #[.int .i64 c, .int .i64 op, .slice b len bc])).run Tryz.prog W6 = .ok () W7) := hr7
    have HF : Hid (ListH LB H w B R p (NN + 1) 1500 (.returned (.slice (some ⟨g, 0, none⟩) n cp)) W7) := hO7.ret (by omega) (by omega)
    clear HO hO4 hO5 hO6 hO7 mv hE hE' hf hf' hl hl' hr6 hr7 g6 g7 kA
    go_wp2_with (first | (refine wpL_store rfl 44 _ _ rfl _ _ rfl _ rfl _ HS6.out ?_) | (refine wpL_store rfl 44 _ _ rfl _ _ rfl _ rfl _ HS7.out ?_) | fail)
    go_ret
    exact HF.out
  · clear HI
    go_wp2_with fail
    refine (any4_r B R (p + 1 + 1) _ HO.out.1 (by omega)).mono ?_
    rintro e w4 ⟨⟨op4, b4, len4, bc4, zs, rfl, o41, o42, l4, c4, L4, bd4, O4⟩, ⟨q, hq, h4⟩, g4⟩
    have HL4 : Hid (len4 = zs.length) := l4
    clear l4
    have hO4 : OS LB w B R H w4 q g n cp xs := HO.out.move g4 h4
    obtain ⟨vs, hF⟩ := hO4.put2 k hkn op4 b4 bc4 zs (by omega) (by omega) (by have := HL4.out; omega) bd4 (by have := HL4.out; omega) w3.heap.size (by omega) O4
    rw [← HL4.out] at hF
    have HF : Hid (OS LB w B R H ((w4.setCell ⟨g, k * 3 + 1, none⟩ (.int .i64 op4)).setCell ⟨g, k * 3 + 2, none⟩ (.slice b4 len4 bc4)) q g n cp vs) := hF
    obtain ⟨c', op', b', len', bc', ys', _, _, _, _, _, ⟨j0, j1, j2⟩, fz', _⟩ := hO4.at k hkn
    have e1 := fz' (k * 3 + 1)
    have e2 := fz' (k * 3 + 2)
    clear HO hO4 fz' hF g4 h4 O4
    go_wp2
    go_ret
    exact HF.out.ret (by omega) (by omega)
end Go.Proofs.YtcihplachlokiaaGreatDoor.Rr
/- A list is drawn, one in two spoilt or at its bounds. -/
namespace Go.Proofs.YtcihplachlokiaaGreatDoor.Rr
open Go.RowKit
set_option linter.unusedVariables false
variable {LB : Nat}

theorem Ops.is {W : World} {b o cap : Nat} {xs : List Arg} (h : Ops W b o xs) (hl : xs.length ≤ 1048576) : RowIs W 0 3 ArgIs (.slice (some ⟨b, o, none⟩) xs.length cap) xs :=
  ⟨_, cap, rfl, by omega, fun j x hx => ⟨b, o, [.int .i64 x.1, .int .i64 x.2.1, .int .i64 x.2.2], rfl, Nat.zero_le _, rfl, fun i v hv => by
    obtain ⟨h0, h1, h2⟩ := h j x hx
    match i, hv with
    | 0, hv => cases hv; exact h0
    | 1, hv => cases hv; exact h1
    | 2, hv => cases hv; exact h2
    | (k + 3), hv => simp at hv, rfl⟩⟩
theorem EF.is {W : World} {H : Nat} {ok : Nat → Prop} {x : InstT} {c : List Value} (hLB : LB ≤ 1000) (h : EF LB W H ok x c) : InstIs W 0 x c := by
  obtain ⟨a, cap, rfl, h1, h2, h3⟩ := h
  refine ⟨_, rfl, ?_⟩
  have hl : x.one.args.length ≤ LB + 9 := h2.2.2.1
  rcases h3 with h3 | ⟨b, o, rfl, _, hO⟩
  · exact ⟨a, cap, rfl, by omega, fun j y hy => by rw [h3] at hy; simp at hy⟩
  · exact hO.is (by omega)
/-- A drawn list is a list. -/
theorem RD.is (hLB : LB ≤ 1000) {W : World} {H pb : Nat} {v : Value} {xs : List InstT} (h : RD LB W H pb v xs) (hl : xs.length ≤ 1048576) : InstsIs W 0 v xs := by
  obtain ⟨cs, hcl, hone, hown, hefi⟩ := h.cells
  rcases hown.2 with ⟨e, e0⟩ | ⟨g, cap, cur, e, _⟩
  · have hx : xs = [] := List.length_eq_zero_iff.1 e0
    subst hx
    exact ⟨none, 0, e, by simp, fun j x hx => by simp at hx⟩
  · subst e
    refine ⟨_, cap, rfl, by omega, fun j x hx => ?_⟩
    obtain ⟨c, hc, hi⟩ := hefi.2 j x hx
    refine ⟨g, 0, c, rfl, Nat.zero_le _, hc.len, fun i u hu => ?_, EF.is hLB hc⟩
    have hi3 : i < 3 := by have := (List.getElem?_eq_some_iff.1 hu).1; rw [hc.len] at this; exact this
    rw [Nat.zero_add]
    exact own_at hown _ _ ((hi i hi3).trans hu)
theorem RD.base {W : World} {H H' pb : Nat} {v : Value} {xs : List InstT} (h : RD LB W H pb v xs) (hH : H' ≤ H) : RD LB W H' pb v xs := by
  obtain ⟨h1, cs, h2, h3⟩ := h
  refine ⟨h1, cs, EFi.s _ _ _ rfl ⟨h2.len, fun j x hx => ?_⟩, h3.1, ?_⟩
  · obtain ⟨c, ⟨a, cap, e1, e2, e3, e4⟩, hi⟩ := (EFs.i h2).2 j x hx
    refine ⟨c, ⟨a, cap, e1, e2, e3, ?_⟩, hi⟩
    rcases e4 with h4 | ⟨b, o, e, ⟨b1, b2, b3⟩, h5⟩
    · exact .inl h4
    · exact .inr ⟨b, o, e, ⟨by omega, b2, b3⟩, h5⟩
  · rcases h3.2 with h | ⟨g, cap, cur, e, hb, hr⟩
    · exact .inl h
    · exact .inr ⟨g, cap, cur, e, by omega, hr⟩
theorem RD.fin {W : World} {H pb : Nat} {v : Value} {xs : List InstT} (h : RD LB W H pb v xs) : ∀ x ∈ xs, Fin1 LB x := fun x hx => by
  obtain ⟨cs, _, _, _, hefi⟩ := h.cells
  obtain ⟨j, hj⟩ := List.mem_iff_getElem?.1 hx
  obtain ⟨c, ⟨a, cap, _, _, hf, _⟩, _⟩ := hefi.2 j x hj
  exact hf
/-- What the draw leaves: a list of at most 4000 instructions, beside the reader's block. -/
def HalfR (LB : Nat) (w : World) (e : Ending) (w' : World) : Prop :=
  ∃ (a : Option Addr) (n cap : Nat) (xs : List InstT), e = .returned (.slice a n cap) ∧ Hid (n = xs.length ∧ RD LB w' w.heap.size w.heap.size (.slice a n cap) xs) ∧ n ≤ 4000 ∧ w.heap.size < w'.heap.size ∧ Below w.heap.size w w'
theorem half_of {w w2 w3 : World} {B p L d H : Nat} {b : Option Addr} {n cp q : Nat} {xs : List InstT} (g2 : Below w.heap.size w w2) (hB : w.heap.size < w2.heap.size) (hH : w.heap.size ≤ H) (hn : n = xs.length) (hL : n ≤ 4000) (hx : RD LB w3 H w.heap.size (.slice b n cp) xs) (g3 : w2.grownBy w3 (some w.heap.size)) : HalfR LB w (.returned (.slice b n cp)) w3 :=
  ⟨b, n, cp, xs, rfl, ⟨hn, hx.base hH⟩, hL, by have := g3.size; omega, g2.grown g3 (by omega) (fun j hj => by cases hj; omega)⟩

end Go.Proofs.YtcihplachlokiaaGreatDoor.Rr
