/- The law FnSureJoin: its walk. -/
import Derived.Test.YthjbgjfihfkpcaaDoorSj
namespace Go.Proofs.YthjbgjfihfkpcaaDoor
open Go.RowKit
set_option linter.unusedVariables false

theorem slice_len {W : World} {lo n cap : Nat} {a : Option Addr} {xs : List InstT} (h : InstsIs W lo (.slice a n cap) xs) : n = xs.length := by
  obtain ⟨a', cap', e, _⟩ := h
  simp only [Value.slice.injEq] at e
  exact e.2.1

set_option maxRecDepth 10000 in
set_option maxHeartbeats 8000000 in
theorem law_sjoin {a a' : Option Addr} {len cap blk off len' cap' blk' off' : Nat} {zz zz' : Nat → Int} (w : World) (hT : KT w) (hL : LT w) (h : Code0 w a len cap blk off zz) (h' : Code0 w a' len' cap' blk' off' zz') :
    Calls Tryd.prog 3 #[.slice a len cap, .slice a' len' cap'] w fun e w' => e = .returned (.bool true) ∧ Below w.heap.size w w' := by
  have hl := h.short
  have hl' := h'.short
  have HCi : Hid (∀ (W : World) (v : Value) (zs : List InstT), Below w.heap.size w W → InstsIs W 0 v zs → zs.length ≤ 1048576 → Calls Tryd.prog 7 #[v] W fun e w' => e = .returned (.agg #[.int .i64 (checkT zs).1, .int .i64 (checkT zs).2]) ∧ Below W.heap.size W w') := fun W v zs g hv hz => check_i v zs W 0 hv hz (hT.later g) (hL.later g)
  have HRg : Hid (∀ (W : World) (v : Value) (zs : List InstT), Below w.heap.size w W → InstsIs W 0 v zs → zs.length ≤ 9000 → (∀ x ∈ zs, Fin1 x) → Calls Tryd.prog 5 #[v] W fun e w' => ∃ (F : List Nat) (a : Option Addr) (m cp : Nat), e = .returned (.slice a m cp) ∧ Hid (m = (rungsT zs).length ∧ SSOwn w' W.heap.size F (.slice a m cp) (rungsT zs)) ∧ Below W.heap.size W w') := fun W v zs g hv hz hf =>
    (rungs_i v zs W 0 hv (by have := sum_wI zs hf; omega) (hT.later g) (hL.later g)).mono fun e w' ⟨F, a, m, cp, e1, e2, _, e4⟩ => ⟨F, a, m, cp, e1, ⟨(ss_at e2).1, e2⟩, e4⟩
  have hfld : ∀ (x y : Value) (W : World), (Instr.field 28 (.agg #[x, y]) 0).run Tryd.prog W = .ok x W := fun x y W => by kernel_rfl
  clear hT hL
  go_enter Tryd.func3, Tryd.ntmps3
  go_wp2_with fail
  refine (drawrungs_r w h).mono ?_
  rintro e w1 ⟨b1, n1, cp1, xs, rfl, HX1, hn1, hs1, g1⟩
  have HG1 : Hid (Below w.heap.size w w1) := g1
  have HD2 : Hid (Calls Tryd.prog 4 #[.slice a' len' cap'] w1 fun e w' => HalfR w1 e w') := drawrungs_r w1 (h'.later g1)
  clear h h' g1
  go_wp2_with fail
  refine HD2.out.mono ?_
  rintro e w2 ⟨b2, n2, cp2, ys, rfl, HX2, hn2, hs2, g2⟩
  have HG2 : Hid (Below w1.heap.size w1 w2) := g2
  have HB2 : Hid (Below w.heap.size w w2) := HG1.out.trans (g2.mono HG1.out.size)
  have hl1 : xs.length ≤ 4000 := by have := HX1.out.1; omega
  have hl2 : ys.length ≤ 4000 := by have := HX2.out.1; omega
  have HIa : Hid (∀ W, Below w2.heap.size w2 W → InstsIs W 0 (.slice b1 n1 cp1) xs) := fun W g => instsIs_move (Keeps.of_below (g2.trans (g.mono g2.size)) 0) (Nat.le_refl _) (HX1.out.2.is (by omega))
  have HIb : Hid (∀ W, Below w2.heap.size w2 W → InstsIs W 0 (.slice b2 n2 cp2) ys) := fun W g => instsIs_move (Keeps.of_below g 0) (Nat.le_refl _) (HX2.out.2.is (by omega))
  have HFa : Hid (∀ x ∈ xs, Fin1 x) := HX1.out.2.fin
  have HFb : Hid (∀ x ∈ ys, Fin1 x) := HX2.out.2.fin
  have HR1 : Hid (Calls Tryd.prog 5 #[.slice b1 n1 cp1] w2 fun e w' => ∃ (F : List Nat) (a : Option Addr) (m cp : Nat), e = .returned (.slice a m cp) ∧ Hid (m = (rungsT xs).length ∧ SSOwn w' w2.heap.size F (.slice a m cp) (rungsT xs)) ∧ Below w2.heap.size w2 w') := HRg.out w2 _ xs HB2.out (HIa.out w2 (Below.refl _ _)) (by omega) HFa.out
  have hw12 := HG1.out.size
  have hw22 := g2.size
  have HL1 : Hid (xs.length ≤ 4000 ∧ ys.length ≤ 4000) := ⟨hl1, hl2⟩
  clear g2 HD2 hl1 hl2
  go_wp2_with fail
  refine HR1.out.mono ?_
  rintro e w3 ⟨F, ra, rm, rc, rfl, HRm, g3⟩
  have hrm : rm ≤ 4000 := by have := HRm.out.1; have := rungs_len xs; have := HL1.out; omega
  have HG3 : Hid (Below w2.heap.size w2 w3) := g3
  have hw33 := g3.size
  have hcp := (check_pos xs).1
  obtain ⟨C1, HC1⟩ : ∃ q, Hid (q = (checkT xs).1) := ⟨_, rfl⟩
  obtain ⟨D1, HD1⟩ : ∃ q, Hid (q = (checkT xs).2) := ⟨_, rfl⟩
  rw [← HC1.out] at hcp
  have HK1 : Hid (Calls Tryd.prog 6 #[.slice b1 n1 cp1] w3 fun e w' => e = .returned (.agg #[.int .i64 C1, .int .i64 D1]) ∧ Below w3.heap.size w3 w') := by
    rw [HC1.out, HD1.out]; exact check_s _ xs w3 0 (HIa.out w3 g3) (by have := HL1.out; omega)
  clear g3 HR1
  go_wp2_with fail
  refine HK1.out.mono ?_
  rintro e w4 ⟨rfl, g4⟩
  have hw44 := g4.size
  have HJ0 : Hid (JI xs w w2 w3 (w4.alloc (.cells #[] 36)) F ra rm rc 0 w4.heap.size 0 0) := by
    have hb : Below w3.heap.size w3 (w4.alloc (.cells #[] 36)) := g4.alloc g4.size _
    refine ⟨?_, by simp, HRm.out.2.later hb, by omega, HG3.out.trans (hb.mono HG3.out.size)⟩
    simp only [List.take_zero, List.flatten_nil]
    exact ⟨by show some w4.heap.size ≠ some w.heap.size; simp; omega, [], .nil, by have := World.ownsRow_made (base := w2.heap.size) (e := 36) (size := 3) w4 #[] 0 (by omega) (by unfold maxLen; omega) rfl; simpa using this⟩
  have HFl : Hid (∀ b ∈ F, b < w3.heap.size) := fun b hb => (SSOwn.lt HRm.out.2 b hb).2
  have HRl : Hid (rm = (rungsT xs).length) := HRm.out.1
  clear g4 HK1 HRm
  go_wp2
  go_loopg [9, 10] rm (fun gg v iv wr => ∃ (i g m cp : Nat), i + gg = rm ∧ iv = .int .i64 i ∧ v = .slice (some ⟨g, 0, none⟩) m cp ∧ m ≤ 4000 ∧ Hid (JI xs w w2 w3 wr F ra rm rc i g m cp ∧ w3.heap.size ≤ wr.heap.size))
  case atStart => exact ⟨0, w4.heap.size, 0, 0, by omega, rfl, rfl, by omega, HJ0.out, by simp; omega⟩
  case round =>
    clear HJ0
    obtain ⟨i, g, m, cp, hi, rfl, rfl, hm, HJ⟩ := hrel
    by_cases hlt : i < rm
    · have i1 : (i : Int) < (rm : Int) := by omega
      have i3 : (0 : Int) ≤ (i : Int) := by omega
      obtain ⟨ρ, hρ⟩ : ∃ ρ, (rungsT xs)[i]? = some ρ := ⟨_, List.getElem?_eq_getElem (by have := HRl.out; omega)⟩
      have HRo : Hid ((rungsT xs)[i]? = some ρ) := hρ
      obtain ⟨gr, v, f, rfl, hgr, hcell, hI, hf⟩ := (ss_at HJ.out.1.ss).2 i ρ hρ
      obtain ⟨av, cav, rfl, _, _⟩ := id (hI.is (lo := 0) (Nat.zero_le _))
      have hro := rungs_of (rungs_some (List.mem_of_getElem? hρ))
      have hck := hro.2.1 ρ (List.mem_of_getElem? hρ)
      have hin : ∀ x ∈ ρ, Fin1 x := fun x hx => HFa.out x (by rw [← hro.1]; exact List.mem_flatten.2 ⟨ρ, List.mem_of_getElem? hρ, hx⟩)
      have hrl : ρ.length ≤ 4000 := by
        have h1 : ρ.length ≤ ((rungsT xs).flatten).length := List.Sublist.length_le (List.sublist_flatten_of_mem (List.mem_of_getElem? hρ))
        rw [hro.1] at h1
        have := HL1.out
        omega
      obtain ⟨ln, Hln⟩ : ∃ q, Hid (q = ρ.length) := ⟨_, rfl⟩
      have HI5 : Hid (InstsOwn wr w2.heap.size f (.slice av ln cav) ρ) := by show InstsOwn wr w2.heap.size f (.slice av ln cav) ρ; rw [Hln.out]; exact hI
      have HBw : Hid (∀ W, Below wr.heap.size wr W → Below w.heap.size w W) := fun W g => HB2.out.trans ((HJ.out.1.bl.trans (g.mono HJ.out.1.bl.size)).mono HB2.out.size)
      have HCk : Hid (Calls Tryd.prog 7 #[.slice av ln cav] wr fun e w' => e = .returned (.agg #[.int .i64 0, .int .i64 0]) ∧ Below wr.heap.size wr w') := by
        have hq := HCi.out wr (.slice av ln cav) ρ (HBw.out _ (Below.refl _ _)) (HI5.out.is (Nat.zero_le _)) (by omega)
        rw [check_zero' hck.1] at hq
        exact hq
      have HRk : Hid (∀ W, Below wr.heap.size wr W → Calls Tryd.prog 5 #[.slice av ln cav] W fun e w' => ∃ (a : Option Addr) (cp : Nat), e = .returned (.slice a 1 cp) ∧ Below W.heap.size W w') := fun W g =>
        (HRg.out W (.slice av ln cav) ρ (HBw.out _ g) ((HI5.out.later g).is (Nat.zero_le _)) (by omega) hin).mono fun e w' ⟨F', a, m', cp', e1, e2, e3⟩ => ⟨a, cp', by rw [e1, e2.out.1, hck.2], e3⟩
      have hcell' : wr.cell? ⟨gr, i, none⟩ = some (.slice av ln cav) := by rw [Hln.out]; exact hcell
      have hf' : Hid (f ⊆ F) := hf
      have hgr' := hgr
      clear hcell hI hf hro hck hin hrl hρ HBw
      go_wp2_with fail
      refine HCk.out.mono ?_
      rintro e w5 ⟨rfl, g5⟩
      have c5 : w5.cell? ⟨gr, i, none⟩ = some (.slice av ln cav) := (Keeps.of_below g5 0) _ _ _ (Nat.zero_le _) hcell'
      have HG5 : Hid (Below wr.heap.size wr w5) := g5
      clear g5 HCk
      go_wp2_with fail
      refine (HRk.out w5 HG5.out).mono ?_
      rintro e w6 ⟨a6, cp6, rfl, g6⟩
      have c6 : w6.cell? ⟨gr, i, none⟩ = some (.slice av ln cav) := (Keeps.of_below g6 0) _ _ _ (Nat.zero_le _) c5
      have g56 : Below wr.heap.size wr w6 := HG5.out.trans (g6.mono HG5.out.size)
      obtain ⟨a7', cap7', e7, g7, cap7, W7, hr7, hJ7, hm7⟩ := (HJ.out.1.later g56).push HFl.out HFa.out (by omega) hw33 (by have := HJ.out.2; have := g56.size; omega) HL1.out.1 HRo.out (HI5.out.later g56) hf'.out
      simp only [Value.slice.injEq] at e7
      obtain ⟨ea, -, ec⟩ := e7
      rw [← ea, ← ec, ← Hln.out] at hr7
      rw [← Hln.out] at hJ7 hm7
      have HR7 : Hid (∀ ty, (Builtin.append_ #[23, 23] ty #[.slice (some ⟨g, 0, none⟩) m cp, .slice av ln cav]).run Tryd.prog w6 = .ok (.slice (some ⟨g7, 0, none⟩) (m + ln) cap7) W7) := hr7
      have HJ7 : Hid (JI xs w w2 w3 W7 F (some ⟨gr, 0, none⟩) rm rc (i + 1) g7 (m + ln) cap7 ∧ w3.heap.size ≤ W7.heap.size) := ⟨hJ7, by have := hJ7.hg; have := (hJ7.rd.lt g7 rfl).2; omega⟩
      clear hr7 hJ7 g56 g6 HG5 HJ HI5 HRk ea ec c5 hcell'
      go_wp2_with (at_builtin; refine wpList_app_run rfl _ _ 23 rfl _ _ rfl rfl _ _ HR7.out ?_)
      go_roundg (gk - 1)
      case measure => omega
      case rel => exact ⟨i + 1, g7, m + ln, cap7, by omega, by simp, rfl, hm7, HJ7⟩
    · have i1 : ¬ ((i : Int) < (rm : Int)) := by omega
      obtain rfl : i = rm := by omega
      have HBr : Hid (Below w.heap.size w wr) := HB2.out.trans (HJ.out.1.bl.mono HB2.out.size)
      by_cases hC : C1 = 0
      · have f1 : (C1 == 0) = true := by simp [hC]
        have hc0 : (checkT xs).1 = 0 := by rw [← HC1.out]; exact hC
        have hro := rungs_of hc0
        have HLs : Hid (Calls Tryd.prog 8 #[.slice (some ⟨g, 0, none⟩) m cp, .slice b1 n1 cp1] wr fun e w' => e = .returned (.bool true) ∧ Below wr.heap.size wr w') := by
          have hrd := HJ.out.1.rd
          rw [List.take_of_length_le (by have := HRl.out; omega), hro.1] at hrd
          have hq := i_listsame _ _ xs xs wr 0 0 (hrd.is (by have := HL1.out; omega)) (HIa.out wr HJ.out.1.bl)
          rw [eqB_self] at hq
          exact hq
        have HJb : Hid (Below w2.heap.size w2 wr) := HJ.out.1.bl
        have hcp2 := (check_pos ys).1
        obtain ⟨C2, HC2⟩ : ∃ q, Hid (q = (checkT ys).1) := ⟨_, rfl⟩
        obtain ⟨D2, HD2⟩ : ∃ q, Hid (q = (checkT ys).2) := ⟨_, rfl⟩
        rw [← HC2.out] at hcp2
        have Hc0 : Hid ((checkT xs).1 = 0) := hc0
        have HK2 : Hid (∀ W, Below wr.heap.size wr W → Calls Tryd.prog 6 #[.slice b2 n2 cp2] W fun e w' => e = .returned (.agg #[.int .i64 C2, .int .i64 D2]) ∧ Below W.heap.size W w') := fun W g => by
          rw [HC2.out, HD2.out]; exact check_s _ ys W 0 (HIb.out W (HJb.out.trans (g.mono HJb.out.size))) (by have := HL1.out; omega)
        clear HJ hC hc0 hro
        go_wp2_with fail
        refine HLs.out.mono ?_
        rintro e w5 ⟨rfl, g5⟩
        have HG5 : Hid (Below wr.heap.size wr w5) := g5
        clear g5 HLs
        go_wp2_with fail
        refine (HK2.out w5 HG5.out).mono ?_
        rintro e w6 ⟨rfl, g6⟩
        have HG6 : Hid (Below wr.heap.size wr w6) := HG5.out.trans (g6.mono HG5.out.size)
        have HB6 : Hid (Below w.heap.size w w6) := HBr.out.trans (HG6.out.mono HBr.out.size)
        have HB26 : Hid (Below w2.heap.size w2 w6) := HJb.out.trans (HG6.out.mono HJb.out.size)
        clear g6 HG5 HK2
        by_cases c2 : 0 < C2
        · clear HIa HIb
          go_wp2
          go_ret
          exact ⟨rfl, HB6.out⟩
        have hwr : IntKind.i64.wrap ((n1 : Int) + (n2 : Int)) = (n1 : Int) + (n2 : Int) := by rw [IntKind.wrap_i64]; omega
        by_cases h1000 : (1000 : Int) < (n1 : Int) + (n2 : Int)
        · clear HIa HIb
          go_wp2
          go_ret
          exact ⟨rfl, HB6.out⟩
        have hs6 := HB26.out.size
        have hM : RD (w6.alloc (.cells #[] 36)) w.heap.size w.heap.size (.slice (some ⟨w6.heap.size, 0, none⟩) 0 0) [] := ⟨by show some w6.heap.size ≠ some w.heap.size; simp; omega, [], .nil, by have := World.ownsRow_made (base := w.heap.size) (e := 36) (size := 3) w6 #[] 0 (by omega) (by unfold maxLen; omega) rfl; simpa using this⟩
        have hbA : Below w2.heap.size w2 (w6.alloc (.cells #[] 36)) := HB26.out.alloc (by omega) _
        obtain ⟨g8, cap8, W8, hr8, hRD8, gg8, hat8⟩ := cat_old (m := n1) hM rfl HX1.out.2 (by have := HX1.out.1; omega) (HG2.out.trans (hbA.mono hw22)) (by omega) (Nat.le_refl _) (by simp; omega) (by simp; omega) (fun b _ hb => hb) (by omega)
        have hx1 : xs.take n1 = xs := List.take_of_length_le (by have := HX1.out.1; omega)
        rw [hx1] at hRD8
        simp only [Nat.zero_add, List.nil_append] at hr8 hRD8
        have hbB : Below w2.heap.size w2 W8 := hbA.grown gg8 hbA.size (fun j hj => by cases hj; omega)
        have hg8 : w2.heap.size ≤ g8 := by
          rcases hat8 with e | e
          · omega
          · rw [e]; simp; omega
        have hs8 := hbB.size
        obtain ⟨g9, cap9, W9, hr9, hRD9, gg9, hat9⟩ := cat_old (m := n2) hRD8 HX1.out.1 HX2.out.2 (by have := HX2.out.1; omega) hbB hg8 (by omega) (by omega) (by omega) (fun b hb _ => by omega) (by omega)
        have hx2 : ys.take n2 = ys := List.take_of_length_le (by have := HX2.out.1; omega)
        rw [hx2] at hRD9
        obtain ⟨N9, HN9⟩ : ∃ q, Hid (q = n1 + n2) := ⟨_, rfl⟩
        rw [← HN9.out] at hr9 hRD9
        have HR8 : Hid (∀ ty, (Builtin.append_ #[23, 23] ty #[.slice (some ⟨w6.heap.size, 0, none⟩) 0 0, .slice b1 n1 cp1]).run Tryd.prog (w6.alloc (.cells #[] 36)) = .ok (.slice (some ⟨g8, 0, none⟩) n1 cap8) W8) := hr8
        have HR9 : Hid (∀ ty, (Builtin.append_ #[23, 23] ty #[.slice (some ⟨g8, 0, none⟩) n1 cap8, .slice b2 n2 cp2]).run Tryd.prog W8 = .ok (.slice (some ⟨g9, 0, none⟩) N9 cap9) W9) := hr9
        have HB29 : Hid (Below w2.heap.size w2 W9) := hbB.grown gg9 hbB.size (fun j hj => by cases hj; exact hg8)
        have HB9 : Hid (Below w.heap.size w W9) := HB2.out.trans (HB29.out.mono HB2.out.size)
        have HIs : Hid (∀ W, Below W9.heap.size W9 W → InstsIs W 0 (.slice (some ⟨g9, 0, none⟩) N9 cap9) (xs ++ ys)) := fun W g => instsIs_move (Keeps.of_below g 0) (Nat.le_refl _) (hRD9.is (by rw [List.length_append]; have := HL1.out; omega))
        have hcy : (checkT ys).1 = 0 := by rw [← HC2.out]; omega
        have hjn := check_join Hc0.out hcy (by have := HX1.out.1; have := HX2.out.1; omega)
        have HCb : Hid (Calls Tryd.prog 7 #[.slice (some ⟨g9, 0, none⟩) N9 cap9] W9 fun e w' => e = .returned (.agg #[.int .i64 0, .int .i64 0]) ∧ Below W9.heap.size W9 w') := by
          have hq := HCi.out W9 (.slice (some ⟨g9, 0, none⟩) N9 cap9) (xs ++ ys) HB9.out (HIs.out _ (Below.refl _ _)) (by rw [List.length_append]; have := HL1.out; omega)
          rw [check_zero' hjn.1] at hq
          exact hq
        obtain ⟨M, HM⟩ : ∃ q, Hid (q = (rungsT (xs ++ ys)).length) := ⟨_, rfl⟩
        obtain ⟨m2, Hm2⟩ : ∃ q, Hid (q = (rungsT ys).length) := ⟨_, rfl⟩
        have hm24 : m2 ≤ 4000 := by rw [Hm2.out]; have := rungs_len ys; have := HL1.out; omega
        have hMs : IntKind.i64.wrap ((i : Int) + (m2 : Int)) = (M : Int) := by
          have h1 : M = i + m2 := by rw [HM.out, Hm2.out, HRl.out]; exact hjn.2
          rw [IntKind.wrap_i64]; omega
        have HRb : Hid (∀ W, Below W9.heap.size W9 W → Calls Tryd.prog 5 #[.slice (some ⟨g9, 0, none⟩) N9 cap9] W fun e w' => ∃ (a : Option Addr) (cp : Nat), e = .returned (.slice a M cp) ∧ Below W.heap.size W w') := fun W g =>
          (HRg.out W _ (xs ++ ys) (HB9.out.trans (g.mono HB9.out.size)) (HIs.out W g) (by rw [List.length_append]; have := HL1.out; omega) (fun x hx => by
            rcases List.mem_append.1 hx with hx | hx
            · exact HFa.out x hx
            · exact HFb.out x hx)).mono fun e w' ⟨F', a, m', cp', e1, e2, e3⟩ => ⟨a, cp', by rw [e1, e2.out.1, HM.out], e3⟩
        have HRc : Hid (∀ W, Below W9.heap.size W9 W → Calls Tryd.prog 5 #[.slice b2 n2 cp2] W fun e w' => ∃ (a : Option Addr) (cp : Nat), e = .returned (.slice a m2 cp) ∧ Below W.heap.size W w') := fun W g =>
          (HRg.out W _ ys (HB9.out.trans (g.mono HB9.out.size)) (HIb.out W (HB29.out.trans (g.mono HB29.out.size))) (by have := HL1.out; omega) HFb.out).mono fun e w' ⟨F', a, m', cp', e1, e2, e3⟩ => ⟨a, cp', by rw [e1, e2.out.1, Hm2.out], e3⟩
        clear hM hbA hr8 hRD8 gg8 hat8 hx1 hbB hg8 hs8 hr9 hRD9 gg9 hat9 hx2 HIs hcy hjn HRg HCi HIa HIb HFa HFb HX1 HX2
        go_wp2_with (at_builtin; first | refine wpList_app_run rfl _ _ 23 rfl _ _ rfl rfl _ _ HR8.out ?_ | refine wpList_app_run rfl _ _ 23 rfl _ _ rfl rfl _ _ HR9.out ?_)
        refine HCb.out.mono ?_
        rintro e w10 ⟨rfl, g10⟩
        have HG10 : Hid (Below W9.heap.size W9 w10) := g10
        clear g10 HCb HR8 HR9
        go_wp2_with fail
        refine (HRb.out w10 HG10.out).mono ?_
        rintro e w11 ⟨a11, cp11, rfl, g11⟩
        have HG11 : Hid (Below W9.heap.size W9 w11) := HG10.out.trans (g11.mono HG10.out.size)
        clear g11 HG10 HRb
        go_wp2_with fail
        refine (HRc.out w11 HG11.out).mono ?_
        rintro e w12 ⟨a12, cp12, rfl, g12⟩
        have HF : Hid (Below w.heap.size w w12) := HB9.out.trans ((HG11.out.trans (g12.mono HG11.out.size)).mono HB9.out.size)
        clear g12 HG11 HRc
        go_wp2
        go_ret
        exact ⟨rfl, HF.out⟩
      · have f1 : (C1 == 0) = false := by simp [hC]
        have hc0 : (checkT xs).1 ≠ 0 := by rw [← HC1.out]; exact hC
        have hr0 : ((i : Int) == 0) = true := by
          have h1 := HRl.out
          rw [rungs_none hc0] at h1
          simp at h1
          simp [h1]
        have hpos : 0 < C1 := by omega
        have HI1 : Hid (Calls Tryd.prog 7 #[.slice b1 n1 cp1] wr fun e w' => e = .returned (.agg #[.int .i64 C1, .int .i64 D1]) ∧ Below wr.heap.size wr w') := by
          rw [HC1.out, HD1.out]; exact HCi.out wr _ xs HBr.out (HIa.out wr HJ.out.1.bl) (by have := HL1.out; omega)
        clear HJ hC hc0 HRg HCi HIa HIb HFa HFb HX1 HX2
        go_wp2_with fail
        refine HI1.out.mono ?_
        rintro e w5 ⟨rfl, g5⟩
        have HF : Hid (Below w.heap.size w w5) := HBr.out.trans (g5.mono HBr.out.size)
        clear g5 HI1
        go_wp2
        go_ret
        exact ⟨rfl, HF.out⟩
theorem walk_sjoin (a : Option Addr) (len cap : Nat) (zs : List Int) (a' : Option Addr) (len' cap' : Nat) (zs' : List Int) (w : World) (h : IsRow .u8 w a len cap zs) (h' : IsRow .u8 w a' len' cap' zs') (hL : LT w) (hT : KT w) :
    Calls Tryd.prog 3 #[.slice a len cap, .slice a' len' cap'] w fun e w' => e = .returned (.bool true) ∧ Below w.heap.size w w' := by
  have hcap : len ≤ maxLen := by
    rcases h with ⟨_, rfl, _⟩ | ⟨_, _, h1, h2, _⟩
    · omega
    · omega
  have hcap' : len' ≤ maxLen := by
    rcases h' with ⟨_, rfl, _⟩ | ⟨_, _, h1, h2, _⟩
    · omega
    · omega
  unfold maxLen at hcap hcap'
  by_cases hl : len ≤ 1048576
  · by_cases hl' : len' ≤ 1048576
    · obtain ⟨blk, off, z, hc⟩ := h.code hl
      obtain ⟨blk', off', z', hc'⟩ := h'.code hl'
      exact law_sjoin w hT hL hc hc'
    · have i0 : ¬ ((1048576 : Int) < (len : Int)) := by omega
      have i1 : (1048576 : Int) < (len' : Int) := by omega
      go_enter Tryd.func3, Tryd.ntmps3
      go_wp2
      go_ret
      exact ⟨rfl, Below.refl _ _⟩
  · have i1 : (1048576 : Int) < (len : Int) := by omega
    go_enter Tryd.func3, Tryd.ntmps3
    go_wp2
    go_ret
    exact ⟨rfl, Below.refl _ _⟩
end Go.Proofs.YthjbgjfihfkpcaaDoor
