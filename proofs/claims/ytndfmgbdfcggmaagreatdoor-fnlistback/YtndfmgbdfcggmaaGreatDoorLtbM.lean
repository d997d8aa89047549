/- The law FnListBack: a drawn list is written and read back. -/
import Derived.Test.YtndfmgbdfcggmaaGreatDoorZuM
import Derived.Test.YtndfmgbdfcggmaaGreatDoorYnM
import Derived.Test.YtndfmgbdfcggmaaGreatDoorZc
import Derived.Deep.QuietTactic
import Derived.BigQuiet
import Derived.Lib.QuietBelow
namespace Go.Proofs.YtndfmgbdfcggmaaGreatDoor
open Go.RowKit Go.Shelf
set_option linter.unusedVariables false

theorem eqL_self (xs : List InstT) : eqB xs xs = true := eqB_true.2 rfl
set_option maxRecDepth 10000 in
set_option maxHeartbeats 8000000 in
/-- A list is drawn, one in sixteen spoilt. -/
theorem lany_r (w : World) (B R p : Nat) (h : Reader B w R p) (hp : p < 200000) :
    Calls Tryz.prog 20 #[.pointer (some ⟨R, 0, none⟩)] w fun e w' => ListR w B R p 4000 250000 e w' := by
  have hRB := h.1
  have hBw := h.2.1
  have HR : Hid (Reader B w R p) := h
  clear h
  go_enter Tryz.func20, Tryz.ntmps20
  go_wp2_with fail
  refine (sure_r w B R p HR.out (by omega)).mono ?_
  rintro e w3 ⟨b, n, cp, q, xs, rfl, hn, hn2, hq, hx, h3, g3, h8⟩
  have hs3 := g3.size
  have HX : Hid (RD w3 w.heap.size R (.slice b n cp) xs) := hx
  have HR3 : Hid (Reader B w3 R q) := h3
  have HG3 : Hid (w.grownBy w3 (some R)) := g3
  have H8 : Hid (∀ x ∈ xs, x.one.args.length ≤ 8) := h8
  clear hx h3 g3 h8
  go_wp2_with fail
  refine (pick_r B R q 16 w3 HR3.out (by omega) (by omega) (by omega)).mono ?_
  rintro e w4 ⟨t, t1, rfl, h4, g4⟩
  have hs4 := g4.size
  have HX4 : Hid (RD w4 w.heap.size R (.slice b n cp) xs) := HX.out.move g4 (fun j hj => by cases hj; omega)
  have HR4 : Hid (Reader B w4 R (q + 1)) := h4
  have HG4 : Hid (w.grownBy w4 (some R)) := gb_pick HG3.out g4
  clear h4 g4 HX HR3 HG3
  by_cases ht : t = 0
  · subst ht
    have HS : Hid (Calls Tryz.prog 46 #[.pointer (some ⟨R, 0, none⟩), .slice b n cp] w4 fun e w' => ListH w.heap.size w4 B R (q + 1) (2800 + 1) 1500 e w') := lspoil_r 2800 (by omega) (by omega) w4 B R (q + 1) w.heap.size HR4.out (by omega) (by omega) b n cp xs hn hn2 HX4.out (fun x hx => Nat.le_succ_of_le (H8.out x hx)) (by omega)
    go_wp2_with fail
    refine HS.out.mono ?_
    rintro e w5 ⟨b5, n5, cp5, q5, xs5, rfl, hn5, hn52, hq5, hx5, h5, g5⟩
    have HF : Hid (ListR w B R p 4000 250000 (.returned (.slice b5 n5 cp5)) w5) := ⟨b5, n5, cp5, q5, xs5, rfl, hn5, by omega, by omega, hx5, h5, gb_pick HG4.out g5⟩
    clear hn5 hx5 h5 g5 HS
    go_wp2
    go_ret
    exact HF.out
  · have i1 : ((t : Int) == 0) = false := by simp; omega
    have HF : Hid (ListR w B R p 4000 250000 (.returned (.slice b n cp)) w4) := ⟨b, n, cp, q + 1, xs, rfl, hn, by omega, by omega, HX4.out, HR4.out, HG4.out⟩
    clear hn
    go_wp2
    go_ret
    exact HF.out
set_option maxRecDepth 10000 in
set_option maxHeartbeats 8000000 in
theorem drawltext_r {a : Option Addr} {len cap blk off : Nat} {z : Nat → Int} (w : World) (h : Code0 w a len cap blk off z) :
    Calls Tryz.prog 6 #[.slice a len cap] w fun e w' => HalfR w e w' := by
  go_enter Tryz.func6, Tryz.ntmps6
  go_wp2_with fail
  refine h.open.mono ?_
  rintro e w1 ⟨rfl, h1, g1⟩
  have hB1 := h1.2.1
  have HR : Hid (Reader (w.heap.size + 1) w1 w.heap.size 0) := h1
  have HG : Hid (Below w.heap.size w w1) := g1
  clear h h1 g1
  go_wp2_with fail
  refine (lany_r w1 _ _ 0 HR.out (by omega)).mono ?_
  rintro e w3 ⟨b, n, cp, q, xs, rfl, hn, hn2, hq, hx, h3, g3⟩
  have HF : Hid (HalfR w (.returned (.slice b n cp)) w3) := half_of (B := 0) (p := 0) (L := 0) (d := 0) (q := 0) HG.out (by omega) (by omega) hn.out (by omega) hx g3
  clear hn hx h3 g3
  go_wp2
  go_ret
  exact HF.out
/-- An element of a list that is loaded. -/
theorem inst_load {W : World} {lo : Nat} {a : Option Addr} {n cap : Nat} {xs : List InstT} {i : Nat} {x : InstT} (h : InstsIs W lo (.slice a n cap) xs) (hx : xs[i]? = some x) :
    ∃ (b o : Nat) (c : Option Addr) (ln cc : Nat), a = some ⟨b, o, none⟩ ∧ ln = x.one.args.length ∧ Sl W c x.one.args ∧ (∀ W', Below W.heap.size W W' → (loadVar 31 ⟨b, o + i * 3, none⟩).run Tryz.prog W' = .ok (.agg #[.int .i64 x.code, .int .i64 x.one.op, .slice c ln cc]) W') ∧ (∀ W', Below W.heap.size W W' → W'.cell? ⟨b, o + i * 3, none⟩ = some (.int .i64 x.code) ∧ W'.cell? ⟨b, o + i * 3 + 1, none⟩ = some (.int .i64 x.one.op) ∧ W'.cell? ⟨b, o + i * 3 + 2, none⟩ = some (.slice c ln cc)) := by
  obtain ⟨a', cap', e, hl, hr⟩ := h
  simp only [Value.slice.injEq] at e
  obtain ⟨rfl, rfl, rfl⟩ := e
  obtain ⟨b, o, cs, rfl, _, hcs, hrg, v, rfl, hv⟩ := hr i x hx
  obtain ⟨c, cc, rfl, hl2, hx2⟩ := id hv
  obtain ⟨h1, h2⟩ := sl_of hv
  exact ⟨b, o, c, x.one.args.length, cc, rfl, rfl, h2, fun W' g => run_loadVar_mid W' b (o + i * 3) 31 [.int .i64 x.code, .int .i64 x.one.op, .slice c x.one.args.length cc] _ (fun i c hi => (Keeps.of_below g 0) _ _ _ (Nat.zero_le _) (hrg i c hi)) Tryz.underlying31 rfl (by kernel_rfl), fun W' g => ⟨(Keeps.of_below g 0) _ _ _ (Nat.zero_le _) (hrg 0 _ rfl), (Keeps.of_below g 0) _ _ _ (Nat.zero_le _) (hrg 1 _ rfl), (Keeps.of_below g 0) _ _ _ (Nat.zero_le _) (hrg 2 _ rfl)⟩⟩
end Go.Proofs.YtndfmgbdfcggmaaGreatDoor
/- The law FnListBack: its walk. -/
namespace Go.Proofs.YtndfmgbdfcggmaaGreatDoor
open Go.RowKit Go.Shelf
set_option linter.unusedVariables false

set_option maxRecDepth 10000 in
set_option maxHeartbeats 8000000 in
theorem law_lback {a : Option Addr} {len cap blk off : Nat} {zz : Nat → Int} (w : World) (hT : Tabs w) (hL : LT w) (hM : ML w) (hH : EH w) (h : Code0 w a len cap blk off zz) :
    Calls Tryz.prog 3 #[.slice a len cap] w fun e w' => e = .returned (.bool true) ∧ Below w.heap.size w w' := by
  have hl := h.short
  have HTs : Hid (Tabs w ∧ LT w ∧ ML w ∧ EH w) := ⟨hT, hL, hM, hH⟩
  clear hT hL hM hH
  go_enter Tryz.func3, Tryz.ntmps3
  go_wp2_with fail
  refine (drawltext_r w h).mono ?_
  rintro e w1 ⟨b, n, cp, xs, rfl, HX, hn, hs, g1⟩
  have his : InstsIs w1 0 (.slice b n cp) xs := HX.out.2.is (by have := HX.out.1; omega)
  have HN : Hid (n = xs.length) := HX.out.1
  have HG1 : Hid (Below w.heap.size w w1) := g1
  have HI : Hid (∀ W, Below w1.heap.size w1 W → InstsIs W 0 (.slice b n cp) xs) := fun W g => instsIs_move (Keeps.of_below g 0) (Nat.le_refl _) his
  have HBw : Hid (∀ W, Below w1.heap.size w1 W → Below w.heap.size w W) := fun W g => HG1.out.trans (g.mono HG1.out.size)
  obtain ⟨S, HS⟩ : ∃ r, Hid (r = listT xs) := ⟨_, rfl⟩
  have hcmp : (S.toList == S.toList) = true := beq_self_eq_true _
  have HTi : Hid (∀ (W : World) (v : Value), Below w1.heap.size w1 W → InstsIs W 0 v xs → Calls Tryz.prog 7 #[v] W fun e w' => e = .returned (.string S) ∧ Below W.heap.size W w') := fun W v g hv => by
    rw [HS.out]; exact ltext_i v xs W 0 (HTs.out.1.later (HBw.out W g)) (HTs.out.2.1.later (HBw.out W g)) hv
  have HTk : Hid (∀ W, Below w1.heap.size w1 W → Calls Tryz.prog 8 #[.slice b n cp] W fun e w' => e = .returned (.string S) ∧ Below W.heap.size W w') := fun W g => by
    rw [HS.out]; exact ltext_s _ xs W 0 (HI.out W g)
  clear his HX h g1
  go_wp2_with fail
  refine (HTi.out w1 _ (Below.refl _ _) (HI.out w1 (Below.refl _ _))).mono ?_
  rintro e w2 ⟨rfl, g2⟩
  have HG2 : Hid (Below w1.heap.size w1 w2) := g2
  clear g2
  go_wp2_with fail
  refine (HTk.out w2 HG2.out).mono ?_
  rintro e w3 ⟨rfl, g3⟩
  have HG3 : Hid (Below w1.heap.size w1 w3) := HG2.out.trans (g3.mono HG2.out.size)
  clear g3 HG2
  go_wp2
  go_loopg [5, 6] n (fun gg okv iv wr => ∃ (i : Nat) (q : Bool), i + gg = n ∧ iv = .int .i64 i ∧ okv = .bool q ∧ Hid (q = true ↔ n ≤ 1000 ∧ ∀ j x, j < i → xs[j]? = some x → okT x = true) ∧ Hid (Below w1.heap.size w1 wr))
  case atStart => exact ⟨0, decide ((n : Int) ≤ 1000), by omega, rfl, rfl, ⟨fun h => ⟨by have := of_decide_eq_true h; omega, fun j x hj => by omega⟩, fun h => decide_eq_true (by omega)⟩, HG3⟩
  case round =>
    obtain ⟨i, q, hi, rfl, rfl, HQ, HG⟩ := hrel
    by_cases hlt : i < n
    · have i1 : (i : Int) < (n : Int) := by omega
      have i3 : (0 : Int) ≤ (i : Int) := by omega
      cases q with
      | false =>
        have HQ' : Hid (false = true ↔ n ≤ 1000 ∧ ∀ j x, j < i + 1 → xs[j]? = some x → okT x = true) := ⟨fun h => (by cases h), fun h => HQ.out.2 ⟨h.1, fun j x hj => h.2 j x (by omega)⟩⟩
        clear HQ
        go_wp2
        go_roundg (gk - 1)
        case measure => omega
        case rel => exact ⟨i + 1, false, by omega, by simp, rfl, HQ', HG⟩
      | true =>
        obtain ⟨⟨kc, op, al⟩, hx⟩ : ∃ x, xs[i]? = some x := ⟨_, List.getElem?_eq_getElem (by have := HN.out; omega)⟩
        obtain ⟨b', o, c, ln, cc, rfl, hln, hsl, hld, hcl⟩ := inst_load (HI.out wr HG.out) hx
        have HLd : Hid ((loadVar 31 ⟨b', o + i * 3, none⟩).run Tryz.prog wr = .ok (.agg #[.int .i64 kc, .int .i64 op, .slice c ln cc]) wr) := hld wr (Below.refl _ _)
        obtain ⟨Q, HQQ⟩ : ∃ Q, Hid (Q = okI kc op al) := ⟨_, rfl⟩
        have HOk : Hid (Calls Tryz.prog 9 #[.agg #[.int .i64 kc, .int .i64 op, .slice c ln cc]] wr fun e w' => e = .returned (.bool Q) ∧ Below wr.heap.size wr w') := by
          rw [HQQ.out]; exact ok_s kc op c al ln cc hln wr hsl
        have HQ' : Hid (Q = true ↔ n ≤ 1000 ∧ ∀ j x, j < i + 1 → xs[j]? = some x → okT x = true) := by
          have h1 := HQ.out.1 rfl
          refine ⟨fun h => ⟨h1.1, fun j x hj hx' => ?_⟩, fun h => ?_⟩
          · by_cases hji : j = i
            · subst hji
              rw [hx] at hx'
              cases hx'
              exact HQQ.out.symm.trans h
            · exact h1.2 j x (by omega) hx'
          · rw [HQQ.out]
            exact h.2 i _ (by omega) hx
        obtain ⟨k0, k1, k2⟩ := hcl wr (Below.refl _ _)
        clear hx hsl hld hln HQ HQQ hcl HLd
        go_wp2_with fail
        refine HOk.out.mono ?_
        rintro e w5 ⟨rfl, g5⟩
        have HG5 : Hid (Below w1.heap.size w1 w5) := HG.out.trans (g5.mono HG.out.size)
        clear g5 HOk HG k0 k1 k2
        go_wp2
        go_roundg (gk - 1)
        case measure => omega
        case rel => exact ⟨i + 1, Q, by omega, by simp, rfl, HQ', HG5⟩
    · have i1 : ¬ ((i : Int) < (n : Int)) := by omega
      obtain rfl : i = n := by omega
      have HBr : Hid (Below w.heap.size w wr) := HBw.out wr HG.out
      cases q with
      | false =>
        have hS : S = ⟨#[]⟩ := by
          rw [HS.out]
          unfold listT
          rw [if_neg]
          intro hk
          have := HQ.out.2 ⟨by have := HN.out; omega, fun j x _ hx => hk.2 x (List.mem_of_getElem? hx)⟩
          cases this
        clear HQ HS HTi HTk hcmp
        subst hS
        go_wp2
        go_ret
        exact ⟨rfl, HBr.out⟩
      | true =>
        by_cases hn0 : i = 0
        · have hS : S = ⟨#[]⟩ := by
            rw [HS.out]
            have : xs = [] := List.length_eq_zero_iff.1 (by have := HN.out; omega)
            rw [this]
            rfl
          have f0 : ((i : Int) == 0) = true := by simp [hn0]
          clear HQ HS HTi HTk hcmp hn0
          subst hS
          go_wp2
          go_ret
          exact ⟨rfl, HBr.out⟩
        · have f0 : ((i : Int) == 0) = false := by simp; omega
          have hq := HQ.out.1 rfl
          have hok : ∀ x ∈ xs, okT x = true := fun x hx => by
            obtain ⟨j, hj⟩ := List.mem_iff_getElem?.1 hx
            exact hq.2 j x (by have := (List.getElem?_eq_some_iff.1 hj).1; have := HN.out; omega) hj
          have hpt : parseT S = (xs, 0, 0) := by rw [HS.out]; exact parse_text hok (by have := HN.out; omega)
          have HP : Hid (Calls Tryz.prog 10 #[.string S] wr fun e w' => ∃ (a6 : Option Addr) (m6 cp6 : Nat), e = .returned (.tuple #[.slice a6 m6 cp6, .agg #[.int .i64 0, .int .i64 0]]) ∧ Hid (InstsIs w' 0 (.slice a6 m6 cp6) xs) ∧ Below wr.heap.size wr w') :=
            (parse_i S wr (by rw [HS.out]; have := listT_size xs; omega) (HTs.out.1.later HBr.out) (HTs.out.2.1.later HBr.out) (HTs.out.2.2.1.later HBr.out) (HTs.out.2.2.2.later HBr.out)).mono fun e w' ⟨ys, l', c', F, a6, m6, cp6, h1, h2, h3, h4, h5, h6⟩ => by
              rw [hpt] at h1
              simp only [Prod.mk.injEq] at h1
              obtain ⟨rfl, rfl, rfl⟩ := h1
              exact ⟨a6, m6, cp6, h2, h3.is (Nat.zero_le _), h6⟩
          clear hq hok hpt HQ
          go_wp2_with fail
          refine HP.out.mono ?_
          rintro e w6 ⟨a6, m6, cp6, rfl, HI6, g6⟩
          obtain ⟨W2, HW2⟩ : ∃ W, Hid (W = w6.alloc (.cells #[.int .i64 0, .int .i64 0] 33)) := ⟨_, rfl⟩
          have HS6 : Hid ((storeVar 33 ⟨w6.heap.size, 0, none⟩ (.agg #[.int .i64 0, .int .i64 0])).run Tryz.prog (w6.alloc (.cells #[.int .i64 0, .int .i64 0] 33)) = .ok () W2) := by
            rw [HW2.out]
            exact run_storeVar_new w6 33 _ _ (by kernel_rfl) rfl (all_one [.int .i64 0, .int .i64 0] (by intro d hd; simp at hd; rcases hd with rfl | rfl <;> rfl))
          have kA : W2.heap[w6.heap.size]? = some (.cells #[.int .i64 0, .int .i64 0] 33 (0, 0)) := by rw [HW2.out]; exact heap_alloc_last w6 _
          have gW : Below w6.heap.size w6 W2 := by rw [HW2.out]; exact (Below.refl _ _).alloc (Nat.le_refl _) _
          have gA : Below wr.heap.size wr W2 := g6.trans (gW.mono g6.size)
          have HGA : Hid (Below w1.heap.size w1 W2) := HG.out.trans (gA.mono HG.out.size)
          have HI7 : Hid (InstsIs W2 0 (.slice a6 m6 cp6) xs) := instsIs_move (Keeps.of_below gW 0) (Nat.le_refl _) HI6.out
          have HR2 : Hid (W2.rangeAt w6.heap.size 0 [.int .i64 0, .int .i64 0]) := fun i c hi => by
            rw [Nat.zero_add, cell_of_row _ _ _ _ _ _ kA]
            simpa using hi
          have hs2 : w6.heap.size < W2.heap.size := (Array.getElem?_eq_some_iff.1 kA).1
          have HLs : Hid (∀ W, Below W2.heap.size W2 W → Calls Tryz.prog 11 #[.slice a6 m6 cp6, .slice b i cp] W fun e w' => e = .returned (.bool true) ∧ Below W.heap.size W w') := fun W g => by
            have hq := i_listsame _ _ xs xs W 0 0 (instsIs_move (Keeps.of_below g 0) (Nat.le_refl _) HI7.out) (HI.out W (HGA.out.trans (g.mono HGA.out.size)))
            rw [eqL_self] at hq
            exact hq
          have HLt : Hid (∀ W, Below W2.heap.size W2 W → Calls Tryz.prog 7 #[.slice a6 m6 cp6] W fun e w' => e = .returned (.string S) ∧ Below W.heap.size W w') := fun W g =>
            HTi.out W _ (HGA.out.trans (g.mono HGA.out.size)) (instsIs_move (Keeps.of_below g 0) (Nat.le_refl _) HI7.out)
          have HLd6 : Hid ((loadVar 33 ⟨w6.heap.size, 0, none⟩).run Tryz.prog W2 = .ok (.agg #[.int .i64 0, .int .i64 0]) W2) := run_loadVar_mid W2 w6.heap.size 0 33 [.int .i64 0, .int .i64 0] _ HR2.out Tryz.underlying33 rfl (by kernel_rfl)
          clear g6 gW gA kA HP HI6 HI7 HS HTi HTk HW2
          go_wp2_with (first | (refine wpL_store rfl 33 _ _ rfl _ _ rfl _ rfl _ HS6.out ?_) | (refine wpL_load rfl 33 _ rfl _ _ rfl _ HLd6.out ?_) | fail)
          refine (HLs.out W2 (Below.refl _ _)).mono ?_
          rintro e w7 ⟨rfl, g7⟩
          have HG7 : Hid (Below W2.heap.size W2 w7) := g7
          clear g7
          go_wp2_with fail
          refine (HLt.out w7 HG7.out).mono ?_
          rintro e w8 ⟨rfl, g8⟩
          have g9 : Below W2.heap.size W2 w8 := HG7.out.trans (g8.mono HG7.out.size)
          have HF : Hid (Below w.heap.size w w8) := HBw.out w8 (HGA.out.trans (g9.mono HGA.out.size))
          clear g8 g9
          go_wp2
          go_ret
          exact ⟨rfl, HF.out⟩
theorem walk_lback (a : Option Addr) (len cap : Nat) (zs : List Int) (w : World) (h : IsRow .u8 w a len cap zs) (p : PT w) (l : LT w) (k : KT w) (t : WT w) (m : ML w) (hh : EH w) :
    Calls Tryz.prog 3 #[.slice a len cap] w fun e w' => e = .returned (.bool true) ∧ Below w.heap.size w w' := by
  by_cases hl : len ≤ 1048576
  · obtain ⟨blk, off, z, hc⟩ := h.code hl
    exact law_lback w ⟨k, p, t⟩ l m hh hc
  · have hcap : len ≤ maxLen := by
      rcases h with ⟨_, rfl, _⟩ | ⟨_, _, h1, h2, _⟩
      · omega
      · omega
    unfold maxLen at hcap
    have i1 : (1048576 : Int) < (len : Int) := by omega
    go_enter Tryz.func3, Tryz.ntmps3
    go_wp2
    go_ret
    exact ⟨rfl, Below.refl _ _⟩
end Go.Proofs.YtndfmgbdfcggmaaGreatDoor
