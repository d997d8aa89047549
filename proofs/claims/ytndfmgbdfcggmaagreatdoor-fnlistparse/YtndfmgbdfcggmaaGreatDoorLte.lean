/- The law FnListParse. -/
import Derived.Test.YtndfmgbdfcggmaaGreatDoorLtbM
import Derived.Test.YtndfmgbdfcggmaaGreatDoorZcM
namespace Go.Proofs.YtndfmgbdfcggmaaGreatDoor
open Go.RowKit Go.Shelf
set_option linter.unusedVariables false

/-- What ListParse hands back, as the law's walk takes it. -/
def PQ (xs : List InstT) (ln cd : Int) (W : World) (e : Ending) (w' : World) : Prop := ∃ (a : Option Addr) (m cp : Nat), e = .returned (.tuple #[.slice a m cp, .agg #[.int .i64 ln, .int .i64 cd]]) ∧ Hid (m = xs.length ∧ InstsIs w' 0 (.slice a m cp) xs) ∧ Below W.heap.size W w'
theorem pq_of {s : ByteArray} {xs : List InstT} {ln cd : Int} (hp : parseT s = (xs, ln, cd)) {W : World} {e : Ending} {w' : World} (h : PR s W e w') : PQ xs ln cd W e w' := by
  obtain ⟨ys, l', c', F, a, m, cp, h1, h2, h3, h4, h5, h6⟩ := h
  rw [hp] at h1
  simp only [Prod.mk.injEq] at h1
  obtain ⟨rfl, rfl, rfl⟩ := h1
  have hI := h3.is (lo := 0) (Nat.zero_le _)
  refine ⟨a, m, cp, h2, ⟨?_, hI⟩, h6⟩
  obtain ⟨a', cap', e', _⟩ := hI
  simp only [Value.slice.injEq] at e'
  exact e'.2.1
/-- What reading a text may say, for the law. -/
def LForm (s : ByteArray) (xs : List InstT) (ln cd : Int) : Prop := (xs = [] ∧ 1 ≤ cd ∧ 0 ≤ ln ∧ ln ≤ (s.data.toList.count 10 : Int) + 1 ∧ (ln = 0 ↔ cd = 1)) ∨ (cd = 0 ∧ ln = 0 ∧ (∀ x ∈ xs, okT x = true) ∧ xs.length ≤ 1000)
theorem lform (s : ByteArray) : ∃ xs ln cd, parseT s = (xs, ln, cd) ∧ LForm s xs ln cd := by
  rcases parse_form s with ⟨_, hp⟩ | ⟨ys, hp, hok, hlen⟩ | ⟨k, c, hp, k1, k2, hc⟩
  · exact ⟨_, _, _, hp, .inl ⟨rfl, by omega, by omega, by omega, by simp⟩⟩
  · exact ⟨_, _, _, hp, .inr ⟨rfl, rfl, hok, hlen⟩⟩
  · exact ⟨_, _, _, hp, .inl ⟨rfl, by omega, by omega, by omega, by omega⟩⟩
/-- A fault in a new block of its own. -/
theorem fault_new (w : World) (ln cd : Int) : ∃ W, Hid ((storeVar 33 ⟨w.heap.size, 0, none⟩ (.agg #[.int .i64 ln, .int .i64 cd])).run Tryz.prog (w.alloc (.cells #[.int .i64 0, .int .i64 0] 33)) = .ok () W) ∧ Hid (W.rangeAt w.heap.size 0 [.int .i64 ln, .int .i64 cd]) ∧ Below w.heap.size w W ∧ w.heap.size < W.heap.size := by
  refine ⟨w.alloc (.cells #[.int .i64 ln, .int .i64 cd] 33), ?_, ?_, (Below.refl _ _).alloc (Nat.le_refl _) _, by simp⟩
  · exact run_storeVar_new w 33 _ _ (by kernel_rfl) rfl (all_one [.int .i64 ln, .int .i64 cd] (by intro d hd; simp at hd; rcases hd with rfl | rfl <;> rfl))
  · intro i c hi
    rw [Nat.zero_add, cell_of_row _ _ _ _ _ _ (heap_alloc_last w _)]
    simpa using hi
theorem range_later {W W' : World} {b o : Nat} {l : List Value} (h : W.rangeAt b o l) (g : Below W.heap.size W W') : W'.rangeAt b o l := fun i c hi => (Keeps.of_below g 0) _ _ _ (Nat.zero_le _) (h i c hi)
theorem fault_load {W : World} {b : Nat} {ln cd : Int} (h : W.rangeAt b 0 [.int .i64 ln, .int .i64 cd]) : (loadVar 33 ⟨b, 0, none⟩).run Tryz.prog W = .ok (.agg #[.int .i64 ln, .int .i64 cd]) W := run_loadVar_mid W b 0 33 [.int .i64 ln, .int .i64 cd] _ h Tryz.underlying33 rfl (by kernel_rfl)

set_option maxRecDepth 10000 in
set_option maxHeartbeats 8000000 in
theorem law_lpars {a : Option Addr} {len cap blk off : Nat} {zz : Nat → Int} (w : World) (hT : Tabs w) (hL : LT w) (hM : ML w) (hH : EH w) (h : Code0 w a len cap blk off zz) :
    Calls Tryz.prog 4 #[.slice a len cap] w fun e w' => e = .returned (.bool true) ∧ Below w.heap.size w w' := by
  have hl := h.short
  have HTs : Hid (Tabs w ∧ LT w ∧ ML w ∧ EH w) := ⟨hT, hL, hM, hH⟩
  clear hT hL hM hH
  go_enter Tryz.func4, Tryz.ntmps4
  go_wp2_with fail
  refine (drawlparse_r w h).mono ?_
  rintro e w1 ⟨s, rfl, hs, g1⟩
  have HG1 : Hid (Below w.heap.size w w1) := g1
  have HBw : Hid (∀ W, Below w1.heap.size w1 W → Below w.heap.size w W) := fun W g => HG1.out.trans (g.mono HG1.out.size)
  obtain ⟨xs, ln, cd, hp, hf⟩ := lform s
  have HF : Hid (LForm s xs ln cd) := hf
  have HPi : Hid (∀ W, Below w1.heap.size w1 W → Calls Tryz.prog 10 #[.string s] W fun e w' => PQ xs ln cd W e w') := fun W g => (parse_i s W (by omega) (HTs.out.1.later (HBw.out W g)) (HTs.out.2.1.later (HBw.out W g)) (HTs.out.2.2.1.later (HBw.out W g)) (HTs.out.2.2.2.later (HBw.out W g))).mono fun e w' h => pq_of hp h
  have HPs : Hid (∀ W, Calls Tryz.prog 13 #[.string s] W fun e w' => PQ xs ln cd W e w') := fun W => (lparse s W (by omega)).mono fun e w' h => pq_of hp h
  clear h g1 hp hf
  go_wp2_with fail
  refine (HPi.out w1 (Below.refl _ _)).mono ?_
  rintro e w2 ⟨a1, m1, cp1, rfl, HI1, g2⟩
  obtain ⟨W2, HS2, HR2, gW2, hs2⟩ := fault_new w2 ln cd
  have HG2 : Hid (Below w1.heap.size w1 W2) := g2.trans (gW2.mono g2.size)
  have HI2 : Hid (m1 = xs.length ∧ InstsIs W2 0 (.slice a1 m1 cp1) xs) := ⟨HI1.out.1, instsIs_move (Keeps.of_below gW2 0) (Nat.le_refl _) HI1.out.2⟩
  clear g2 gW2 HI1 HPi
  go_wp2_with (first | (refine wpL_store rfl 33 _ _ rfl _ _ rfl _ rfl _ HS2.out ?_) | fail)
  refine (HPs.out W2).mono ?_
  rintro e w3 ⟨a2, m2, cp2, rfl, HI3, g3⟩
  obtain ⟨W3, HS3, HR3, gW3, hs3⟩ := fault_new w3 ln cd
  have g23 : Below W2.heap.size W2 W3 := g3.trans (gW3.mono g3.size)
  have HG3 : Hid (Below w1.heap.size w1 W3) := HG2.out.trans (g23.mono HG2.out.size)
  have HRA : Hid (W3.rangeAt w2.heap.size 0 [.int .i64 ln, .int .i64 cd]) := range_later HR2.out g23
  have HLA : Hid ((loadVar 33 ⟨w2.heap.size, 0, none⟩).run Tryz.prog W3 = .ok (.agg #[.int .i64 ln, .int .i64 cd]) W3) := fault_load HRA.out
  have HLB : Hid ((loadVar 33 ⟨w3.heap.size, 0, none⟩).run Tryz.prog W3 = .ok (.agg #[.int .i64 ln, .int .i64 cd]) W3) := fault_load HR3.out
  have HIA : Hid (∀ W, Below W3.heap.size W3 W → InstsIs W 0 (.slice a1 m1 cp1) xs) := fun W g => instsIs_move (Keeps.of_below (g23.trans (g.mono g23.size)) 0) (Nat.le_refl _) HI2.out.2
  have HSs : Hid (Calls Tryz.prog 14 #[.slice a1 m1 cp1, .slice a2 m2 cp2] W3 fun e w' => e = .returned (.bool true) ∧ Below W3.heap.size W3 w') := by
    have hq := s_listsame _ _ xs xs W3 0 0 (HIA.out W3 (Below.refl _ _)) (instsIs_move (Keeps.of_below gW3 0) (Nat.le_refl _) HI3.out.2)
    rw [eqL_self] at hq
    exact hq
  have Hm : Hid (m1 = xs.length) := HI2.out.1
  have hs23 := g23.size
  clear g3 gW3 g23 HI3 HI2 HPs HR2 HS2 HR3
  go_wp2_with (first | (refine wpL_store rfl 33 _ _ rfl _ _ rfl _ rfl _ HS3.out ?_) | (refine wpL_load rfl 33 _ rfl _ _ rfl _ HLA.out ?_) | (refine wpL_load rfl 33 _ rfl _ _ rfl _ HLB.out ?_) | fail)
  refine HSs.out.mono ?_
  rintro e w4 ⟨rfl, g4⟩
  have HG4 : Hid (Below W3.heap.size W3 w4) := g4
  have HG14 : Hid (Below w1.heap.size w1 w4) := HG3.out.trans (g4.mono HG3.out.size)
  have cA0 : w4.cell? ⟨w2.heap.size, 0, none⟩ = some (.int .i64 ln) := (range_later HRA.out g4) 0 _ rfl
  have cA1 : w4.cell? ⟨w2.heap.size, 1, none⟩ = some (.int .i64 cd) := (range_later HRA.out g4) 1 _ rfl
  clear g4 HSs HS3 HLA HLB HRA
  rcases HF.out with ⟨hx, hc1, hl0, hl1, hiff⟩ | ⟨hc0, hl0, hok, hlen⟩
  · have hm0 : m1 = 0 := by rw [Hm.out, hx]; rfl
    subst hm0
    have i0 : (0 : Int) < cd := by omega
    obtain ⟨CN, HCN⟩ : ∃ c, Hid (c = s.data.toList.count 10) := ⟨_, rfl⟩
    have hl2 : ln ≤ (CN : Int) + 1 := by rw [HCN.out]; exact hl1
    have Hiff : Hid (ln = 0 ↔ cd = 1) := hiff
    clear hl1 hiff hx Hm HF
    go_wp2
    go_loopg [8, 9] s.size (fun g nv iv wr => ∃ (i c : Nat), i + g = s.size ∧ iv = .int .i64 i ∧ nv = .int .i64 ((c : Int) + 1) ∧ c ≤ i ∧ Hid (c = (s.data.toList.take i).count 10) ∧ wr = w4)
    case atStart => exact ⟨0, 0, by omega, rfl, rfl, Nat.le_refl _, by show 0 = _; simp, rfl⟩
    case round =>
      obtain ⟨i, c, hi, rfl, rfl, hci, HC, rfl⟩ := hrel
      by_cases hlt : i < s.size
      · have i1 : (i : Int) < (s.size : Int) := by omega
        have i3 : (0 : Int) ≤ (i : Int) := by omega
        have hsj : s[i]? = some (s[i]'hlt) := by simp [hlt]
        have htk : s.data.toList.take (i + 1) = s.data.toList.take i ++ [s[i]'hlt] := by
          have hl : i < s.data.toList.length := by simpa using hlt
          rw [List.take_succ_eq_append_getElem hl]
          rfl
        by_cases hc : (s[i]'hlt) = 10
        · have e2 : ((((s[i]'hlt).toNat : Nat) : Int) == 10) = true := by rw [hc]; rfl
          have HC' : Hid (c + 1 = (s.data.toList.take (i + 1)).count 10) := by
            show c + 1 = _
            rw [htk, List.count_append, hc, ← HC.out]; rfl
          clear HC htk hc
          go_wp2
          go_roundg (gk - 1)
          case measure => omega
          case rel => exact ⟨i + 1, c + 1, by omega, by go_num, by go_num, by omega, HC', rfl⟩
        · have e2 : ((((s[i]'hlt).toNat : Nat) : Int) == 10) = false := by
            rw [beq_eq_false_iff_ne]
            intro he
            apply hc
            have : (s[i]'hlt).toNat = 10 := by omega
            exact UInt8.toNat_inj.1 this
          have HC' : Hid (c = (s.data.toList.take (i + 1)).count 10) := by
            show c = _
            rw [htk, List.count_append, ← HC.out, List.count_singleton]
            simp [hc]
          clear HC htk hc
          go_wp2
          go_roundg (gk - 1)
          case measure => omega
          case rel => exact ⟨i + 1, c, by omega, by go_num, rfl, by omega, HC', rfl⟩
      · have i1 : ¬ ((i : Int) < (s.size : Int)) := by omega
        have hcn : c = CN := by
          rw [HC.out, HCN.out, List.take_of_length_le (by simp; omega)]
        have j2 : ln ≤ (c : Int) + 1 := by rw [hcn]; exact hl2
        have HB : Hid (Below w.heap.size w wr) := HBw.out wr HG14.out
        clear HC hcn HCN hl2
        by_cases hz : ln = 0
        · have e1 : (ln == 0) = true := by rw [hz]; rfl
          have e2 : (cd == 1) = true := by rw [Hiff.out.1 hz]; rfl
          clear hz Hiff
          go_wp2
          go_ret
          exact ⟨rfl, HB.out⟩
        · have e1 : (ln == 0) = false := by rw [beq_eq_false_iff_ne]; exact hz
          have e2 : (cd == 1) = false := by rw [beq_eq_false_iff_ne]; exact fun h => hz (Hiff.out.2 h)
          clear hz Hiff
          go_wp2
          go_ret
          exact ⟨rfl, HB.out⟩
  · have i0 : ¬ ((0 : Int) < cd) := by omega
    have hm1 : m1 ≤ 1000 := by rw [Hm.out]; exact hlen
    have HOk : Hid (∀ x ∈ xs, okT x = true) := hok
    have HLn : Hid (xs.length ≤ 1000) := hlen
    have HTw : Hid (∀ W, Below w4.heap.size w4 W → Tabs W ∧ LT W ∧ ML W ∧ EH W) := fun W g => by
      have gg := HBw.out W (HG14.out.trans (g.mono HG14.out.size))
      exact ⟨HTs.out.1.later gg, HTs.out.2.1.later gg, HTs.out.2.2.1.later gg, HTs.out.2.2.2.later gg⟩
    have HIW : Hid (∀ W, Below w4.heap.size w4 W → InstsIs W 0 (.slice a1 m1 cp1) xs) := fun W g => HIA.out W (HG4.out.trans (g.mono HG4.out.size))
    clear hok hlen HF cA0 HIA
    go_wp2
    clear cA1
    go_loopg [10] m1 (fun g iv wr => ∃ (i : Nat), i + g = m1 ∧ iv = .int .i64 i ∧ Hid (Below w4.heap.size w4 wr))
    case atStart => exact ⟨0, by omega, rfl, Below.refl _ _⟩
    case round =>
      obtain ⟨i, hi, rfl, HB⟩ := hrel
      by_cases hlt : i < m1
      · have i1 : (i : Int) < (m1 : Int) := by omega
        have i3 : (0 : Int) ≤ (i : Int) := by omega
        obtain ⟨⟨kc, op, al⟩, hx⟩ : ∃ x, xs[i]? = some x := ⟨_, List.getElem?_eq_getElem (by have := Hm.out; omega)⟩
        have hok : okI kc op al = true := HOk.out _ (List.mem_of_getElem? hx)
        obtain ⟨b', o, c, ln1, cc, rfl, hln, hsl, hld, hcl⟩ := inst_load (HIW.out wr HB.out) hx
        have HLd : Hid ((loadVar 31 ⟨b', o + i * 3, none⟩).run Tryz.prog wr = .ok (.agg #[.int .i64 kc, .int .i64 op, .slice c ln1 cc]) wr) := hld wr (Below.refl _ _)
        have HO1 : Hid (Calls Tryz.prog 15 #[.agg #[.int .i64 kc, .int .i64 op, .slice c ln1 cc]] wr fun e w' => e = .returned (.bool true) ∧ Below wr.heap.size wr w') := by
          have hq := ok_i kc op c al ln1 cc hln wr (HTw.out wr HB.out).1.k (HTw.out wr HB.out).2.1 hsl
          rw [hok] at hq
          exact hq
        obtain ⟨L, HL⟩ : ∃ L, Hid (L = lineT kc op al) := ⟨_, rfl⟩
        have hL0 : (L.toList == []) = false := by
          rw [beq_eq_false_iff_ne, HL.out]
          exact lineT_some hok
        have HO2 : Hid (∀ W, Below wr.heap.size wr W → (loadVar 31 ⟨b', o + i * 3, none⟩).run Tryz.prog W = .ok (.agg #[.int .i64 kc, .int .i64 op, .slice c ln1 cc]) W ∧ Calls Tryz.prog 16 #[.agg #[.int .i64 kc, .int .i64 op, .slice c ln1 cc]] W fun e w' => e = .returned (.string L) ∧ Below W.heap.size W w') := fun W g => by
          have gg := HB.out.trans (g.mono HB.out.size)
          refine ⟨?_, ?_⟩
          · exact hld W g
          · rw [HL.out]
            exact line_i kc op c al ln1 cc hln W (HTw.out W gg).1 (HTw.out W gg).2.1 (hsl.later g)
        have HCl : Hid (∀ W', Below wr.heap.size wr W' → W'.cell? ⟨b', o + i * 3, none⟩ = some (.int .i64 kc) ∧ W'.cell? ⟨b', o + i * 3 + 1, none⟩ = some (.int .i64 op) ∧ W'.cell? ⟨b', o + i * 3 + 2, none⟩ = some (.slice c ln1 cc)) := hcl
        clear hx hsl hld hln hok hcl
        go_wp2_with (first | (refine wpL_load rfl 31 _ rfl _ _ rfl _ HLd.out ?_) | fail)
        refine HO1.out.mono ?_
        rintro e w5 ⟨rfl, g5⟩
        have HG5 : Hid (Below wr.heap.size wr w5) := g5
        obtain ⟨k0, k1, k2⟩ := HCl.out w5 g5
        clear g5 HO1 HLd
        go_wp2_with fail
        refine (HO2.out w5 HG5.out).2.mono ?_
        rintro e w6 ⟨rfl, g6⟩
        have g56 : Below wr.heap.size wr w6 := HG5.out.trans (g6.mono HG5.out.size)
        have HG6 : Hid (Below w4.heap.size w4 w6) := HB.out.trans (g56.mono HB.out.size)
        clear g6 g56 HO2 HG5 HB HL HCl k0 k1 k2
        go_wp2
        go_roundg (gk - 1)
        case measure => omega
        case rel => exact ⟨i + 1, by omega, by simp, HG6⟩
      · have i1 : ¬ ((i : Int) < (m1 : Int)) := by omega
        obtain ⟨S, HS⟩ : ∃ r, Hid (r = listT xs) := ⟨_, rfl⟩
        have HTi : Hid (Calls Tryz.prog 7 #[.slice a1 m1 cp1] wr fun e w' => e = .returned (.string S) ∧ Below wr.heap.size wr w') := by
          rw [HS.out]; exact ltext_i _ xs wr 0 (HTw.out wr HB.out).1 (HTw.out wr HB.out).2.1 (HIW.out wr HB.out)
        have HP : Hid (∀ W, Below w4.heap.size w4 W → Calls Tryz.prog 10 #[.string S] W fun e w' => PQ xs 0 0 W e w') := fun W g =>
          (parse_i S W (by rw [HS.out]; have := listT_size xs; omega) (HTw.out W g).1 (HTw.out W g).2.1 (HTw.out W g).2.2.1 (HTw.out W g).2.2.2).mono fun e w' h => pq_of (by rw [HS.out]; exact parse_text HOk.out HLn.out) h
        clear HS
        go_wp2_with fail
        refine HTi.out.mono ?_
        rintro e w5 ⟨rfl, g5⟩
        have HG5 : Hid (Below w4.heap.size w4 w5) := HB.out.trans (g5.mono HB.out.size)
        clear g5 HTi
        go_wp2_with fail
        refine (HP.out w5 HG5.out).mono ?_
        rintro e w6 ⟨a6, m6, cp6, rfl, HI6, g6⟩
        obtain ⟨W6, HS6, HR6, gW6, hs6⟩ := fault_new w6 0 0
        have g56 : Below w5.heap.size w5 W6 := g6.trans (gW6.mono g6.size)
        have HG6 : Hid (Below w4.heap.size w4 W6) := HG5.out.trans (g56.mono HG5.out.size)
        have cB1 : W6.cell? ⟨w6.heap.size, 1, none⟩ = some (.int .i64 0) := HR6.out 1 _ rfl
        have HLs : Hid (Calls Tryz.prog 11 #[.slice a6 m6 cp6, .slice a1 m1 cp1] W6 fun e w' => e = .returned (.bool true) ∧ Below W6.heap.size W6 w') := by
          have hq := i_listsame _ _ xs xs W6 0 0 (instsIs_move (Keeps.of_below gW6 0) (Nat.le_refl _) HI6.out.2) (HIW.out W6 HG6.out)
          rw [eqL_self] at hq
          exact hq
        have i2 : (m1 : Int) ≤ 1000 := by omega
        clear g6 gW6 g56 HI6 HP HR6
        go_wp2_with (first | (refine wpL_store rfl 33 _ _ rfl _ _ rfl _ rfl _ HS6.out ?_) | fail)
        refine HLs.out.mono ?_
        rintro e w7 ⟨rfl, g7⟩
        have HF : Hid (Below w.heap.size w w7) := by
          have h1 := HG6.out.trans (g7.mono HG6.out.size)
          exact HBw.out w7 (HG14.out.trans (h1.mono HG14.out.size))
        clear g7 HLs cB1
        go_wp2
        go_ret
        exact ⟨rfl, HF.out⟩
theorem walk_lpars (a : Option Addr) (len cap : Nat) (zs : List Int) (w : World) (h : IsRow .u8 w a len cap zs) (p : PT w) (l : LT w) (k : KT w) (t : WT w) (m : ML w) (hh : EH w) :
    Calls Tryz.prog 4 #[.slice a len cap] w fun e w' => e = .returned (.bool true) ∧ Below w.heap.size w w' := by
  by_cases hl : len ≤ 1048576
  · obtain ⟨blk, off, z, hc⟩ := h.code hl
    exact law_lpars w ⟨k, p, t⟩ l m hh hc
  · have hcap : len ≤ maxLen := by
      rcases h with ⟨_, rfl, _⟩ | ⟨_, _, h1, h2, _⟩
      · omega
      · omega
    unfold maxLen at hcap
    have i1 : (1048576 : Int) < (len : Int) := by omega
    go_enter Tryz.func4, Tryz.ntmps4
    go_wp2
    go_ret
    exact ⟨rfl, Below.refl _ _⟩
end Go.Proofs.YtndfmgbdfcggmaaGreatDoor
