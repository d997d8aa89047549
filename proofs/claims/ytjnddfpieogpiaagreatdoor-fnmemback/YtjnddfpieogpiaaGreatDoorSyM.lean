/- Reading real numbers: the library's part. -/
import Derived.Test.YtjnddfpieogpiaaGreatDoorSx
import Derived.Test.YtjnddfpieogpiaaGreatDoorLw
import Derived.Lib.SmallJoins
namespace Go.Proofs.YtjnddfpieogpiaaGreatDoor.Rr
open Go.RowKit
open Go.Lib (decDigits itoa)
set_option linter.unusedVariables false

/-- What the library reads of package-level variables. -/
structure EV (w : World) : Prop where
  pt : PT w
  ml : ∃ m, w.cell? ⟨4, 0, none⟩ = some (.int .i64 m)
  es : ∃ t p, w.cell? ⟨7, 0, none⟩ = some (.iface t p)
  er : ∃ t p, w.cell? ⟨8, 0, none⟩ = some (.iface t p)

theorem EV.later {w w' : World} (h : EV w) (g : Below w.heap.size w w') : EV w' := by
  obtain ⟨m, hm⟩ := h.ml
  obtain ⟨t, p, hs⟩ := h.es
  obtain ⟨t', p', hr⟩ := h.er
  exact ⟨h.pt.later g, ⟨m, cell_later g hm⟩, ⟨t, p, cell_later g hs⟩, ⟨t', p', cell_later g hr⟩⟩

theorem cut_r (s sep : ByteArray) (w : World) (hw : EV w) (hs : s.size ≤ 1048576) :
    Calls Tryz.prog 82 #[.string s, .string sep] w fun e w' => e = .returned (.tuple #[.string (tx (Lib.cut s.data.toList sep.data.toList).1), .string (tx (Lib.cut s.data.toList sep.data.toList).2.1), .bool (Lib.cut s.data.toList sep.data.toList).2.2]) ∧ Below w.heap.size w w' := by
  obtain ⟨m, hm⟩ := hw.ml
  refine (Any.strings_Cut Tryz.layCu s sep m w (by omega) hm).mono ?_
  rintro e w' ⟨rfl, n, rfl⟩
  exact ⟨rfl, below_drewN w n⟩

/-- How a number is read: with no error, or with one. -/
def NumR (r : Lib.NumEnd Int) (e : Ending) : Prop := ∃ (n : Int) (err : Value), e = .returned (.tuple #[.int .i64 n, err]) ∧ (-9223372036854775808 ≤ n ∧ n ≤ 9223372036854775807) ∧ ((err = .nilIface ∧ r = .ok n) ∨ ((∃ t p, err = .iface t p) ∧ ∀ v, r ≠ .ok v))

theorem ok_below {w w' : World} {t : TypeId} (h : w' = w ∨ ∃ s, w' = Lib.bytesWorld w t s) : Below w.heap.size w w' := by
  rcases h with rfl | ⟨s, rfl⟩
  · exact Below.refl _ _
  · exact Lib.bytesWorld_below w t s

theorem parse_r (s : ByteArray) (w : World) (hw : EV w) (hs : s.size ≤ 1048576) :
    Calls Tryz.prog 134 #[.string s, .int .i64 10, .int .i64 64] w fun e w' => NumR (Lib.parseIntB 64 s.data.toList) e ∧ Below w.heap.size w w' := by
  cases h : Lib.parseIntB 64 s.data.toList with
  | ok v =>
    refine (Any.strconv_ParseInt_10_at64_ok Tryz.layPi s (by omega) v h w).mono ?_
    rintro e w' ⟨rfl, hw'⟩
    exact ⟨⟨v, _, rfl, parse_bd rfl h, .inl ⟨rfl, rfl⟩⟩, ok_below hw'⟩
  | «syntax» =>
    obtain ⟨t, p, hc⟩ := hw.es
    refine (Any.strconv_ParseInt_10_at64_syntax Tryz.layPi s (by omega) h _ w hc (.inr ⟨t, p, rfl⟩)).mono ?_
    rintro e w' ⟨N, rfl, -, -, hb⟩
    exact ⟨⟨0, _, rfl, by omega, .inr ⟨⟨_, _, rfl⟩, fun v h => by cases h⟩⟩, hb⟩
  | range =>
    obtain ⟨t, p, hc⟩ := hw.er
    refine (Any.strconv_ParseInt_10_at64_range Tryz.layPi s (by omega) h _ w hc (.inr ⟨t, p, rfl⟩)).mono ?_
    rintro e w' ⟨N, rfl, -, -, hb⟩
    refine ⟨⟨_, _, rfl, ?_, .inr ⟨⟨_, _, rfl⟩, fun v h => by cases h⟩⟩, hb⟩
    unfold Lib.intSat
    split <;> decide

theorem atoi_r (s : ByteArray) (w : World) (hw : EV w) (hs : s.size ≤ 1048576) :
    Calls Tryz.prog 170 #[.string s] w fun e w' => NumR (Lib.atoiAll s.data.toList) e ∧ Below w.heap.size w w' := by
  cases h : Lib.atoiAll s.data.toList with
  | ok v =>
    refine (Any.strconv_Atoi_ok Tryz.layAt s (by omega) v h w).mono ?_
    rintro e w' ⟨rfl, hw'⟩
    exact ⟨⟨v, _, rfl, atoi_bd h, .inl ⟨rfl, rfl⟩⟩, ok_below hw'⟩
  | «syntax» =>
    obtain ⟨t, p, hc⟩ := hw.es
    refine (Any.strconv_Atoi_syntax Tryz.layAt s (by omega) h _ w hc (.inr ⟨t, p, rfl⟩)).mono ?_
    rintro e w' ⟨N, rfl, -, -, hb⟩
    exact ⟨⟨0, _, rfl, by omega, .inr ⟨⟨_, _, rfl⟩, fun v h => by cases h⟩⟩, hb⟩
  | range =>
    obtain ⟨t, p, hc⟩ := hw.er
    refine (Any.strconv_Atoi_range Tryz.layAt s (by omega) h _ w hc (.inr ⟨t, p, rfl⟩)).mono ?_
    rintro e w' ⟨N, rfl, -, -, hb⟩
    refine ⟨⟨_, _, rfl, ?_, .inr ⟨⟨_, _, rfl⟩, fun v h => by cases h⟩⟩, hb⟩
    unfold Lib.atoiSat
    split <;> omega
end Go.Proofs.YtjnddfpieogpiaaGreatDoor.Rr
/- Reading real numbers: the program's realGuess and RealRead. -/
namespace Go.Proofs.YtjnddfpieogpiaaGreatDoor.Rr
open Go.RowKit
open Go.Lib (decDigits itoa)
set_option linter.unusedVariables false

set_option maxHeartbeats 4000000 in
theorem guess_r (s : ByteArray) (w : World) (hw : EV w) (hs : s.size ≤ 1048576) :
    Calls Tryz.prog 140 #[.string s] w fun e w' => ∃ g, e = .returned (.float .f64 g) ∧ g < 18446744073709551616 ∧ (∀ x, Txt x s.data.toList → Txt g s.data.toList) ∧ Below w.heap.size w w' := by
  go_enter Tryz.func140, Tryz.ntmps140
  go_wp2_with fail
  refine (impl_words _).mono ?_
  rintro e w1 ⟨rfl, g1⟩
  go_wp2
  go_loopg [12, 4] 4 (fun g i _ wr => ∃ (j : Nat), j + g = 4 ∧ i = .int .i64 j ∧ Hid (∀ k, k < j → tx (wT k) ≠ s) ∧ Below w.heap.size w wr)
  case atStart => exact ⟨0, by omega, rfl, fun k hk => by omega, g1⟩
  case round =>
    clear g1
    obtain ⟨j, hj, rfl, HN, hb⟩ := hrel
    have ev := hw.later hb
    by_cases hlt : j < 4
    · obtain ⟨k1, k2⟩ := wB_txt j hlt
      have hc : ∀ W, PT W → Calls Tryz.prog 73 #[.float .f64 (wB j)] W fun e w' => e = .returned (.string (tx (wT j))) ∧ Below W.heap.size W w' := fun W hP => by
        refine (impl_rtext (wB j) W k2 hP).mono ?_
        rintro e w' ⟨t, rfl, ht, g⟩
        rw [ht.unique k1]
        exact ⟨rfl, g⟩
      have HC : Hid (∀ W, PT W → Calls Tryz.prog 73 #[.float .f64 (wB j)] W fun e w' => e = .returned (.string (tx (wT j))) ∧ Below W.heap.size W w') := hc
      have HK : Hid (Txt (wB j) (wT j) ∧ wB j < 18446744073709551616) := ⟨k1, k2⟩
      have hidx : ∀ W, (Instr.index 220 (.agg #[.float .f64 9221120237041090561, .float .f64 9218868437227405312, .float .f64 18442240474082181120, .float .f64 9223372036854775808]) (.int .i64 j)).run Tryz.prog W = .ok (.float .f64 (wB j)) W := fun W => by
        have hj4 : j = 0 ∨ j = 1 ∨ j = 2 ∨ j = 3 := by omega
        rcases hj4 with rfl | rfl | rfl | rfl
        · exact idx71_0 _ _ _ _ W
        · exact idx71_1 _ _ _ _ W
        · exact idx71_2 _ _ _ _ W
        · exact idx71_3 _ _ _ _ W
      clear hc k1 k2
      obtain ⟨X, HX⟩ : ∃ X, Hid (X = wB j) := ⟨_, rfl⟩
      rw [← HX.out] at hidx HC HK
      obtain ⟨D, HD⟩ : ∃ D, Hid (D = tx (wT j)) := ⟨_, rfl⟩
      rw [← HD.out] at HC
      go_wp2_with fail
      refine (HC.out _ ev.pt).mono ?_
      rintro e w2 ⟨rfl, g2⟩
      have B2 := hb.trans (g2.mono hb.size)
      clear g2 hb HC hidx HX
      by_cases he : D = s
      · have e1 : (D.toList == s.toList) = true := by rw [he]; exact beq_yes s
        have HF : Hid (∀ x, Txt x s.data.toList → Txt X s.data.toList) := fun x _ => by
          rw [← he, HD.out, tx_data]
          exact HK.out.1
        clear he HD HN
        go_wp2
        go_ret
        exact ⟨X, rfl, HK.out.2, HF.out, B2⟩
      · have e1 := beq_no he
        have HN2 : Hid (∀ k, k < j + 1 → tx (wT k) ≠ s) := fun k hk => by
          by_cases hkj : k < j
          · exact HN.out k hkj
          · have : k = j := by omega
            rw [this, ← HD.out]; exact he
        clear he HD HN HK
        go_wp2
        go_roundg (gk - 1)
        case measure => omega
        case rel => exact ⟨j + 1, by omega, by go_num, HN2, B2⟩
    · have hc := cut_r s ⟨#[42, 50, 94]⟩
      rw [sep_data] at hc
      have hl := cut_len s.data.toList [42, 50, 94]
      have hsz : s.data.toList.length = s.size := by rw [← Lib.size_eq]
      by_cases hF : ∃ z n e, FT s.data.toList z n e
      · obtain ⟨z, n, e, hft⟩ := hF
        rw [ft_cut hft] at hc hl
        obtain ⟨f1, f2, f3, f4, f5, f6⟩ := hft
        have c1 := parse_r (tx (itoa (if z then -(n : Int) else n)))
        have c2 := atoi_r (tx (itoa e))
        have hab : (if z = true then -(n : Int) else (n : Int)).natAbs = n := by cases z <;> simp
        rw [tx_data, parseInt_itoa _ (by rw [hab]; omega)] at c1
        rw [tx_data, atoi_itoa e (by omega)] at c2
        have s1 : (tx (itoa (if z then -(n : Int) else n))).size ≤ 1048576 := by rw [tx_size]; exact Nat.le_trans hl.1 (by omega)
        have s2 : (tx (itoa e)).size ≤ 1048576 := by rw [tx_size]; exact Nat.le_trans hl.2 (by omega)
        have c3 := fun W => scaled_ex (decide ((if z then -(n : Int) else (n : Int)) < 0)) n (floatOfInt .f64 (if z then -(n : Int) else n)) e W (ex_start n _ hab f3) f3 f4 f5 f6
        have hz : decide ((if z then -(n : Int) else (n : Int)) < 0) = z := by cases z <;> simp <;> omega
        rw [hz] at c3
        have HE : Hid (∀ y, Ex z n (e + 1074).toNat y → Txt y s.data.toList ∧ y < 18446744073709551616) := fun y hy => ⟨ft_txt ⟨f1, f2, f3, f4, f5, f6⟩ hy, (ex_rg hy).2.2.2⟩
        generalize (if z = true then -(n : Int) else (n : Int)) = Z at c1 c3 hc s1
        obtain ⟨D1, H1⟩ : ∃ D, Hid (D = tx (itoa Z)) := ⟨_, rfl⟩
        obtain ⟨D2, H2⟩ : ∃ D, Hid (D = tx (itoa e)) := ⟨_, rfl⟩
        have k0 : ∀ W, EV W → Calls Tryz.prog 82 #[.string s, .string ⟨#[42, 50, 94]⟩] W fun e w' => e = .returned (.tuple #[.string D1, .string D2, .bool true]) ∧ Below W.heap.size W w' := by
          rw [H1.out, H2.out]; exact fun W hW => hc W hW hs
        have k1 : ∀ W, EV W → Calls Tryz.prog 134 #[.string D1, .int .i64 10, .int .i64 64] W fun e w' => NumR (.ok Z) e ∧ Below W.heap.size W w' := by
          rw [H1.out]; exact fun W hW => c1 W hW s1
        have k2 : ∀ W, EV W → Calls Tryz.prog 170 #[.string D2] W fun x w' => NumR (.ok e) x ∧ Below W.heap.size W w' := by
          rw [H2.out]; exact fun W hW => c2 W hW s2
        clear hc c1 c2 s1 s2 hab hz f1 f2 f3 f6 hl hsz HN H1 H2
        go_wp2_with fail
        refine (k0 _ ev).mono ?_
        rintro x w2 ⟨rfl, g2⟩
        have B2 := hb.trans (g2.mono hb.size)
        have ev2 := ev.later g2
        clear g2 hb ev k0
        go_wp2_with fail
        refine (k1 _ ev2).mono ?_
        rintro x w3 ⟨⟨v, err, rfl, hv, hr⟩, g3⟩
        have B3 := B2.trans (g3.mono B2.size)
        have ev3 := ev2.later g3
        clear g3 ev2 k1 B2
        rcases hr with ⟨rfl, hr⟩ | ⟨_, hr⟩
        · injection hr with hr
          subst hr
          go_wp2_with fail
          refine (k2 _ ev3).mono ?_
          rintro x w4 ⟨⟨v, err, rfl, hv2, hr⟩, g4⟩
          have B4 := B3.trans (g4.mono B3.size)
          clear g4 ev3 k2 B3
          rcases hr with ⟨rfl, hr⟩ | ⟨_, hr⟩
          · injection hr with hr
            subst hr
            go_wp2_with fail
            refine (c3 _).mono ?_
            rintro x w5 ⟨y, rfl, hy, rfl⟩
            have HY : Hid (Ex z n (e + 1074).toNat y) := hy
            clear hy c3
            go_wp2
            go_ret
            exact ⟨y, rfl, (HE.out y HY.out).2, fun _ _ => (HE.out y HY.out).1, B4⟩
          · exact absurd rfl (hr _)
        · exact absurd rfl (hr _)
      · by_cases h0 : s.data.toList = [48]
        · rw [h0, zero_cut] at hc
          have c1 := parse_r (tx [48])
          have c2 := atoi_r (tx [])
          rw [tx_data] at c1 c2
          have p1 : Lib.parseIntB 64 [48] = .ok 0 := by decide
          have p2 : Lib.atoiAll [] = .«syntax» := by decide
          rw [p1] at c1
          rw [p2] at c2
          have HZ : Hid (∀ x, Txt x s.data.toList → Txt 0 s.data.toList) := fun x _ => by
            rw [h0]; exact .inr (.inl ⟨by decide, by decide, rfl⟩)
          obtain ⟨D1, H1⟩ : ∃ D, Hid (D = tx [48]) := ⟨_, rfl⟩
          obtain ⟨D2, H2⟩ : ∃ D, Hid (D = tx []) := ⟨_, rfl⟩
          have k0 : ∀ W, EV W → Calls Tryz.prog 82 #[.string s, .string ⟨#[42, 50, 94]⟩] W fun e w' => e = .returned (.tuple #[.string D1, .string D2, .bool false]) ∧ Below W.heap.size W w' := by
            rw [H1.out, H2.out]; exact fun W hW => hc W hW hs
          have k1 : ∀ W, EV W → Calls Tryz.prog 134 #[.string D1, .int .i64 10, .int .i64 64] W fun e w' => NumR (.ok 0) e ∧ Below W.heap.size W w' := by
            rw [H1.out]; exact fun W hW => c1 W hW (by decide)
          have k2 : ∀ W, EV W → Calls Tryz.prog 170 #[.string D2] W fun x w' => NumR .«syntax» x ∧ Below W.heap.size W w' := by
            rw [H2.out]; exact fun W hW => c2 W hW (by decide)
          clear hc c1 c2 p1 p2 hF h0 hl hsz HN H1 H2
          go_wp2_with fail
          refine (k0 _ ev).mono ?_
          rintro x w2 ⟨rfl, g2⟩
          have B2 := hb.trans (g2.mono hb.size)
          have ev2 := ev.later g2
          clear g2 hb ev k0
          go_wp2_with fail
          refine (k1 _ ev2).mono ?_
          rintro x w3 ⟨⟨v, err, rfl, hv, hr⟩, g3⟩
          have B3 := B2.trans (g3.mono B2.size)
          have ev3 := ev2.later g3
          clear g3 ev2 k1 B2
          rcases hr with ⟨rfl, hr⟩ | ⟨_, hr⟩
          · clear hr
            go_wp2_with fail
            refine (k2 _ ev3).mono ?_
            rintro x w4 ⟨⟨v, err, rfl, hv2, hr⟩, g4⟩
            have B4 := B3.trans (g4.mono B3.size)
            clear g4 ev3 k2 B3
            rcases hr with ⟨rfl, hr⟩ | ⟨⟨t, p, rfl⟩, hr⟩
            · cases hr
            · clear hr
              go_wp2
              go_ret
              exact ⟨0, rfl, by decide, HZ.out, B4⟩
          · exact absurd rfl (hr _)
        · have HZ : Hid (∀ g x, Txt x s.data.toList → Txt g s.data.toList) := fun g x hx => by
            exfalso
            rcases txt_cases hx with ⟨k, hk, e⟩ | e | e
            · have := HN.out k (by omega)
              apply this
              rw [← e, tx_of]
            · exact h0 e
            · exact hF e
          have s1 : (tx (Lib.cut s.data.toList [42, 50, 94]).1).size ≤ 1048576 := by rw [tx_size]; exact Nat.le_trans hl.1 (by omega)
          have s2 : (tx (Lib.cut s.data.toList [42, 50, 94]).2.1).size ≤ 1048576 := by rw [tx_size]; exact Nat.le_trans hl.2 (by omega)
          generalize tx (Lib.cut s.data.toList [42, 50, 94]).1 = D1 at hc s1
          generalize tx (Lib.cut s.data.toList [42, 50, 94]).2.1 = D2 at hc s2
          generalize (Lib.cut s.data.toList [42, 50, 94]).2.2 = bo at hc
          have k1 := fun W hW => parse_r D1 W hW s1
          have k2 := fun W hW => atoi_r D2 W hW s2
          have k0 := fun W hW => hc W hW hs
          generalize Lib.parseIntB 64 D1.data.toList = r1 at k1
          generalize Lib.atoiAll D2.data.toList = r2 at k2
          clear hc s1 s2 hF h0 hl hsz HN
          go_wp2_with fail
          refine (k0 _ ev).mono ?_
          rintro x w2 ⟨rfl, g2⟩
          have B2 := hb.trans (g2.mono hb.size)
          have ev2 := ev.later g2
          clear g2 hb ev k0
          go_wp2_with fail
          refine (k1 _ ev2).mono ?_
          rintro x w3 ⟨⟨v, err, rfl, hv, hr⟩, g3⟩
          have B3 := B2.trans (g3.mono B2.size)
          have ev3 := ev2.later g3
          clear g3 ev2 k1 B2
          rcases hr with ⟨rfl, hr⟩ | ⟨⟨t, p, rfl⟩, hr⟩
          · clear hr
            go_wp2_with fail
            refine (k2 _ ev3).mono ?_
            rintro x w4 ⟨⟨y, err, rfl, hv2, hr⟩, g4⟩
            have B4 := B3.trans (g4.mono B3.size)
            clear g4 ev3 k2 B3
            rcases hr with ⟨rfl, hr⟩ | ⟨⟨t, p, rfl⟩, hr⟩
            · clear hr
              by_cases y1 : y < -1074
              · go_wp2
                go_ret
                exact ⟨0, rfl, by decide, HZ.out 0, B4⟩
              · by_cases y2 : 1023 < y
                · go_wp2
                  go_ret
                  exact ⟨0, rfl, by decide, HZ.out 0, B4⟩
                · go_wp2_with fail
                  refine (scaled_any (floatOfInt .f64 v) y _ (Fm.whole_notN v) (Fm.whole_lt v) (by omega) (by omega)).mono ?_
                  rintro x w5 ⟨g, rfl, hg, rfl⟩
                  have HG : Hid (g < 18446744073709551616) := hg
                  clear hg
                  go_wp2
                  go_ret
                  exact ⟨g, rfl, HG.out, HZ.out g, B4⟩
            · clear hr
              go_wp2
              go_ret
              exact ⟨0, rfl, by decide, HZ.out 0, B4⟩
          · clear hr
            go_wp2
            go_ret
            exact ⟨0, rfl, by decide, HZ.out 0, B3⟩

set_option maxHeartbeats 1000000 in
theorem impl_read (s : ByteArray) (w : World) (hw : EV w) (hs : s.size ≤ 1048576) :
    Calls Tryz.prog 87 #[.string s] w fun e w' => ∃ v ok, e = .returned (.tuple #[.float .f64 v, .bool ok]) ∧ Rd2 s.data.toList v ok ∧ Below w.heap.size w w' := by
  go_enter Tryz.func87, Tryz.ntmps87
  go_wp2_with fail
  refine (guess_r s _ hw hs).mono ?_
  rintro e w1 ⟨g, rfl, hg, hx, g1⟩
  have HX : Hid (g < 18446744073709551616 ∧ ∀ x, Txt x s.data.toList → Txt g s.data.toList) := ⟨hg, hx⟩
  have ev1 := hw.later g1
  clear hg hx hw
  go_wp2_with fail
  refine (impl_rtext g _ HX.out.1 ev1.pt).mono ?_
  rintro e w2 ⟨t, rfl, ht, g2⟩
  have B2 := g1.trans (g2.mono g1.size)
  obtain ⟨D, HD⟩ : ∃ D, Hid (D = tx t) := ⟨_, rfl⟩
  rw [← HD.out]
  clear g1 g2 ev1
  by_cases he : D = s
  · have e1 : (D.toList == s.toList) = true := by rw [he]; exact beq_yes s
    have HR : Hid (Rd2 s.data.toList g true) := ⟨HX.out.1, .inl ⟨rfl, by rw [← he, HD.out, tx_data]; exact ht⟩⟩
    clear ht he HD HX
    go_wp2
    go_ret2
    exact ⟨g, true, rfl, HR.out, B2⟩
  · have e1 := beq_no he
    have HR : Hid (Rd2 s.data.toList 0 false) := ⟨by decide, .inr ⟨rfl, rfl, fun x hx => by
      have h2 := HX.out.2 x hx
      apply he
      rw [HD.out, ht.unique h2, tx_of]⟩⟩
    clear ht he HD HX
    go_wp2
    go_ret2
    exact ⟨0, false, rfl, HR.out, B2⟩
end Go.Proofs.YtjnddfpieogpiaaGreatDoor.Rr
