/- Reading real numbers: the program's realGuess and RealRead. -/
import Derived.Test.YtpjpjndichpfaaaDoorRg
namespace Go.Proofs.YtpjpjndichpfaaaDoor
open Go.RowKit
open Go.Lib (decDigits itoa)
set_option linter.unusedVariables false

def wB (j : Nat) : Nat := if j = 0 then 9221120237041090561 else if j = 1 then 9218868437227405312 else if j = 2 then 18442240474082181120 else 9223372036854775808
def wT (j : Nat) : List UInt8 := if j = 0 then [110, 97, 110] else if j = 1 then [105, 110, 102] else if j = 2 then [45, 105, 110, 102] else [45, 48]
theorem wB_txt (j : Nat) (h : j < 4) : Txt (wB j) (wT j) ∧ wB j < 18446744073709551616 := by
  have hj : j = 0 ∨ j = 1 ∨ j = 2 ∨ j = 3 := by omega
  rcases hj with rfl | rfl | rfl | rfl
  · exact ⟨.inl ⟨by decide, rfl⟩, by decide⟩
  · exact ⟨.inr (.inr ⟨by decide, by decide +kernel, [105, 110, 102], .inl ⟨by decide, rfl⟩, rfl⟩), by decide⟩
  · exact ⟨.inr (.inr ⟨by decide, by decide +kernel, [105, 110, 102], .inl ⟨by decide, rfl⟩, rfl⟩), by decide⟩
  · exact ⟨.inr (.inl ⟨by decide, by decide +kernel, rfl⟩), by decide⟩

/-- The text of a finite number other than 0. -/
def FT (t : List UInt8) (s : Bool) (n : Nat) (e : Int) : Prop := t = (if s then 45 :: posT n e else posT n e) ∧ n % 2 = 1 ∧ n < 9007199254740992 ∧ -1074 ≤ e ∧ e ≤ 1023 ∧ n * 2 ^ (e + 1074).toNat < Fm.Kinf

theorem txt_cases {x : Nat} {t : List UInt8} (h : Txt x t) : (∃ j, j < 4 ∧ t = wT j) ∨ t = [48] ∨ ∃ s n e, FT t s n e := by
  rcases h with ⟨h1, rfl⟩ | ⟨h1, h2, rfl⟩ | ⟨h1, h2, p, h3, rfl⟩
  · exact .inl ⟨0, by omega, rfl⟩
  · cases Fm.sg x
    · exact .inr (.inl rfl)
    · exact .inl ⟨3, by omega, rfl⟩
  · rcases h3 with ⟨h3, rfl⟩ | ⟨h3, n, e, h4, rfl⟩
    · cases Fm.sg x
      · exact .inl ⟨1, by omega, rfl⟩
      · exact .inl ⟨2, by omega, rfl⟩
    · obtain ⟨a, b, c, d⟩ := h4.bd h3 h2
      have hv := h4.val h2
      have hl := Fm.R_fin_lt h3
      rw [hv] at hl
      exact .inr (.inr ⟨Fm.sg x, n, e, rfl, h4.1, a, c, b, hl⟩)
theorem ft_txt {t : List UInt8} {s : Bool} {n y : Nat} {e : Int} (h : FT t s n e) (hy : Ex s n (e + 1074).toNat y) : Txt y t := by
  obtain ⟨h1, h2, h3, h4, h5, h6⟩ := h
  obtain ⟨a, b, c, d⟩ := ex_rg hy
  have hn : 0 < n := by omega
  have hR : 0 < Fm.R (Fm.rg y) := by rw [c]; exact Nat.mul_pos hn (Nat.two_pow_pos _)
  refine .inr (.inr ⟨by unfold Fm.isN; omega, hR, posT n e, .inr ⟨a, n, e, Fm.Parts.of h2 h4 c, rfl⟩, ?_⟩)
  rw [b, h1]

theorem tx_data (l : List UInt8) : (tx l).data.toList = l := by simp [tx]
theorem tx_of (s : ByteArray) : tx s.data.toList = s := by
  unfold tx
  cases s
  simp
theorem beq_no {a b : ByteArray} (h : a ≠ b) : (a.toList == b.toList) = false := by
  rw [beq_eq_false_iff_ne, ByteArray.toList_eq, ByteArray.toList_eq]
  intro e
  apply h
  rw [← tx_of a, ← tx_of b, e]
theorem beq_yes (a : ByteArray) : (a.toList == a.toList) = true := by simp

theorem cut_len (s sep : List UInt8) : (Lib.cut s sep).1.length ≤ s.length ∧ (Lib.cut s sep).2.1.length ≤ s.length := by
  unfold Lib.cut
  split
  · simp only [List.length_take, List.length_drop]
    omega
  · simp

theorem sep_data : (⟨#[42, 50, 94]⟩ : ByteArray).data.toList = [42, 50, 94] := rfl

/-- The signed number of a text. -/
theorem ft_cut {t : List UInt8} {s : Bool} {n : Nat} {e : Int} (h : FT t s n e) : Lib.cut t [42, 50, 94] = (itoa (if s then -(n : Int) else n), itoa e, true) := by
  obtain ⟨h1, h2, -⟩ := h
  rw [h1]
  cases s
  · simp only [Bool.false_eq_true, if_false]
    rw [Lib.itoa_nonneg]
    exact cut_star _ _ (dec_nostar n)
  · simp only [if_true]
    rw [Lib.itoa_neg n (by omega)]
    exact cut_star (45 :: decDigits n) _ (fun x hx => by
      rcases List.mem_cons.1 hx with rfl | hx
      · decide
      · exact dec_nostar n x hx)

theorem zero_cut : Lib.cut [48] [42, 50, 94] = ([48], [], false) := by decide

set_option maxHeartbeats 4000000 in
theorem guess_r (s : ByteArray) (w : World) (hw : EV w) (hs : s.size ≤ 1048576) :
    Calls Tryd.prog 48 #[.string s] w fun e w' => ∃ g, e = .returned (.float .f64 g) ∧ g < 18446744073709551616 ∧ (∀ x, Txt x s.data.toList → Txt g s.data.toList) ∧ Below w.heap.size w w' := by
  go_enter Tryd.func48, Tryd.ntmps48
  go_wp2_with fail
  refine (impl_words _).mono ?_
  rintro e w1 ⟨rfl, g1⟩
  go_wp2
  go_loopg [12, 4] 4 (fun g i _ wr => ∃ (j : Nat), j + g = 4 ∧ i = .int .i64 j ∧ Hid (∀ k, k < j → tx (wT k) ≠ s) ∧ Below w.heap.size w wr)
  case atStart => exact ⟨0, by omega, rfl, fun k hk => by omega, g1⟩
  case round =>
    clear g1
    obtain ⟨j, hj, rfl, HN, hb⟩ := hrel
    have ev := hw.later hb
    by_cases hlt : j < 4
    · obtain ⟨k1, k2⟩ := wB_txt j hlt
      have hc : ∀ W, PT W → Calls Tryd.prog 22 #[.float .f64 (wB j)] W fun e w' => e = .returned (.string (tx (wT j))) ∧ Below W.heap.size W w' := fun W hP => by
        refine (impl_text (wB j) W k2 hP).mono ?_
        rintro e w' ⟨t, rfl, ht, g⟩
        rw [ht.unique k1]
        exact ⟨rfl, g⟩
      have HC : Hid (∀ W, PT W → Calls Tryd.prog 22 #[.float .f64 (wB j)] W fun e w' => e = .returned (.string (tx (wT j))) ∧ Below W.heap.size W w') := hc
      have HK : Hid (Txt (wB j) (wT j) ∧ wB j < 18446744073709551616) := ⟨k1, k2⟩
      have hidx : ∀ W, (Instr.index 71 (.agg #[.float .f64 9221120237041090561, .float .f64 9218868437227405312, .float .f64 18442240474082181120, .float .f64 9223372036854775808]) (.int .i64 j)).run Tryd.prog W = .ok (.float .f64 (wB j)) W := fun W => by
        have hj4 : j = 0 ∨ j = 1 ∨ j = 2 ∨ j = 3 := by omega
        rcases hj4 with rfl | rfl | rfl | rfl
        · exact idx71_0 _ _ _ _ W
        · exact idx71_1 _ _ _ _ W
        · exact idx71_2 _ _ _ _ W
        · exact idx71_3 _ _ _ _ W
      clear hc k1 k2
      obtain ⟨X, HX⟩ : ∃ X, Hid (X = wB j) := ⟨_, rfl⟩
      rw [← HX.out] at hidx HC HK
      obtain ⟨D, HD⟩ : ∃ D, Hid (D = tx (wT j)) := ⟨_, rfl⟩
      rw [← HD.out] at HC
      go_wp2_with fail
      refine (HC.out _ ev.pt).mono ?_
      rintro e w2 ⟨rfl, g2⟩
      have B2 := hb.trans (g2.mono hb.size)
      clear g2 hb HC hidx HX
      by_cases he : D = s
      · have e1 : (D.toList == s.toList) = true := by rw [he]; exact beq_yes s
        have HF : Hid (∀ x, Txt x s.data.toList → Txt X s.data.toList) := fun x _ => by
          rw [← he, HD.out, tx_data]
          exact HK.out.1
        clear he HD HN
        go_wp2
        go_ret
        exact ⟨X, rfl, HK.out.2, HF.out, B2⟩
      · have e1 := beq_no he
        have HN2 : Hid (∀ k, k < j + 1 → tx (wT k) ≠ s) := fun k hk => by
          by_cases hkj : k < j
          · exact HN.out k hkj
          · have : k = j := by omega
            rw [this, ← HD.out]; exact he
        clear he HD HN HK
        go_wp2
        go_roundg (gk - 1)
        case measure => omega
        case rel => exact ⟨j + 1, by omega, by go_num, HN2, B2⟩
    · have hc := cut_r s ⟨#[42, 50, 94]⟩
      rw [sep_data] at hc
      have hl := cut_len s.data.toList [42, 50, 94]
      have hsz : s.data.toList.length = s.size := by rw [← Lib.size_eq]
      by_cases hF : ∃ z n e, FT s.data.toList z n e
      · obtain ⟨z, n, e, hft⟩ := hF
        rw [ft_cut hft] at hc hl
        obtain ⟨f1, f2, f3, f4, f5, f6⟩ := hft
        have c1 := parse_r (tx (itoa (if z then -(n : Int) else n)))
        have c2 := atoi_r (tx (itoa e))
        have hab : (if z = true then -(n : Int) else (n : Int)).natAbs = n := by cases z <;> simp
        rw [tx_data, parseInt_itoa _ (by rw [hab]; omega)] at c1
        rw [tx_data, atoi_itoa e (by omega)] at c2
        have s1 : (tx (itoa (if z then -(n : Int) else n))).size ≤ 1048576 := by rw [tx_size]; exact Nat.le_trans hl.1 (by omega)
        have s2 : (tx (itoa e)).size ≤ 1048576 := by rw [tx_size]; exact Nat.le_trans hl.2 (by omega)
        have c3 := fun W => scaled_ex (decide ((if z then -(n : Int) else (n : Int)) < 0)) n (floatOfInt .f64 (if z then -(n : Int) else n)) e W (ex_start n _ hab f3) f3 f4 f5 f6
        have hz : decide ((if z then -(n : Int) else (n : Int)) < 0) = z := by cases z <;> simp <;> omega
        rw [hz] at c3
        have HE : Hid (∀ y, Ex z n (e + 1074).toNat y → Txt y s.data.toList ∧ y < 18446744073709551616) := fun y hy => ⟨ft_txt ⟨f1, f2, f3, f4, f5, f6⟩ hy, (ex_rg hy).2.2.2⟩
        generalize (if z = true then -(n : Int) else (n : Int)) = Z at c1 c3 hc s1
        obtain ⟨D1, H1⟩ : ∃ D, Hid (D = tx (itoa Z)) := ⟨_, rfl⟩
        obtain ⟨D2, H2⟩ : ∃ D, Hid (D = tx (itoa e)) := ⟨_, rfl⟩
        have k0 : ∀ W, EV W → Calls Tryd.prog 77 #[.string s, .string ⟨#[42, 50, 94]⟩] W fun e w' => e = .returned (.tuple #[.string D1, .string D2, .bool true]) ∧ Below W.heap.size W w' := by
          rw [H1.out, H2.out]; exact fun W hW => hc W hW hs
        have k1 : ∀ W, EV W → Calls Tryd.prog 78 #[.string D1, .int .i64 10, .int .i64 64] W fun e w' => NumR (.ok Z) e ∧ Below W.heap.size W w' := by
          rw [H1.out]; exact fun W hW => c1 W hW s1
        have k2 : ∀ W, EV W → Calls Tryd.prog 79 #[.string D2] W fun x w' => NumR (.ok e) x ∧ Below W.heap.size W w' := by
          rw [H2.out]; exact fun W hW => c2 W hW s2
        clear hc c1 c2 s1 s2 hab hz f1 f2 f3 f6 hl hsz HN H1 H2
        go_wp2_with fail
        refine (k0 _ ev).mono ?_
        rintro x w2 ⟨rfl, g2⟩
        have B2 := hb.trans (g2.mono hb.size)
        have ev2 := ev.later g2
        clear g2 hb ev k0
        go_wp2_with fail
        refine (k1 _ ev2).mono ?_
        rintro x w3 ⟨⟨v, err, rfl, hv, hr⟩, g3⟩
        have B3 := B2.trans (g3.mono B2.size)
        have ev3 := ev2.later g3
        clear g3 ev2 k1 B2
        rcases hr with ⟨rfl, hr⟩ | ⟨_, hr⟩
        · injection hr with hr
          subst hr
          go_wp2_with fail
          refine (k2 _ ev3).mono ?_
          rintro x w4 ⟨⟨v, err, rfl, hv2, hr⟩, g4⟩
          have B4 := B3.trans (g4.mono B3.size)
          clear g4 ev3 k2 B3
          rcases hr with ⟨rfl, hr⟩ | ⟨_, hr⟩
          · injection hr with hr
            subst hr
            go_wp2_with fail
            refine (c3 _).mono ?_
            rintro x w5 ⟨y, rfl, hy, rfl⟩
            have HY : Hid (Ex z n (e + 1074).toNat y) := hy
            clear hy c3
            go_wp2
            go_ret
            exact ⟨y, rfl, (HE.out y HY.out).2, fun _ _ => (HE.out y HY.out).1, B4⟩
          · exact absurd rfl (hr _)
        · exact absurd rfl (hr _)
      · by_cases h0 : s.data.toList = [48]
        · rw [h0, zero_cut] at hc
          have c1 := parse_r (tx [48])
          have c2 := atoi_r (tx [])
          rw [tx_data] at c1 c2
          have p1 : Lib.parseIntB 64 [48] = .ok 0 := by decide
          have p2 : Lib.atoiAll [] = .«syntax» := by decide
          rw [p1] at c1
          rw [p2] at c2
          have HZ : Hid (∀ x, Txt x s.data.toList → Txt 0 s.data.toList) := fun x _ => by
            rw [h0]; exact .inr (.inl ⟨by decide, by decide, rfl⟩)
          obtain ⟨D1, H1⟩ : ∃ D, Hid (D = tx [48]) := ⟨_, rfl⟩
          obtain ⟨D2, H2⟩ : ∃ D, Hid (D = tx []) := ⟨_, rfl⟩
          have k0 : ∀ W, EV W → Calls Tryd.prog 77 #[.string s, .string ⟨#[42, 50, 94]⟩] W fun e w' => e = .returned (.tuple #[.string D1, .string D2, .bool false]) ∧ Below W.heap.size W w' := by
            rw [H1.out, H2.out]; exact fun W hW => hc W hW hs
          have k1 : ∀ W, EV W → Calls Tryd.prog 78 #[.string D1, .int .i64 10, .int .i64 64] W fun e w' => NumR (.ok 0) e ∧ Below W.heap.size W w' := by
            rw [H1.out]; exact fun W hW => c1 W hW (by decide)
          have k2 : ∀ W, EV W → Calls Tryd.prog 79 #[.string D2] W fun x w' => NumR .«syntax» x ∧ Below W.heap.size W w' := by
            rw [H2.out]; exact fun W hW => c2 W hW (by decide)
          clear hc c1 c2 p1 p2 hF h0 hl hsz HN H1 H2
          go_wp2_with fail
          refine (k0 _ ev).mono ?_
          rintro x w2 ⟨rfl, g2⟩
          have B2 := hb.trans (g2.mono hb.size)
          have ev2 := ev.later g2
          clear g2 hb ev k0
          go_wp2_with fail
          refine (k1 _ ev2).mono ?_
          rintro x w3 ⟨⟨v, err, rfl, hv, hr⟩, g3⟩
          have B3 := B2.trans (g3.mono B2.size)
          have ev3 := ev2.later g3
          clear g3 ev2 k1 B2
          rcases hr with ⟨rfl, hr⟩ | ⟨_, hr⟩
          · clear hr
            go_wp2_with fail
            refine (k2 _ ev3).mono ?_
            rintro x w4 ⟨⟨v, err, rfl, hv2, hr⟩, g4⟩
            have B4 := B3.trans (g4.mono B3.size)
            clear g4 ev3 k2 B3
            rcases hr with ⟨rfl, hr⟩ | ⟨⟨t, p, rfl⟩, hr⟩
            · cases hr
            · clear hr
              go_wp2
              go_ret
              exact ⟨0, rfl, by decide, HZ.out, B4⟩
          · exact absurd rfl (hr _)
        · have HZ : Hid (∀ g x, Txt x s.data.toList → Txt g s.data.toList) := fun g x hx => by
            exfalso
            rcases txt_cases hx with ⟨k, hk, e⟩ | e | e
            · have := HN.out k (by omega)
              apply this
              rw [← e, tx_of]
            · exact h0 e
            · exact hF e
          have s1 : (tx (Lib.cut s.data.toList [42, 50, 94]).1).size ≤ 1048576 := by rw [tx_size]; exact Nat.le_trans hl.1 (by omega)
          have s2 : (tx (Lib.cut s.data.toList [42, 50, 94]).2.1).size ≤ 1048576 := by rw [tx_size]; exact Nat.le_trans hl.2 (by omega)
          generalize tx (Lib.cut s.data.toList [42, 50, 94]).1 = D1 at hc s1
          generalize tx (Lib.cut s.data.toList [42, 50, 94]).2.1 = D2 at hc s2
          generalize (Lib.cut s.data.toList [42, 50, 94]).2.2 = bo at hc
          have k1 := fun W hW => parse_r D1 W hW s1
          have k2 := fun W hW => atoi_r D2 W hW s2
          have k0 := fun W hW => hc W hW hs
          generalize Lib.parseIntB 64 D1.data.toList = r1 at k1
          generalize Lib.atoiAll D2.data.toList = r2 at k2
          clear hc s1 s2 hF h0 hl hsz HN
          go_wp2_with fail
          refine (k0 _ ev).mono ?_
          rintro x w2 ⟨rfl, g2⟩
          have B2 := hb.trans (g2.mono hb.size)
          have ev2 := ev.later g2
          clear g2 hb ev k0
          go_wp2_with fail
          refine (k1 _ ev2).mono ?_
          rintro x w3 ⟨⟨v, err, rfl, hv, hr⟩, g3⟩
          have B3 := B2.trans (g3.mono B2.size)
          have ev3 := ev2.later g3
          clear g3 ev2 k1 B2
          rcases hr with ⟨rfl, hr⟩ | ⟨⟨t, p, rfl⟩, hr⟩
          · clear hr
            go_wp2_with fail
            refine (k2 _ ev3).mono ?_
            rintro x w4 ⟨⟨y, err, rfl, hv2, hr⟩, g4⟩
            have B4 := B3.trans (g4.mono B3.size)
            clear g4 ev3 k2 B3
            rcases hr with ⟨rfl, hr⟩ | ⟨⟨t, p, rfl⟩, hr⟩
            · clear hr
              by_cases y1 : y < -1074
              · go_wp2
                go_ret
                exact ⟨0, rfl, by decide, HZ.out 0, B4⟩
              · by_cases y2 : 1023 < y
                · go_wp2
                  go_ret
                  exact ⟨0, rfl, by decide, HZ.out 0, B4⟩
                · go_wp2_with fail
                  refine (scaled_any (floatOfInt .f64 v) y _ (Fm.whole_notN v) (Fm.whole_lt v) (by omega) (by omega)).mono ?_
                  rintro x w5 ⟨g, rfl, hg, rfl⟩
                  have HG : Hid (g < 18446744073709551616) := hg
                  clear hg
                  go_wp2
                  go_ret
                  exact ⟨g, rfl, HG.out, HZ.out g, B4⟩
            · clear hr
              go_wp2
              go_ret
              exact ⟨0, rfl, by decide, HZ.out 0, B4⟩
          · clear hr
            go_wp2
            go_ret
            exact ⟨0, rfl, by decide, HZ.out 0, B3⟩

/-- How a text is read. -/
def Rd2 (l : List UInt8) (v : Nat) (ok : Bool) : Prop := v < 18446744073709551616 ∧ ((ok = true ∧ Txt v l) ∨ (ok = false ∧ v = 0 ∧ ∀ x, ¬ Txt x l))

set_option maxHeartbeats 1000000 in
theorem impl_read (s : ByteArray) (w : World) (hw : EV w) (hs : s.size ≤ 1048576) :
    Calls Tryd.prog 23 #[.string s] w fun e w' => ∃ v ok, e = .returned (.tuple #[.float .f64 v, .bool ok]) ∧ Rd2 s.data.toList v ok ∧ Below w.heap.size w w' := by
  go_enter Tryd.func23, Tryd.ntmps23
  go_wp2_with fail
  refine (guess_r s _ hw hs).mono ?_
  rintro e w1 ⟨g, rfl, hg, hx, g1⟩
  have HX : Hid (g < 18446744073709551616 ∧ ∀ x, Txt x s.data.toList → Txt g s.data.toList) := ⟨hg, hx⟩
  have ev1 := hw.later g1
  clear hg hx hw
  go_wp2_with fail
  refine (impl_text g _ HX.out.1 ev1.pt).mono ?_
  rintro e w2 ⟨t, rfl, ht, g2⟩
  have B2 := g1.trans (g2.mono g1.size)
  obtain ⟨D, HD⟩ : ∃ D, Hid (D = tx t) := ⟨_, rfl⟩
  rw [← HD.out]
  clear g1 g2 ev1
  by_cases he : D = s
  · have e1 : (D.toList == s.toList) = true := by rw [he]; exact beq_yes s
    have HR : Hid (Rd2 s.data.toList g true) := ⟨HX.out.1, .inl ⟨rfl, by rw [← he, HD.out, tx_data]; exact ht⟩⟩
    clear ht he HD HX
    go_wp2
    go_ret2
    exact ⟨g, true, rfl, HR.out, B2⟩
  · have e1 := beq_no he
    have HR : Hid (Rd2 s.data.toList 0 false) := ⟨by decide, .inr ⟨rfl, rfl, fun x hx => by
      have h2 := HX.out.2 x hx
      apply he
      rw [HD.out, ht.unique h2, tx_of]⟩⟩
    clear ht he HD HX
    go_wp2
    go_ret2
    exact ⟨0, false, rfl, HR.out, B2⟩
end Go.Proofs.YtpjpjndichpfaaaDoor
