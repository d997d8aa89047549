/- Reading real numbers: the specification's RealRead; the walk of FnExactRealRead. -/
import Derived.Test.YtpjpjndichpfaaaDoorRt
namespace Go.Proofs.YtpjpjndichpfaaaDoor
open Go.RowKit
open Go.Lib (decDigits itoa)
set_option linter.unusedVariables false

def RdE (l : List UInt8) (e : Ending) : Prop := ∃ v ok, e = .returned (.tuple #[.float .f64 v, .bool ok]) ∧ Rd2 l v ok

theorem posT_head {n : Nat} (h : 0 < n) (e : Int) : ∃ b r, posT n e = b :: r ∧ 49 ≤ b.toNat ∧ b.toNat ≤ 57 := by
  obtain ⟨b, r, e1, h1, h2⟩ := dec_head n h
  unfold posT
  rw [e1]
  exact ⟨b, _, rfl, h1, h2⟩
theorem no_txt {l : List UInt8} (hw : ∀ j, j < 4 → l ≠ wT j) (h0 : l ≠ [48]) (hf : ∀ s n e, ¬ FT l s n e) : ∀ x, ¬ Txt x l := fun x hx => by
  rcases txt_cases hx with ⟨j, h1, h2⟩ | h | ⟨s, n, e, h⟩
  · exact hw j h1 h2
  · exact h0 h
  · exact hf s n e h
theorem ft_neg {l t : List UInt8} (hl : l = 45 :: t) {s : Bool} {n : Nat} {e : Int} (h : FT l s n e) : s = true ∧ FT t false n e := by
  obtain ⟨h1, h2, h3, h4, h5, h6⟩ := h
  cases s
  · simp only [Bool.false_eq_true, if_false] at h1
    obtain ⟨b, r, e1, k1, k2⟩ := posT_head (n := n) (by omega) e
    rw [hl, e1] at h1
    injection h1 with h1 _
    rw [← h1] at k1
    exact absurd k1 (by decide)
  · simp only [if_true] at h1
    rw [hl] at h1
    injection h1 with _ h1
    exact ⟨rfl, h1, h2, h3, h4, h5, h6⟩
theorem ft_pos {l : List UInt8} (hl : ∀ t, l ≠ 45 :: t) {s : Bool} {n : Nat} {e : Int} (h : FT l s n e) : s = false := by
  cases s
  · rfl
  · exact absurd h.1 (hl _)
theorem ft_back {t : List UInt8} {n : Nat} {e : Int} (h : FT t false n e) : FT (45 :: t) true n e := by
  obtain ⟨h1, h2⟩ := h
  simp only [Bool.false_eq_true, if_false] at h1
  exact ⟨by rw [h1]; rfl, h2⟩
theorem ex_neg {n k x : Nat} (h : Ex false n k x) : Ex true n k (Op.negFloat .f64 x) := by
  obtain ⟨a, b, c, d⟩ := ex_rg h
  refine ⟨Fm.rg x, a, c, ?_⟩
  have := Fm.word_of (Fm.neg_lt d)
  rw [Fm.rg_neg, Fm.sg_neg d, b] at this
  exact this

set_option maxRecDepth 100000 in
set_option maxHeartbeats 4000000 in
theorem spec_read (s : ByteArray) (w : World) (hs : s.size ≤ 1048576) :
    Calls Tryd.prog 26 #[.string s] w fun e w' => RdE s.data.toList e ∧ Below w.heap.size w w' := by
  have htl : s.toList = s.data.toList := ByteArray.toList_eq s
  obtain ⟨L, HL⟩ : ∃ L, Hid (L = s.data.toList) := ⟨_, rfl⟩
  rw [← HL.out] at htl ⊢
  by_cases h0 : L = [110, 97, 110]
  · have i0 : (s.toList == [110, 97, 110]) = true := by rw [htl, h0]; rfl
    have HT : Hid (∀ v, Fm.isN v → (Lit.float .f64 v).wf = true → Rd2 L v true) := fun v h hf => ⟨lt_of_wf hf, .inl ⟨rfl, .inl ⟨h, h0⟩⟩⟩
    clear h0 HL htl
    go_enter Tryd.func26, Tryd.ntmps26
    go_wp2_with fail
    refine (spec_nan _).mono ?_
    rintro e w1 ⟨v, rfl, hv, hf, g1⟩
    have HR : Hid (Rd2 L v true) := HT.out v hv hf
    clear hv hf HT
    go_wp2
    go_ret2
    exact ⟨⟨v, true, rfl, HR.out⟩, g1⟩
  have i0 : (s.toList == [110, 97, 110]) = false := by rw [htl, beq_eq_false_iff_ne]; exact h0
  by_cases h1 : L = [105, 110, 102]
  · have i1 : (s.toList == [105, 110, 102]) = true := by rw [htl, h1]; rfl
    have HR : Hid (Rd2 L 9218868437227405312 true) := ⟨by decide, .inl ⟨rfl, by rw [h1]; exact (wB_txt 1 (by omega)).1⟩⟩
    clear h0 h1 HL htl
    go_enter Tryd.func26, Tryd.ntmps26
    go_wp2_with fail
    refine (spec_inf2 _).mono ?_
    rintro e w1 ⟨rfl, rfl⟩
    go_wp2
    go_ret2
    exact ⟨⟨_, true, rfl, HR.out⟩, Below.refl _ _⟩
  have i1 : (s.toList == [105, 110, 102]) = false := by rw [htl, beq_eq_false_iff_ne]; exact h1
  by_cases h2 : L = [45, 105, 110, 102]
  · have i2 : (s.toList == [45, 105, 110, 102]) = true := by rw [htl, h2]; rfl
    have HR : Hid (Rd2 L (Op.negFloat .f64 9218868437227405312) true) := ⟨Fm.neg_lt (by decide), .inl ⟨rfl, by
      rw [h2]
      have : Op.negFloat .f64 9218868437227405312 = wB 2 := by decide +kernel
      rw [this]
      exact (wB_txt 2 (by omega)).1⟩⟩
    clear h0 h1 h2 HL htl
    go_enter Tryd.func26, Tryd.ntmps26
    go_wp2_with fail
    refine (spec_inf2 _).mono ?_
    rintro e w1 ⟨rfl, rfl⟩
    go_wp2
    go_ret2
    exact ⟨⟨_, true, rfl, HR.out⟩, Below.refl _ _⟩
  have i2 : (s.toList == [45, 105, 110, 102]) = false := by rw [htl, beq_eq_false_iff_ne]; exact h2
  by_cases h3 : L = [48]
  · have i3 : (s.toList == [48]) = true := by rw [htl, h3]; rfl
    have HR : Hid (Rd2 L 0 true) := ⟨by decide, .inl ⟨rfl, .inr (.inl ⟨by decide, by decide, h3⟩)⟩⟩
    clear h0 h1 h2 h3 HL htl
    go_enter Tryd.func26, Tryd.ntmps26
    go_wp2
    go_ret2
    exact ⟨⟨_, true, rfl, HR.out⟩, Below.refl _ _⟩
  have i3 : (s.toList == [48]) = false := by rw [htl, beq_eq_false_iff_ne]; exact h3
  by_cases h4 : L = [45, 48]
  · have i4 : (s.toList == [45, 48]) = true := by rw [htl, h4]; rfl
    have HR : Hid (Rd2 L (Op.negFloat .f64 0) true) := ⟨Fm.neg_lt (by decide), .inl ⟨rfl, by
      rw [h4]
      have : Op.negFloat .f64 0 = wB 3 := by decide +kernel
      rw [this]
      exact (wB_txt 3 (by omega)).1⟩⟩
    clear h0 h1 h2 h3 h4 HL htl
    go_enter Tryd.func26, Tryd.ntmps26
    go_wp2
    go_ret2
    exact ⟨⟨_, true, rfl, HR.out⟩, Below.refl _ _⟩
  have i4 : (s.toList == [45, 48]) = false := by rw [htl, beq_eq_false_iff_ne]; exact h4
  have HNO : Hid ((∀ z n e, ¬ FT L z n e) → Rd2 L 0 false) := fun hf => ⟨by decide, .inr ⟨rfl, rfl, no_txt (fun j hj => by
    have hj4 : j = 0 ∨ j = 1 ∨ j = 2 ∨ j = 3 := by omega
    rcases hj4 with rfl | rfl | rfl | rfl
    · exact h0
    · exact h1
    · exact h2
    · exact h4) h3 hf⟩⟩
  clear h0 h1 h2 h3 h4
  by_cases h5 : s.size = 0
  · have i5 : (s.toList == []) = true := by
      have hL0 : s.data.toList = [] := List.length_eq_zero_iff.1 (by rw [← Lib.size_eq]; exact h5)
      rw [htl, HL.out, hL0]
      rfl
    have HR : Hid (Rd2 L 0 false) := HNO.out (fun z n e h => by
      have hL : L = [] := by rw [HL.out]; exact List.length_eq_zero_iff.1 (by rw [← Lib.size_eq]; exact h5)
      obtain ⟨f1, f2, -⟩ := h
      rw [hL] at f1
      cases z
      · obtain ⟨b, r, e1, -⟩ := posT_head (n := n) (by omega) e
        simp only [Bool.false_eq_true, if_false] at f1
        rw [e1] at f1
        cases f1
      · simp only [if_true] at f1
        cases f1)
    clear HNO HL htl h5
    go_enter Tryd.func26, Tryd.ntmps26
    go_wp2
    go_ret2
    exact ⟨⟨0, false, rfl, HR.out⟩, Below.refl _ _⟩
  have i5 : (s.toList == []) = false := by
    rw [htl, beq_eq_false_iff_ne, HL.out]
    intro e
    apply h5
    rw [Lib.size_eq, e]
    rfl
  have hp : 0 < s.size := by omega
  have hs0 : s[0]? = some (s[0]'hp) := by simp [hp]
  have hd := drop_at s 0 hp
  rw [List.drop_zero, ← HL.out] at hd
  by_cases h45 : (s[0]'hp).toNat = 45
  · have j1 : ((((s[0]'hp).toNat : Nat) : Int) == 45) = true := by rw [beq_iff_eq]; omega
    have hb : (s[0]'hp) = 45 := by
      have := UInt8.ofNat_toNat (x := (s[0]'hp))
      rw [h45] at this
      exact this.symm
    rw [hb] at hd
    obtain ⟨t, x1⟩ : ∃ t, s.extract 1 s.size = t := ⟨_, rfl⟩
    have lt : t.data.toList = s.data.toList.drop 1 := by rw [← x1]; exact Lib.extract_to_end s 1
    have hL : L = 45 :: t.data.toList := by rw [lt, ← HL.out]; exact hd
    have zt : t.size ≤ 1048576 := by rw [Lib.size_eq, lt, List.length_drop, ← Lib.size_eq]; omega
    have c1 := fun W => read3 t W zt
    have HT : Hid (∀ x ok, R3 t.data.toList x ok → (ok = true → Rd2 L (Op.negFloat .f64 x) true) ∧ (ok = false → Rd2 L 0 false)) := fun x ok h => by
      obtain ⟨hx, ⟨o1, n, e, f1, f2⟩ | ⟨o1, f1⟩⟩ := h
      · subst o1
        refine ⟨fun _ => ⟨Fm.neg_lt hx, .inl ⟨rfl, ?_⟩⟩, fun h => by cases h⟩
        have := ft_back f1
        rw [← hL] at this
        exact ft_txt this (ex_neg f2)
      · subst o1
        exact ⟨fun h => by (cases h), fun _ => HNO.out (fun z n e h => f1 n e (ft_neg hL h).2)⟩
    clear HNO hd hb h45 lt hL zt HL htl h5
    go_enter Tryd.func26, Tryd.ntmps26
    go_wp2_with fail
    refine (c1 _).mono ?_
    rintro e w1 ⟨⟨x, ok, rfl, hr⟩, rfl⟩
    obtain ⟨r1, r2⟩ := HT.out x ok hr
    clear hr HT c1
    cases ok
    · have HR : Hid (Rd2 L 0 false) := r2 rfl
      clear r1 r2
      go_wp2
      go_ret2
      exact ⟨⟨0, false, rfl, HR.out⟩, Below.refl _ _⟩
    · have HR : Hid (Rd2 L (Op.negFloat .f64 x) true) := r1 rfl
      clear r1 r2
      go_wp2
      go_ret2
      exact ⟨⟨_, true, rfl, HR.out⟩, Below.refl _ _⟩
  · have j1 : ((((s[0]'hp).toNat : Nat) : Int) == 45) = false := by rw [beq_eq_false_iff_ne]; omega
    have hno : ∀ t, L ≠ 45 :: t := fun t e => by
      rw [hd] at e
      injection e with e _
      apply h45
      rw [e]
      rfl
    have c1 := fun W => read3 s W hs
    rw [← HL.out] at c1
    have HT : Hid (∀ x ok, R3 L x ok → (ok = true → Rd2 L x true) ∧ (ok = false → Rd2 L 0 false)) := fun x ok h => by
      obtain ⟨hx, ⟨o1, n, e, f1, f2⟩ | ⟨o1, f1⟩⟩ := h
      · subst o1
        exact ⟨fun _ => ⟨hx, .inl ⟨rfl, ft_txt f1 f2⟩⟩, fun h => by cases h⟩
      · subst o1
        refine ⟨fun h => by (cases h), fun _ => HNO.out (fun z n e h => ?_)⟩
        have := ft_pos hno h
        subst this
        exact f1 n e h
    clear HNO hd h45 hno HL htl h5
    go_enter Tryd.func26, Tryd.ntmps26
    go_wp2_with fail
    refine (c1 _).mono ?_
    rintro e w1 ⟨⟨x, ok, rfl, hr⟩, rfl⟩
    obtain ⟨r1, r2⟩ := HT.out x ok hr
    clear hr HT c1
    cases ok
    · have HR : Hid (Rd2 L 0 false) := r2 rfl
      clear r1 r2
      go_wp2
      go_ret2
      exact ⟨⟨0, false, rfl, HR.out⟩, Below.refl _ _⟩
    · have HR : Hid (Rd2 L x true) := r1 rfl
      clear r1 r2
      go_wp2
      go_ret2
      exact ⟨⟨_, true, rfl, HR.out⟩, Below.refl _ _⟩

def hc (t : List UInt8) : Nat := (t.headD 0).toNat * 1000 + (t.tail.headD 0).toNat
theorem hc_pos {n : Nat} (h : n % 2 = 1) (e : Int) : 49000 ≤ hc (posT n e) ∧ hc (posT n e) ≤ 57999 := by
  obtain ⟨b, r, e1, k1, k2⟩ := posT_head (n := n) (by omega) e
  rw [e1]
  unfold hc
  have := UInt8.toNat_lt (r.headD 0)
  simp only [List.headD_cons, List.tail_cons]
  omega
theorem hc_neg {n : Nat} (h : n % 2 = 1) (e : Int) : 45049 ≤ hc (45 :: posT n e) ∧ hc (45 :: posT n e) ≤ 45057 := by
  obtain ⟨b, r, e1, k1, k2⟩ := posT_head (n := n) (by omega) e
  rw [e1]
  unfold hc
  have : (45 : UInt8).toNat = 45 := by decide
  simp only [List.headD_cons, List.tail_cons]
  omega

/-- The seven forms of a text. -/
inductive Form (x : Nat) (t : List UInt8) : Prop where
  | nan (h : Fm.isN x) (c : hc t = 110097)
  | zero (h : Fm.rg x = 0) (s : Fm.sg x = false) (c : hc t = 48000)
  | mzero (h : Fm.rg x = 0) (s : Fm.sg x = true) (c : hc t = 45048)
  | inf (h : Fm.rg x = Fm.infR) (s : Fm.sg x = false) (c : hc t = 105110)
  | minf (h : Fm.rg x = Fm.infR) (s : Fm.sg x = true) (c : hc t = 45105)
  | pos (n : Nat) (e : Int) (h : Fm.rg x < Fm.infR) (p : 0 < Fm.R (Fm.rg x)) (q : Fm.Parts (Fm.R (Fm.rg x)) n e) (s : Fm.sg x = false) (c : 49000 ≤ hc t ∧ hc t ≤ 57999) (k : t = posT n e)
  | mpos (n : Nat) (e : Int) (h : Fm.rg x < Fm.infR) (p : 0 < Fm.R (Fm.rg x)) (q : Fm.Parts (Fm.R (Fm.rg x)) n e) (s : Fm.sg x = true) (c : 45049 ≤ hc t ∧ hc t ≤ 45057) (k : t = 45 :: posT n e)

theorem form_of {x : Nat} {t : List UInt8} (h : Txt x t) : Form x t := by
  rcases h with ⟨h1, rfl⟩ | ⟨h1, h2, rfl⟩ | ⟨h1, h2, p, h3, rfl⟩
  · exact .nan h1 (by decide)
  · have h0 := Fm.R_pos h2
    cases hs : Fm.sg x
    · exact .zero h0 hs (by decide)
    · exact .mzero h0 hs (by decide)
  · rcases h3 with ⟨h3, rfl⟩ | ⟨h3, n, e, h4, rfl⟩
    · cases hs : Fm.sg x
      · exact .inf h3 hs (by decide)
      · exact .minf h3 hs (by decide)
    · cases hs : Fm.sg x
      · exact .pos n e h3 h2 h4 hs (hc_pos h4.1 e) rfl
      · exact .mpos n e h3 h2 h4 hs (hc_neg h4.1 e) rfl

/-- Two numbers with one text are one. -/
theorem txt_same {x y : Nat} {t : List UInt8} (hx : x < 18446744073709551616) (hy : y < 18446744073709551616) (h : Txt x t) (k : Txt y t) : Same x y := by
  have inj : Fm.rg x = Fm.rg y → Fm.sg x = Fm.sg y → Same x y := fun h1 h2 => .inl (by rw [Fm.word_of hx, Fm.word_of hy, h1, h2])
  have both : ∀ {n m : Nat} {e f : Int}, Fm.rg x < Fm.infR → Fm.rg y < Fm.infR → 0 < Fm.R (Fm.rg x) → 0 < Fm.R (Fm.rg y) → Fm.Parts (Fm.R (Fm.rg x)) n e → Fm.Parts (Fm.R (Fm.rg y)) m f → posT n e = posT m f → Fm.rg x = Fm.rg y := by
    intro n m e f a b c d p q r
    obtain ⟨p1, p2, p3, p4⟩ := p.bd a c
    obtain ⟨q1, q2, q3, q4⟩ := q.bd b d
    obtain ⟨rfl, rfl⟩ := posT_inj p1 ⟨p3, p2⟩ ⟨q3, q2⟩ r
    refine R_inj a b ?_
    rw [p.val c, q.val d]
  cases form_of h with
  | nan h1 c1 =>
    cases form_of k with
    | nan k1 d1 => exact .inr ⟨h1, k1⟩
    | zero _ _ d1 => omega
    | mzero _ _ d1 => omega
    | inf _ _ d1 => omega
    | minf _ _ d1 => omega
    | pos _ _ _ _ _ _ d1 _ => omega
    | mpos _ _ _ _ _ _ d1 _ => omega
  | zero h1 s1 c1 =>
    cases form_of k with
    | nan k1 d1 => omega
    | zero k1 s2 d1 => exact inj (h1.trans k1.symm) (s1.trans s2.symm)
    | mzero _ _ d1 => omega
    | inf _ _ d1 => omega
    | minf _ _ d1 => omega
    | pos _ _ _ _ _ _ d1 _ => omega
    | mpos _ _ _ _ _ _ d1 _ => omega
  | mzero h1 s1 c1 =>
    cases form_of k with
    | nan k1 d1 => omega
    | zero _ _ d1 => omega
    | mzero k1 s2 d1 => exact inj (h1.trans k1.symm) (s1.trans s2.symm)
    | inf _ _ d1 => omega
    | minf _ _ d1 => omega
    | pos _ _ _ _ _ _ d1 _ => omega
    | mpos _ _ _ _ _ _ d1 _ => omega
  | inf h1 s1 c1 =>
    cases form_of k with
    | nan k1 d1 => omega
    | zero _ _ d1 => omega
    | mzero _ _ d1 => omega
    | inf k1 s2 d1 => exact inj (h1.trans k1.symm) (s1.trans s2.symm)
    | minf _ _ d1 => omega
    | pos _ _ _ _ _ _ d1 _ => omega
    | mpos _ _ _ _ _ _ d1 _ => omega
  | minf h1 s1 c1 =>
    cases form_of k with
    | nan k1 d1 => omega
    | zero _ _ d1 => omega
    | mzero _ _ d1 => omega
    | inf _ _ d1 => omega
    | minf k1 s2 d1 => exact inj (h1.trans k1.symm) (s1.trans s2.symm)
    | pos _ _ _ _ _ _ d1 _ => omega
    | mpos _ _ _ _ _ _ d1 _ => omega
  | pos n e h1 p1 q1 s1 c1 e1 =>
    cases form_of k with
    | nan k1 d1 => omega
    | zero _ _ d1 => omega
    | mzero _ _ d1 => omega
    | inf _ _ d1 => omega
    | minf _ _ d1 => omega
    | pos m f k1 p2 q2 s2 d1 e2 => exact inj (both h1 k1 p1 p2 q1 q2 (e1.symm.trans e2)) (s1.trans s2.symm)
    | mpos _ _ _ _ _ _ d1 _ => omega
  | mpos n e h1 p1 q1 s1 c1 e1 =>
    cases form_of k with
    | nan k1 d1 => omega
    | zero _ _ d1 => omega
    | mzero _ _ d1 => omega
    | inf _ _ d1 => omega
    | minf _ _ d1 => omega
    | pos _ _ _ _ _ _ d1 _ => omega
    | mpos m f k1 p2 q2 s2 d1 e2 =>
      have e3 := e1.symm.trans e2
      injection e3 with _ e3
      exact inj (both h1 k1 p1 p2 q1 q2 e3) (s1.trans s2.symm)

theorem rd_same {l : List UInt8} {x y : Nat} {a b : Bool} (h : Rd2 l x a) (k : Rd2 l y b) : Same x y ∧ a = b := by
  obtain ⟨h1, ⟨h2, h3⟩ | ⟨h2, h3, h4⟩⟩ := h
  · obtain ⟨k1, ⟨k2, k3⟩ | ⟨k2, k3, k4⟩⟩ := k
    · exact ⟨txt_same h1 k1 h3 k3, h2.trans k2.symm⟩
    · exact absurd h3 (k4 x)
  · obtain ⟨k1, ⟨k2, k3⟩ | ⟨k2, k3, k4⟩⟩ := k
    · exact absurd k3 (h4 y)
    · exact ⟨.inl (h3.trans k3.symm), h2.trans k2.symm⟩

set_option maxHeartbeats 1000000 in
theorem walk_rread0 (s : ByteArray) (w : World) (hs : s.size ≤ 1048576) (hw : EV w) :
    Calls Tryd.prog 12 #[.string s] w fun e w' => e = .returned (.bool true) ∧ Below w.heap.size w w' := by
  have hl : ¬ ((1048576 : Int) < (s.size : Int)) := by omega
  go_enter Tryd.func12, Tryd.ntmps12
  go_wp2_with fail
  refine (spec_read s _ hs).mono ?_
  rintro e w1 ⟨⟨x, a, rfl, hx⟩, g1⟩
  have HX : Hid (Rd2 s.data.toList x a) := hx
  have ev := hw.later g1
  clear hx hw
  go_wp2_with fail
  refine (impl_read s _ ev hs).mono ?_
  rintro e w2 ⟨y, b, rfl, hy, g2⟩
  obtain ⟨s1, s2⟩ := rd_same hy HX.out
  have HS : Hid (Same y x ∧ (Lit.float .f64 y).wf = true) := ⟨s1, wf_of_lt64 hy.1⟩
  subst s2
  have B2 := g1.trans (g2.mono g1.size)
  clear hy HX s1 ev g1 g2
  go_wp2_with fail
  refine (same_r y x _ HS.out.2 HS.out.1).mono ?_
  rintro e w3 ⟨rfl, rfl⟩
  clear HS
  go_wp2
  go_ret
  exact ⟨rfl, B2⟩

set_option maxHeartbeats 1000000 in
theorem walk_rread (s : ByteArray) (w : World) (h0 : s.size ≤ maxLen) (hw : EV w) :
    Calls Tryd.prog 12 #[.string s] w fun e w' => e = .returned (.bool true) ∧ Below w.heap.size w w' := by
  clear h0
  by_cases hs : s.size ≤ 1048576
  · exact walk_rread0 s w hs hw
  · have hl : (1048576 : Int) < (s.size : Int) := by omega
    clear hw
    go_enter Tryd.func12, Tryd.ntmps12
    go_wp2
    go_ret
    exact ⟨rfl, Below.refl _ _⟩
end Go.Proofs.YtpjpjndichpfaaaDoor
