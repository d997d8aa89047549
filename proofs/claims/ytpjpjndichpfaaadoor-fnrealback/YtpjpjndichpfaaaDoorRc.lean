/- The law FnRealBack: its walk. -/
import Derived.Test.YtpjpjndichpfaaaDoorRu
import Derived.Test.YtpjpjndichpfaaaDoorWs
import Derived.Test.YtpjpjndichpfaaaDoorRb
namespace Go.Proofs.YtpjpjndichpfaaaDoor
open Go.RowKit
open Go.Lib (decDigits itoa)
set_option linter.unusedVariables false

theorem R_inj' {r s : Nat} (hr : r ≤ Fm.infR) (hs : s ≤ Fm.infR) (h : Fm.R r = Fm.R s) : r = s := by
  rcases Nat.lt_or_ge r Fm.infR with h1 | h1
  · rcases Nat.lt_or_ge s Fm.infR with h2 | h2
    · exact R_inj h1 h2 h
    · have e : s = Fm.infR := Nat.le_antisymm hs h2
      have := Fm.R_fin_lt h1
      rw [h, e, Fm.R_inf] at this
      exact absurd this (Nat.lt_irrefl _)
  · have e : r = Fm.infR := Nat.le_antisymm hr h1
    rcases Nat.lt_or_ge s Fm.infR with h2 | h2
    · have := Fm.R_fin_lt h2
      rw [← h, e, Fm.R_inf] at this
      exact absurd this (Nat.lt_irrefl _)
    · rw [e, Nat.le_antisymm hs h2]
theorem sv_parts (a b : Bool) (m n : Nat) (h : (if a then -(m : Int) else (m : Int)) = (if b then -(n : Int) else (n : Int))) (k : (if a then -(m : Int) else (m : Int)) ≠ 0 ∨ a = b) : a = b ∧ m = n := by
  cases a <;> cases b <;> simp at * <;> omega
theorem ws_eq {x y : Nat} (hx : x < 18446744073709551616) (hy : y < 18446744073709551616) (h : Ws x y) : Same x y := by
  rcases h with h | ⟨a, b, c, d⟩
  · exact .inr h
  · unfold Fm.sv at c d
    obtain ⟨e1, e2⟩ := sv_parts _ _ _ _ c d
    have e3 := R_inj' (rg_le a) (rg_le b) e2
    exact .inl (by rw [Fm.word_of hx, Fm.word_of hy, e1, e3])
theorem same_txt {x y : Nat} {t s : List UInt8} (e : Same x y) (h : Txt x t) (k : Txt y s) : t = s := by
  rcases e with rfl | ⟨a, b⟩
  · exact h.unique k
  · have : ∀ {x : Nat} {t : List UInt8}, Fm.isN x → Txt x t → t = [110, 97, 110] := by
      intro x t a h
      rcases h with h | h | h
      · exact h.2
      · exact absurd a h.1
      · exact absurd a h.1
    rw [this a h, this b k]
theorem ws_txt {x y : Nat} {t s : List UInt8} (hx : x < 18446744073709551616) (hy : y < 18446744073709551616) (h : Txt x t) (k : Txt y s) : Ws x y ↔ t = s :=
  ⟨fun e => same_txt (ws_eq hx hy e) h k, fun e => by subst e; exact ws_of_same (txt_same hx hy h k)⟩
theorem tx_inj {t s : List UInt8} (h : tx t = tx s) : t = s := by
  rw [← tx_data t, ← tx_data s, h]
theorem tx_of2 (s : ByteArray) : tx s.data.toList = s := by cases s; simp [tx]

/-- A call of wrSame on one and the same number. -/
theorem ws_yes {x y : Nat} (h : Same x y) (w : World) :
    Calls Tryd.prog 24 #[.float .f64 x, .float .f64 y] w fun e w' => e = .returned (.bool true) ∧ w' = w := by
  have := ws_r x y w
  rwa [decide_eq_true (ws_of_same h)] at this

/-- What is asked of the text of another number. -/
theorem back_of {x v : Nat} {t : List UInt8} {ok : Bool} (hx : x < 18446744073709551616) (h : Txt x t) (k : Rd2 t v ok) : ok = true ∧ Same v x := by
  obtain ⟨k1, ⟨k2, k3⟩ | ⟨k2, k3, k4⟩⟩ := k
  · exact ⟨k2, txt_same k1 hx k3 h⟩
  · exact absurd h (k4 x)

def Fin2 (T : ByteArray) (z : Nat) (fine : Bool) : Prop := z < 18446744073709551616 ∧ (fine = true → Txt z T.data.toList)
theorem fin_of {T : ByteArray} {z : Nat} {fine : Bool} (h : Rd2 T.data.toList z fine) : Fin2 T z fine := by
  obtain ⟨k1, ⟨k2, k3⟩ | ⟨k2, k3, k4⟩⟩ := h
  · exact ⟨k1, fun _ => k3⟩
  · exact ⟨k1, fun e => by rw [k2] at e; cases e⟩
theorem text_again {T : ByteArray} {z : Nat} (h : Fin2 T z true) (w : World) (hP : PT w) :
    Calls Tryd.prog 22 #[.float .f64 z] w fun e w' => e = .returned (.string T) ∧ Below w.heap.size w w' := by
  refine (impl_text z w h.1 hP).mono ?_
  rintro e w' ⟨t, rfl, ht, g⟩
  have e1 : tx t = T := by rw [ht.unique (h.2 rfl), tx_of2]
  exact ⟨by rw [e1], g⟩

set_option maxRecDepth 100000 in
set_option maxHeartbeats 4000000 in
/-- The law behind its first half: a text is read. -/
theorem walk_back0 {w : World} {a : Option Addr} {len cap blk off : Nat} {z : Nat → Int} {a' : Option Addr} {len' cap' blk' off' : Nat} {z' : Nat → Int}
    (h : Code0 w a len cap blk off z) (h' : Code0 w a' len' cap' blk' off' z') (hw : EV w) :
    Calls Tryd.prog 5 #[.slice a len cap, .slice a' len' cap'] w fun e w' => e = .returned (.bool true) ∧ Below w.heap.size w w' := by
  have i1 : ¬ ((1048576 : Int) < (len : Int)) := by have := h.short; omega
  have i2 : ¬ ((1048576 : Int) < (len' : Int)) := by have := h'.short; omega
  go_enter Tryd.func5, Tryd.ntmps5
  go_wp2_with fail
  refine (draw_rtext h).mono ?_
  rintro e w1 ⟨x, rfl, hx, b1⟩
  have HX : Hid (x < 18446744073709551616) := hx
  have h1 := h'.later b1
  clear h hx
  go_wp2_with fail
  refine (draw_rtext h1).mono ?_
  rintro e w2 ⟨y, rfl, hy, g⟩
  have HY : Hid (y < 18446744073709551616) := hy
  have b2 := b1.trans (g.mono b1.size)
  clear h1 hy g b1
  go_wp2_with fail
  refine (impl_text x _ HX.out (hw.later b2).pt).mono ?_
  rintro e w3 ⟨t, rfl, ht, g⟩
  have HT : Hid (Txt x t) := ht
  have b3 := b2.trans (g.mono b2.size)
  clear ht g b2
  have hsz : (tx t).size ≤ 1048576 := by rw [tx_size]; have := HT.out.len; omega
  have HR : Hid (∀ W, EV W → Calls Tryd.prog 23 #[.string (tx t)] W fun e w' => ∃ v, e = .returned (.tuple #[.float .f64 v, .bool true]) ∧ Same v x ∧ Below W.heap.size W w') := fun W hW => by
    refine (impl_read (tx t) W hW hsz).mono ?_
    rintro e w' ⟨v, ok, rfl, hr, g⟩
    rw [tx_data] at hr
    obtain ⟨rfl, hs⟩ := back_of HX.out HT.out hr
    exact ⟨v, rfl, hs, g⟩
  have HN : Hid (∀ s, Txt y s → (tx t = tx s ↔ Ws x y)) := fun s hs => ⟨fun e => (ws_txt HX.out HY.out HT.out hs).2 (tx_inj e), fun e => by rw [(ws_txt HX.out HY.out HT.out hs).1 e]⟩
  obtain ⟨D, HD⟩ : ∃ D, Hid (D = tx t) := ⟨_, Eq.refl (tx t)⟩
  rw [← HD.out] at HR HN ⊢
  clear HD HT hsz HX
  go_wp2_with fail
  refine (HR.out _ (hw.later b3)).mono ?_
  rintro e w4 ⟨v, rfl, hs, g⟩
  have HS : Hid (Same v x) := hs
  have b4 := b3.trans (g.mono b3.size)
  clear hs g b3 HR
  go_wp2_with fail
  refine (ws_yes HS.out _).mono ?_
  rintro e w5 ⟨rfl, rfl⟩
  clear HS
  go_wp2_with fail
  refine (impl_text y _ HY.out (hw.later b4).pt).mono ?_
  rintro e w6 ⟨s, rfl, hs, g⟩
  have b5 := b4.trans (g.mono b4.size)
  have hn := HN.out s hs
  clear hs g b4 HN HY
  obtain ⟨E, HE⟩ : ∃ E, Hid (E = tx s) := ⟨_, Eq.refl (tx s)⟩
  rw [← HE.out] at hn ⊢
  clear HE
  have HW := fun w => ws_r x y w
  have fin : ∀ (T : ByteArray) (w7 : World), T.size ≤ 200 → Below w.heap.size w w7 → True := fun _ _ _ _ => trivial
  by_cases hws : Ws x y
  · have e1 := hn.2 hws
    rw [decide_eq_true hws] at HW
    have HW2 : Hid (∀ W, Calls Tryd.prog 24 #[.float .f64 x, .float .f64 y] W fun e w' => e = .returned (.bool true) ∧ w' = W) := HW
    subst e1
    clear hn hws HW fin
    go_wp2_with fail
    refine (HW2.out _).mono ?_
    rintro e w7 ⟨rfl, rfl⟩
    clear HW2
    go_wp2_with fail
    refine (draw_rread _ (h'.later b5)).mono ?_
    rintro e w8 ⟨⟨T, hTs, rfl⟩, g⟩
    have b6 := b5.trans (g.mono b5.size)
    have hT8 : T.size ≤ 1048576 := by omega
    clear g b5 hTs
    have HI : Hid (∀ W, EV W → Calls Tryd.prog 23 #[.string T] W fun e w' => ∃ v ok, e = .returned (.tuple #[.float .f64 v, .bool ok]) ∧ Rd2 T.data.toList v ok ∧ Below W.heap.size W w') := fun W hW => impl_read T W hW hT8
    have HJ : Hid (∀ W, Calls Tryd.prog 26 #[.string T] W fun e w' => RdE T.data.toList e ∧ Below W.heap.size W w') := fun W => spec_read T W hT8
    clear hT8
    go_wp2_with fail
    refine (HI.out _ (hw.later b6)).mono ?_
    rintro e v1 ⟨p, fine, rfl, hp, g⟩
    have HP : Hid (Rd2 T.data.toList p fine) := hp
    have b7 := b6.trans (g.mono b6.size)
    clear g b6 hp HI
    go_wp2_with fail
    refine (HJ.out _).mono ?_
    rintro e v2 ⟨⟨q, told, rfl, hq⟩, g⟩
    obtain ⟨s1, s2⟩ := rd_same HP.out hq
    subst s2
    have HF : Hid (Fin2 T p fine) := fin_of HP.out
    have HS : Hid (Same p q) := s1
    have b8 := b7.trans (g.mono b7.size)
    clear g b7 hq HP HJ s1
    go_wp2_with fail
    refine (ws_yes HS.out _).mono ?_
    rintro e v3 ⟨rfl, rfl⟩
    clear HS
    cases fine
    · clear HF
      go_wp2
      go_ret
      exact ⟨rfl, b8⟩
    · go_wp2_with fail
      refine (text_again HF.out _ (hw.later b8).pt).mono ?_
      rintro e v4 ⟨rfl, g⟩
      have b9 := b8.trans (g.mono b8.size)
      clear g b8 HF
      go_wp2
      go_ret
      exact ⟨rfl, b9⟩
  · have e1 : ¬ D = E := fun e => hws (hn.1 e)
    have e2 : (D.toList == E.toList) = false := by
      rw [beq_eq_false_iff_ne]
      intro h
      rw [ByteArray.toList_eq, ByteArray.toList_eq] at h
      exact e1 (by rw [← tx_of2 D, ← tx_of2 E, h])
    rw [decide_eq_false hws] at HW
    have HW2 : Hid (∀ W, Calls Tryd.prog 24 #[.float .f64 x, .float .f64 y] W fun e w' => e = .returned (.bool false) ∧ w' = W) := HW
    clear hn hws HW fin
    go_wp2_with fail
    refine (HW2.out _).mono ?_
    rintro e w7 ⟨rfl, rfl⟩
    clear HW2
    go_wp2_with fail
    refine (draw_rread _ (h'.later b5)).mono ?_
    rintro e w8 ⟨⟨T, hTs, rfl⟩, g⟩
    have b6 := b5.trans (g.mono b5.size)
    have hT8 : T.size ≤ 1048576 := by omega
    clear g b5 hTs e1 e2
    have HI : Hid (∀ W, EV W → Calls Tryd.prog 23 #[.string T] W fun e w' => ∃ v ok, e = .returned (.tuple #[.float .f64 v, .bool ok]) ∧ Rd2 T.data.toList v ok ∧ Below W.heap.size W w') := fun W hW => impl_read T W hW hT8
    have HJ : Hid (∀ W, Calls Tryd.prog 26 #[.string T] W fun e w' => RdE T.data.toList e ∧ Below W.heap.size W w') := fun W => spec_read T W hT8
    clear hT8
    go_wp2_with fail
    refine (HI.out _ (hw.later b6)).mono ?_
    rintro e v1 ⟨p, fine, rfl, hp, g⟩
    have HP : Hid (Rd2 T.data.toList p fine) := hp
    have b7 := b6.trans (g.mono b6.size)
    clear g b6 hp HI
    go_wp2_with fail
    refine (HJ.out _).mono ?_
    rintro e v2 ⟨⟨q, told, rfl, hq⟩, g⟩
    obtain ⟨s1, s2⟩ := rd_same HP.out hq
    subst s2
    have HF : Hid (Fin2 T p fine) := fin_of HP.out
    have HS : Hid (Same p q) := s1
    have b8 := b7.trans (g.mono b7.size)
    clear g b7 hq HP HJ s1
    go_wp2_with fail
    refine (ws_yes HS.out _).mono ?_
    rintro e v3 ⟨rfl, rfl⟩
    clear HS
    cases fine
    · clear HF
      go_wp2
      go_ret
      exact ⟨rfl, b8⟩
    · go_wp2_with fail
      refine (text_again HF.out _ (hw.later b8).pt).mono ?_
      rintro e v4 ⟨rfl, g⟩
      have b9 := b8.trans (g.mono b8.size)
      clear g b8 HF
      go_wp2
      go_ret
      exact ⟨rfl, b9⟩

theorem walk_back (a : Option Addr) (len cap : Nat) (zs : List Int) (a' : Option Addr) (len' cap' : Nat) (zs' : List Int) (w : World) (h : IsRow .u8 w a len cap zs) (h' : IsRow .u8 w a' len' cap' zs') (hT : EV w) :
    Calls Tryd.prog 5 #[.slice a len cap, .slice a' len' cap'] w fun e w' => e = .returned (.bool true) ∧ Below w.heap.size w w' := by
  by_cases hl : len ≤ 1048576
  · by_cases hl' : len' ≤ 1048576
    · obtain ⟨blk, off, z, hc⟩ := h.code hl
      obtain ⟨blk', off', z', hc'⟩ := h'.code hl'
      exact walk_back0 hc hc' hT
    · have i1 : ¬ (1048576 : Int) < len := by omega
      have i2 : (1048576 : Int) < len' := by omega
      clear h h' hT
      go_enter Tryd.func5, Tryd.ntmps5
      go_wp2
      go_ret
      exact ⟨rfl, Below.refl _ _⟩
  · have i1 : (1048576 : Int) < len := by omega
    clear h h' hT
    go_enter Tryd.func5, Tryd.ntmps5
    go_wp2
    go_ret
    exact ⟨rfl, Below.refl _ _⟩
end Go.Proofs.YtpjpjndichpfaaaDoor
