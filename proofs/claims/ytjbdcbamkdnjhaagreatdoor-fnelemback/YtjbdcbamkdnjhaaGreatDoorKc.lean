/- The law FnElemBack. -/
import Derived.Test.YtjbdcbamkdnjhaaGreatDoorKb
import Derived.Test.YtjbdcbamkdnjhaaGreatDoorJp
namespace Go.Proofs.YtjbdcbamkdnjhaaGreatDoor
open Go.RowKit Go.Shelf Go.Lib
set_option linter.unusedVariables false

theorem Sl.of_own {w : World} {H : Nat} {a : Option Addr} {xs : List Arg} (h : Own w H a xs) : Sl w a xs := h.sl
theorem Asks.alloc {w : World} (h : Asks w) (o : Obj) : Asks (w.alloc o) := h.later ((Below.refl _ _).alloc (Nat.le_refl _) _)
theorem Code0.alloc {w : World} {a : Option Addr} {len cap blk off : Nat} {z : Nat → Int} (h : Code0 w a len cap blk off z) (o : Obj) : Code0 (w.alloc o) a len cap blk off z := h.later ((Below.refl _ _).alloc (Nat.le_refl _) _)

set_option maxRecDepth 10000 in
set_option maxHeartbeats 8000000 in
theorem law_back {a b : Option Addr} {len cap blk off len2 cap2 blk2 off2 : Nat} {zz zz2 : Nat → Int} (w : World) (hA : Asks w) (h1 : Code0 w a len cap blk off zz) (h2 : Code0 w b len2 cap2 blk2 off2 zz2) :
    Calls Tryz.prog 3 #[.slice a len cap, .slice b len2 cap2] w fun e w' => e = .returned (.bool true) ∧ Below w.heap.size w w' := by
  have q1 : ¬ ((1048576 : Int) < (len : Int)) := by have := h1.short; omega
  have q2 : ¬ ((1048576 : Int) < (len2 : Int)) := by have := h2.short; omega
  go_enter Tryz.func3, Tryz.ntmps3
  go_wp2_with fail
  refine (drawtext_r w h1).mono ?_
  rintro e w2 ⟨⟨op, a1, ln, cp, xs, rfl, o1, o2, l1, c1, L1, bd1, O1⟩, b1⟩
  have S1 : Sl w2 a1 xs := O1.sl
  clear O1 bd1 c1 o1 o2 h1
  cases hr : rtk op xs with
  | false =>
    have HL : Hid (ln = xs.length) := l1
    have HA : Hid (∀ W : World, Tabs W → Sl W a1 xs → Calls Tryz.prog 9 #[.agg #[.int .i64 op, .slice a1 ln cp]] W fun e w' => e = .returned (.string (etx op xs)) ∧ Below W.heap.size W w') := fun W hW hS => impl_etext op a1 xs ln cp l1 W hW hS
    have HB : Hid (∀ W : World, Sl W a1 xs → Calls Tryz.prog 10 #[.agg #[.int .i64 op, .slice a1 ln cp]] W fun e w' => e = .returned (.string (etx op xs)) ∧ Below W.heap.size W w') := fun W hS => spec_etext op a1 xs ln cp l1 W hS
    have HC : Hid (∀ W : World, KT W → Sl W a1 xs → Calls Tryz.prog 11 #[.agg #[.int .i64 op, .slice a1 ln cp]] W fun e w' => e = .returned (.bool false) ∧ Below W.heap.size W w') := fun W hW hS => by have := impl_iscontact op a1 xs ln cp l1 W hW hS; simpa [hr] using this
    have HK : Hid (∀ W : World, KT W → Sl W a1 xs → Calls Tryz.prog 12 #[.agg #[.int .i64 op, .slice a1 ln cp]] W fun e w' => e = .returned (.bool false) ∧ Below W.heap.size W w') := fun W hW hS => by have := impl_iscoil op a1 xs ln cp l1 W hW hS; simpa [hr] using this
    have hX : etx op xs = ⟨#[]⟩ := by unfold etx; rw [hr]; rfl
    rw [hX] at HA HB
    have HR : Hid (∀ W, Asks W → Calls Tryz.prog 13 #[.string ⟨#[]⟩] W fun e w' => e = .returned (.tuple #[.agg #[.int .i64 0, .slice none 0 0], .bool false]) ∧ Below W.heap.size W w') := fun W hW => (eread_i _ W hW.t hW.m hW.h (by decide)).mono fun e w' h => by
      rcases h with ⟨op', xs', g, cap, he, rfl, ho, hb⟩ | ⟨hno, he, hb⟩
      · exact absurd he.2 (etl_le he.1).2
      · exact ⟨he, hb⟩
    clear hX
    clear l1 hr
    have A0 : Asks w2 := hA.later b1
    have M0 : Code0 w2 b len2 cap2 blk2 off2 zz2 := h2.later b1
    have B0 := b1
    have SE0 := S1
    clear b1 S1 hA h2
    have B1 := B0.alloc B0.size (.cells #[.int .i64 op, .slice a1 ln cp] 25)
    have A1 := A0.alloc (.cells #[.int .i64 op, .slice a1 ln cp] 25)
    have SE1 := SE0.alloc (.cells #[.int .i64 op, .slice a1 ln cp] 25)
    have M1 := M0.alloc (.cells #[.int .i64 op, .slice a1 ln cp] 25)
    clear B0 A0 SE0 M0
    have EE : E2 (w2.alloc (.cells #[.int .i64 op, .slice a1 ln cp] 25)) w2.heap.size (.int .i64 op) (.slice a1 ln cp) := E2.fresh w2 _ _ _
    obtain ⟨p0, p1, _, _⟩ := id EE
    go_wp2_with fail
    generalize (w2.alloc (.cells #[.int .i64 op, .slice a1 ln cp] 25)) = W2 at B1 A1 SE1 M1 EE p0 p1 ⊢
    refine (HA.out _ A1.t SE1).mono ?_
    rintro e w3 ⟨rfl, g⟩
    clear p0 p1
    have B2 := B1.trans (g.mono B1.size)
    have A2 := A1.later g
    have SE2 := SE1.later g
    have M2 := M1.later g
    have EE2 := EE.later g
    clear g B1 A1 SE1 M1 EE
    obtain ⟨p0, p1, _, _⟩ := id EE2
    go_wp2_with fail
    refine (HB.out _ SE2).mono ?_
    rintro e w4 ⟨rfl, g⟩
    clear p0 p1
    have B3 := B2.trans (g.mono B2.size)
    have A3 := A2.later g
    have SE3 := SE2.later g
    have M3 := M2.later g
    have EE3 := EE2.later g
    clear g B2 A2 SE2 M2 EE2
    obtain ⟨p0, p1, _, _⟩ := id EE3
    go_wp2_with fail
    refine (HC.out _ A3.t.k SE3).mono ?_
    rintro e w5 ⟨rfl, g⟩
    clear p0 p1
    have B4 := B3.trans (g.mono B3.size)
    have A4 := A3.later g
    have SE4 := SE3.later g
    have M4 := M3.later g
    have EE4 := EE3.later g
    clear g B3 A3 SE3 M3 EE3
    obtain ⟨p0, p1, _, _⟩ := id EE4
    go_wp2_with fail
    refine (HK.out _ A4.t.k SE4).mono ?_
    rintro e w6 ⟨rfl, g⟩
    clear p0 p1
    have B5 := B4.trans (g.mono B4.size)
    have A5 := A4.later g
    have SE5 := SE4.later g
    have M5 := M4.later g
    have EE5 := EE4.later g
    clear g B4 A4 SE4 M4 EE4
    obtain ⟨p0, p1, _, _⟩ := id EE5
    go_wp2_with fail
    refine (HR.out _ A5).mono ?_
    rintro e w7 ⟨rfl, g⟩
    clear p0 p1
    have B6 := B5.trans (g.mono B5.size)
    have A6 := A5.later g
    have SE6 := SE5.later g
    have M6 := M5.later g
    have EE6 := EE5.later g
    clear g B5 A5 SE5 M5 EE5
    have B7 := B6.alloc B6.size (.cells #[.int .i64 0, .slice none 0 0] 25)
    have A7 := A6.alloc (.cells #[.int .i64 0, .slice none 0 0] 25)
    have SE7 := SE6.alloc (.cells #[.int .i64 0, .slice none 0 0] 25)
    have M7 := M6.alloc (.cells #[.int .i64 0, .slice none 0 0] 25)
    have EE7 := EE6.alloc (.cells #[.int .i64 0, .slice none 0 0] 25)
    clear B6 A6 SE6 M6 EE6
    have ER : E2 (w7.alloc (.cells #[.int .i64 0, .slice none 0 0] 25)) w7.heap.size (.int .i64 0) (.slice none 0 0) := E2.fresh w7 _ _ _
    obtain ⟨p0, p1, _, _⟩ := id EE7
    obtain ⟨r0, r1, _, _⟩ := id ER
    go_wp2_with fail
    generalize (w7.alloc (.cells #[.int .i64 0, .slice none 0 0] 25)) = W7 at B7 A7 SE7 M7 EE7 ER p0 p1 r0 r1 ⊢
    refine (we_r 0 none none [] 0 0 0 rfl (by omega) W7 (.inl rfl) (.inl rfl)).mono ?_
    rintro e w8 ⟨rfl, g⟩
    clear p0 p1 r0 r1
    have B8 := B7.trans (g.mono B7.size)
    have A8 := A7.later g
    have SE8 := SE7.later g
    have M8 := M7.later g
    have EE8 := EE7.later g
    have ER8 := ER.later g
    clear g B7 A7 SE7 M7 EE7 ER
    clear SE8 EE8 ER8
    go_wp2_with fail
    refine (drawread_r _ M8).mono ?_
    rintro e w9 ⟨⟨T, hT, rfl⟩, g⟩
    clear M8
    have B9 := B8.trans (g.mono B8.size)
    have A9 := A8.later g
    clear g B8 A8
    have hTs : T.size ≤ 1048576 := by omega
    clear HA HB HC HR HK
    by_cases hx : ∃ op xs, IsEl T op xs
    · obtain ⟨op2, ys, hx⟩ := hx
      have hm := rtk_form hx.1
      have hmr := row_sort op2 hm.1
      have hyl : ys.length ≤ 10 := by omega
      clear hm hmr
      have HET : Hid (etx op2 ys = T) := etx_of hx
      have conv : ∀ (W : World) (e : Ending) (w' : World), IsERead T W e w' → ∃ g cap, e = .returned (.tuple #[.agg #[.int .i64 op2, .slice (some ⟨g, 0, none⟩) ys.length cap], .bool true]) ∧ Sl w' (some ⟨g, 0, none⟩) ys ∧ Below W.heap.size W w' := by
        intro W e w' h
        rcases h with ⟨op', xs', g, cap, he, rfl, ho, hb⟩ | ⟨hno, _, _⟩
        · obtain ⟨rfl, rfl⟩ := etl_inj he.1 hx.1 (he.2.trans hx.2.symm)
          exact ⟨g, cap, rfl, .inr ⟨g, 0, rfl, OpsOwn.ops ho⟩, hb⟩
        · exact absurd hx (hno op2 ys)
      have HI2 : Hid (∀ W, Asks W → Calls Tryz.prog 13 #[.string T] W fun e w' => ∃ g cap, e = .returned (.tuple #[.agg #[.int .i64 op2, .slice (some ⟨g, 0, none⟩) ys.length cap], .bool true]) ∧ Sl w' (some ⟨g, 0, none⟩) ys ∧ Below W.heap.size W w') := fun W hW => (eread_i T W hW.t hW.m hW.h hTs).mono fun e w' h => conv W e w' h
      have HS2 : Hid (∀ W, Calls Tryz.prog 16 #[.string T] W fun e w' => ∃ g cap, e = .returned (.tuple #[.agg #[.int .i64 op2, .slice (some ⟨g, 0, none⟩) ys.length cap], .bool true]) ∧ Sl w' (some ⟨g, 0, none⟩) ys ∧ Below W.heap.size W w') := fun W => (eread_s T W hTs).mono fun e w' h => conv W e w' h
      clear conv hx
      go_wp2_with fail
      refine (HI2.out _ A9).mono ?_
      rintro e w20 ⟨gi, ci, rfl, SI, g20⟩
      have B10 := B9.trans (g20.mono B9.size)
      have A10 := A9.later g20
      clear g20 B9 A9
      have B11 := B10.alloc B10.size (.cells #[.int .i64 op2, .slice (some ⟨gi, 0, none⟩) ys.length ci] 25)
      have A11 := A10.alloc (.cells #[.int .i64 op2, .slice (some ⟨gi, 0, none⟩) ys.length ci] 25)
      have SI11 := SI.alloc (.cells #[.int .i64 op2, .slice (some ⟨gi, 0, none⟩) ys.length ci] 25)
      clear B10 A10 SI
      have EI : E2 (w20.alloc (.cells #[.int .i64 op2, .slice (some ⟨gi, 0, none⟩) ys.length ci] 25)) w20.heap.size (.int .i64 op2) (.slice (some ⟨gi, 0, none⟩) ys.length ci) := E2.fresh w20 _ _ _
      go_wp2_with fail
      generalize (w20.alloc (.cells #[.int .i64 op2, .slice (some ⟨gi, 0, none⟩) ys.length ci] 25)) = W20 at B11 A11 SI11 EI ⊢
      refine (HS2.out _).mono ?_
      rintro e w21 ⟨gz, cz, rfl, SZ, g21⟩
      have B12 := B11.trans (g21.mono B11.size)
      have A12 := A11.later g21
      have SI12 := SI11.later g21
      have EI12 := EI.later g21
      clear g21 B11 A11 SI11 EI
      have B13 := B12.alloc B12.size (.cells #[.int .i64 op2, .slice (some ⟨gz, 0, none⟩) ys.length cz] 25)
      have A13 := A12.alloc (.cells #[.int .i64 op2, .slice (some ⟨gz, 0, none⟩) ys.length cz] 25)
      have SI13 := SI12.alloc (.cells #[.int .i64 op2, .slice (some ⟨gz, 0, none⟩) ys.length cz] 25)
      have EI13 := EI12.alloc (.cells #[.int .i64 op2, .slice (some ⟨gz, 0, none⟩) ys.length cz] 25)
      have SZ13 := SZ.alloc (.cells #[.int .i64 op2, .slice (some ⟨gz, 0, none⟩) ys.length cz] 25)
      clear B12 A12 SI12 EI12 SZ
      have EZ : E2 (w21.alloc (.cells #[.int .i64 op2, .slice (some ⟨gz, 0, none⟩) ys.length cz] 25)) w21.heap.size (.int .i64 op2) (.slice (some ⟨gz, 0, none⟩) ys.length cz) := E2.fresh w21 _ _ _
      obtain ⟨p0, p1, _, _⟩ := id EI13
      obtain ⟨r0, r1, _, _⟩ := id EZ
      go_wp2_with fail
      generalize (w21.alloc (.cells #[.int .i64 op2, .slice (some ⟨gz, 0, none⟩) ys.length cz] 25)) = W21 at B13 A13 SI13 EI13 SZ13 EZ p0 p1 r0 r1 ⊢
      refine (we_r op2 _ _ ys ys.length ci cz rfl (by omega) W21 SI13 SZ13).mono ?_
      rintro e w22 ⟨rfl, g22⟩
      clear p0 p1 r0 r1
      have B14 := B13.trans (g22.mono B13.size)
      have A14 := A13.later g22
      have SI14 := SI13.later g22
      have EI14 := EI13.later g22
      have SZ14 := SZ13.later g22
      have EZ14 := EZ.later g22
      clear g22 B13 A13 SI13 EI13 SZ13 EZ
      obtain ⟨p0, p1, _, _⟩ := id EI14
      have HTX := impl_etext op2 _ ys ys.length ci rfl w22 A14.t SI14
      rw [HET.out] at HTX
      go_wp2_with fail
      refine HTX.mono ?_
      rintro e w23 ⟨rfl, g23⟩
      have BZ := B14.trans (g23.mono B14.size)
      go_wp2
      go_ret
      exact ⟨rfl, BZ⟩
    · have conv : ∀ (W : World) (e : Ending) (w' : World), IsERead T W e w' → e = .returned (.tuple #[.agg #[.int .i64 0, .slice none 0 0], .bool false]) ∧ Below W.heap.size W w' := by
        intro W e w' h
        rcases h with ⟨op', xs', g, cap, he, _, _, _⟩ | ⟨_, he, hb⟩
        · exact absurd ⟨op', xs', he⟩ hx
        · exact ⟨he, hb⟩
      have HI2 : Hid (∀ W, Asks W → Calls Tryz.prog 13 #[.string T] W fun e w' => e = .returned (.tuple #[.agg #[.int .i64 0, .slice none 0 0], .bool false]) ∧ Below W.heap.size W w') := fun W hW => (eread_i T W hW.t hW.m hW.h hTs).mono fun e w' h => conv W e w' h
      have HS2 : Hid (∀ W, Calls Tryz.prog 16 #[.string T] W fun e w' => e = .returned (.tuple #[.agg #[.int .i64 0, .slice none 0 0], .bool false]) ∧ Below W.heap.size W w') := fun W => (eread_s T W hTs).mono fun e w' h => conv W e w' h
      clear conv hx
      go_wp2_with fail
      refine (HI2.out _ A9).mono ?_
      rintro e w20 ⟨rfl, g20⟩
      have B10 := B9.trans (g20.mono B9.size)
      have A10 := A9.later g20
      clear g20 B9 A9
      have B11 := B10.alloc B10.size (.cells #[.int .i64 0, .slice none 0 0] 25)
      have A11 := A10.alloc (.cells #[.int .i64 0, .slice none 0 0] 25)
      clear B10 A10
      have EI : E2 (w20.alloc (.cells #[.int .i64 0, .slice none 0 0] 25)) w20.heap.size (.int .i64 0) (.slice none 0 0) := E2.fresh w20 _ _ _
      go_wp2_with fail
      generalize (w20.alloc (.cells #[.int .i64 0, .slice none 0 0] 25)) = W20 at B11 A11 EI ⊢
      refine (HS2.out _).mono ?_
      rintro e w21 ⟨rfl, g21⟩
      have B12 := B11.trans (g21.mono B11.size)
      have A12 := A11.later g21
      have EI12 := EI.later g21
      clear g21 B11 A11 EI
      have B13 := B12.alloc B12.size (.cells #[.int .i64 0, .slice none 0 0] 25)
      have A13 := A12.alloc (.cells #[.int .i64 0, .slice none 0 0] 25)
      have EI13 := EI12.alloc (.cells #[.int .i64 0, .slice none 0 0] 25)
      clear B12 A12 EI12
      have EZ : E2 (w21.alloc (.cells #[.int .i64 0, .slice none 0 0] 25)) w21.heap.size (.int .i64 0) (.slice none 0 0) := E2.fresh w21 _ _ _
      obtain ⟨p0, p1, _, _⟩ := id EI13
      obtain ⟨r0, r1, _, _⟩ := id EZ
      go_wp2_with fail
      generalize (w21.alloc (.cells #[.int .i64 0, .slice none 0 0] 25)) = W21 at B13 A13 EI13 EZ p0 p1 r0 r1 ⊢
      refine (we_r 0 none none [] 0 0 0 rfl (by omega) W21 (.inl rfl) (.inl rfl)).mono ?_
      rintro e w22 ⟨rfl, g22⟩
      clear p0 p1 r0 r1
      have B14 := B13.trans (g22.mono B13.size)
      have A14 := A13.later g22
      have EI14 := EI13.later g22
      have EZ14 := EZ.later g22
      clear g22 B13 A13 EI13 EZ
      have BZ := B14
      go_wp2
      go_ret
      exact ⟨rfl, BZ⟩
  | true =>
    by_cases ho : op ≤ 10
    · have HL : Hid (ln = xs.length) := l1
      have HA : Hid (∀ W : World, Tabs W → Sl W a1 xs → Calls Tryz.prog 9 #[.agg #[.int .i64 op, .slice a1 ln cp]] W fun e w' => e = .returned (.string (etx op xs)) ∧ Below W.heap.size W w') := fun W hW hS => impl_etext op a1 xs ln cp l1 W hW hS
      have HB : Hid (∀ W : World, Sl W a1 xs → Calls Tryz.prog 10 #[.agg #[.int .i64 op, .slice a1 ln cp]] W fun e w' => e = .returned (.string (etx op xs)) ∧ Below W.heap.size W w') := fun W hS => spec_etext op a1 xs ln cp l1 W hS
      have HC : Hid (∀ W : World, KT W → Sl W a1 xs → Calls Tryz.prog 11 #[.agg #[.int .i64 op, .slice a1 ln cp]] W fun e w' => e = .returned (.bool true) ∧ Below W.heap.size W w') := fun W hW hS => by have := impl_iscontact op a1 xs ln cp l1 W hW hS; simpa [hr, ho] using this
      have hel : IsEl (etx op xs) op xs := ⟨hr, by unfold etx; rw [if_pos hr]⟩
      have hne : (etx op xs).data.toList ≠ [] := by rw [← hel.2]; exact (etl_le hr).2
      have hsz : (etx op xs).size ≤ 1048576 := by have := etx_small op xs; omega
      have HR : Hid (∀ W, Asks W → Calls Tryz.prog 13 #[.string (etx op xs)] W fun e w' => ∃ g cap, e = .returned (.tuple #[.agg #[.int .i64 op, .slice (some ⟨g, 0, none⟩) ln cap], .bool true]) ∧ Sl w' (some ⟨g, 0, none⟩) xs ∧ Below W.heap.size W w') := fun W hW => (eread_i _ W hW.t hW.m hW.h hsz).mono fun e w' h => by
        rcases h with ⟨op', xs', g, cap, he, rfl, hoo, hb⟩ | ⟨hno, _, _⟩
        · obtain ⟨rfl, rfl⟩ := etl_inj he.1 hr (he.2.trans hel.2.symm)
          exact ⟨g, cap, by rw [HL.out], .inr ⟨g, 0, rfl, OpsOwn.ops hoo⟩, hb⟩
        · exact absurd hel (hno op xs)
      have se : ((etx op xs).toList == []) = false := by rw [Lib.toList_data, beq_eq_false_iff_ne]; exact hne
      have se2 : (etx op xs).toList.isEmpty = false := by
        rw [Lib.toList_data]
        cases hq : (etx op xs).data.toList with
        | nil => exact absurd hq hne
        | cons a b => rfl
      clear hel hne hsz
      obtain ⟨X, hX⟩ : ∃ X, etx op xs = X := ⟨_, rfl⟩
      rw [hX] at HA HB HR se se2
      clear hX
      clear l1 hr ho
      have A0 : Asks w2 := hA.later b1
      have M0 : Code0 w2 b len2 cap2 blk2 off2 zz2 := h2.later b1
      have B0 := b1
      have SE0 := S1
      clear b1 S1 hA h2
      have B1 := B0.alloc B0.size (.cells #[.int .i64 op, .slice a1 ln cp] 25)
      have A1 := A0.alloc (.cells #[.int .i64 op, .slice a1 ln cp] 25)
      have SE1 := SE0.alloc (.cells #[.int .i64 op, .slice a1 ln cp] 25)
      have M1 := M0.alloc (.cells #[.int .i64 op, .slice a1 ln cp] 25)
      clear B0 A0 SE0 M0
      have EE : E2 (w2.alloc (.cells #[.int .i64 op, .slice a1 ln cp] 25)) w2.heap.size (.int .i64 op) (.slice a1 ln cp) := E2.fresh w2 _ _ _
      obtain ⟨p0, p1, _, _⟩ := id EE
      go_wp2_with fail
      generalize (w2.alloc (.cells #[.int .i64 op, .slice a1 ln cp] 25)) = W2 at B1 A1 SE1 M1 EE p0 p1 ⊢
      refine (HA.out _ A1.t SE1).mono ?_
      rintro e w3 ⟨rfl, g⟩
      clear p0 p1
      have B2 := B1.trans (g.mono B1.size)
      have A2 := A1.later g
      have SE2 := SE1.later g
      have M2 := M1.later g
      have EE2 := EE.later g
      clear g B1 A1 SE1 M1 EE
      obtain ⟨p0, p1, _, _⟩ := id EE2
      go_wp2_with fail
      refine (HB.out _ SE2).mono ?_
      rintro e w4 ⟨rfl, g⟩
      clear p0 p1
      have B3 := B2.trans (g.mono B2.size)
      have A3 := A2.later g
      have SE3 := SE2.later g
      have M3 := M2.later g
      have EE3 := EE2.later g
      clear g B2 A2 SE2 M2 EE2
      obtain ⟨p0, p1, _, _⟩ := id EE3
      go_wp2_with fail
      refine (HC.out _ A3.t.k SE3).mono ?_
      rintro e w5 ⟨rfl, g⟩
      clear p0 p1
      have B4 := B3.trans (g.mono B3.size)
      have A4 := A3.later g
      have SE4 := SE3.later g
      have M4 := M3.later g
      have EE4 := EE3.later g
      clear g B3 A3 SE3 M3 EE3
      obtain ⟨p0, p1, _, _⟩ := id EE4
      go_wp2_with fail
      refine (HR.out _ A4).mono ?_
      rintro e w7 ⟨gr, cr, rfl, SR, g⟩
      clear p0 p1
      have B5 := B4.trans (g.mono B4.size)
      have A5 := A4.later g
      have SE5 := SE4.later g
      have M5 := M4.later g
      have EE5 := EE4.later g
      clear g B4 A4 SE4 M4 EE4
      have B6 := B5.alloc B5.size (.cells #[.int .i64 op, .slice (some ⟨gr, 0, none⟩) ln cr] 25)
      have A6 := A5.alloc (.cells #[.int .i64 op, .slice (some ⟨gr, 0, none⟩) ln cr] 25)
      have SE6 := SE5.alloc (.cells #[.int .i64 op, .slice (some ⟨gr, 0, none⟩) ln cr] 25)
      have M6 := M5.alloc (.cells #[.int .i64 op, .slice (some ⟨gr, 0, none⟩) ln cr] 25)
      have EE6 := EE5.alloc (.cells #[.int .i64 op, .slice (some ⟨gr, 0, none⟩) ln cr] 25)
      have SR6 := SR.alloc (.cells #[.int .i64 op, .slice (some ⟨gr, 0, none⟩) ln cr] 25)
      clear B5 A5 SE5 M5 EE5 SR
      have ER : E2 (w7.alloc (.cells #[.int .i64 op, .slice (some ⟨gr, 0, none⟩) ln cr] 25)) w7.heap.size (.int .i64 op) (.slice (some ⟨gr, 0, none⟩) ln cr) := E2.fresh w7 _ _ _
      obtain ⟨p0, p1, _, _⟩ := id EE6
      obtain ⟨r0, r1, _, _⟩ := id ER
      go_wp2_with fail
      generalize (w7.alloc (.cells #[.int .i64 op, .slice (some ⟨gr, 0, none⟩) ln cr] 25)) = W7 at B6 A6 SE6 M6 EE6 SR6 ER p0 p1 r0 r1 ⊢
      refine (we_r op _ _ xs ln cr cp HL.out (by omega) W7 SR6 SE6).mono ?_
      rintro e w8 ⟨rfl, g⟩
      clear p0 p1 r0 r1
      have B7 := B6.trans (g.mono B6.size)
      have A7 := A6.later g
      have SE7 := SE6.later g
      have M7 := M6.later g
      have EE7 := EE6.later g
      have SR7 := SR6.later g
      have ER7 := ER.later g
      clear g B6 A6 SE6 M6 EE6 SR6 ER
      clear SE7 EE7 SR7 ER7
      go_wp2_with fail
      refine (drawread_r _ M7).mono ?_
      rintro e w9 ⟨⟨T, hT, rfl⟩, g⟩
      clear M7
      have B8 := B7.trans (g.mono B7.size)
      have A8 := A7.later g
      clear g B7 A7
      have hTs : T.size ≤ 1048576 := by omega
      clear HA HB HC HR
      by_cases hx : ∃ op xs, IsEl T op xs
      · obtain ⟨op2, ys, hx⟩ := hx
        have hm := rtk_form hx.1
        have hmr := row_sort op2 hm.1
        have hyl : ys.length ≤ 10 := by omega
        clear hm hmr
        have HET : Hid (etx op2 ys = T) := etx_of hx
        have conv : ∀ (W : World) (e : Ending) (w' : World), IsERead T W e w' → ∃ g cap, e = .returned (.tuple #[.agg #[.int .i64 op2, .slice (some ⟨g, 0, none⟩) ys.length cap], .bool true]) ∧ Sl w' (some ⟨g, 0, none⟩) ys ∧ Below W.heap.size W w' := by
          intro W e w' h
          rcases h with ⟨op', xs', g, cap, he, rfl, ho, hb⟩ | ⟨hno, _, _⟩
          · obtain ⟨rfl, rfl⟩ := etl_inj he.1 hx.1 (he.2.trans hx.2.symm)
            exact ⟨g, cap, rfl, .inr ⟨g, 0, rfl, OpsOwn.ops ho⟩, hb⟩
          · exact absurd hx (hno op2 ys)
        have HI2 : Hid (∀ W, Asks W → Calls Tryz.prog 13 #[.string T] W fun e w' => ∃ g cap, e = .returned (.tuple #[.agg #[.int .i64 op2, .slice (some ⟨g, 0, none⟩) ys.length cap], .bool true]) ∧ Sl w' (some ⟨g, 0, none⟩) ys ∧ Below W.heap.size W w') := fun W hW => (eread_i T W hW.t hW.m hW.h hTs).mono fun e w' h => conv W e w' h
        have HS2 : Hid (∀ W, Calls Tryz.prog 16 #[.string T] W fun e w' => ∃ g cap, e = .returned (.tuple #[.agg #[.int .i64 op2, .slice (some ⟨g, 0, none⟩) ys.length cap], .bool true]) ∧ Sl w' (some ⟨g, 0, none⟩) ys ∧ Below W.heap.size W w') := fun W => (eread_s T W hTs).mono fun e w' h => conv W e w' h
        clear conv hx
        go_wp2_with fail
        refine (HI2.out _ A8).mono ?_
        rintro e w20 ⟨gi, ci, rfl, SI, g20⟩
        have B9 := B8.trans (g20.mono B8.size)
        have A9 := A8.later g20
        clear g20 B8 A8
        have B10 := B9.alloc B9.size (.cells #[.int .i64 op2, .slice (some ⟨gi, 0, none⟩) ys.length ci] 25)
        have A10 := A9.alloc (.cells #[.int .i64 op2, .slice (some ⟨gi, 0, none⟩) ys.length ci] 25)
        have SI10 := SI.alloc (.cells #[.int .i64 op2, .slice (some ⟨gi, 0, none⟩) ys.length ci] 25)
        clear B9 A9 SI
        have EI : E2 (w20.alloc (.cells #[.int .i64 op2, .slice (some ⟨gi, 0, none⟩) ys.length ci] 25)) w20.heap.size (.int .i64 op2) (.slice (some ⟨gi, 0, none⟩) ys.length ci) := E2.fresh w20 _ _ _
        go_wp2_with fail
        generalize (w20.alloc (.cells #[.int .i64 op2, .slice (some ⟨gi, 0, none⟩) ys.length ci] 25)) = W20 at B10 A10 SI10 EI ⊢
        refine (HS2.out _).mono ?_
        rintro e w21 ⟨gz, cz, rfl, SZ, g21⟩
        have B11 := B10.trans (g21.mono B10.size)
        have A11 := A10.later g21
        have SI11 := SI10.later g21
        have EI11 := EI.later g21
        clear g21 B10 A10 SI10 EI
        have B12 := B11.alloc B11.size (.cells #[.int .i64 op2, .slice (some ⟨gz, 0, none⟩) ys.length cz] 25)
        have A12 := A11.alloc (.cells #[.int .i64 op2, .slice (some ⟨gz, 0, none⟩) ys.length cz] 25)
        have SI12 := SI11.alloc (.cells #[.int .i64 op2, .slice (some ⟨gz, 0, none⟩) ys.length cz] 25)
        have EI12 := EI11.alloc (.cells #[.int .i64 op2, .slice (some ⟨gz, 0, none⟩) ys.length cz] 25)
        have SZ12 := SZ.alloc (.cells #[.int .i64 op2, .slice (some ⟨gz, 0, none⟩) ys.length cz] 25)
        clear B11 A11 SI11 EI11 SZ
        have EZ : E2 (w21.alloc (.cells #[.int .i64 op2, .slice (some ⟨gz, 0, none⟩) ys.length cz] 25)) w21.heap.size (.int .i64 op2) (.slice (some ⟨gz, 0, none⟩) ys.length cz) := E2.fresh w21 _ _ _
        obtain ⟨p0, p1, _, _⟩ := id EI12
        obtain ⟨r0, r1, _, _⟩ := id EZ
        go_wp2_with fail
        generalize (w21.alloc (.cells #[.int .i64 op2, .slice (some ⟨gz, 0, none⟩) ys.length cz] 25)) = W21 at B12 A12 SI12 EI12 SZ12 EZ p0 p1 r0 r1 ⊢
        refine (we_r op2 _ _ ys ys.length ci cz rfl (by omega) W21 SI12 SZ12).mono ?_
        rintro e w22 ⟨rfl, g22⟩
        clear p0 p1 r0 r1
        have B13 := B12.trans (g22.mono B12.size)
        have A13 := A12.later g22
        have SI13 := SI12.later g22
        have EI13 := EI12.later g22
        have SZ13 := SZ12.later g22
        have EZ13 := EZ.later g22
        clear g22 B12 A12 SI12 EI12 SZ12 EZ
        obtain ⟨p0, p1, _, _⟩ := id EI13
        have HTX := impl_etext op2 _ ys ys.length ci rfl w22 A13.t SI13
        rw [HET.out] at HTX
        go_wp2_with fail
        refine HTX.mono ?_
        rintro e w23 ⟨rfl, g23⟩
        have BZ := B13.trans (g23.mono B13.size)
        go_wp2
        go_ret
        exact ⟨rfl, BZ⟩
      · have conv : ∀ (W : World) (e : Ending) (w' : World), IsERead T W e w' → e = .returned (.tuple #[.agg #[.int .i64 0, .slice none 0 0], .bool false]) ∧ Below W.heap.size W w' := by
          intro W e w' h
          rcases h with ⟨op', xs', g, cap, he, _, _, _⟩ | ⟨_, he, hb⟩
          · exact absurd ⟨op', xs', he⟩ hx
          · exact ⟨he, hb⟩
        have HI2 : Hid (∀ W, Asks W → Calls Tryz.prog 13 #[.string T] W fun e w' => e = .returned (.tuple #[.agg #[.int .i64 0, .slice none 0 0], .bool false]) ∧ Below W.heap.size W w') := fun W hW => (eread_i T W hW.t hW.m hW.h hTs).mono fun e w' h => conv W e w' h
        have HS2 : Hid (∀ W, Calls Tryz.prog 16 #[.string T] W fun e w' => e = .returned (.tuple #[.agg #[.int .i64 0, .slice none 0 0], .bool false]) ∧ Below W.heap.size W w') := fun W => (eread_s T W hTs).mono fun e w' h => conv W e w' h
        clear conv hx
        go_wp2_with fail
        refine (HI2.out _ A8).mono ?_
        rintro e w20 ⟨rfl, g20⟩
        have B9 := B8.trans (g20.mono B8.size)
        have A9 := A8.later g20
        clear g20 B8 A8
        have B10 := B9.alloc B9.size (.cells #[.int .i64 0, .slice none 0 0] 25)
        have A10 := A9.alloc (.cells #[.int .i64 0, .slice none 0 0] 25)
        clear B9 A9
        have EI : E2 (w20.alloc (.cells #[.int .i64 0, .slice none 0 0] 25)) w20.heap.size (.int .i64 0) (.slice none 0 0) := E2.fresh w20 _ _ _
        go_wp2_with fail
        generalize (w20.alloc (.cells #[.int .i64 0, .slice none 0 0] 25)) = W20 at B10 A10 EI ⊢
        refine (HS2.out _).mono ?_
        rintro e w21 ⟨rfl, g21⟩
        have B11 := B10.trans (g21.mono B10.size)
        have A11 := A10.later g21
        have EI11 := EI.later g21
        clear g21 B10 A10 EI
        have B12 := B11.alloc B11.size (.cells #[.int .i64 0, .slice none 0 0] 25)
        have A12 := A11.alloc (.cells #[.int .i64 0, .slice none 0 0] 25)
        have EI12 := EI11.alloc (.cells #[.int .i64 0, .slice none 0 0] 25)
        clear B11 A11 EI11
        have EZ : E2 (w21.alloc (.cells #[.int .i64 0, .slice none 0 0] 25)) w21.heap.size (.int .i64 0) (.slice none 0 0) := E2.fresh w21 _ _ _
        obtain ⟨p0, p1, _, _⟩ := id EI12
        obtain ⟨r0, r1, _, _⟩ := id EZ
        go_wp2_with fail
        generalize (w21.alloc (.cells #[.int .i64 0, .slice none 0 0] 25)) = W21 at B12 A12 EI12 EZ p0 p1 r0 r1 ⊢
        refine (we_r 0 none none [] 0 0 0 rfl (by omega) W21 (.inl rfl) (.inl rfl)).mono ?_
        rintro e w22 ⟨rfl, g22⟩
        clear p0 p1 r0 r1
        have B13 := B12.trans (g22.mono B12.size)
        have A13 := A12.later g22
        have EI13 := EI12.later g22
        have EZ13 := EZ.later g22
        clear g22 B12 A12 EI12 EZ
        have BZ := B13
        go_wp2
        go_ret
        exact ⟨rfl, BZ⟩
    · have ho : 21 ≤ op := by have := (rtk_form hr).1; omega
      have HL : Hid (ln = xs.length) := l1
      have HA : Hid (∀ W : World, Tabs W → Sl W a1 xs → Calls Tryz.prog 9 #[.agg #[.int .i64 op, .slice a1 ln cp]] W fun e w' => e = .returned (.string (etx op xs)) ∧ Below W.heap.size W w') := fun W hW hS => impl_etext op a1 xs ln cp l1 W hW hS
      have HB : Hid (∀ W : World, Sl W a1 xs → Calls Tryz.prog 10 #[.agg #[.int .i64 op, .slice a1 ln cp]] W fun e w' => e = .returned (.string (etx op xs)) ∧ Below W.heap.size W w') := fun W hS => spec_etext op a1 xs ln cp l1 W hS
      have HC : Hid (∀ W : World, KT W → Sl W a1 xs → Calls Tryz.prog 11 #[.agg #[.int .i64 op, .slice a1 ln cp]] W fun e w' => e = .returned (.bool false) ∧ Below W.heap.size W w') := fun W hW hS => by have := impl_iscontact op a1 xs ln cp l1 W hW hS; rw [show decide (op ≤ 10) = false from decide_eq_false (by omega)] at this; simpa [hr] using this
      have HK : Hid (∀ W : World, KT W → Sl W a1 xs → Calls Tryz.prog 12 #[.agg #[.int .i64 op, .slice a1 ln cp]] W fun e w' => e = .returned (.bool true) ∧ Below W.heap.size W w') := fun W hW hS => by have := impl_iscoil op a1 xs ln cp l1 W hW hS; simpa [hr, ho] using this
      have hel : IsEl (etx op xs) op xs := ⟨hr, by unfold etx; rw [if_pos hr]⟩
      have hne : (etx op xs).data.toList ≠ [] := by rw [← hel.2]; exact (etl_le hr).2
      have hsz : (etx op xs).size ≤ 1048576 := by have := etx_small op xs; omega
      have HR : Hid (∀ W, Asks W → Calls Tryz.prog 13 #[.string (etx op xs)] W fun e w' => ∃ g cap, e = .returned (.tuple #[.agg #[.int .i64 op, .slice (some ⟨g, 0, none⟩) ln cap], .bool true]) ∧ Sl w' (some ⟨g, 0, none⟩) xs ∧ Below W.heap.size W w') := fun W hW => (eread_i _ W hW.t hW.m hW.h hsz).mono fun e w' h => by
        rcases h with ⟨op', xs', g, cap, he, rfl, hoo, hb⟩ | ⟨hno, _, _⟩
        · obtain ⟨rfl, rfl⟩ := etl_inj he.1 hr (he.2.trans hel.2.symm)
          exact ⟨g, cap, by rw [HL.out], .inr ⟨g, 0, rfl, OpsOwn.ops hoo⟩, hb⟩
        · exact absurd hel (hno op xs)
      have se : ((etx op xs).toList == []) = false := by rw [Lib.toList_data, beq_eq_false_iff_ne]; exact hne
      have se2 : (etx op xs).toList.isEmpty = false := by
        rw [Lib.toList_data]
        cases hq : (etx op xs).data.toList with
        | nil => exact absurd hq hne
        | cons a b => rfl
      clear hel hne hsz
      obtain ⟨X, hX⟩ : ∃ X, etx op xs = X := ⟨_, rfl⟩
      rw [hX] at HA HB HR se se2
      clear hX
      clear l1 hr ho
      have A0 : Asks w2 := hA.later b1
      have M0 : Code0 w2 b len2 cap2 blk2 off2 zz2 := h2.later b1
      have B0 := b1
      have SE0 := S1
      clear b1 S1 hA h2
      have B1 := B0.alloc B0.size (.cells #[.int .i64 op, .slice a1 ln cp] 25)
      have A1 := A0.alloc (.cells #[.int .i64 op, .slice a1 ln cp] 25)
      have SE1 := SE0.alloc (.cells #[.int .i64 op, .slice a1 ln cp] 25)
      have M1 := M0.alloc (.cells #[.int .i64 op, .slice a1 ln cp] 25)
      clear B0 A0 SE0 M0
      have EE : E2 (w2.alloc (.cells #[.int .i64 op, .slice a1 ln cp] 25)) w2.heap.size (.int .i64 op) (.slice a1 ln cp) := E2.fresh w2 _ _ _
      obtain ⟨p0, p1, _, _⟩ := id EE
      go_wp2_with fail
      generalize (w2.alloc (.cells #[.int .i64 op, .slice a1 ln cp] 25)) = W2 at B1 A1 SE1 M1 EE p0 p1 ⊢
      refine (HA.out _ A1.t SE1).mono ?_
      rintro e w3 ⟨rfl, g⟩
      clear p0 p1
      have B2 := B1.trans (g.mono B1.size)
      have A2 := A1.later g
      have SE2 := SE1.later g
      have M2 := M1.later g
      have EE2 := EE.later g
      clear g B1 A1 SE1 M1 EE
      obtain ⟨p0, p1, _, _⟩ := id EE2
      go_wp2_with fail
      refine (HB.out _ SE2).mono ?_
      rintro e w4 ⟨rfl, g⟩
      clear p0 p1
      have B3 := B2.trans (g.mono B2.size)
      have A3 := A2.later g
      have SE3 := SE2.later g
      have M3 := M2.later g
      have EE3 := EE2.later g
      clear g B2 A2 SE2 M2 EE2
      obtain ⟨p0, p1, _, _⟩ := id EE3
      go_wp2_with fail
      refine (HC.out _ A3.t.k SE3).mono ?_
      rintro e w5 ⟨rfl, g⟩
      clear p0 p1
      have B4 := B3.trans (g.mono B3.size)
      have A4 := A3.later g
      have SE4 := SE3.later g
      have M4 := M3.later g
      have EE4 := EE3.later g
      clear g B3 A3 SE3 M3 EE3
      obtain ⟨p0, p1, _, _⟩ := id EE4
      go_wp2_with fail
      refine (HK.out _ A4.t.k SE4).mono ?_
      rintro e w6 ⟨rfl, g⟩
      clear p0 p1
      have B5 := B4.trans (g.mono B4.size)
      have A5 := A4.later g
      have SE5 := SE4.later g
      have M5 := M4.later g
      have EE5 := EE4.later g
      clear g B4 A4 SE4 M4 EE4
      obtain ⟨p0, p1, _, _⟩ := id EE5
      go_wp2_with fail
      refine (HR.out _ A5).mono ?_
      rintro e w7 ⟨gr, cr, rfl, SR, g⟩
      clear p0 p1
      have B6 := B5.trans (g.mono B5.size)
      have A6 := A5.later g
      have SE6 := SE5.later g
      have M6 := M5.later g
      have EE6 := EE5.later g
      clear g B5 A5 SE5 M5 EE5
      have B7 := B6.alloc B6.size (.cells #[.int .i64 op, .slice (some ⟨gr, 0, none⟩) ln cr] 25)
      have A7 := A6.alloc (.cells #[.int .i64 op, .slice (some ⟨gr, 0, none⟩) ln cr] 25)
      have SE7 := SE6.alloc (.cells #[.int .i64 op, .slice (some ⟨gr, 0, none⟩) ln cr] 25)
      have M7 := M6.alloc (.cells #[.int .i64 op, .slice (some ⟨gr, 0, none⟩) ln cr] 25)
      have EE7 := EE6.alloc (.cells #[.int .i64 op, .slice (some ⟨gr, 0, none⟩) ln cr] 25)
      have SR7 := SR.alloc (.cells #[.int .i64 op, .slice (some ⟨gr, 0, none⟩) ln cr] 25)
      clear B6 A6 SE6 M6 EE6 SR
      have ER : E2 (w7.alloc (.cells #[.int .i64 op, .slice (some ⟨gr, 0, none⟩) ln cr] 25)) w7.heap.size (.int .i64 op) (.slice (some ⟨gr, 0, none⟩) ln cr) := E2.fresh w7 _ _ _
      obtain ⟨p0, p1, _, _⟩ := id EE7
      obtain ⟨r0, r1, _, _⟩ := id ER
      go_wp2_with fail
      generalize (w7.alloc (.cells #[.int .i64 op, .slice (some ⟨gr, 0, none⟩) ln cr] 25)) = W7 at B7 A7 SE7 M7 EE7 SR7 ER p0 p1 r0 r1 ⊢
      refine (we_r op _ _ xs ln cr cp HL.out (by omega) W7 SR7 SE7).mono ?_
      rintro e w8 ⟨rfl, g⟩
      clear p0 p1 r0 r1
      have B8 := B7.trans (g.mono B7.size)
      have A8 := A7.later g
      have SE8 := SE7.later g
      have M8 := M7.later g
      have EE8 := EE7.later g
      have SR8 := SR7.later g
      have ER8 := ER.later g
      clear g B7 A7 SE7 M7 EE7 SR7 ER
      clear SE8 EE8 SR8 ER8
      go_wp2_with fail
      refine (drawread_r _ M8).mono ?_
      rintro e w9 ⟨⟨T, hT, rfl⟩, g⟩
      clear M8
      have B9 := B8.trans (g.mono B8.size)
      have A9 := A8.later g
      clear g B8 A8
      have hTs : T.size ≤ 1048576 := by omega
      clear HA HB HC HR HK
      by_cases hx : ∃ op xs, IsEl T op xs
      · obtain ⟨op2, ys, hx⟩ := hx
        have hm := rtk_form hx.1
        have hmr := row_sort op2 hm.1
        have hyl : ys.length ≤ 10 := by omega
        clear hm hmr
        have HET : Hid (etx op2 ys = T) := etx_of hx
        have conv : ∀ (W : World) (e : Ending) (w' : World), IsERead T W e w' → ∃ g cap, e = .returned (.tuple #[.agg #[.int .i64 op2, .slice (some ⟨g, 0, none⟩) ys.length cap], .bool true]) ∧ Sl w' (some ⟨g, 0, none⟩) ys ∧ Below W.heap.size W w' := by
          intro W e w' h
          rcases h with ⟨op', xs', g, cap, he, rfl, ho, hb⟩ | ⟨hno, _, _⟩
          · obtain ⟨rfl, rfl⟩ := etl_inj he.1 hx.1 (he.2.trans hx.2.symm)
            exact ⟨g, cap, rfl, .inr ⟨g, 0, rfl, OpsOwn.ops ho⟩, hb⟩
          · exact absurd hx (hno op2 ys)
        have HI2 : Hid (∀ W, Asks W → Calls Tryz.prog 13 #[.string T] W fun e w' => ∃ g cap, e = .returned (.tuple #[.agg #[.int .i64 op2, .slice (some ⟨g, 0, none⟩) ys.length cap], .bool true]) ∧ Sl w' (some ⟨g, 0, none⟩) ys ∧ Below W.heap.size W w') := fun W hW => (eread_i T W hW.t hW.m hW.h hTs).mono fun e w' h => conv W e w' h
        have HS2 : Hid (∀ W, Calls Tryz.prog 16 #[.string T] W fun e w' => ∃ g cap, e = .returned (.tuple #[.agg #[.int .i64 op2, .slice (some ⟨g, 0, none⟩) ys.length cap], .bool true]) ∧ Sl w' (some ⟨g, 0, none⟩) ys ∧ Below W.heap.size W w') := fun W => (eread_s T W hTs).mono fun e w' h => conv W e w' h
        clear conv hx
        go_wp2_with fail
        refine (HI2.out _ A9).mono ?_
        rintro e w20 ⟨gi, ci, rfl, SI, g20⟩
        have B10 := B9.trans (g20.mono B9.size)
        have A10 := A9.later g20
        clear g20 B9 A9
        have B11 := B10.alloc B10.size (.cells #[.int .i64 op2, .slice (some ⟨gi, 0, none⟩) ys.length ci] 25)
        have A11 := A10.alloc (.cells #[.int .i64 op2, .slice (some ⟨gi, 0, none⟩) ys.length ci] 25)
        have SI11 := SI.alloc (.cells #[.int .i64 op2, .slice (some ⟨gi, 0, none⟩) ys.length ci] 25)
        clear B10 A10 SI
        have EI : E2 (w20.alloc (.cells #[.int .i64 op2, .slice (some ⟨gi, 0, none⟩) ys.length ci] 25)) w20.heap.size (.int .i64 op2) (.slice (some ⟨gi, 0, none⟩) ys.length ci) := E2.fresh w20 _ _ _
        go_wp2_with fail
        generalize (w20.alloc (.cells #[.int .i64 op2, .slice (some ⟨gi, 0, none⟩) ys.length ci] 25)) = W20 at B11 A11 SI11 EI ⊢
        refine (HS2.out _).mono ?_
        rintro e w21 ⟨gz, cz, rfl, SZ, g21⟩
        have B12 := B11.trans (g21.mono B11.size)
        have A12 := A11.later g21
        have SI12 := SI11.later g21
        have EI12 := EI.later g21
        clear g21 B11 A11 SI11 EI
        have B13 := B12.alloc B12.size (.cells #[.int .i64 op2, .slice (some ⟨gz, 0, none⟩) ys.length cz] 25)
        have A13 := A12.alloc (.cells #[.int .i64 op2, .slice (some ⟨gz, 0, none⟩) ys.length cz] 25)
        have SI13 := SI12.alloc (.cells #[.int .i64 op2, .slice (some ⟨gz, 0, none⟩) ys.length cz] 25)
        have EI13 := EI12.alloc (.cells #[.int .i64 op2, .slice (some ⟨gz, 0, none⟩) ys.length cz] 25)
        have SZ13 := SZ.alloc (.cells #[.int .i64 op2, .slice (some ⟨gz, 0, none⟩) ys.length cz] 25)
        clear B12 A12 SI12 EI12 SZ
        have EZ : E2 (w21.alloc (.cells #[.int .i64 op2, .slice (some ⟨gz, 0, none⟩) ys.length cz] 25)) w21.heap.size (.int .i64 op2) (.slice (some ⟨gz, 0, none⟩) ys.length cz) := E2.fresh w21 _ _ _
        obtain ⟨p0, p1, _, _⟩ := id EI13
        obtain ⟨r0, r1, _, _⟩ := id EZ
        go_wp2_with fail
        generalize (w21.alloc (.cells #[.int .i64 op2, .slice (some ⟨gz, 0, none⟩) ys.length cz] 25)) = W21 at B13 A13 SI13 EI13 SZ13 EZ p0 p1 r0 r1 ⊢
        refine (we_r op2 _ _ ys ys.length ci cz rfl (by omega) W21 SI13 SZ13).mono ?_
        rintro e w22 ⟨rfl, g22⟩
        clear p0 p1 r0 r1
        have B14 := B13.trans (g22.mono B13.size)
        have A14 := A13.later g22
        have SI14 := SI13.later g22
        have EI14 := EI13.later g22
        have SZ14 := SZ13.later g22
        have EZ14 := EZ.later g22
        clear g22 B13 A13 SI13 EI13 SZ13 EZ
        obtain ⟨p0, p1, _, _⟩ := id EI14
        have HTX := impl_etext op2 _ ys ys.length ci rfl w22 A14.t SI14
        rw [HET.out] at HTX
        go_wp2_with fail
        refine HTX.mono ?_
        rintro e w23 ⟨rfl, g23⟩
        have BZ := B14.trans (g23.mono B14.size)
        go_wp2
        go_ret
        exact ⟨rfl, BZ⟩
      · have conv : ∀ (W : World) (e : Ending) (w' : World), IsERead T W e w' → e = .returned (.tuple #[.agg #[.int .i64 0, .slice none 0 0], .bool false]) ∧ Below W.heap.size W w' := by
          intro W e w' h
          rcases h with ⟨op', xs', g, cap, he, _, _, _⟩ | ⟨_, he, hb⟩
          · exact absurd ⟨op', xs', he⟩ hx
          · exact ⟨he, hb⟩
        have HI2 : Hid (∀ W, Asks W → Calls Tryz.prog 13 #[.string T] W fun e w' => e = .returned (.tuple #[.agg #[.int .i64 0, .slice none 0 0], .bool false]) ∧ Below W.heap.size W w') := fun W hW => (eread_i T W hW.t hW.m hW.h hTs).mono fun e w' h => conv W e w' h
        have HS2 : Hid (∀ W, Calls Tryz.prog 16 #[.string T] W fun e w' => e = .returned (.tuple #[.agg #[.int .i64 0, .slice none 0 0], .bool false]) ∧ Below W.heap.size W w') := fun W => (eread_s T W hTs).mono fun e w' h => conv W e w' h
        clear conv hx
        go_wp2_with fail
        refine (HI2.out _ A9).mono ?_
        rintro e w20 ⟨rfl, g20⟩
        have B10 := B9.trans (g20.mono B9.size)
        have A10 := A9.later g20
        clear g20 B9 A9
        have B11 := B10.alloc B10.size (.cells #[.int .i64 0, .slice none 0 0] 25)
        have A11 := A10.alloc (.cells #[.int .i64 0, .slice none 0 0] 25)
        clear B10 A10
        have EI : E2 (w20.alloc (.cells #[.int .i64 0, .slice none 0 0] 25)) w20.heap.size (.int .i64 0) (.slice none 0 0) := E2.fresh w20 _ _ _
        go_wp2_with fail
        generalize (w20.alloc (.cells #[.int .i64 0, .slice none 0 0] 25)) = W20 at B11 A11 EI ⊢
        refine (HS2.out _).mono ?_
        rintro e w21 ⟨rfl, g21⟩
        have B12 := B11.trans (g21.mono B11.size)
        have A12 := A11.later g21
        have EI12 := EI.later g21
        clear g21 B11 A11 EI
        have B13 := B12.alloc B12.size (.cells #[.int .i64 0, .slice none 0 0] 25)
        have A13 := A12.alloc (.cells #[.int .i64 0, .slice none 0 0] 25)
        have EI13 := EI12.alloc (.cells #[.int .i64 0, .slice none 0 0] 25)
        clear B12 A12 EI12
        have EZ : E2 (w21.alloc (.cells #[.int .i64 0, .slice none 0 0] 25)) w21.heap.size (.int .i64 0) (.slice none 0 0) := E2.fresh w21 _ _ _
        obtain ⟨p0, p1, _, _⟩ := id EI13
        obtain ⟨r0, r1, _, _⟩ := id EZ
        go_wp2_with fail
        generalize (w21.alloc (.cells #[.int .i64 0, .slice none 0 0] 25)) = W21 at B13 A13 EI13 EZ p0 p1 r0 r1 ⊢
        refine (we_r 0 none none [] 0 0 0 rfl (by omega) W21 (.inl rfl) (.inl rfl)).mono ?_
        rintro e w22 ⟨rfl, g22⟩
        clear p0 p1 r0 r1
        have B14 := B13.trans (g22.mono B13.size)
        have A14 := A13.later g22
        have EI14 := EI13.later g22
        have EZ14 := EZ.later g22
        clear g22 B13 A13 EI13 EZ
        have BZ := B14
        go_wp2
        go_ret
        exact ⟨rfl, BZ⟩

set_option maxHeartbeats 2000000 in
theorem back_long {a b : Option Addr} {len cap len2 cap2 : Nat} (w : World) (h : 1048576 < len ∨ (len ≤ 1048576 ∧ 1048576 < len2)) :
    Calls Tryz.prog 3 #[.slice a len cap, .slice b len2 cap2] w fun e w' => e = .returned (.bool true) ∧ Below w.heap.size w w' := by
  rcases h with h | ⟨h1, h2⟩
  · have q1 : (1048576 : Int) < (len : Int) := by omega
    go_enter Tryz.func3, Tryz.ntmps3
    go_wp2
    go_ret
    exact ⟨rfl, Below.refl _ _⟩
  · have q1 : ¬ ((1048576 : Int) < (len : Int)) := by omega
    have q2 : (1048576 : Int) < (len2 : Int) := by omega
    go_enter Tryz.func3, Tryz.ntmps3
    go_wp2
    go_ret
    exact ⟨rfl, Below.refl _ _⟩

/-- The law FnElemBack, as the frame calls it. -/
theorem walk_back (a : Option Addr) (len cap : Nat) (zs : List Int) (b : Option Addr) (len2 cap2 : Nat) (ys : List Int) (W : World) (h1 : IsRow .u8 W a len cap zs) (h2 : IsRow .u8 W b len2 cap2 ys) (k : KT W) (p : PT W) (t : WT W) (m : ML W) (h : EH W) :
    Calls Tryz.prog 3 #[.slice a len cap, .slice b len2 cap2] W fun e w' => e = .returned (.bool true) ∧ Below W.heap.size W w' := by
  by_cases hl : len ≤ 1048576
  · by_cases hl2 : len2 ≤ 1048576
    · obtain ⟨blk, off, z, c1⟩ := h1.code hl
      obtain ⟨blk2, off2, z2, c2⟩ := h2.code hl2
      exact law_back W ⟨⟨k, p, t⟩, m, h⟩ c1 c2
    · exact back_long W (.inr ⟨hl, by omega⟩)
  · exact back_long W (.inl (by omega))
end Go.Proofs.YtjbdcbamkdnjhaaGreatDoor
