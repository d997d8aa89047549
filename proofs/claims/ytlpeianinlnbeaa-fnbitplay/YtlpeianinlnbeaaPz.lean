/- The law FnBitPlay: the walk. -/
import Derived.Test.YtlpeianinlnbeaaPy
namespace Go.Proofs.Ytlpeianinlnbeaa
open Go.RowKit
set_option linter.unusedVariables false

set_option maxHeartbeats 8000000 in
set_option maxRecDepth 100000 in
theorem law4_in {a : Option Addr} {len cap blk off : Nat} {z : Nat → Int} (w : World) (h : Code0 w a len cap blk off z) :
    Calls Try.prog 4 #[.slice a len cap] w fun e w' => e = .returned (.bool true) ∧ Below w.heap.size w w' := by
  have hlen := h.short
  have H0 : Hid (Code0 w a len cap blk off z) := h
  clear h
  obtain ⟨i0, hi, hz0, hz1, hz2⟩ := info_parts Try.info4
  go_enter Try.func4, Try.ntmps4
  go_wp2
  go_loopw [5, 6] (fun v i wr => ∃ (k : Nat) (l : List Bool), k ≤ len ∧ k ≤ 3000 ∧ i = .int .i64 k ∧ l.length ≤ 8 ∧ Pl w wr v l (V l) l.length (V l) l.length) (fun _ i _ => len - (intOf i).toNat)
  case atStart =>
    refine ⟨0, [], Nat.zero_le _, Nat.zero_le _, rfl, Nat.zero_le _, ?_, ?_, ?_, by go_grown, by simp⟩
    · have h := World.ownsRow_made (base := w.heap.size + 2) (e := 4) (size := 1) ((w.alloc (.cells #[.int .u16 0, .int .i64 0] 25)).alloc (.cells #[.int .u8 0, .int .i64 0] 36)) #[] 0 (by simp) (by unfold maxLen; omega) (by simp)
      simpa [Bs] using h
    · exact ((Sk.fresh .u16 w 0 0 25).alloc _).alloc _
    · have h := (Sk.fresh .u8 (w.alloc (.cells #[.int .u16 0, .int .i64 0] 25)) 0 0 36).alloc (.cells #[] 4)
      have h' : Sk .u8 (((w.alloc (.cells #[.int .u16 0, .int .i64 0] 25)).alloc (.cells #[.int .u8 0, .int .i64 0] 36)).alloc (.cells #[] 4)) (w.heap.size + 1) 0 0 := by simpa using h
      exact h'
  case round =>
    obtain ⟨k, l, hk, hk2, rfl, hl8, hP⟩ := hrel
    obtain ⟨ao, cp, rfl, hform⟩ : ∃ ao cp, u5 = .slice ao l.length cp ∧ ((l = [] ∧ ao = none) ∨ ∃ g, ao = some ⟨g, 0, none⟩ ∧ (∀ j x, l[j]? = some x → wr.cell? ⟨g, j, none⟩ = some (.bool x)) ∧ l.length ≤ cp) := by
      rcases row_form hP.own with ⟨h1, h2⟩ | ⟨g, cp, h1, _, _, h4, h5, _⟩
      · subst h2
        exact ⟨none, 0, h1, .inl ⟨rfl, rfl⟩⟩
      · exact ⟨_, cp, h1, .inr ⟨g, rfl, h4, h5⟩⟩
    have HFORM : Hid ((l = [] ∧ ao = none) ∨ ∃ g, ao = some ⟨g, 0, none⟩ ∧ (∀ j x, l[j]? = some x → wr.cell? ⟨g, j, none⟩ = some (.bool x)) ∧ l.length ≤ cp) := hform
    clear hform
    by_cases hlt : k < len ∧ k < 3000
    · obtain ⟨hlt1, hlt2⟩ := hlt
      obtain ⟨rfl, hblk⟩ := H0.out.at_ (by omega)
      have hcz : wr.cell? ⟨blk, off + k, none⟩ = some (.int .u8 (z k)) := (hP.b.cell (by exact hblk)).trans (H0.out.byte k hlt1)
      have hzb := H0.out.fits k
      obtain ⟨Z, HZ⟩ : ∃ Z, Hid (Z = z k) := ⟨_, rfl⟩
      rw [← HZ.out] at hcz hzb
      obtain ⟨x, hx⟩ : ∃ x, (Z % 2 == 1) = x := ⟨_, rfl⟩
      have j1 : (k : Int) < (len : Int) := by omega
      have sc0 := hP.s.c0
      have sc1 := hP.s.c1
      have fc0 := hP.f.c0
      have fc1 := hP.f.c1
      by_cases hpush : Z < 140 ∧ l.length < 8
      · obtain ⟨p1, p2⟩ := hpush
        have p3 : (l.length : Int) < 8 := by omega
        obtain ⟨l', HL'⟩ : ∃ l', Hid (l' = l ++ [x]) := ⟨_, rfl⟩
        have HLEN : Hid (l.length + 1 = l'.length) := by show _ = _; rw [HL'.out]; simp
        have hl' : l'.length ≤ 8 := by rw [← HLEN.out]; omega
        have HU16 : Hid (∀ W : World, Calls Try.prog 24 #[.agg #[.int .u16 (V l), .int .i64 l.length], .bool x] W fun e w' => e = .returned (.agg #[.int .u16 (V l'), .int .i64 l'.length]) ∧ Below W.heap.size W w') := by
          rw [HL'.out]; exact fun W => play_push16 l x (by omega) W
        have HU8 : Hid (∀ W : World, Calls Try.prog 28 #[.agg #[.int .u8 (V l), .int .i64 l.length], .bool x] W fun e w' => e = .returned (.agg #[.int .u8 (V l'), .int .i64 l'.length]) ∧ Below W.heap.size W w') := by
          rw [HL'.out]; exact fun W => play_push8 l x (by omega) W
        have HT16 : Hid (∀ W : World, Calls Try.prog 29 #[.agg #[.int .u16 (V l'), .int .i64 l'.length]] W fun e w' => e = .returned (.bool x) ∧ Below W.heap.size W w') := by
          rw [HL'.out]; exact fun W => play_top16 l x (by omega) W
        have HT8 : Hid (∀ W : World, Calls Try.prog 30 #[.agg #[.int .u8 (V l'), .int .i64 l'.length]] W fun e w' => e = .returned (.bool x) ∧ Below W.heap.size W w') := by
          rw [HL'.out]; exact fun W => play_top8 l x (by omega) W
        have HK16 : Hid (∀ W : World, Calls Try.prog 26 #[.agg #[.int .u16 (V l'), .int .i64 l'.length]] W fun e w' => e = .returned (.bool true) ∧ Below W.heap.size W w') := fun W => play_ok16 l' hl' W
        have HK8 : Hid (∀ W : World, Calls Try.prog 32 #[.agg #[.int .u8 (V l'), .int .i64 l'.length]] W fun e w' => e = .returned (.bool true) ∧ Below W.heap.size W w') := fun W => play_ok8 l' hl' W
        clear HFORM
        go_wp2_with fail
        refine (HU16.out _).mono ?_
        rintro e w2 ⟨rfl, g2⟩
        have P2 := hP.later g2
        have P3 := P2.setS (V l') l'.length
        clear g2 hP sc0 sc1 fc0 fc1 hcz
        obtain ⟨sc0, sc1, sf0, sf1⟩ := P2.s
        have fc0 := P3.f.c0
        have fc1 := P3.f.c1
        clear P2
        go_wp2_with fail
        refine (HU8.out _).mono ?_
        rintro e w4 ⟨rfl, g4⟩
        have P4 := P3.later g4
        have P5 := P4.setF (V l') l'.length
        clear g4 P3 sc0 sc1 sf0 sf1 fc0 fc1
        obtain ⟨fc0, fc1, ff0, ff1⟩ := P4.f
        have own5 := P5.own
        have z5 := P5.z
        clear P4
        go_wp2_with (at_builtin; refine wpList_append_lies _ rfl _ _ 28 rfl (w.heap.size + 2) 4 i0 (.bool false) 1 1 Try.underlying28 hi hz0 hz1 hz2 rfl (by decide) _ _ _ rfl (own5.alloc _) ⟨w4.heap.size, 0, none⟩ 1 1 [.bool x] rfl rfl ?c1 ?c2 (by decide) ?c3 ?c4 ?c5 _ rfl ?_)
        case c1 =>
          have h := cell_one_new ((w4.setCell ⟨w.heap.size + 1, 0, none⟩ (.int .u8 (V l'))).setCell ⟨w.heap.size + 1, 1, none⟩ (.int .i64 l'.length)) (.bool x) 4
          simpa using h
        case c2 => intro u hu; simp at hu; subst hu; rfl
        case c3 => unfold maxLen; omega
        case c4 => omega
        case c5 => simp at z5 ⊢; omega
        intro g6 cp6 w6 own6 gr6 _ _
        have P6 : Pl w w6 (.slice (some ⟨g6, 0, none⟩) (l.length + 1) cp6) (l ++ [x]) (V l') l'.length (V l') l'.length := P5.app own6 gr6
        rw [← HL'.out] at P6
        rw [HLEN.out] at P6 ⊢
        clear own6 gr6 own5 z5 P5 fc0 fc1 ff0 ff1 HU16 HU8
        have sc0 := P6.s.c0
        have sc1 := P6.s.c1
        go_wp2_with fail
        refine (HT16.out _).mono ?_
        rintro e w7 ⟨rfl, g7⟩
        have P7 := P6.later g7
        clear g7 P6 sc0 sc1 HT16
        have fc0 := P7.f.c0
        have fc1 := P7.f.c1
        go_wp2_with fail
        refine (HT8.out _).mono ?_
        rintro e w8 ⟨rfl, g8⟩
        have PX := P7.later g8
        clear g8 P7 fc0 fc1 HT8 HLEN HL'
        have sc0 := PX.s.c0
        have sc1 := PX.s.c1
        have fc0 := PX.f.c0
        have fc1 := PX.f.c1
        go_wp2_with fail
        refine (HK16.out _).mono ?_
        rintro e wa ⟨rfl, ga⟩
        have PA := PX.later ga
        clear ga PX sc0 sc1 fc0 fc1
        have sc0 := PA.s.c0
        have sc1 := PA.s.c1
        have fc0 := PA.f.c0
        have fc1 := PA.f.c1
        go_wp2_with fail
        refine (HK8.out _).mono ?_
        rintro e wb ⟨rfl, gb⟩
        have PBB := PA.later gb
        clear gb PA sc0 sc1 fc0 fc1
        go_wp2
        go_roundw
        case rel => exact ⟨k + 1, l', by omega, by omega, by go_num, hl', PBB⟩
        case measure => simp [intOf]; omega
      · clear sc0 sc1 fc0 fc1
        have guard : ¬ Z < 140 ∨ (Z < 140 ∧ ¬ (l.length : Int) < 8) := by omega
        rcases list_split l with hl0 | ⟨l', x', hl1⟩
        · subst hl0
          have q1 : ¬ Z < 140 := by
            rcases guard with h | ⟨_, h⟩
            · exact h
            · simp at h
          have hP' : Pl w wr (.slice ao 0 cp) [] 0 0 0 0 := hP
          have HK16 : Hid (∀ W : World, Calls Try.prog 26 #[.agg #[.int .u16 0, .int .i64 0]] W fun e w' => e = .returned (.bool true) ∧ Below W.heap.size W w') := fun W => play_ok16 [] (Nat.zero_le _) W
          have HK8 : Hid (∀ W : World, Calls Try.prog 32 #[.agg #[.int .u8 0, .int .i64 0]] W fun e w' => e = .returned (.bool true) ∧ Below W.heap.size W w') := fun W => play_ok8 [] (Nat.zero_le _) W
          clear guard hP hpush HFORM
          simp only [List.length_nil]
          have sc0 := hP'.s.c0
          have sc1 := hP'.s.c1
          go_wp2_with fail
          refine (play_none16 _).mono ?_
          rintro e w2 ⟨rfl, g2⟩
          have n2 : w.heap.size + 2 ≤ w2.heap.size := (hP'.later g2).z
          have P2 := (hP'.later g2).alloc (.cells #[.int .u16 0, .int .i64 0] 25)
          have X2 : Sk .u16 (w2.alloc (.cells #[.int .u16 0, .int .i64 0] 25)) w2.heap.size 0 0 := Sk.fresh .u16 w2 0 0 25
          clear g2 hP' sc0 sc1 hcz
          have fc0 := P2.f.c0
          have fc1 := P2.f.c1
          go_wp2_with fail
          refine (play_none8 _).mono ?_
          rintro e w3 ⟨rfl, g3⟩
          have P3 := (P2.later g3).alloc (.cells #[.int .u8 0, .int .i64 0] 36)
          have X3 := (X2.later g3 X2.lt).alloc (.cells #[.int .u8 0, .int .i64 0] 36)
          have Y3 : Sk .u8 (w3.alloc (.cells #[.int .u8 0, .int .i64 0] 36)) w3.heap.size 0 0 := Sk.fresh .u8 w3 0 0 36
          have n3 : w2.heap.size < w3.heap.size := (X2.later g3 X2.lt).lt
          clear g3 P2 X2 fc0 fc1
          have P4 := P3.setS 0 0
          have Y4 := (Y3.other w.heap.size 0 (by omega) (.int .u16 0)).other w.heap.size 1 (by omega) (.int .i64 0)
          have PX := P4.setF 0 0
          obtain ⟨sc0, sc1, sf0, sf1⟩ := P3.s
          obtain ⟨xc0, xc1, _, _⟩ := X3
          obtain ⟨yc0, yc1, _, _⟩ := Y4
          obtain ⟨gc0, gc1, gf0, gf1⟩ := P4.f
          clear P3 P4 Y3
          have sc0 := PX.s.c0
          have sc1 := PX.s.c1
          have fc0 := PX.f.c0
          have fc1 := PX.f.c1
          go_wp2_with fail
          refine (HK16.out _).mono ?_
          rintro e wa ⟨rfl, ga⟩
          have PA := PX.later ga
          clear ga PX sc0 sc1 fc0 fc1
          have sc0 := PA.s.c0
          have sc1 := PA.s.c1
          have fc0 := PA.f.c0
          have fc1 := PA.f.c1
          go_wp2_with fail
          refine (HK8.out _).mono ?_
          rintro e wb ⟨rfl, gb⟩
          have PBB := PA.later gb
          clear gb PA sc0 sc1 fc0 fc1
          go_wp2
          go_roundw
          case rel => exact ⟨k + 1, [], by omega, by omega, by go_num, Nat.zero_le _, PBB⟩
          case measure => simp [intOf]; omega
        · have HLX : Hid (l = l' ++ [x']) := hl1
          have hlen1 : l.length = l'.length + 1 := by rw [hl1]; simp
          have hl' : l'.length ≤ 8 := by omega
          have HO16 : Hid (∀ W : World, Calls Try.prog 25 #[.agg #[.int .u16 (V l), .int .i64 l.length]] W fun e w' => e = .returned (.tuple #[.agg #[.int .u16 (V l'), .int .i64 l'.length], .bool x']) ∧ Below W.heap.size W w') := by
            rw [HLX.out]; exact fun W => play_pop16 l' x' (by omega) W
          have HO8 : Hid (∀ W : World, Calls Try.prog 31 #[.agg #[.int .u8 (V l), .int .i64 l.length]] W fun e w' => e = .returned (.tuple #[.agg #[.int .u8 (V l'), .int .i64 l'.length], .bool x']) ∧ Below W.heap.size W w') := by
            rw [HLX.out]; exact fun W => play_pop8 l' x' (by omega) W
          have HK16 : Hid (∀ W : World, Calls Try.prog 26 #[.agg #[.int .u16 (V l'), .int .i64 l'.length]] W fun e w' => e = .returned (.bool true) ∧ Below W.heap.size W w') := fun W => play_ok16 l' hl' W
          have HK8 : Hid (∀ W : World, Calls Try.prog 32 #[.agg #[.int .u8 (V l'), .int .i64 l'.length]] W fun e w' => e = .returned (.bool true) ∧ Below W.heap.size W w') := fun W => play_ok8 l' hl' W
          obtain ⟨g, hao⟩ : ∃ g, ao = some ⟨g, 0, none⟩ := by
            rcases HFORM.out with ⟨h1, _⟩ | ⟨g, h1, _⟩
            · rw [h1] at hl1; simp at hl1
            · exact ⟨g, h1⟩
          have hcp : l.length ≤ cp := by
            rcases HFORM.out with ⟨h1, _⟩ | ⟨g, _, _, h2⟩
            · rw [h1] at hl1; simp at hl1
            · exact h2
          have HLEN : Hid (l.length = l'.length + 1) := hlen1
          subst hao
          have k1 : (0 : Int) < (l.length : Int) := by omega
          have k2 : (l.length : Int) - 1 = (l'.length : Int) := by omega
          have k3 : (l'.length : Int) ≤ (cp : Int) := by omega
          have k4 : l'.length ≤ cp := by omega
          have k5 : (l'.length : Int) < (l.length : Int) := by omega
          have k6 : IntKind.i64.wrap (l'.length : Int) = l'.length := by rw [IntKind.wrap_i64]; omega
          clear HFORM hpush hl1 hlen1
          have sc0 := hP.s.c0
          have sc1 := hP.s.c1
          rcases guard with q1 | ⟨q1, q2⟩
          all_goals
            go_wp2_with fail
            refine (HO16.out _).mono ?_
            rintro e w2 ⟨rfl, g2⟩
            have n2 : w.heap.size + 2 ≤ w2.heap.size := (hP.later g2).z
            have P2 := (hP.later g2).alloc (.cells #[.int .u16 (V l'), .int .i64 l'.length] 25)
            have X2 : Sk .u16 (w2.alloc (.cells #[.int .u16 (V l'), .int .i64 l'.length] 25)) w2.heap.size (V l') l'.length := Sk.fresh .u16 w2 (V l') l'.length 25
            clear g2 hP sc0 sc1 hcz
            have fc0 := P2.f.c0
            have fc1 := P2.f.c1
            go_wp2_with fail
            refine (HO8.out _).mono ?_
            rintro e w3 ⟨rfl, g3⟩
            have P3 := (P2.later g3).alloc (.cells #[.int .u8 (V l'), .int .i64 l'.length] 36)
            have X3 := (X2.later g3 X2.lt).alloc (.cells #[.int .u8 (V l'), .int .i64 l'.length] 36)
            have Y3 : Sk .u8 (w3.alloc (.cells #[.int .u8 (V l'), .int .i64 l'.length] 36)) w3.heap.size (V l') l'.length := Sk.fresh .u8 w3 (V l') l'.length 36
            have n3 : w2.heap.size < w3.heap.size := (X2.later g3 X2.lt).lt
            clear g3 P2 X2 fc0 fc1
            have hlast : (w3.alloc (.cells #[.int .u8 (V l'), .int .i64 l'.length] 36)).cell? ⟨g, l'.length, none⟩ = some (.bool x') := by
              rcases row_form P3.own with ⟨h1, _⟩ | ⟨g', cp', h1, _, _, h4, _⟩
              · cases h1
              · cases h1
                exact h4 l'.length x' (by rw [HLX.out]; simp)
            have P3' : Pl w (w3.alloc (.cells #[.int .u8 (V l'), .int .i64 l'.length] 36)) (.slice (some ⟨g, 0, none⟩) l'.length cp) l' (V l) l.length (V l) l.length := by
              refine ⟨?_, P3.s, P3.f, P3.b, P3.z⟩
              have h := P3.own
              rw [HLEN.out] at h
              refine ownsRow_pop (last := [.bool x']) (by simp [Bs]) ?_
              have e : Bs l = Bs l' ++ [.bool x'] := by rw [HLX.out]; simp [Bs]
              rw [← e]
              exact h
            have P4 := P3'.setS (V l') l'.length
            have Y4 := (Y3.other w.heap.size 0 (by omega) (.int .u16 (V l'))).other w.heap.size 1 (by omega) (.int .i64 l'.length)
            have PX := P4.setF (V l') l'.length
            obtain ⟨sc0, sc1, sf0, sf1⟩ := P3.s
            obtain ⟨xc0, xc1, _, _⟩ := X3
            obtain ⟨yc0, yc1, _, _⟩ := Y4
            obtain ⟨gc0, gc1, gf0, gf1⟩ := P4.f
            clear P3 P3' P4 Y3
            have sc0 := PX.s.c0
            have sc1 := PX.s.c1
            have fc0 := PX.f.c0
            have fc1 := PX.f.c1
            go_wp2_with fail
            refine (HK16.out _).mono ?_
            rintro e wa ⟨rfl, ga⟩
            have PA := PX.later ga
            clear ga PX sc0 sc1 fc0 fc1
            have sc0 := PA.s.c0
            have sc1 := PA.s.c1
            have fc0 := PA.f.c0
            have fc1 := PA.f.c1
            go_wp2_with fail
            refine (HK8.out _).mono ?_
            rintro e wb ⟨rfl, gb⟩
            have PBB := PA.later gb
            clear gb PA sc0 sc1 fc0 fc1
            go_wp2
            go_roundw
            case rel => exact ⟨k + 1, l', by omega, by omega, by go_num, hl', PBB⟩
            case measure => simp [intOf]; omega
    · have HLS : Hid (∀ W : World, Calls Try.prog 21 #[.agg #[.int .u16 (V l), .int .i64 l.length]] W fun e w' => ∃ g, e = .returned (.slice (some ⟨g, 0, none⟩) l.length l.length) ∧ W.heap.size ≤ g ∧ Rw w' g l.length (fun j => l.getD j false) ∧ Below W.heap.size W w') := fun W => play_list l hl8 W
      have sc0 := hP.s.c0
      have sc1 := hP.s.c1
      have hway : ¬ (k : Int) < (len : Int) ∨ ((k : Int) < (len : Int) ∧ ¬ (k : Int) < 3000) := by omega
      clear hlt HFORM
      rcases hway with j1 | ⟨j1, j2⟩
      all_goals
        go_wp2_with fail
        refine (HLS.out _).mono ?_
        rintro e w2 ⟨g', rfl, hg', R2, g2⟩
        have P2 := hP.later g2
        have hRV : RowV w2 0 (.slice ao l.length cp) l.length (fun j => l.getD j false) := by
          rcases row_form P2.own with ⟨h1, h2⟩ | ⟨g3, cp3, h1, _, h3, h4, _, h5⟩
          · subst h2
            exact .inl ⟨rfl, h1⟩
          · refine .inr ⟨g3, cp3, h1, Nat.zero_le _, ⟨fun j hj => h4 j _ ?_, h5, h3⟩⟩
            rw [List.getD_eq_getElem?_getD, List.getElem?_eq_getElem hj]
            rfl
        have b2 := P2.b
        have z2 := b2.size
        clear g2 P2 hP sc0 sc1 HLS
        go_wp2_with fail
        refine (wb_any g' l.length l.length 0 _ _ _ R2 hRV (by omega)).mono ?_
        rintro e w3 ⟨rfl, g3⟩
        have b3 := b2.trans (g3.mono z2)
        clear g3 b2 hRV R2
        go_wp2
        go_ret
        exact ⟨rfl, b3⟩

set_option maxHeartbeats 400000 in
theorem walk4 (a : Option Addr) (len cap : Nat) (zs : List Int) (w : World) (h : IsRow .u8 w a len cap zs) :
    Calls Try.prog 4 #[.slice a len cap] w fun e w' => e = .returned (.bool true) ∧ Below w.heap.size w w' := by
  by_cases hl : len ≤ 1048576
  · obtain ⟨blk, off, z, hc⟩ := h.code hl
    exact law4_in w hc
  · have hcap : len ≤ maxLen := by
      rcases h with ⟨_, rfl, _⟩ | ⟨_, _, h1, h2, _⟩
      · omega
      · omega
    unfold maxLen at hcap
    have i1 : (1048576 : Int) < (len : Int) := by omega
    go_enter Try.func4, Try.ntmps4
    go_wp2
    go_ret
    exact ⟨rfl, Below.refl _ _⟩
end Go.Proofs.Ytlpeianinlnbeaa
