/- The specification's reader: instructions. -/
import Derived.Test.YtcihplachlokiaaGreatDoorQrnM
namespace Go.Proofs.YtcihplachlokiaaGreatDoor
open Go.RowKit Go.Shelf
set_option linter.unusedVariables false
set_option linter.unusedSimpArgs false

theorem knB_bd {c : Int} (h : knB c = true) : 1 ≤ c ∧ c ≤ 11 := by
  unfold knB at h
  rw [Bool.and_eq_true] at h
  exact ⟨of_decide_eq_true h.1, of_decide_eq_true h.2⟩
set_option maxRecDepth 10000 in
set_option maxHeartbeats 8000000 in
theorem ins_s_ok (R : Nat) (r r' : List Nat) (x : InstT) (w : World) (hr : ∀ b ∈ r, b < 256) (ha : instM r = .inr (x, r')) (h : Sd R r w) :
    Calls Tryz.prog 32 #[.pointer (some ⟨R, 0, none⟩)] w fun e w' => SdI R x r' w e w' := by
  obtain ⟨i0, hi, hz0, hz1, hz2⟩ := info_parts infoDA2
  unfold instM at ha
  cases h1 : numM 1 r with
  | none => rw [h1] at ha; cases ha
  | some q1 =>
    obtain ⟨c, r1⟩ := q1
    rw [h1] at ha
    simp only [] at ha
    by_cases hk : knB c = false
    · rw [if_pos hk] at ha; cases ha
    rw [if_neg hk] at ha
    have hk' : knB c = true := by simpa using hk
    have hkb := knB_bd hk'
    have hr1 : ∀ b ∈ r1, b < 256 := fun b hb => hr b (numM_sub h1 b hb)
    have hkv : ((atL r 0 : Nat) : Int) = c := by
      have := (numM_some hr h1).2.2.2.2
      rw [vl_1] at this
      exact this.symm
    obtain ⟨A, hA⟩ : ∃ A, atL r 0 = A := ⟨_, rfl⟩
    have hA256 : A < 256 := by rw [← hA]; exact atL_lt hr 0
    have b0 : Below w.heap.size w (w.alloc (.cells #[.int .i64 0, .int .i64 0, .slice none 0 0] 44)) := (Below.refl _ _).alloc (Nat.le_refl _) _
    have HR0 : Hid (R < w.heap.size ∧ (w.alloc (.cells #[.int .i64 0, .int .i64 0, .slice none 0 0] 44)).heap[w.heap.size]? = some (.cells #[.int .i64 0, .int .i64 0, .slice none 0 0] 44 (0, 0)) ∧ w.grownBy (w.alloc (.cells #[.int .i64 0, .int .i64 0, .slice none 0 0] 44)) (some R) ∧ (w.alloc (.cells #[.int .i64 0, .int .i64 0, .slice none 0 0] 44)).heap.size = w.heap.size + 1) := ⟨h.lt, heap_alloc_last _ _, gb_al _ _ _, by simp⟩
    have HT1 : Hid (Calls Tryz.prog 52 #[.pointer (some ⟨R, 0, none⟩), .int .i64 1] (w.alloc (.cells #[.int .i64 0, .int .i64 0, .slice none 0 0] 44)) fun e w' => ∃ g o cc, e = .returned (.tuple #[.slice (some ⟨g, o, none⟩) 1 cc, .bool true]) ∧ Sd R r1 w' ∧ (w.alloc (.cells #[.int .i64 0, .int .i64 0, .slice none 0 0] 44)).grownBy w' (some R) ∧ w'.cell? ⟨g, o, none⟩ = some (.int .u8 (A : Nat)) ∧ g < w'.heap.size) := (snum_ok R 1 r r1 c _ hr h1 (h.later b0)).mono fun e w' ⟨g, o, cc, e1, e2, e3, e4, e5, _⟩ => ⟨g, o, cc, e1, e2, e3, by rw [← hA]; exact e5, by have := e2.lt; omega⟩
    have HB : Hid (∀ W, Calls Tryz.prog 35 #[.int .i64 c] W fun e w' => e = .returned (.bool (hasB c)) ∧ W = w') := fun W => has_s c W
    rw [hA] at hkv
    have k1 : ¬ c < 1 := by omega
    have k2 : ¬ 11 < c := by omega
    clear h hk hk' h1 hr hA b0 hkb
    go_enter Tryz.func32, Tryz.ntmps32
    go_wp2_with fail
    refine HT1.out.mono ?_
    rintro e w1 ⟨g1, o1, c1, rfl, d1, gg1, x1, hg1⟩
    have hs1 := gg1.size
    have I1 : Hid (SI w R w1.heap.size c 0 (.slice none 0 0) [] r1 (w1.alloc (.cells #[.int .i64 c, .int .i64 0, .slice none 0 0] 44))) := by
      obtain ⟨a2, a3, a4, a5⟩ := HR0.out
      have gA : Below w1.heap.size w1 (w1.alloc (.cells #[.int .i64 c, .int .i64 0, .slice none 0 0] 44)) := (Below.refl _ _).alloc (Nat.le_refl _) _
      exact ⟨d1.later gA, a2, by omega, (gA.block _ (by omega)).trans (gb_row gg1 a3 (by omega)), heap_alloc_last _ _, World.ownsRow_nil _ _ _ _, gb_step18 (gb_step18 a4 gg1) (gb_al _ _ _), by simp⟩
    clear d1 gg1 HT1 hs1 HR0
    obtain ⟨B3, hB3⟩ : ∃ B, w1.heap.size = B := ⟨_, rfl⟩
    rw [hB3] at I1 hg1
    go_upto_region 5 with fail
    generalize (w1.alloc (.cells #[.int .i64 c, .int .i64 0, .slice none 0 0] 44)) = W1 at I1 ⊢
    clear hB3 x1
    obtain ⟨x0, x1, x2, y0, y1, y2⟩ := box3 I1.out.2.2.2.2.1
    obtain ⟨z0, z1, z2, u0, u1, u2⟩ := box3 I1.out.2.2.2.1
    have hb1 : B3 ≠ w.heap.size := by have := I1.out.2.2.1; omega
    have hb2 : w.heap.size ≠ B3 := by have := I1.out.2.2.1; omega
    go_wp2_with fail
    refine (HB.out W1).mono ?_
    rintro e w2 ⟨rfl, rfl⟩
    by_cases hh : hasB c = false
    · rw [if_pos hh] at ha
      cases ha
      rw [hh]
      have HFin := sinst_fin I1.out
      have HRow := si_load HFin.1
      have HFn : Hid (SdI R ⟨c, ⟨0, []⟩⟩ r' w (.returned (.tuple #[.agg #[.int .i64 c, .int .i64 0, .slice none 0 0], .int .i64 0])) (((W1.setCell ⟨w.heap.size, 0, none⟩ (.int .i64 c)).setCell ⟨w.heap.size, 1, none⟩ (.int .i64 0)).setCell ⟨w.heap.size, 2, none⟩ (.slice none 0 0))) := ⟨_, rfl, HFin.2.2.2, HFin.2.1, HFin.2.2.1⟩
      clear HFin I1 hh HB
      go_wp2
      refine ret_ct rfl rfl rfl HRow rfl ?_
      exact HFn.out
    · rw [if_neg hh] at ha
      have hh' : hasB c = true := by simpa using hh
      rw [hh']
      cases h2 : numM 1 r1 with
      | none => rw [h2] at ha; cases ha
      | some q2 =>
        obtain ⟨o, r2⟩ := q2
        rw [h2] at ha
        simp only [] at ha
        by_cases hop : opB c o = false
        · rw [if_pos hop] at ha; cases ha
        rw [if_neg hop] at ha
        have hop' : opB c o = true := by simpa using hop
        cases h3 : argsM (arN o).toNat r2 with
        | inl e => rw [h3] at ha; cases ha
        | inr q3 =>
          obtain ⟨XS, r3⟩ := q3
          rw [h3] at ha
          cases ha
          have hr2 : ∀ b ∈ r2, b < 256 := fun b hb => hr1 b (numM_sub h2 b hb)
          have hov : ((atL r1 0 : Nat) : Int) = o := by
            have := (numM_some hr1 h2).2.2.2.2
            rw [vl_1] at this
            exact this.symm
          obtain ⟨A2, hA2⟩ : ∃ A, atL r1 0 = A := ⟨_, rfl⟩
          have hA2b : A2 < 256 := by rw [← hA2]; exact atL_lt hr1 0
          rw [hA2] at hov
          have HT2 : Hid (Calls Tryz.prog 52 #[.pointer (some ⟨R, 0, none⟩), .int .i64 1] W1 fun e w' => ∃ g o' cc, e = .returned (.tuple #[.slice (some ⟨g, o', none⟩) 1 cc, .bool true]) ∧ SI w R B3 c 0 (.slice none 0 0) [] r2 w' ∧ w'.cell? ⟨g, o', none⟩ = some (.int .u8 (A2 : Nat)) ∧ g < B3) := (snum_ok R 1 r1 r2 o _ hr1 h2 I1.out.1).mono fun e w' ⟨g, o', cc, e1, e2, e3, e4, e5, _⟩ => ⟨g, o', cc, e1, I1.out.read e2 e3, by rw [← hA2]; exact e5, by have := I1.out.2.1; have := I1.out.2.2.1; omega⟩
          have HO : Hid (∀ W, Calls Tryz.prog 42 #[.int .i64 c, .int .i64 o] W fun e w' => e = .returned (.bool true) ∧ W = w') := fun W => by rw [← hop']; exact op_s c o W
          obtain ⟨N, hN⟩ : ∃ N : Nat, arN o = (N : Int) := ⟨(ndP o).length, rfl⟩
          have hN3 : N ≤ 3 := by have := arN_le o; omega
          have HA : Hid (∀ W, Calls Tryz.prog 43 #[.int .i64 o] W fun e w' => e = .returned (.int .i64 (N : Nat)) ∧ w' = W) := fun W => by rw [← hN]; exact spec_arity o W
          have H3 : Hid (argsM N r2 = .inr (XS, r') ∧ (∀ b ∈ r2, b < 256)) := ⟨by rw [hN] at h3; exact h3, hr2⟩
          clear hh hh' h2 hop hop' h3 hr1 hr2 hN HB hA2 I1
          go_wp2_with fail
          refine HT2.out.mono ?_
          rintro e w2 ⟨g2, o2, c2, rfl, I2', t2, hg2⟩
          have I2 : Hid (SI w R B3 c o (.slice none 0 0) [] r2 (w2.setCell ⟨B3, 1, none⟩ (.int .i64 o))) := by
            obtain ⟨a1, a2, a3, a4, a5, a6, a7, a8⟩ := I2'
            exact ⟨a1.set B3 1 _ (by omega), a2, a3, row_other a4 _ _ (by omega) _, row_put a5 1 _, World.ownsRow_nil _ _ _ _, gb_new a7 B3 (by omega) _ _, by simpa using a8⟩
          clear x0 x1 x2 y0 y1 y2 z0 z1 z2 u0 u1 u2
          obtain ⟨x0, x1, x2, y0, y1, y2⟩ := box3 I2'.2.2.2.2.1
          clear HT2 I2'
          go_upto_region 13 with fail
          generalize (w2.setCell ⟨B3, 1, none⟩ (.int .i64 o)) = W2 at I2 ⊢
          clear x0 x1 x2 y0 y1 y2 t2
          obtain ⟨x0, x1, x2, y0, y1, y2⟩ := box3 I2.out.2.2.2.2.1
          go_wp2_with fail
          refine (HO.out W2).mono ?_
          rintro e w3 ⟨rfl, rfl⟩
          clear HO
          go_wp2
          go_loopw [9, 10, 11] (fun i _ _ wr => ∃ k : Nat, k ≤ N ∧ i = .int .i64 k ∧ Hid (∃ v xs rk ys, SI w R B3 c o v xs rk wr ∧ xs.length = k ∧ (∀ b ∈ rk, b < 256) ∧ argsM (N - k) rk = .inr (ys, r') ∧ XS = xs ++ ys)) (fun i _ _ _ => N - (intOf i).toNat)
          case atStart => exact ⟨0, Nat.zero_le _, rfl, _, _, _, _, I2.out, rfl, H3.out.2, H3.out.1, rfl⟩
          case round =>
            clear I2 x0 x1 x2 y0 y1 y2
            obtain ⟨k, hk, rfl, HR⟩ := hrel
            obtain ⟨v, xs, rk, ys, hI, hxl, hrk, hargs, hXS⟩ := HR.out
            obtain ⟨vp, vn, vc, rfl⟩ : ∃ p n cp, v = .slice p n cp := by
              rcases hI.2.2.2.2.2.1.2 with ⟨h, _⟩ | ⟨g, cap, cur, h, _⟩
              · exact ⟨_, _, _, h⟩
              · exact ⟨_, _, _, h⟩
            obtain ⟨x0, x1, x2, y0, y1, y2⟩ := box3 hI.2.2.2.2.1
            have HI : Hid (SI w R B3 c o (.slice vp vn vc) xs rk wr) := hI
            go_wp2_with fail
            refine (HA.out wr).mono ?_
            rintro e w3 ⟨rfl, rfl⟩
            by_cases hlt : k < N
            · have ik : (k : Int) < (N : Int) := by omega
              obtain ⟨m, hm⟩ : ∃ m, N - k = m + 1 := ⟨N - k - 1, by omega⟩
              rw [hm] at hargs
              unfold argsM at hargs
              cases ho : argM rk with
              | inl e => rw [ho] at hargs; cases hargs
              | inr q4 =>
                obtain ⟨x, rk1⟩ := q4
                rw [ho] at hargs
                simp only [] at hargs
                cases hq : argsM m rk1 with
                | inl e => rw [hq] at hargs; cases hargs
                | inr q5 =>
                  obtain ⟨ys', r3'⟩ := q5
                  rw [hq] at hargs
                  simp only [Sum.inr.injEq, Prod.mk.injEq] at hargs
                  obtain ⟨rfl, rfl⟩ := hargs
                  obtain ⟨xk, xn, xp⟩ := x
                  have HOp : Hid (Calls Tryz.prog 53 #[.pointer (some ⟨R, 0, none⟩)] w3 fun e w' => e = .returned (.tuple #[.agg #[.int .i64 xk, .int .i64 xn, .int .i64 xp], .int .i64 0]) ∧ SI w R B3 c o (.slice vp vn vc) xs rk1 w') := (arg_s_ok R rk rk1 (xk, xn, xp) w3 hrk ho hI.1).mono fun e w' ⟨a, b, d⟩ => ⟨a, hI.read b d⟩
                  have HE : Hid (XS = (xs ++ [(xk, xn, xp)]) ++ ys' ∧ argsM (N - (k + 1)) rk1 = .inr (ys', r3') ∧ (∀ b ∈ rk1, b < 256) ∧ xs.length = k) := ⟨by rw [hXS, List.append_assoc]; rfl, by rw [show N - (k + 1) = m by omega]; exact hq, fun b hb => hrk b (argM_sub ho b hb), hxl⟩
                  clear hI hxl hrk hXS ho hq HR hm HI x0 x1 x2 y0 y1 y2
                  go_wp2_with fail
                  refine HOp.out.mono ?_
                  rintro e w10 ⟨rfl, h10⟩
                  have h11 := h10.later ((Below.refl _ _).alloc (Nat.le_refl _) (.cells #[.int .i64 xk, .int .i64 xn, .int .i64 xp] 72))
                  have r11 := heap_alloc_last w10 (.cells #[.int .i64 xk, .int .i64 xn, .int .i64 xp] 72)
                  obtain ⟨B10, hB10⟩ : ∃ B, w10.heap.size = B := ⟨_, rfl⟩
                  rw [hB10] at r11
                  go_upto_region 21 with fail
                  generalize (w10.alloc (.cells #[.int .i64 xk, .int .i64 xn, .int .i64 xp] 72)) = W11 at h11 r11 ⊢
                  have H11 : Hid (SI w R B3 c o (.slice vp vn vc) xs rk1 W11) := h11
                  have own3 := h11.2.2.2.2.2.1
                  have hxl : xs.length = k := HE.out.2.2.2
                  rw [hxl] at own3
                  obtain ⟨x0, x1, x2, y0, y1, y2⟩ := box3 h11.2.2.2.2.1
                  obtain ⟨t0, t1, t2, s0, s1, s2⟩ := box3 r11
                  have hlt11 : B3 < W11.heap.size := h11.2.2.2.2.2.2.2
                  clear h10 h11 HOp hB10 r11
                  go_wp2_with (at_builtin; refine wpList_append_lies _ rfl _ _ 40 rfl (B3 + 1) 72 i0 (.agg #[.int .i64 0, .int .i64 0, .int .i64 0]) 3 24 Tryz.underlying40 hi hz0 hz1 hz2 rfl (by decide) _ k (avs xs) rfl (own3.alloc _) ⟨W11.heap.size, 0, none⟩ 1 1 [.int .i64 xk, .int .i64 xn, .int .i64 xp] rfl rfl (cell_three18 _ _ _ _ _) ?c2 (by decide) ?c3 ?c4 ?c5 _ rfl ?_)
                  case c2 => intro u hu; simp at hu; rcases hu with rfl | rfl | rfl <;> rfl
                  case c3 => unfold maxLen; omega
                  case c4 => omega
                  case c5 => simp; omega
                  intro g' cap' w12 hown' hgrow hat hlt'
                  obtain ⟨e0, e1, e2, f0, f1, f2⟩ := box3 (SI.row5 (H11.out.later ((Below.refl _ _).alloc (Nat.le_refl _) _)) hgrow)
                  have hput := SI.put (x := (xk, xn, xp)) (g' := g') (cap' := cap') (H11.out.later ((Below.refl _ _).alloc (Nat.le_refl _) _)) (by rw [hxl]; exact hown') hgrow
                  rw [hxl] at hput
                  have HNx : Hid (∃ v xs2 rk ys, SI w R B3 c o v xs2 rk (w12.setCell ⟨B3, 2, none⟩ (.slice (some ⟨g', 0, none⟩) (k + 1) cap')) ∧ xs2.length = k + 1 ∧ (∀ b ∈ rk, b < 256) ∧ argsM (N - (k + 1)) rk = .inr (ys, r3') ∧ XS = xs2 ++ ys) :=
                    ⟨_, _, _, _, hput, by simp [hxl], HE.out.2.2.1, HE.out.2.1, HE.out.1⟩
                  clear hown' hgrow hat hlt' hput HE H11 own3 hlt11 x0 x1 x2 y0 y1 y2 t0 t1 t2 s0 s1 s2
                  go_wp2
                  go_roundw
                  case rel => exact ⟨k + 1, by omega, by go_num, HNx⟩
                  case measure => simp [intOf]; omega
            · have hkn : N - k = 0 := by omega
              rw [hkn] at hargs
              unfold argsM at hargs
              simp only [Sum.inr.injEq, Prod.mk.injEq] at hargs
              obtain ⟨rfl, rfl⟩ := hargs
              rw [List.append_nil] at hXS
              have ik : ¬ ((k : Int) < (N : Int)) := by omega
              have HFin := sinst_fin hI
              obtain ⟨z0, z1, z2, u0, u1, u2⟩ := box3 hI.2.2.2.1
              have HRow := si_load HFin.1
              have HFn : Hid (SdI R ⟨c, ⟨o, XS⟩⟩ rk w (.returned (.tuple #[.agg #[.int .i64 c, .int .i64 o, .slice vp vn vc], .int .i64 0])) (((w3.setCell ⟨w.heap.size, 0, none⟩ (.int .i64 c)).setCell ⟨w.heap.size, 1, none⟩ (.int .i64 o)).setCell ⟨w.heap.size, 2, none⟩ (.slice vp vn vc))) := by rw [hXS]; exact ⟨_, rfl, HFin.2.2.2, HFin.2.1, HFin.2.2.1⟩
              clear HFin hI HI HR hxl hrk hXS H3 hkn
              go_wp2
              refine ret_ct rfl rfl rfl HRow rfl ?_
              exact HFn.out
end Go.Proofs.YtcihplachlokiaaGreatDoor
/- The specification's reader: instructions that cannot be read. -/
namespace Go.Proofs.YtcihplachlokiaaGreatDoor
open Go.RowKit Go.Shelf
set_option linter.unusedVariables false
set_option linter.unusedSimpArgs false

theorem knB_out {c : Int} (h : knB c = false) : c < 1 ∨ 11 < c := by
  unfold knB at h
  rw [Bool.and_eq_false_iff] at h
  rcases h with h | h
  · left; have := of_decide_eq_false h; omega
  · right; have := of_decide_eq_false h; omega
set_option maxRecDepth 10000 in
set_option maxHeartbeats 8000000 in
theorem ins_s_no (R : Nat) (r : List Nat) (ec : Int) (w : World) (hr : ∀ b ∈ r, b < 256) (ha : instM r = .inl ec) (h : Sd R r w) :
    Calls Tryz.prog 32 #[.pointer (some ⟨R, 0, none⟩)] w fun e w' => SdN R ec w e w' := by
  obtain ⟨i0, hi, hz0, hz1, hz2⟩ := info_parts infoDA2
  unfold instM at ha
  have b0 : Below w.heap.size w (w.alloc (.cells #[.int .i64 0, .int .i64 0, .slice none 0 0] 44)) := (Below.refl _ _).alloc (Nat.le_refl _) _
  have HR0 : Hid (R < w.heap.size ∧ (w.alloc (.cells #[.int .i64 0, .int .i64 0, .slice none 0 0] 44)).heap[w.heap.size]? = some (.cells #[.int .i64 0, .int .i64 0, .slice none 0 0] 44 (0, 0)) ∧ w.grownBy (w.alloc (.cells #[.int .i64 0, .int .i64 0, .slice none 0 0] 44)) (some R) ∧ (w.alloc (.cells #[.int .i64 0, .int .i64 0, .slice none 0 0] 44)).heap.size = w.heap.size + 1) := ⟨h.lt, heap_alloc_last _ _, gb_al _ _ _, by simp⟩
  cases h1 : numM 1 r with
  | none =>
    rw [h1] at ha
    cases ha
    have HT1 : Hid (Calls Tryz.prog 52 #[.pointer (some ⟨R, 0, none⟩), .int .i64 1] (w.alloc (.cells #[.int .i64 0, .int .i64 0, .slice none 0 0] 44)) fun e w' => e = .returned (.tuple #[.slice none 0 0, .bool false]) ∧ w'.heap[w.heap.size]? = some (.cells #[.int .i64 0, .int .i64 0, .slice none 0 0] 44 (0, 0)) ∧ w.grownBy w' (some R)) := (snum_no R 1 r _ (.inl rfl) h1 (h.later b0)).mono fun e w' ⟨a, b⟩ => ⟨a, (b.block _ (by have := HR0.out.2.2.2; omega)).trans HR0.out.2.1, gb_step18 HR0.out.2.2.1 (gbb b)⟩
    clear h h1 hr HR0 b0
    go_enter Tryz.func32, Tryz.ntmps32
    go_wp2_with fail
    refine HT1.out.mono ?_
    rintro e w1 ⟨rfl, k1, g1⟩
    obtain ⟨z0, z1, z2, u0, u1, u2⟩ := box3 k1
    have HFin := bare_fin k1 g1
    have HRow := si_load HFin.1
    have HFn : Hid (SdN R 6 w (.returned (.tuple #[.agg #[.int .i64 0, .int .i64 0, .slice none 0 0], .int .i64 6])) (((w1.setCell ⟨w.heap.size, 0, none⟩ (.int .i64 0)).setCell ⟨w.heap.size, 1, none⟩ (.int .i64 0)).setCell ⟨w.heap.size, 2, none⟩ (.slice none 0 0))) := ⟨rfl, HFin.2⟩
    clear HFin k1 g1 HT1
    go_wp2
    refine ret_ct rfl rfl rfl HRow rfl ?_
    exact HFn.out
  | some q1 =>
    obtain ⟨c, r1⟩ := q1
    rw [h1] at ha
    simp only [] at ha
    have hr1 : ∀ b ∈ r1, b < 256 := fun b hb => hr b (numM_sub h1 b hb)
    have hkv : ((atL r 0 : Nat) : Int) = c := by
      have := (numM_some hr h1).2.2.2.2
      rw [vl_1] at this
      exact this.symm
    obtain ⟨A, hA⟩ : ∃ A, atL r 0 = A := ⟨_, rfl⟩
    have hA256 : A < 256 := by rw [← hA]; exact atL_lt hr 0
    have HT1 : Hid (Calls Tryz.prog 52 #[.pointer (some ⟨R, 0, none⟩), .int .i64 1] (w.alloc (.cells #[.int .i64 0, .int .i64 0, .slice none 0 0] 44)) fun e w' => ∃ g o cc, e = .returned (.tuple #[.slice (some ⟨g, o, none⟩) 1 cc, .bool true]) ∧ Sd R r1 w' ∧ (w.alloc (.cells #[.int .i64 0, .int .i64 0, .slice none 0 0] 44)).grownBy w' (some R) ∧ w'.cell? ⟨g, o, none⟩ = some (.int .u8 (A : Nat)) ∧ g < w'.heap.size) := (snum_ok R 1 r r1 c _ hr h1 (h.later b0)).mono fun e w' ⟨g, o, cc, e1, e2, e3, e4, e5, _⟩ => ⟨g, o, cc, e1, e2, e3, by rw [← hA]; exact e5, by have := e2.lt; omega⟩
    have HB : Hid (∀ W, Calls Tryz.prog 35 #[.int .i64 c] W fun e w' => e = .returned (.bool (hasB c)) ∧ W = w') := fun W => has_s c W
    rw [hA] at hkv
    clear h h1 hr hA b0
    go_enter Tryz.func32, Tryz.ntmps32
    go_wp2_with fail
    refine HT1.out.mono ?_
    rintro e w1 ⟨g1, o1, c1, rfl, d1, gg1, x1, hg1⟩
    have hs1 := gg1.size
    have I1 : Hid (SI w R w1.heap.size c 0 (.slice none 0 0) [] r1 (w1.alloc (.cells #[.int .i64 c, .int .i64 0, .slice none 0 0] 44))) := by
      obtain ⟨a2, a3, a4, a5⟩ := HR0.out
      have gA : Below w1.heap.size w1 (w1.alloc (.cells #[.int .i64 c, .int .i64 0, .slice none 0 0] 44)) := (Below.refl _ _).alloc (Nat.le_refl _) _
      exact ⟨d1.later gA, a2, by omega, (gA.block _ (by omega)).trans (gb_row gg1 a3 (by omega)), heap_alloc_last _ _, World.ownsRow_nil _ _ _ _, gb_step18 (gb_step18 a4 gg1) (gb_al _ _ _), by simp⟩
    clear d1 gg1 HT1 hs1 HR0
    obtain ⟨B3, hB3⟩ : ∃ B, w1.heap.size = B := ⟨_, rfl⟩
    rw [hB3] at I1 hg1
    go_upto_region 5 with fail
    generalize (w1.alloc (.cells #[.int .i64 c, .int .i64 0, .slice none 0 0] 44)) = W1 at I1 ⊢
    clear hB3 x1
    obtain ⟨x0, x1, x2, y0, y1, y2⟩ := box3 I1.out.2.2.2.2.1
    obtain ⟨z0, z1, z2, u0, u1, u2⟩ := box3 I1.out.2.2.2.1
    have hb1 : B3 ≠ w.heap.size := by have := I1.out.2.2.1; omega
    have hb2 : w.heap.size ≠ B3 := by have := I1.out.2.2.1; omega
    by_cases hk : knB c = false
    · rw [if_pos hk] at ha
      cases ha
      have hko := knB_out hk
      have HFin := bare_fin I1.out.2.2.2.1 I1.out.2.2.2.2.2.2.1
      have HRow := si_load HFin.1
      have HFn : Hid (SdN R 2 w (.returned (.tuple #[.agg #[.int .i64 0, .int .i64 0, .slice none 0 0], .int .i64 2])) (((W1.setCell ⟨w.heap.size, 0, none⟩ (.int .i64 0)).setCell ⟨w.heap.size, 1, none⟩ (.int .i64 0)).setCell ⟨w.heap.size, 2, none⟩ (.slice none 0 0))) := ⟨rfl, HFin.2⟩
      clear HFin I1 hk HB
      rcases hko with hko | hko
      · go_wp2
        refine ret_ct rfl rfl rfl HRow rfl ?_
        exact HFn.out
      · have k1 : ¬ c < 1 := by omega
        go_wp2
        refine ret_ct rfl rfl rfl HRow rfl ?_
        exact HFn.out
    rw [if_neg hk] at ha
    have hk' : knB c = true := by simpa using hk
    have hkb := knB_bd hk'
    have k1 : ¬ c < 1 := by omega
    have k2 : ¬ 11 < c := by omega
    clear hk hk' hkb
    go_wp2_with fail
    refine (HB.out W1).mono ?_
    rintro e w2 ⟨rfl, rfl⟩
    by_cases hh : hasB c = false
    · rw [if_pos hh] at ha; cases ha
    rw [if_neg hh] at ha
    have hh' : hasB c = true := by simpa using hh
    rw [hh']
    clear hh hh' HB
    cases h2 : numM 1 r1 with
    | none =>
      rw [h2] at ha
      cases ha
      have HT2 : Hid (Calls Tryz.prog 52 #[.pointer (some ⟨R, 0, none⟩), .int .i64 1] W1 fun e w' => e = .returned (.tuple #[.slice none 0 0, .bool false]) ∧ SI w R B3 c 0 (.slice none 0 0) [] r1 w') := (snum_no R 1 r1 _ (.inl rfl) h2 I1.out.1).mono fun e w' ⟨a, b⟩ => ⟨a, I1.out.later b⟩
      clear h2 hr1 I1 x0 x1 x2 y0 y1 y2 z0 z1 z2 u0 u1 u2
      go_wp2_with fail
      refine HT2.out.mono ?_
      rintro e w2 ⟨rfl, I2⟩
      obtain ⟨z0, z1, z2, u0, u1, u2⟩ := box3 I2.2.2.2.1
      have HFin := bare_fin I2.2.2.2.1 I2.2.2.2.2.2.2.1
      have HRow := si_load HFin.1
      have HFn : Hid (SdN R 6 w (.returned (.tuple #[.agg #[.int .i64 0, .int .i64 0, .slice none 0 0], .int .i64 6])) (((w2.setCell ⟨w.heap.size, 0, none⟩ (.int .i64 0)).setCell ⟨w.heap.size, 1, none⟩ (.int .i64 0)).setCell ⟨w.heap.size, 2, none⟩ (.slice none 0 0))) := ⟨rfl, HFin.2⟩
      clear HFin I2 HT2
      go_wp2
      refine ret_ct rfl rfl rfl HRow rfl ?_
      exact HFn.out
    | some q2 =>
      obtain ⟨o, r2⟩ := q2
      rw [h2] at ha
      simp only [] at ha
      have hr2 : ∀ b ∈ r2, b < 256 := fun b hb => hr1 b (numM_sub h2 b hb)
      have hov : ((atL r1 0 : Nat) : Int) = o := by
        have := (numM_some hr1 h2).2.2.2.2
        rw [vl_1] at this
        exact this.symm
      obtain ⟨A2, hA2⟩ : ∃ A, atL r1 0 = A := ⟨_, rfl⟩
      have hA2b : A2 < 256 := by rw [← hA2]; exact atL_lt hr1 0
      rw [hA2] at hov
      have HT2 : Hid (Calls Tryz.prog 52 #[.pointer (some ⟨R, 0, none⟩), .int .i64 1] W1 fun e w' => ∃ g o' cc, e = .returned (.tuple #[.slice (some ⟨g, o', none⟩) 1 cc, .bool true]) ∧ SI w R B3 c 0 (.slice none 0 0) [] r2 w' ∧ w'.cell? ⟨g, o', none⟩ = some (.int .u8 (A2 : Nat)) ∧ g < B3) := (snum_ok R 1 r1 r2 o _ hr1 h2 I1.out.1).mono fun e w' ⟨g, o', cc, e1, e2, e3, e4, e5, _⟩ => ⟨g, o', cc, e1, I1.out.read e2 e3, by rw [← hA2]; exact e5, by have := I1.out.2.1; have := I1.out.2.2.1; omega⟩
      have HO : Hid (∀ W, Calls Tryz.prog 42 #[.int .i64 c, .int .i64 o] W fun e w' => e = .returned (.bool (opB c o)) ∧ W = w') := fun W => op_s c o W
      clear h2 hr1 hA2 I1
      go_wp2_with fail
      refine HT2.out.mono ?_
      rintro e w2 ⟨g2, o2, c2, rfl, I2', t2, hg2⟩
      have I2 : Hid (SI w R B3 c o (.slice none 0 0) [] r2 (w2.setCell ⟨B3, 1, none⟩ (.int .i64 o))) := by
        obtain ⟨a1, a2, a3, a4, a5, a6, a7, a8⟩ := I2'
        exact ⟨a1.set B3 1 _ (by omega), a2, a3, row_other a4 _ _ (by omega) _, row_put a5 1 _, World.ownsRow_nil _ _ _ _, gb_new a7 B3 (by omega) _ _, by simpa using a8⟩
      clear x0 x1 x2 y0 y1 y2 z0 z1 z2 u0 u1 u2
      obtain ⟨x0, x1, x2, y0, y1, y2⟩ := box3 I2'.2.2.2.2.1
      clear HT2 I2'
      go_upto_region 13 with fail
      generalize (w2.setCell ⟨B3, 1, none⟩ (.int .i64 o)) = W2 at I2 ⊢
      clear x0 x1 x2 y0 y1 y2 t2
      obtain ⟨x0, x1, x2, y0, y1, y2⟩ := box3 I2.out.2.2.2.2.1
      obtain ⟨z0, z1, z2, u0, u1, u2⟩ := box3 I2.out.2.2.2.1
      go_wp2_with fail
      refine (HO.out W2).mono ?_
      rintro e w3 ⟨rfl, rfl⟩
      by_cases hop : opB c o = false
      · rw [if_pos hop] at ha
        cases ha
        rw [hop]
        have HFin := bare_fin I2.out.2.2.2.1 I2.out.2.2.2.2.2.2.1
        have HRow := si_load HFin.1
        have HFn : Hid (SdN R 2 w (.returned (.tuple #[.agg #[.int .i64 0, .int .i64 0, .slice none 0 0], .int .i64 2])) (((W2.setCell ⟨w.heap.size, 0, none⟩ (.int .i64 0)).setCell ⟨w.heap.size, 1, none⟩ (.int .i64 0)).setCell ⟨w.heap.size, 2, none⟩ (.slice none 0 0))) := ⟨rfl, HFin.2⟩
        clear HFin I2 hop HO
        go_wp2
        refine ret_ct rfl rfl rfl HRow rfl ?_
        exact HFn.out
      rw [if_neg hop] at ha
      have hop' : opB c o = true := by simpa using hop
      rw [hop']
      cases h3 : argsM (arN o).toNat r2 with
      | inr q3 => rw [h3] at ha; cases ha
      | inl e0 =>
        rw [h3] at ha
        cases ha
        obtain ⟨N, hN⟩ : ∃ N : Nat, arN o = (N : Int) := ⟨(ndP o).length, rfl⟩
        have hN3 : N ≤ 3 := by have := arN_le o; omega
        have HA : Hid (∀ W, Calls Tryz.prog 43 #[.int .i64 o] W fun e w' => e = .returned (.int .i64 (N : Nat)) ∧ w' = W) := fun W => by rw [← hN]; exact spec_arity o W
        have H3 : Hid (argsM N r2 = .inl ec ∧ (∀ b ∈ r2, b < 256)) := ⟨by rw [hN] at h3; exact h3, hr2⟩
        clear hop hop' h3 hr2 hN HO
        go_wp2
        go_loopw [9, 10, 11] (fun i _ _ wr => ∃ k : Nat, k ≤ N ∧ i = .int .i64 k ∧ Hid (∃ v xs rk, SI w R B3 c o v xs rk wr ∧ xs.length = k ∧ (∀ b ∈ rk, b < 256) ∧ argsM (N - k) rk = .inl ec)) (fun i _ _ _ => N - (intOf i).toNat)
        case atStart => exact ⟨0, Nat.zero_le _, rfl, _, _, _, I2.out, rfl, H3.out.2, H3.out.1⟩
        case round =>
          clear I2 x0 x1 x2 y0 y1 y2 z0 z1 z2 u0 u1 u2
          obtain ⟨k, hk, rfl, HR⟩ := hrel
          obtain ⟨v, xs, rk, hI, hxl, hrk, hargs⟩ := HR.out
          obtain ⟨vp, vn, vc, rfl⟩ : ∃ p n cp, v = .slice p n cp := by
            rcases hI.2.2.2.2.2.1.2 with ⟨h, _⟩ | ⟨g, cap, cur, h, _⟩
            · exact ⟨_, _, _, h⟩
            · exact ⟨_, _, _, h⟩
          obtain ⟨x0, x1, x2, y0, y1, y2⟩ := box3 hI.2.2.2.2.1
          go_wp2_with fail
          refine (HA.out wr).mono ?_
          rintro e w3 ⟨rfl, rfl⟩
          by_cases hlt : k < N
          · have ik : (k : Int) < (N : Int) := by omega
            obtain ⟨m, hm⟩ : ∃ m, N - k = m + 1 := ⟨N - k - 1, by omega⟩
            rw [hm] at hargs
            unfold argsM at hargs
            cases ho : argM rk with
            | inl e =>
              rw [ho] at hargs
              simp only [Sum.inl.injEq] at hargs
              subst hargs
              have he0 : 0 < e := argM_pos ho
              have HOp : Hid (Calls Tryz.prog 53 #[.pointer (some ⟨R, 0, none⟩)] w3 fun e' w' => e' = .returned (.tuple #[.agg #[.int .i64 0, .int .i64 0, .int .i64 0], .int .i64 e]) ∧ w'.heap[w.heap.size]? = some (.cells #[.int .i64 0, .int .i64 0, .slice none 0 0] 44 (0, 0)) ∧ w.grownBy w' (some R) ∧ w.heap.size < w'.heap.size) := (arg_s_no R rk e w3 hrk ho hI.1).mono fun e' w' ⟨a, b⟩ => ⟨a, gb_row b hI.2.2.2.1 (by have := hI.2.1; omega), gb_step18 hI.2.2.2.2.2.2.1 b, Nat.lt_of_lt_of_le (by have := hI.2.2.1; have := hI.2.2.2.2.2.2.2; omega) b.size⟩
              clear hI hxl hrk ho HR hm x0 x1 x2 y0 y1 y2
              go_wp2_with fail
              refine HOp.out.mono ?_
              rintro e9 w10 ⟨rfl, k10, g10, l10⟩
              have gA : Below w10.heap.size w10 (w10.alloc (.cells #[.int .i64 0, .int .i64 0, .int .i64 0] 72)) := (Below.refl _ _).alloc (Nat.le_refl _) _
              have K11 : Hid ((w10.alloc (.cells #[.int .i64 0, .int .i64 0, .int .i64 0] 72)).heap[w.heap.size]? = some (.cells #[.int .i64 0, .int .i64 0, .slice none 0 0] 44 (0, 0)) ∧ w.grownBy (w10.alloc (.cells #[.int .i64 0, .int .i64 0, .int .i64 0] 72)) (some R)) := ⟨(gA.block _ l10).trans k10, gb_step18 g10 (gbb gA)⟩
              clear k10 g10 l10 gA HOp
              go_upto_region 19 with fail
              generalize (w10.alloc (.cells #[.int .i64 0, .int .i64 0, .int .i64 0] 72)) = W11 at K11 ⊢
              obtain ⟨z0, z1, z2, u0, u1, u2⟩ := box3 K11.out.1
              have HFin := bare_fin K11.out.1 K11.out.2
              have HRow := si_load HFin.1
              have HFn : Hid (SdN R e w (.returned (.tuple #[.agg #[.int .i64 0, .int .i64 0, .slice none 0 0], .int .i64 e])) (((W11.setCell ⟨w.heap.size, 0, none⟩ (.int .i64 0)).setCell ⟨w.heap.size, 1, none⟩ (.int .i64 0)).setCell ⟨w.heap.size, 2, none⟩ (.slice none 0 0))) := ⟨rfl, HFin.2⟩
              clear HFin K11
              go_wp2
              refine ret_ct rfl rfl rfl HRow rfl ?_
              exact HFn.out
            | inr q4 =>
              obtain ⟨x, rk1⟩ := q4
              rw [ho] at hargs
              simp only [] at hargs
              cases hq : argsM m rk1 with
              | inr q5 => rw [hq] at hargs; cases hargs
              | inl e =>
                rw [hq] at hargs
                simp only [Sum.inl.injEq] at hargs
                subst hargs
                obtain ⟨xk, xn, xp⟩ := x
                have HOp : Hid (Calls Tryz.prog 53 #[.pointer (some ⟨R, 0, none⟩)] w3 fun e w' => e = .returned (.tuple #[.agg #[.int .i64 xk, .int .i64 xn, .int .i64 xp], .int .i64 0]) ∧ SI w R B3 c o (.slice vp vn vc) xs rk1 w') := (arg_s_ok R rk rk1 (xk, xn, xp) w3 hrk ho hI.1).mono fun e w' ⟨a, b, d⟩ => ⟨a, hI.read b d⟩
                have HE : Hid (argsM (N - (k + 1)) rk1 = .inl e ∧ (∀ b ∈ rk1, b < 256) ∧ xs.length = k) := ⟨by rw [show N - (k + 1) = m by omega]; exact hq, fun b hb => hrk b (argM_sub ho b hb), hxl⟩
                clear hI hxl hrk ho hq HR hm x0 x1 x2 y0 y1 y2
                go_wp2_with fail
                refine HOp.out.mono ?_
                rintro e9 w10 ⟨rfl, h10⟩
                have h11 := h10.later ((Below.refl _ _).alloc (Nat.le_refl _) (.cells #[.int .i64 xk, .int .i64 xn, .int .i64 xp] 72))
                have r11 := heap_alloc_last w10 (.cells #[.int .i64 xk, .int .i64 xn, .int .i64 xp] 72)
                obtain ⟨B10, hB10⟩ : ∃ B, w10.heap.size = B := ⟨_, rfl⟩
                rw [hB10] at r11
                go_upto_region 21 with fail
                generalize (w10.alloc (.cells #[.int .i64 xk, .int .i64 xn, .int .i64 xp] 72)) = W11 at h11 r11 ⊢
                have H11 : Hid (SI w R B3 c o (.slice vp vn vc) xs rk1 W11) := h11
                have own3 := h11.2.2.2.2.2.1
                have hxl : xs.length = k := HE.out.2.2
                rw [hxl] at own3
                obtain ⟨x0, x1, x2, y0, y1, y2⟩ := box3 h11.2.2.2.2.1
                obtain ⟨t0, t1, t2, s0, s1, s2⟩ := box3 r11
                have hlt11 : B3 < W11.heap.size := h11.2.2.2.2.2.2.2
                clear h10 h11 HOp hB10 r11
                go_wp2_with (at_builtin; refine wpList_append_lies _ rfl _ _ 40 rfl (B3 + 1) 72 i0 (.agg #[.int .i64 0, .int .i64 0, .int .i64 0]) 3 24 Tryz.underlying40 hi hz0 hz1 hz2 rfl (by decide) _ k (avs xs) rfl (own3.alloc _) ⟨W11.heap.size, 0, none⟩ 1 1 [.int .i64 xk, .int .i64 xn, .int .i64 xp] rfl rfl (cell_three18 _ _ _ _ _) ?c2 (by decide) ?c3 ?c4 ?c5 _ rfl ?_)
                case c2 => intro u hu; simp at hu; rcases hu with rfl | rfl | rfl <;> rfl
                case c3 => unfold maxLen; omega
                case c4 => omega
                case c5 => simp; omega
                intro g' cap' w12 hown' hgrow hat hlt'
                obtain ⟨e0, e1, e2, f0, f1, f2⟩ := box3 (SI.row5 (H11.out.later ((Below.refl _ _).alloc (Nat.le_refl _) _)) hgrow)
                have hput := SI.put (x := (xk, xn, xp)) (g' := g') (cap' := cap') (H11.out.later ((Below.refl _ _).alloc (Nat.le_refl _) _)) (by rw [hxl]; exact hown') hgrow
                rw [hxl] at hput
                have HNx : Hid (∃ v xs2 rk, SI w R B3 c o v xs2 rk (w12.setCell ⟨B3, 2, none⟩ (.slice (some ⟨g', 0, none⟩) (k + 1) cap')) ∧ xs2.length = k + 1 ∧ (∀ b ∈ rk, b < 256) ∧ argsM (N - (k + 1)) rk = .inl e) :=
                  ⟨_, _, _, hput, by simp [hxl], HE.out.2.1, HE.out.1⟩
                clear hown' hgrow hat hlt' hput HE H11 own3 hlt11 x0 x1 x2 y0 y1 y2 t0 t1 t2 s0 s1 s2
                go_wp2
                go_roundw
                case rel => exact ⟨k + 1, by omega, by go_num, HNx⟩
                case measure => simp [intOf]; omega
          · have hkn : N - k = 0 := by omega
            rw [hkn] at hargs
            unfold argsM at hargs
            cases hargs
end Go.Proofs.YtcihplachlokiaaGreatDoor
/- The specification's reader: two bytes as a number; the bare ways out. -/
namespace Go.Proofs.YtcihplachlokiaaGreatDoor
open Go.RowKit Go.Shelf
set_option linter.unusedVariables false
set_option linter.unusedSimpArgs false

set_option maxHeartbeats 400000 in
theorem two_s (g o c x y : Nat) (w : World) (hx : x < 256) (hy : y < 256) (h0 : w.cell? ⟨g, o, none⟩ = some (.int .u8 x)) (h1 : w.cell? ⟨g, o + 1, none⟩ = some (.int .u8 y)) :
    Calls Tryz.prog 31 #[.slice (some ⟨g, o, none⟩) 2 c] w fun e w' => e = .returned (.int .i64 ((x * 256 + y : Nat) : Int)) ∧ Below w.heap.size w w' := by
  have e : ((x * 256 + y : Nat) : Int) = (x : Int) * 256 + (y : Int) := by omega
  rw [e]
  clear e
  go_enter Tryz.func31, Tryz.ntmps31
  go_wp2
  go_quiet (fail)
  go_wp2
  go_ret
  exact ⟨rfl, below_drewN _ _⟩
/-- The fault's box alone. -/
def Pb (w W : World) : Prop := W.heap[w.heap.size]? = some (.cells #[.int .i64 0, .int .i64 0] 26 (0, 0)) ∧ Below w.heap.size w W
theorem Pb.start (w : World) : Pb w (w.alloc (.cells #[.int .i64 0, .int .i64 0] 26)) := ⟨heap_alloc_last _ _, (Below.refl _ _).alloc (Nat.le_refl _) _⟩
theorem Pb.lt {w W : World} (h : Pb w W) : w.heap.size < W.heap.size := (Array.getElem?_eq_some_iff.1 h.1).1
theorem Pb.later {w W W' : World} (h : Pb w W) (g : Below W.heap.size W W') : Pb w W' := by
  have := h.lt
  exact ⟨(g.block _ (by omega)).trans h.1, h.2.trans (g.mono h.2.size)⟩
theorem Pb.gr {w W W' : World} {R : Nat} (h : Pb w W) (g : W.grownBy W' (some R)) (hR : w.heap.size < R) : Pb w W' := by
  have := h.lt
  exact ⟨(g.block _ (by omega) (by simp; omega)).trans h.1, h.2.grown g (by omega) (fun j hj => by cases hj; omega)⟩
/-- The last move: the fault into its box. -/
theorem Pb.fin {w W : World} (h : Pb w W) (c a : Int) : (loadVar 26 ⟨w.heap.size, 0, none⟩).run Tryz.prog ((W.setCell ⟨w.heap.size, 0, none⟩ (.int .i64 c)).setCell ⟨w.heap.size, 1, none⟩ (.int .i64 a)) = .ok (.agg #[.int .i64 c, .int .i64 a]) ((W.setCell ⟨w.heap.size, 0, none⟩ (.int .i64 c)).setCell ⟨w.heap.size, 1, none⟩ (.int .i64 a)) ∧
    Below w.heap.size w ((W.setCell ⟨w.heap.size, 0, none⟩ (.int .i64 c)).setCell ⟨w.heap.size, 1, none⟩ (.int .i64 a)) :=
  ⟨load_all (row_put (row_put h.1 0 (.int .i64 c)) 1 (.int .i64 a)) _ _ Tryz.underlying26 rfl infoPF, bel_set (bel_set h.2 (Nat.le_refl _) _ _) (Nat.le_refl _) _ _⟩

set_option maxRecDepth 10000 in
set_option maxHeartbeats 4000000 in
theorem sread_bad (a : Option Addr) (n c : Nat) (f : Nat → Nat) (hf : ∀ j, f j < 256) (w : World) (hn : n ≤ 1048576) (hc : n ≤ c) (h : Bt w a n f) (hE : ¬ (8 ≤ n ∧ n ≤ 20008 ∧ f 0 = 83 ∧ f 1 = 116 ∧ f 2 * 256 + f 3 = n)) :
    Calls Tryz.prog 10 #[.slice a n c] w fun e w' => ReadR (readM f n) w e w' := by
  have P0 : Hid (Pb w (w.alloc (.cells #[.int .i64 0, .int .i64 0] 26))) := Pb.start w
  have HM : Hid (∀ c, envW f n = c → c ≠ 0 → readM f n = .inl (c, 0)) := fun c hc h0 => by unfold readM; rw [if_pos (by omega), hc]
  by_cases h1 : n < 8
  · have i1 : (n : Int) < 8 := by omega
    have HQ : Hid (readM f n = .inl (4, 0)) := HM.out 4 (by unfold envW; rw [if_pos (.inl h1)]) (by omega)
    clear h hf h1 hE HM
    go_enter Tryz.func10, Tryz.ntmps10
    go_upto_region 1 with fail
    generalize (w.alloc (.cells #[.int .i64 0, .int .i64 0] 26)) = W0 at P0 ⊢
    obtain ⟨p0, p1, q0, q1⟩ := box2 P0.out.1
    have HR := P0.out.fin 4 0
    clear P0
    go_wp2
    refine ret_tc rfl rfl rfl HR.1 rfl ?_
    exact ReadR.no HQ.out HR.2
  have i1 : ¬ (n : Int) < 8 := by omega
  by_cases h2 : 20008 < n
  · have i2 : (20008 : Int) < (n : Int) := by omega
    have HQ : Hid (readM f n = .inl (4, 0)) := HM.out 4 (by unfold envW; rw [if_pos (.inr h2)]) (by omega)
    clear h hf h1 h2 hE HM
    go_enter Tryz.func10, Tryz.ntmps10
    go_upto_region 1 with fail
    generalize (w.alloc (.cells #[.int .i64 0, .int .i64 0] 26)) = W0 at P0 ⊢
    obtain ⟨p0, p1, q0, q1⟩ := box2 P0.out.1
    have HR := P0.out.fin 4 0
    clear P0
    go_wp2
    refine ret_tc rfl rfl rfl HR.1 rfl ?_
    exact ReadR.no HQ.out HR.2
  have i2 : ¬ (20008 : Int) < (n : Int) := by omega
  have i3 : (0 : Int) < (n : Int) := by omega
  have i4 : (1 : Int) < (n : Int) := by omega
  obtain ⟨g, o, rfl, hg, hcs⟩ : ∃ g o, a = some ⟨g, o, none⟩ ∧ g < w.heap.size ∧ ∀ j, j < n → w.cell? ⟨g, o + j, none⟩ = some (.int .u8 (f j)) := by
    rcases h with h | h
    · omega
    · exact h
  have HC : Hid (∀ W, Below w.heap.size w W → ∀ j, j < n → W.cell? ⟨g, o + j, none⟩ = some (.int .u8 (f j))) := fun W b j hj => (b.cell (p := ⟨g, o + j, none⟩) hg).trans (hcs j hj)
  have H12 : Hid (¬ (n < 8 ∨ 20008 < n)) := by show ¬ _; omega
  by_cases h3 : f 0 = 83
  rotate_left
  · have e3 : (((f 0 : Nat) : Int) != 83) = true := by simp; omega
    have d3 : ¬ ((f 0 : Nat) : Int) = 83 := by omega
    have HQ : Hid (readM f n = .inl (4, 0)) := HM.out 4 (by unfold envW; rw [if_neg H12.out, if_pos (.inl h3)]) (by omega)
    clear h hf h1 h2 hcs h3 hE HM
    go_enter Tryz.func10, Tryz.ntmps10
    go_upto_region 1 with fail
    generalize (w.alloc (.cells #[.int .i64 0, .int .i64 0] 26)) = W0 at P0 ⊢
    obtain ⟨p0, p1, q0, q1⟩ := box2 P0.out.1
    have c0 := HC.out W0 P0.out.2 0 (by omega)
    rw [Nat.add_zero] at c0
    have HR := P0.out.fin 4 0
    clear P0
    go_wp2
    refine ret_tc rfl rfl rfl HR.1 rfl ?_
    exact ReadR.no HQ.out HR.2
  by_cases h4 : f 1 = 116
  rotate_left
  · have e4 : (((f 1 : Nat) : Int) != 116) = true := by simp; omega
    have d4 : ¬ ((f 1 : Nat) : Int) = 116 := by omega
    have HQ : Hid (readM f n = .inl (4, 0)) := HM.out 4 (by unfold envW; rw [if_neg H12.out, if_pos (.inr (.inl h4))]) (by omega)
    clear h hf h1 h2 hcs h4 hE HM
    go_enter Tryz.func10, Tryz.ntmps10
    go_upto_region 1 with fail
    generalize (w.alloc (.cells #[.int .i64 0, .int .i64 0] 26)) = W0 at P0 ⊢
    obtain ⟨p0, p1, q0, q1⟩ := box2 P0.out.1
    have c0 := HC.out W0 P0.out.2 0 (by omega)
    rw [Nat.add_zero, h3] at c0
    have c1 := HC.out W0 P0.out.2 1 (by omega)
    have HR := P0.out.fin 4 0
    clear P0 h3
    go_wp2
    refine ret_tc rfl rfl rfl HR.1 rfl ?_
    exact ReadR.no HQ.out HR.2
  have HTw : Hid (∀ W, Pb w W → Calls Tryz.prog 31 #[.slice (some ⟨g, o + 2, none⟩) 2 (c - 2)] W fun e w' => e = .returned (.int .i64 ((f 2 * 256 + f 3 : Nat) : Int)) ∧ Pb w w') := fun W hW => (two_s g (o + 2) (c - 2) (f 2) (f 3) W (hf 2) (hf 3) (HC.out W hW.2 2 (by omega)) (HC.out W hW.2 3 (by omega))).mono fun e w' ⟨a, b⟩ => ⟨a, hW.later b⟩
  obtain ⟨V, HV⟩ : ∃ V : Int, Hid (V = ((f 2 * 256 + f 3 : Nat) : Int)) := ⟨_, rfl⟩
  rw [← HV.out] at HTw
  have i5 : (4 : Int) ≤ (n : Int) := by omega
  have i6 : (4 : Int) ≤ (c : Int) := by omega
  by_cases h5 : f 2 * 256 + f 3 = n
  rotate_left
  · have e5 : (V != (n : Int)) = true := by rw [HV.out]; simp; omega
    have d5 : ¬ V = (n : Int) := by rw [HV.out]; omega
    have HQ : Hid (readM f n = .inl (4, 0)) := HM.out 4 (by unfold envW; rw [if_neg H12.out, if_pos (.inr (.inr h5))]) (by omega)
    clear h hf h1 h2 hcs h5 hE HM
    go_enter Tryz.func10, Tryz.ntmps10
    go_upto_region 1 with fail
    have P0' := P0.out
    clear P0
    generalize (w.alloc (.cells #[.int .i64 0, .int .i64 0] 26)) = W0 at P0' ⊢
    have P1 : Hid (Pb w W0) := P0'
    have c0 := HC.out W0 P1.out.2 0 (by omega)
    rw [Nat.add_zero, h3] at c0
    have c1 := HC.out W0 P1.out.2 1 (by omega)
    rw [h4] at c1
    clear h3 h4 P0'
    go_wp2_with fail
    refine (HTw.out W0 P1.out).mono ?_
    rintro e w1 ⟨rfl, hP⟩
    obtain ⟨p0, p1, q0, q1⟩ := box2 hP.1
    have HR := hP.fin 4 0
    clear P1 hP
    go_wp2
    refine ret_tc rfl rfl rfl HR.1 rfl ?_
    exact ReadR.no HQ.out HR.2
  exact absurd ⟨by omega, by omega, h3, h4, h5⟩ hE
end Go.Proofs.YtcihplachlokiaaGreatDoor
/- The specification's reader: where the reading of a list stands. -/
namespace Go.Proofs.YtcihplachlokiaaGreatDoor
open Go.RowKit Go.Shelf
set_option linter.unusedVariables false
set_option linter.unusedSimpArgs false

/-- Where the reading of a list stands. -/
def SL (w : World) (R : Nat) (v : Value) (xs : List InstT) (cs : List Value) (F : List Nat) (r : List Nat) (W : World) : Prop :=
  Sd R r W ∧ R < w.heap.size ∧ Each (InstOwn W w.heap.size) 3 F xs cs ∧ W.ownsRow w.heap.size 44 3 v xs.length cs ∧ (v.ownBlock.toList ++ F).Nodup ∧ w.grownBy W (some R)
theorem SL.own {w W : World} {R : Nat} {v : Value} {xs : List InstT} {cs : List Value} {F r : List Nat} (h : SL w R v xs cs F r W) : InstsOwn W w.heap.size (v.ownBlock.toList ++ F) v xs := ⟨cs, F, h.2.2.1, h.2.2.2.1, rfl⟩
theorem SL.bounds {w W : World} {R : Nat} {v : Value} {xs : List InstT} {cs : List Value} {F r : List Nat} (h : SL w R v xs cs F r W) : ∀ b ∈ v.ownBlock.toList ++ F, w.heap.size ≤ b ∧ b < W.heap.size := InstsOwn.lt h.own
theorem SL.read {w W W' : World} {R : Nat} {v : Value} {xs : List InstT} {cs : List Value} {F r r' : List Nat} (h : SL w R v xs cs F r W) (d : Sd R r' W') (g : W.grownBy W' (some R)) : SL w R v xs cs F r' W' := by
  have hb := h.bounds
  obtain ⟨h1, h2, h3, h4, h5, h6⟩ := h
  have hne : ∀ b, w.heap.size ≤ b → some b ≠ some R := fun b hb e => by cases e; omega
  refine ⟨d, h2, h3.move fun f x c hf h => h.move (row := some R) g (fun b hb => hne b (h.lt b hb).1), World.ownsRow.kept (row := some R) h4 g (.inr fun e => ?_), h5, gb_step18 h6 g⟩
  have := (World.ownsRow.lt h4 R e).1
  omega
theorem SL.later {w W W' : World} {R : Nat} {v : Value} {xs : List InstT} {cs : List Value} {F r : List Nat} (h : SL w R v xs cs F r W) (g : Below W.heap.size W W') : SL w R v xs cs F r W' :=
  h.read (h.1.later g) ⟨g.os, g.tape, g.output, g.size, fun k hk _ => g.block k hk⟩
theorem SL.put {w W4 W6 : World} {R g1 cap1 : Nat} {v va : Value} {xs : List InstT} {cs : List Value} {F f r : List Nat} {x : InstT} (h : SL w R v xs cs F r W4)
    (hA : ArgsOwn W4 w.heap.size f va x.one.args) (hfn : f.Nodup) (hdis : ∀ b ∈ f, b ∉ v.ownBlock.toList ++ F)
    (own6 : W6.ownsRow w.heap.size 44 3 (.slice (some ⟨g1, 0, none⟩) (xs.length + 1) cap1) (xs.length + 1) (cs ++ [.int .i64 x.code, .int .i64 x.one.op, va])) (g6 : W4.grownBy W6 v.ownBlock) (hat : v.ownBlock = some g1 ∨ g1 = W4.heap.size) :
    SL w R (.slice (some ⟨g1, 0, none⟩) (xs.length + 1) cap1) (xs ++ [x]) (cs ++ [.int .i64 x.code, .int .i64 x.one.op, va]) (F ++ f) r W6 := by
  have hb := h.bounds
  obtain ⟨h1, h2, h3, h4, h5, h6⟩ := h
  have key := row_step (base := w.heap.size) (R := fun W => InstOwn W w.heap.size) (fun W W' row f x c hg hr h => h.move hg hr) (w := { W4 with heap := #[] }) (w4 := W4) (w5 := W6) (v := v) (F := v.ownBlock.toList ++ F) (f := f) (x := x) (by simp)
    h3 rfl hb h5 ⟨va, rfl, hA⟩ rfl (fun b hb => ArgsOwn.lt hA b hb) hfn hdis own6 g6 hat ⟨rfl, rfl, rfl, by simp, fun k hk => by simp at hk⟩
  have hv : ∀ j, v.ownBlock = some j → w.heap.size ≤ j := fun j hj => (hb j (by rw [hj]; simp)).1
  have hF' : ∀ b ∈ F, some b ≠ v.ownBlock := fun b hb e => (List.nodup_append.1 h5).2.2 b (by rw [← e]; simp) b hb rfl
  have hf' : ∀ b ∈ f, some b ≠ v.ownBlock := fun b hb e => hdis b hb (by rw [← e]; simp)
  have e1 : (xs ++ [x]).length = xs.length + 1 := by simp
  have hX : InstOwn W4 w.heap.size f x [.int .i64 x.code, .int .i64 x.one.op, va] := ⟨va, rfl, hA⟩
  refine ⟨h1.gr g6 (fun b hb => by have := hv b hb; omega), h2, ?_, by rw [e1]; exact own6, key.2.1, ⟨g6.os.trans h6.os, g6.tape.trans h6.tape, g6.output.trans h6.output, Nat.le_trans h6.size g6.size, fun i hi hne => (g6.block i (Nat.lt_of_lt_of_le hi h6.size) (fun e => by have := hv i e.symm; omega)).trans (h6.block i hi hne)⟩⟩
  exact .add (h3.move fun f1 x1 c1 h1 h2 => h2.move g6 (fun b hb => hF' b (h1 hb))) rfl (hX.move g6 hf')
end Go.Proofs.YtcihplachlokiaaGreatDoor
