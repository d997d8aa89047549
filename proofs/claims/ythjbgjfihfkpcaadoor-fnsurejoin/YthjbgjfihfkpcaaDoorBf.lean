/- What is wrong with an instruction, and what is known behind it: the specification's way. -/
import Derived.Test.YthjbgjfihfkpcaaDoorBaM
namespace Go.Proofs.YthjbgjfihfkpcaaDoor
open Go.RowKit
set_option linter.unusedVariables false
set_option linter.unusedSimpArgs false

theorem needs_s (c : Int) (w : World) : Calls Tryd.prog 26 #[.int .i64 c] w fun e w' => e = .returned (.int .i64 (needs c)) ∧ w' = w := by
  by_cases h1 : c = 1
  · subst h1
    rw [show needs 1 = 0 from rfl]
    go_enter Tryd.func26, Tryd.ntmps26
    go_wp2
    go_ret
    exact ⟨rfl, rfl⟩
  by_cases h4 : c = 4
  · subst h4
    rw [show needs 4 = 2 from rfl]
    go_enter Tryd.func26, Tryd.ntmps26
    go_wp2
    go_ret
    exact ⟨rfl, rfl⟩
  by_cases h5 : c = 5
  · subst h5
    rw [show needs 5 = 2 from rfl]
    go_enter Tryd.func26, Tryd.ntmps26
    go_wp2
    go_ret
    exact ⟨rfl, rfl⟩
  rw [show needs c = 1 by unfold needs; rw [if_neg h1, if_neg (by omega)]]
  go_enter Tryd.func26, Tryd.ntmps26
  go_wp2
  go_ret
  exact ⟨rfl, rfl⟩

set_option maxRecDepth 10000 in
set_option maxHeartbeats 16000000 in
theorem wrong_s (b f : Int) (s k : Bool) (c op : Int) (ua : Option Addr) (xs : List Arg) (ul uc : Nat) (hlen : ul = xs.length) (w : World) (hx : Sl w ua xs) (hb0 : 0 ≤ b) :
    Calls Tryd.prog 11 #[.agg #[.int .i64 b, .int .i64 f, .bool s, .bool k], .agg #[.int .i64 c, .int .i64 op, .slice ua ul uc]] w fun e w' => e = .returned (.int .i64 (wrongS ⟨b, f, s, k⟩ (okI c op xs) c)) ∧ Below w.heap.size w w' := by
  have HO : Hid (Calls Tryd.prog 25 #[.agg #[.int .i64 c, .int .i64 op, .slice ua ul uc]] ((w.alloc (.cells #[.int .i64 b, .int .i64 f, .bool s, .bool k] 39)).alloc (.cells #[.int .i64 c, .int .i64 op, .slice ua ul uc] 36)) fun e w' => e = .returned (.bool (okI c op xs)) ∧ Below ((w.alloc (.cells #[.int .i64 b, .int .i64 f, .bool s, .bool k] 39)).alloc (.cells #[.int .i64 c, .int .i64 op, .slice ua ul uc] 36)).heap.size ((w.alloc (.cells #[.int .i64 b, .int .i64 f, .bool s, .bool k] 39)).alloc (.cells #[.int .i64 c, .int .i64 op, .slice ua ul uc] 36)) w') := ok_s c op ua xs ul uc hlen _ (hx.later (two_below _ _))
  have HN : Hid (∀ W, Calls Tryd.prog 26 #[.int .i64 c] W fun e w' => e = .returned (.int .i64 (needs c)) ∧ w' = W) := fun W => needs_s c W
  have hz : ((w.alloc (.cells #[.int .i64 b, .int .i64 f, .bool s, .bool k] 39)).alloc (.cells #[.int .i64 c, .int .i64 op, .slice ua ul uc] 36)).heap.size = w.heap.size + 1 + 1 := by simp
  have HR : Hid (((w.alloc (.cells #[.int .i64 b, .int .i64 f, .bool s, .bool k] 39)).alloc (.cells #[.int .i64 c, .int .i64 op, .slice ua ul uc] 36)).heap[w.heap.size]? = some (.cells #[.int .i64 b, .int .i64 f, .bool s, .bool k] 39 (0, 0))) := (rows2 w _ _).1
  have HB : Hid (Below w.heap.size w ((w.alloc (.cells #[.int .i64 b, .int .i64 f, .bool s, .bool k] 39)).alloc (.cells #[.int .i64 c, .int .i64 op, .slice ua ul uc] 36))) := two_below _ _
  have HLD : Hid ((loadVar 36 ⟨w.heap.size + 1, 0, none⟩).run Tryd.prog ((w.alloc (.cells #[.int .i64 b, .int .i64 f, .bool s, .bool k] 39)).alloc (.cells #[.int .i64 c, .int .i64 op, .slice ua ul uc] 36)) = .ok (.agg #[.int .i64 c, .int .i64 op, .slice ua ul uc]) ((w.alloc (.cells #[.int .i64 b, .int .i64 f, .bool s, .bool k] 39)).alloc (.cells #[.int .i64 c, .int .i64 op, .slice ua ul uc] 36))) := load_all (rows2 w _ _).2 _ _ Tryd.underlying36 rfl (by kernel_rfl)
  have HCd : Hid (okI c op xs = true → 1 ≤ c ∧ c ≤ 11) := fun h => okI_code h
  clear hlen hx
  by_cases h5 : c = 5
  case pos =>
    have n5 : (c == 5) = true := by simp [h5]
    have HV5 : Hid (c = 5) := h5
    clear h5
    go_enter Tryd.func11, Tryd.ntmps11
    go_wp2_with (first | (refine wpL_load rfl 36 _ rfl _ _ rfl _ HLD.out ?_) | fail)
    refine HO.out.mono ?_
    rintro e w1 ⟨rfl, g1⟩
    have hr1 := (g1.block _ (by omega)).trans HR.out
    have c0 : w1.cell? ⟨w.heap.size, 0, none⟩ = some (.int .i64 b) := (cell_of_row _ _ _ _ _ _ hr1).trans rfl
    have c1 : w1.cell? ⟨w.heap.size, 1, none⟩ = some (.int .i64 f) := (cell_of_row _ _ _ _ _ _ hr1).trans rfl
    have c2 : w1.cell? ⟨w.heap.size, 2, none⟩ = some (.bool s) := (cell_of_row _ _ _ _ _ _ hr1).trans rfl
    have c3 : w1.cell? ⟨w.heap.size, 3, none⟩ = some (.bool k) := (cell_of_row _ _ _ _ _ _ hr1).trans rfl
    have b1 : Below w.heap.size w w1 := HB.out.trans (g1.mono (by omega))
    clear hr1 g1 HO HR HB HLD hz
    cases ho : okI c op xs with
    | false =>
      have HV : Hid (wrongS ⟨b, f, s, k⟩ (okI c op xs) c = 2) := by show _ = _; rw [ho]; rfl
      clear ho HCd
      go_wp2
      go_ret
      exact ⟨by show Ending.returned _ = _; rw [HV.out]; rfl, b1⟩
    | true =>
      have hcc := HCd.out ho
      have Ho : Hid (okI c op xs = true) := ho
      clear ho HCd
      obtain ⟨q, Hq⟩ : ∃ q, Hid (q = needs c) := ⟨_, rfl⟩
      rw [← Hq.out] at HN
      go_wp2
      go_quiet (first | (go_at_call 26; refine Calls.quiet_of_same (HN.out _)))
      have b2 : Below w.heap.size w (w1.drewN nq) := b1.trans ⟨rfl, rfl, rfl, Nat.le_refl _, fun _ _ => rfl⟩
      have e0 : (w1.drewN nq).cell? ⟨w.heap.size, 0, none⟩ = some (.int .i64 b) := c0
      have e1 : (w1.drewN nq).cell? ⟨w.heap.size, 1, none⟩ = some (.int .i64 f) := c1
      have e2 : (w1.drewN nq).cell? ⟨w.heap.size, 2, none⟩ = some (.bool s) := c2
      have e3 : (w1.drewN nq).cell? ⟨w.heap.size, 3, none⟩ = some (.bool k) := c3
      generalize w1.drewN nq = w2 at b2 e0 e1 e2 e3 ⊢
      clear c0 c1 c2 c3 b1 HN
      obtain rfl := HV5.out
      obtain rfl : q = 2 := Hq.out
      by_cases hb : b < 2
      · have HV : Hid (wrongS ⟨b, f, s, k⟩ (okI 5 op xs) 5 = 3) := by show _ = _; rw [Ho.out]; simp [wrongS, needs, hb]
        go_wp2
        go_ret
        exact ⟨by show Ending.returned _ = _; rw [HV.out]; rfl, b2⟩
      · have nl : decide (b < 2) = false := by simp; omega
        cases s with
        | false =>
          have HV : Hid (wrongS ⟨b, f, false, k⟩ (okI 5 op xs) 5 = 0) := by show _ = _; rw [Ho.out]; simp [wrongS, needs, hb]
          go_wp2
          go_ret
          exact ⟨by show Ending.returned _ = _; rw [HV.out]; rfl, b2⟩
        | true =>
          by_cases hl : b = 2
          · subst hl
            clear nl hb hb0
            have HV : Hid (wrongS ⟨2, f, true, k⟩ (okI 5 op xs) 5 = 6) := by show _ = _; rw [Ho.out]; simp [wrongS, needs]
            go_wp2
            go_ret
            exact ⟨by show Ending.returned _ = _; rw [HV.out]; rfl, b2⟩
          · have m : (b == 2) = false := by simp [hl]
            have HV : Hid (wrongS ⟨b, f, true, k⟩ (okI 5 op xs) 5 = 0) := by show _ = _; rw [Ho.out]; simp [wrongS, needs, hb, hl]
            go_wp2
            go_ret
            exact ⟨by show Ending.returned _ = _; rw [HV.out]; rfl, b2⟩
  case neg =>
    have n5 : (c == 5) = false := by simp [h5]
    have HV5 : Hid (c ≠ 5) := h5
    clear h5
    go_enter Tryd.func11, Tryd.ntmps11
    go_wp2_with (first | (refine wpL_load rfl 36 _ rfl _ _ rfl _ HLD.out ?_) | fail)
    refine HO.out.mono ?_
    rintro e w1 ⟨rfl, g1⟩
    have hr1 := (g1.block _ (by omega)).trans HR.out
    have c0 : w1.cell? ⟨w.heap.size, 0, none⟩ = some (.int .i64 b) := (cell_of_row _ _ _ _ _ _ hr1).trans rfl
    have c1 : w1.cell? ⟨w.heap.size, 1, none⟩ = some (.int .i64 f) := (cell_of_row _ _ _ _ _ _ hr1).trans rfl
    have c2 : w1.cell? ⟨w.heap.size, 2, none⟩ = some (.bool s) := (cell_of_row _ _ _ _ _ _ hr1).trans rfl
    have c3 : w1.cell? ⟨w.heap.size, 3, none⟩ = some (.bool k) := (cell_of_row _ _ _ _ _ _ hr1).trans rfl
    have b1 : Below w.heap.size w w1 := HB.out.trans (g1.mono (by omega))
    clear hr1 g1 HO HR HB HLD hz
    cases ho : okI c op xs with
    | false =>
      have HV : Hid (wrongS ⟨b, f, s, k⟩ (okI c op xs) c = 2) := by show _ = _; rw [ho]; rfl
      clear ho HCd
      go_wp2
      go_ret
      exact ⟨by show Ending.returned _ = _; rw [HV.out]; rfl, b1⟩
    | true =>
      have hcc := HCd.out ho
      have Ho : Hid (okI c op xs = true) := ho
      clear ho HCd
      obtain ⟨q, Hq⟩ : ∃ q, Hid (q = needs c) := ⟨_, rfl⟩
      rw [← Hq.out] at HN
      go_wp2
      go_quiet (first | (go_at_call 26; refine Calls.quiet_of_same (HN.out _)))
      have b2 : Below w.heap.size w (w1.drewN nq) := b1.trans ⟨rfl, rfl, rfl, Nat.le_refl _, fun _ _ => rfl⟩
      have e0 : (w1.drewN nq).cell? ⟨w.heap.size, 0, none⟩ = some (.int .i64 b) := c0
      have e1 : (w1.drewN nq).cell? ⟨w.heap.size, 1, none⟩ = some (.int .i64 f) := c1
      have e2 : (w1.drewN nq).cell? ⟨w.heap.size, 2, none⟩ = some (.bool s) := c2
      have e3 : (w1.drewN nq).cell? ⟨w.heap.size, 3, none⟩ = some (.bool k) := c3
      generalize w1.drewN nq = w2 at b2 e0 e1 e2 e3 ⊢
      clear c0 c1 c2 c3 b1 HN
      have hc5 := HV5.out
      obtain rfl | rfl | rfl | rfl | rfl | rfl | rfl | rfl | rfl | rfl : c = 1 ∨ c = 2 ∨ c = 3 ∨ c = 4 ∨ c = 6 ∨ c = 7 ∨ c = 8 ∨ c = 9 ∨ c = 10 ∨ c = 11 := by omega
      · obtain rfl : q = 0 := Hq.out
        have nl : decide (b < 0) = false := by simp; omega
        by_cases hb : b = 16
        · have m : (b == 16) = true := by simp [hb]
          subst hb
          have HV : Hid (wrongS ⟨16, f, s, k⟩ (okI 1 op xs) 1 = 4) := by show _ = _; rw [Ho.out]; simp [wrongS, needs]
          go_wp2
          go_ret
          exact ⟨by show Ending.returned _ = _; rw [HV.out]; rfl, b2⟩
        · have m : (b == 16) = false := by simp [hb]
          cases s with
          | false =>
            have HV : Hid (wrongS ⟨b, f, false, k⟩ (okI 1 op xs) 1 = 0) := by show _ = _; rw [Ho.out]; simp [wrongS, needs, hb, hb0]
            go_wp2
            go_ret
            exact ⟨by show Ending.returned _ = _; rw [HV.out]; rfl, b2⟩
          | true =>
            by_cases hl : b = 1
            · subst hl
              clear nl hb hb0 m
              have HV : Hid (wrongS ⟨1, f, true, k⟩ (okI 1 op xs) 1 = 0) := by show _ = _; rw [Ho.out]; simp [wrongS, needs]
              go_wp2
              go_ret
              exact ⟨by show Ending.returned _ = _; rw [HV.out]; rfl, b2⟩
            · have m1 : (b == 1) = false := by simp [hl]
              have HV : Hid (wrongS ⟨b, f, true, k⟩ (okI 1 op xs) 1 = 0) := by show _ = _; rw [Ho.out]; simp [wrongS, needs, hb, hb0, hl]
              go_wp2
              go_ret
              exact ⟨by show Ending.returned _ = _; rw [HV.out]; rfl, b2⟩
      · obtain rfl : q = 1 := Hq.out
        by_cases hb : b < 1
        · have HV : Hid (wrongS ⟨b, f, s, k⟩ (okI 2 op xs) 2 = 3) := by show _ = _; rw [Ho.out]; simp [wrongS, needs, hb]
          go_wp2
          go_ret
          exact ⟨by show Ending.returned _ = _; rw [HV.out]; rfl, b2⟩
        · have nl : decide (b < 1) = false := by simp; omega
          cases s with
          | false =>
            have HV : Hid (wrongS ⟨b, f, false, k⟩ (okI 2 op xs) 2 = 0) := by show _ = _; rw [Ho.out]; simp [wrongS, needs, hb]
            go_wp2
            go_ret
            exact ⟨by show Ending.returned _ = _; rw [HV.out]; rfl, b2⟩
          | true =>
            by_cases hl : b = 1
            · subst hl
              clear nl hb hb0
              have HV : Hid (wrongS ⟨1, f, true, k⟩ (okI 2 op xs) 2 = 0) := by show _ = _; rw [Ho.out]; simp [wrongS, needs]
              go_wp2
              go_ret
              exact ⟨by show Ending.returned _ = _; rw [HV.out]; rfl, b2⟩
            · have m1 : (b == 1) = false := by simp [hl]
              have HV : Hid (wrongS ⟨b, f, true, k⟩ (okI 2 op xs) 2 = 0) := by show _ = _; rw [Ho.out]; simp [wrongS, needs, hb, hl]
              go_wp2
              go_ret
              exact ⟨by show Ending.returned _ = _; rw [HV.out]; rfl, b2⟩
      · obtain rfl : q = 1 := Hq.out
        by_cases hb : b < 1
        · have HV : Hid (wrongS ⟨b, f, s, k⟩ (okI 3 op xs) 3 = 3) := by show _ = _; rw [Ho.out]; simp [wrongS, needs, hb]
          go_wp2
          go_ret
          exact ⟨by show Ending.returned _ = _; rw [HV.out]; rfl, b2⟩
        · have nl : decide (b < 1) = false := by simp; omega
          cases s with
          | false =>
            have HV : Hid (wrongS ⟨b, f, false, k⟩ (okI 3 op xs) 3 = 0) := by show _ = _; rw [Ho.out]; simp [wrongS, needs, hb]
            go_wp2
            go_ret
            exact ⟨by show Ending.returned _ = _; rw [HV.out]; rfl, b2⟩
          | true =>
            by_cases hl : b = 1
            · subst hl
              clear nl hb hb0
              have HV : Hid (wrongS ⟨1, f, true, k⟩ (okI 3 op xs) 3 = 6) := by show _ = _; rw [Ho.out]; simp [wrongS, needs]
              go_wp2
              go_ret
              exact ⟨by show Ending.returned _ = _; rw [HV.out]; rfl, b2⟩
            · have m : (b == 1) = false := by simp [hl]
              have HV : Hid (wrongS ⟨b, f, true, k⟩ (okI 3 op xs) 3 = 0) := by show _ = _; rw [Ho.out]; simp [wrongS, needs, hb, hl]
              go_wp2
              go_ret
              exact ⟨by show Ending.returned _ = _; rw [HV.out]; rfl, b2⟩
      · obtain rfl : q = 2 := Hq.out
        by_cases hb : b < 2
        · have HV : Hid (wrongS ⟨b, f, s, k⟩ (okI 4 op xs) 4 = 3) := by show _ = _; rw [Ho.out]; simp [wrongS, needs, hb]
          go_wp2
          go_ret
          exact ⟨by show Ending.returned _ = _; rw [HV.out]; rfl, b2⟩
        · have nl : decide (b < 2) = false := by simp; omega
          cases s with
          | false =>
            have HV : Hid (wrongS ⟨b, f, false, k⟩ (okI 4 op xs) 4 = 0) := by show _ = _; rw [Ho.out]; simp [wrongS, needs, hb]
            go_wp2
            go_ret
            exact ⟨by show Ending.returned _ = _; rw [HV.out]; rfl, b2⟩
          | true =>
            have m1 : (b == 1) = false := by rw [beq_eq_false_iff_ne]; omega
            have HV : Hid (wrongS ⟨b, f, true, k⟩ (okI 4 op xs) 4 = 0) := by show _ = _; rw [Ho.out]; simp [wrongS, needs, hb]
            go_wp2
            go_ret
            exact ⟨by show Ending.returned _ = _; rw [HV.out]; rfl, b2⟩
      · obtain rfl : q = 1 := Hq.out
        by_cases hb : b < 1
        · have HV : Hid (wrongS ⟨b, f, s, k⟩ (okI 6 op xs) 6 = 3) := by show _ = _; rw [Ho.out]; simp [wrongS, needs, hb]
          go_wp2
          go_ret
          exact ⟨by show Ending.returned _ = _; rw [HV.out]; rfl, b2⟩
        · have nl : decide (b < 1) = false := by simp; omega
          cases s with
          | false =>
            have HV : Hid (wrongS ⟨b, f, false, k⟩ (okI 6 op xs) 6 = 0) := by show _ = _; rw [Ho.out]; simp [wrongS, needs, hb]
            go_wp2
            go_ret
            exact ⟨by show Ending.returned _ = _; rw [HV.out]; rfl, b2⟩
          | true =>
            by_cases hl : b = 1
            · subst hl
              clear nl hb hb0
              have HV : Hid (wrongS ⟨1, f, true, k⟩ (okI 6 op xs) 6 = 6) := by show _ = _; rw [Ho.out]; simp [wrongS, needs]
              go_wp2
              go_ret
              exact ⟨by show Ending.returned _ = _; rw [HV.out]; rfl, b2⟩
            · have m : (b == 1) = false := by simp [hl]
              have HV : Hid (wrongS ⟨b, f, true, k⟩ (okI 6 op xs) 6 = 0) := by show _ = _; rw [Ho.out]; simp [wrongS, needs, hb, hl]
              go_wp2
              go_ret
              exact ⟨by show Ending.returned _ = _; rw [HV.out]; rfl, b2⟩
      · obtain rfl : q = 1 := Hq.out
        by_cases hb : b < 1
        · have HV : Hid (wrongS ⟨b, f, s, k⟩ (okI 7 op xs) 7 = 3) := by show _ = _; rw [Ho.out]; simp [wrongS, needs, hb]
          go_wp2
          go_ret
          exact ⟨by show Ending.returned _ = _; rw [HV.out]; rfl, b2⟩
        · have nl : decide (b < 1) = false := by simp; omega
          by_cases hg : 1 < b
          · have HV : Hid (wrongS ⟨b, f, s, k⟩ (okI 7 op xs) 7 = 5) := by show _ = _; rw [Ho.out]; simp [wrongS, needs, hb, hg]
            go_wp2
            go_ret
            exact ⟨by show Ending.returned _ = _; rw [HV.out]; rfl, b2⟩
          · obtain rfl : b = 1 := by omega
            clear hb hg nl hb0
            cases s with
            | false =>
              by_cases hf : f = 8
              · subst hf
                have HV : Hid (wrongS ⟨1, 8, false, k⟩ (okI 7 op xs) 7 = 7) := by show _ = _; rw [Ho.out]; simp [wrongS, needs]
                go_wp2
                go_ret
                exact ⟨by show Ending.returned _ = _; rw [HV.out]; rfl, b2⟩
              · have m : (f == 8) = false := by simp [hf]
                have HV : Hid (wrongS ⟨1, f, false, k⟩ (okI 7 op xs) 7 = 0) := by show _ = _; rw [Ho.out]; simp [wrongS, needs, hf]
                go_wp2
                go_ret
                exact ⟨by show Ending.returned _ = _; rw [HV.out]; rfl, b2⟩
            | true =>
              by_cases hf : f = 8
              · subst hf
                have HV : Hid (wrongS ⟨1, 8, true, k⟩ (okI 7 op xs) 7 = 7) := by show _ = _; rw [Ho.out]; simp [wrongS, needs]
                go_wp2
                go_ret
                exact ⟨by show Ending.returned _ = _; rw [HV.out]; rfl, b2⟩
              · have m : (f == 8) = false := by simp [hf]
                have HV : Hid (wrongS ⟨1, f, true, k⟩ (okI 7 op xs) 7 = 0) := by show _ = _; rw [Ho.out]; simp [wrongS, needs, hf]
                go_wp2
                go_ret
                exact ⟨by show Ending.returned _ = _; rw [HV.out]; rfl, b2⟩
      · obtain rfl : q = 1 := Hq.out
        by_cases hb : b < 1
        · have HV : Hid (wrongS ⟨b, f, s, k⟩ (okI 8 op xs) 8 = 3) := by show _ = _; rw [Ho.out]; simp [wrongS, needs, hb]
          go_wp2
          go_ret
          exact ⟨by show Ending.returned _ = _; rw [HV.out]; rfl, b2⟩
        · have nl : decide (b < 1) = false := by simp; omega
          by_cases hg : 1 < b
          · have HV : Hid (wrongS ⟨b, f, s, k⟩ (okI 8 op xs) 8 = 5) := by show _ = _; rw [Ho.out]; simp [wrongS, needs, hb, hg]
            go_wp2
            go_ret
            exact ⟨by show Ending.returned _ = _; rw [HV.out]; rfl, b2⟩
          · obtain rfl : b = 1 := by omega
            clear hb hg nl hb0
            cases s with
            | false =>
              by_cases hf : f = 0
              · subst hf
                have HV : Hid (wrongS ⟨1, 0, false, k⟩ (okI 8 op xs) 8 = 7) := by show _ = _; rw [Ho.out]; simp [wrongS, needs]
                go_wp2
                go_ret
                exact ⟨by show Ending.returned _ = _; rw [HV.out]; rfl, b2⟩
              · have m : (f == 0) = false := by simp [hf]
                cases k with
                | false =>
                  have HV : Hid (wrongS ⟨1, f, false, false⟩ (okI 8 op xs) 8 = 8) := by show _ = _; rw [Ho.out]; simp [wrongS, needs, hf]
                  go_wp2
                  go_ret
                  exact ⟨by show Ending.returned _ = _; rw [HV.out]; rfl, b2⟩
                | true =>
                  have HV : Hid (wrongS ⟨1, f, false, true⟩ (okI 8 op xs) 8 = 0) := by show _ = _; rw [Ho.out]; simp [wrongS, needs, hf]
                  go_wp2
                  go_ret
                  exact ⟨by show Ending.returned _ = _; rw [HV.out]; rfl, b2⟩
            | true =>
              by_cases hf : f = 0
              · subst hf
                have HV : Hid (wrongS ⟨1, 0, true, k⟩ (okI 8 op xs) 8 = 7) := by show _ = _; rw [Ho.out]; simp [wrongS, needs]
                go_wp2
                go_ret
                exact ⟨by show Ending.returned _ = _; rw [HV.out]; rfl, b2⟩
              · have m : (f == 0) = false := by simp [hf]
                cases k with
                | false =>
                  have HV : Hid (wrongS ⟨1, f, true, false⟩ (okI 8 op xs) 8 = 8) := by show _ = _; rw [Ho.out]; simp [wrongS, needs, hf]
                  go_wp2
                  go_ret
                  exact ⟨by show Ending.returned _ = _; rw [HV.out]; rfl, b2⟩
                | true =>
                  have HV : Hid (wrongS ⟨1, f, true, true⟩ (okI 8 op xs) 8 = 0) := by show _ = _; rw [Ho.out]; simp [wrongS, needs, hf]
                  go_wp2
                  go_ret
                  exact ⟨by show Ending.returned _ = _; rw [HV.out]; rfl, b2⟩
      · obtain rfl : q = 1 := Hq.out
        by_cases hb : b < 1
        · have HV : Hid (wrongS ⟨b, f, s, k⟩ (okI 9 op xs) 9 = 3) := by show _ = _; rw [Ho.out]; simp [wrongS, needs, hb]
          go_wp2
          go_ret
          exact ⟨by show Ending.returned _ = _; rw [HV.out]; rfl, b2⟩
        · have nl : decide (b < 1) = false := by simp; omega
          by_cases hg : 1 < b
          · have HV : Hid (wrongS ⟨b, f, s, k⟩ (okI 9 op xs) 9 = 5) := by show _ = _; rw [Ho.out]; simp [wrongS, needs, hb, hg]
            go_wp2
            go_ret
            exact ⟨by show Ending.returned _ = _; rw [HV.out]; rfl, b2⟩
          · obtain rfl : b = 1 := by omega
            clear hb hg nl hb0
            cases s with
            | false =>
              by_cases hf : f = 0
              · subst hf
                have HV : Hid (wrongS ⟨1, 0, false, k⟩ (okI 9 op xs) 9 = 7) := by show _ = _; rw [Ho.out]; simp [wrongS, needs]
                go_wp2
                go_ret
                exact ⟨by show Ending.returned _ = _; rw [HV.out]; rfl, b2⟩
              · have m : (f == 0) = false := by simp [hf]
                cases k with
                | false =>
                  have HV : Hid (wrongS ⟨1, f, false, false⟩ (okI 9 op xs) 9 = 8) := by show _ = _; rw [Ho.out]; simp [wrongS, needs, hf]
                  go_wp2
                  go_ret
                  exact ⟨by show Ending.returned _ = _; rw [HV.out]; rfl, b2⟩
                | true =>
                  have HV : Hid (wrongS ⟨1, f, false, true⟩ (okI 9 op xs) 9 = 0) := by show _ = _; rw [Ho.out]; simp [wrongS, needs, hf]
                  go_wp2
                  go_ret
                  exact ⟨by show Ending.returned _ = _; rw [HV.out]; rfl, b2⟩
            | true =>
              by_cases hf : f = 0
              · subst hf
                have HV : Hid (wrongS ⟨1, 0, true, k⟩ (okI 9 op xs) 9 = 7) := by show _ = _; rw [Ho.out]; simp [wrongS, needs]
                go_wp2
                go_ret
                exact ⟨by show Ending.returned _ = _; rw [HV.out]; rfl, b2⟩
              · have m : (f == 0) = false := by simp [hf]
                cases k with
                | false =>
                  have HV : Hid (wrongS ⟨1, f, true, false⟩ (okI 9 op xs) 9 = 8) := by show _ = _; rw [Ho.out]; simp [wrongS, needs, hf]
                  go_wp2
                  go_ret
                  exact ⟨by show Ending.returned _ = _; rw [HV.out]; rfl, b2⟩
                | true =>
                  have HV : Hid (wrongS ⟨1, f, true, true⟩ (okI 9 op xs) 9 = 0) := by show _ = _; rw [Ho.out]; simp [wrongS, needs, hf]
                  go_wp2
                  go_ret
                  exact ⟨by show Ending.returned _ = _; rw [HV.out]; rfl, b2⟩
      · obtain rfl : q = 1 := Hq.out
        by_cases hb : b < 1
        · have HV : Hid (wrongS ⟨b, f, s, k⟩ (okI 10 op xs) 10 = 3) := by show _ = _; rw [Ho.out]; simp [wrongS, needs, hb]
          go_wp2
          go_ret
          exact ⟨by show Ending.returned _ = _; rw [HV.out]; rfl, b2⟩
        · have nl : decide (b < 1) = false := by simp; omega
          by_cases hg : 1 < b
          · have HV : Hid (wrongS ⟨b, f, s, k⟩ (okI 10 op xs) 10 = 5) := by show _ = _; rw [Ho.out]; simp [wrongS, needs, hb, hg]
            go_wp2
            go_ret
            exact ⟨by show Ending.returned _ = _; rw [HV.out]; rfl, b2⟩
          · obtain rfl : b = 1 := by omega
            clear hb hg nl hb0
            cases s with
            | false =>
              have HV : Hid (wrongS ⟨1, f, false, k⟩ (okI 10 op xs) 10 = 0) := by show _ = _; rw [Ho.out]; simp [wrongS, needs]
              go_wp2
              go_ret
              exact ⟨by show Ending.returned _ = _; rw [HV.out]; rfl, b2⟩
            | true =>
              have HV : Hid (wrongS ⟨1, f, true, k⟩ (okI 10 op xs) 10 = 0) := by show _ = _; rw [Ho.out]; simp [wrongS, needs]
              go_wp2
              go_ret
              exact ⟨by show Ending.returned _ = _; rw [HV.out]; rfl, b2⟩
      · obtain rfl : q = 1 := Hq.out
        by_cases hb : b < 1
        · have HV : Hid (wrongS ⟨b, f, s, k⟩ (okI 11 op xs) 11 = 3) := by show _ = _; rw [Ho.out]; simp [wrongS, needs, hb]
          go_wp2
          go_ret
          exact ⟨by show Ending.returned _ = _; rw [HV.out]; rfl, b2⟩
        · have nl : decide (b < 1) = false := by simp; omega
          by_cases hg : 1 < b
          · have HV : Hid (wrongS ⟨b, f, s, k⟩ (okI 11 op xs) 11 = 5) := by show _ = _; rw [Ho.out]; simp [wrongS, needs, hb, hg]
            go_wp2
            go_ret
            exact ⟨by show Ending.returned _ = _; rw [HV.out]; rfl, b2⟩
          · obtain rfl : b = 1 := by omega
            clear hb hg nl hb0
            cases s with
            | false =>
              by_cases hf : 0 < f
              · have HV : Hid (wrongS ⟨1, f, false, k⟩ (okI 11 op xs) 11 = 7) := by show _ = _; rw [Ho.out]; simp [wrongS, needs, hf]
                go_wp2
                go_ret
                exact ⟨by show Ending.returned _ = _; rw [HV.out]; rfl, b2⟩
              · have m : decide (0 < f) = false := by simp; omega
                cases k with
                | false =>
                  have HV : Hid (wrongS ⟨1, f, false, false⟩ (okI 11 op xs) 11 = 8) := by show _ = _; rw [Ho.out]; simp [wrongS, needs, hf]
                  go_wp2
                  go_ret
                  exact ⟨by show Ending.returned _ = _; rw [HV.out]; rfl, b2⟩
                | true =>
                  have HV : Hid (wrongS ⟨1, f, false, true⟩ (okI 11 op xs) 11 = 0) := by show _ = _; rw [Ho.out]; simp [wrongS, needs, hf]
                  go_wp2
                  go_ret
                  exact ⟨by show Ending.returned _ = _; rw [HV.out]; rfl, b2⟩
            | true =>
              by_cases hf : 0 < f
              · have HV : Hid (wrongS ⟨1, f, true, k⟩ (okI 11 op xs) 11 = 7) := by show _ = _; rw [Ho.out]; simp [wrongS, needs, hf]
                go_wp2
                go_ret
                exact ⟨by show Ending.returned _ = _; rw [HV.out]; rfl, b2⟩
              · have m : decide (0 < f) = false := by simp; omega
                cases k with
                | false =>
                  have HV : Hid (wrongS ⟨1, f, true, false⟩ (okI 11 op xs) 11 = 8) := by show _ = _; rw [Ho.out]; simp [wrongS, needs, hf]
                  go_wp2
                  go_ret
                  exact ⟨by show Ending.returned _ = _; rw [HV.out]; rfl, b2⟩
                | true =>
                  have HV : Hid (wrongS ⟨1, f, true, true⟩ (okI 11 op xs) 11 = 0) := by show _ = _; rw [Ho.out]; simp [wrongS, needs, hf]
                  go_wp2
                  go_ret
                  exact ⟨by show Ending.returned _ = _; rw [HV.out]; rfl, b2⟩

set_option maxRecDepth 10000 in
set_option maxHeartbeats 8000000 in
theorem next_s (b f : Int) (s k : Bool) (c : Int) (w : World) (hb0 : -2000 ≤ b) (hb1 : b ≤ 2000) (hf0 : -2000 ≤ f) (hf1 : f ≤ 2000) :
    Calls Tryd.prog 12 #[.agg #[.int .i64 b, .int .i64 f, .bool s, .bool k], .int .i64 c] w fun e w' => e = .returned (.agg #[.int .i64 (nx ⟨b, f, s, k⟩ c).b, .int .i64 (nx ⟨b, f, s, k⟩ c).f, .bool (nx ⟨b, f, s, k⟩ c).s, .bool (nx ⟨b, f, s, k⟩ c).k]) ∧ Below w.heap.size w w' := by
  by_cases h11 : c = 11
  · subst h11
    rw [show nx ⟨b, f, s, k⟩ 11 = ⟨0, 0, false, false⟩ by simp [nx, bhB, bhF]]
    go_enter Tryd.func12, Tryd.ntmps12
    go_wp2
    exact bodyPost_ret (v := .agg #[.int .i64 (0), .int .i64 (0), .bool false, .bool false]) (by simp [results, Tryd.results12, go_sem]) rfl ⟨rfl, two_below _ _⟩
  by_cases h1 : c = 1
  · subst h1
    cases s with
    | false =>
      rw [show nx ⟨b, f, false, k⟩ 1 = ⟨b + 1, f, false, false⟩ by simp [nx, bhB, bhF]]
      go_enter Tryd.func12, Tryd.ntmps12
      go_wp2
      exact bodyPost_ret (v := .agg #[.int .i64 (b + 1), .int .i64 (f), .bool false, .bool false]) (by simp [results, Tryd.results12, go_sem]) rfl ⟨rfl, two_below _ _⟩
    | true =>
      rw [show nx ⟨b, f, true, k⟩ 1 = ⟨b + 1, f, true, false⟩ by simp [nx, bhB, bhF]]
      go_enter Tryd.func12, Tryd.ntmps12
      go_wp2
      exact bodyPost_ret (v := .agg #[.int .i64 (b + 1), .int .i64 (f), .bool true, .bool false]) (by simp [results, Tryd.results12, go_sem]) rfl ⟨rfl, two_below _ _⟩
  by_cases h4 : c = 4
  · subst h4
    cases s with
    | false =>
      rw [show nx ⟨b, f, false, k⟩ 4 = ⟨b - 1, f, false, false⟩ by simp [nx, bhB, bhF]]
      go_enter Tryd.func12, Tryd.ntmps12
      go_wp2
      exact bodyPost_ret (v := .agg #[.int .i64 (b - 1), .int .i64 (f), .bool false, .bool false]) (by simp [results, Tryd.results12, go_sem]) rfl ⟨rfl, two_below _ _⟩
    | true =>
      rw [show nx ⟨b, f, true, k⟩ 4 = ⟨b - 1, f, true, false⟩ by simp [nx, bhB, bhF]]
      go_enter Tryd.func12, Tryd.ntmps12
      go_wp2
      exact bodyPost_ret (v := .agg #[.int .i64 (b - 1), .int .i64 (f), .bool true, .bool false]) (by simp [results, Tryd.results12, go_sem]) rfl ⟨rfl, two_below _ _⟩
  by_cases h5 : c = 5
  · subst h5
    cases s with
    | false =>
      rw [show nx ⟨b, f, false, k⟩ 5 = ⟨b - 1, f, false, false⟩ by simp [nx, bhB, bhF]]
      go_enter Tryd.func12, Tryd.ntmps12
      go_wp2
      exact bodyPost_ret (v := .agg #[.int .i64 (b - 1), .int .i64 (f), .bool false, .bool false]) (by simp [results, Tryd.results12, go_sem]) rfl ⟨rfl, two_below _ _⟩
    | true =>
      rw [show nx ⟨b, f, true, k⟩ 5 = ⟨b - 1, f, true, false⟩ by simp [nx, bhB, bhF]]
      go_enter Tryd.func12, Tryd.ntmps12
      go_wp2
      exact bodyPost_ret (v := .agg #[.int .i64 (b - 1), .int .i64 (f), .bool true, .bool false]) (by simp [results, Tryd.results12, go_sem]) rfl ⟨rfl, two_below _ _⟩
  by_cases h9 : c = 9
  · subst h9
    cases s with
    | false =>
      rw [show nx ⟨b, f, false, k⟩ 9 = ⟨b, f - 1, false, false⟩ by simp [nx, bhB, bhF]]
      go_enter Tryd.func12, Tryd.ntmps12
      go_wp2
      exact bodyPost_ret (v := .agg #[.int .i64 (b), .int .i64 (f - 1), .bool false, .bool false]) (by simp [results, Tryd.results12, go_sem]) rfl ⟨rfl, two_below _ _⟩
    | true =>
      rw [show nx ⟨b, f, true, k⟩ 9 = ⟨b, f - 1, true, false⟩ by simp [nx, bhB, bhF]]
      go_enter Tryd.func12, Tryd.ntmps12
      go_wp2
      exact bodyPost_ret (v := .agg #[.int .i64 (b), .int .i64 (f - 1), .bool true, .bool false]) (by simp [results, Tryd.results12, go_sem]) rfl ⟨rfl, two_below _ _⟩
  by_cases h7 : c = 7
  · subst h7
    cases s with
    | false =>
      rw [show nx ⟨b, f, false, k⟩ 7 = ⟨b, f + 1, true, false⟩ by simp [nx, bhB, bhF]]
      go_enter Tryd.func12, Tryd.ntmps12
      go_wp2
      exact bodyPost_ret (v := .agg #[.int .i64 (b), .int .i64 (f + 1), .bool true, .bool false]) (by simp [results, Tryd.results12, go_sem]) rfl ⟨rfl, two_below _ _⟩
    | true =>
      rw [show nx ⟨b, f, true, k⟩ 7 = ⟨b, f + 1, true, false⟩ by simp [nx, bhB, bhF]]
      go_enter Tryd.func12, Tryd.ntmps12
      go_wp2
      exact bodyPost_ret (v := .agg #[.int .i64 (b), .int .i64 (f + 1), .bool true, .bool false]) (by simp [results, Tryd.results12, go_sem]) rfl ⟨rfl, two_below _ _⟩
  by_cases h10 : c = 10
  · subst h10
    cases s with
    | false =>
      rw [show nx ⟨b, f, false, k⟩ 10 = ⟨b, f, true, true⟩ by simp [nx, bhB, bhF]]
      go_enter Tryd.func12, Tryd.ntmps12
      go_wp2
      exact bodyPost_ret (v := .agg #[.int .i64 (b), .int .i64 (f), .bool true, .bool true]) (by simp [results, Tryd.results12, go_sem]) rfl ⟨rfl, two_below _ _⟩
    | true =>
      rw [show nx ⟨b, f, true, k⟩ 10 = ⟨b, f, true, true⟩ by simp [nx, bhB, bhF]]
      go_enter Tryd.func12, Tryd.ntmps12
      go_wp2
      exact bodyPost_ret (v := .agg #[.int .i64 (b), .int .i64 (f), .bool true, .bool true]) (by simp [results, Tryd.results12, go_sem]) rfl ⟨rfl, two_below _ _⟩
  have n10 : (c == 10) = false := by simp [h10]
  have n7 : (c == 7) = false := by simp [h7]
  cases s with
  | false =>
    rw [show nx ⟨b, f, false, k⟩ c = ⟨b, f, false, false⟩ by simp [nx, bhB, bhF, h1, h4, h5, h7, h9, h10, h11]]
    go_enter Tryd.func12, Tryd.ntmps12
    go_wp2
    exact bodyPost_ret (v := .agg #[.int .i64 (b), .int .i64 (f), .bool false, .bool false]) (by simp [results, Tryd.results12, go_sem, h10, h7]) rfl ⟨rfl, two_below _ _⟩
  | true =>
    rw [show nx ⟨b, f, true, k⟩ c = ⟨b, f, true, false⟩ by simp [nx, bhB, bhF, h1, h4, h5, h7, h9, h10, h11]]
    go_enter Tryd.func12, Tryd.ntmps12
    go_wp2
    exact bodyPost_ret (v := .agg #[.int .i64 (b), .int .i64 (f), .bool true, .bool false]) (by simp [results, Tryd.results12, go_sem, h10, h7]) rfl ⟨rfl, two_below _ _⟩
end Go.Proofs.YthjbgjfihfkpcaaDoor
