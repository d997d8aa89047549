/- l4Kind and l4Calc of the specification; the coils that reckon. -/
import Derived.Test.YtkppcmpdghnmgaaDoorEh
namespace Go.Proofs.YtkppcmpdghnmgaaDoor
open Go.RowKit Go.Shelf
set_option linter.unusedVariables false

set_option maxHeartbeats 1000000 in
theorem spec_kind (k n p A B : Int) (w : World) :
    Calls Tryd.prog 54 #[.agg #[.int .i64 k, .int .i64 n, .int .i64 p], .int .i64 A, .int .i64 B] w fun e w' => e = .returned (.bool (okA k n p && (k == A || k == B))) ∧ Below w.heap.size w w' := by
  have HK : Hid (∀ W, Calls Tryd.prog 51 #[.agg #[.int .i64 k, .int .i64 n, .int .i64 p]] W fun e w' => e = .returned (.bool (okA k n p)) ∧ Below W.heap.size W w') := fun W => spec_ok k n p W
  cases ho : okA k n p with
  | false =>
    rw [ho] at HK
    go_enter Tryd.func54, Tryd.ntmps54
    go_wp2_with fail
    refine (HK.out _).mono ?_
    rintro e w1 ⟨rfl, g1⟩
    have b1 : Below w.heap.size w w1 := ((Below.refl _ _).alloc (Nat.le_refl _) _).trans (g1.mono (by simp))
    clear g1
    go_wp2
    go_ret
    exact ⟨by simp, b1⟩
  | true =>
    rw [ho] at HK
    cases hA : (k == A) with
    | true =>
      go_enter Tryd.func54, Tryd.ntmps54
      go_wp2_with fail
      refine (HK.out _).mono ?_
      rintro e w1 ⟨rfl, g1⟩
      have c0 : w1.cell? ⟨w.heap.size, 0, none⟩ = some (.int .i64 k) := cell_later g1 (by simp)
      have b1 : Below w.heap.size w w1 := ((Below.refl _ _).alloc (Nat.le_refl _) _).trans (g1.mono (by simp))
      clear g1
      go_wp2
      go_ret
      exact ⟨by simp, b1⟩
    | false =>
      go_enter Tryd.func54, Tryd.ntmps54
      go_wp2_with fail
      refine (HK.out _).mono ?_
      rintro e w1 ⟨rfl, g1⟩
      have c0 : w1.cell? ⟨w.heap.size, 0, none⟩ = some (.int .i64 k) := cell_later g1 (by simp)
      have b1 : Below w.heap.size w w1 := ((Below.refl _ _).alloc (Nat.le_refl _) _).trans (g1.mono (by simp))
      clear g1
      go_wp2
      go_ret
      exact ⟨by simp, b1⟩

/-- The operands behind the first are numbers of one sort. -/
def calcR (op : Int) (m : Nat) (X : Nat → Arg) : Bool :=
  (okA (X 0).1 (X 0).2.1 (X 0).2.2 && ((X 0).1 == 9 || (X 0).1 == 10)) && ((List.range (m - 1)).all fun j => if (X 0).1 == 9 then okA (X (j + 1)).1 (X (j + 1)).2.1 (X (j + 1)).2.2 && kW (X (j + 1)).1 else okA (X (j + 1)).1 (X (j + 1)).2.1 (X (j + 1)).2.2 && kR (X (j + 1)).1) && ((X 0).1 == 9 || !(op == 35))

set_option maxRecDepth 10000 in
set_option maxHeartbeats 2000000 in
theorem spec_calc (op : Int) (m : Nat) (hm2 : 2 ≤ m) (hm3 : m ≤ 3) (X : Nat → Arg) (b o cap : Nat) (w : World)
    (hX : ∀ n, n < m → w.cell? ⟨b, o + n * 3, none⟩ = some (.int .i64 (X n).1) ∧ w.cell? ⟨b, o + n * 3 + 1, none⟩ = some (.int .i64 (X n).2.1) ∧ w.cell? ⟨b, o + n * 3 + 2, none⟩ = some (.int .i64 (X n).2.2)) :
    Calls Tryd.prog 55 #[.agg #[.int .i64 op, .slice (some ⟨b, o, none⟩) m cap]] w fun e w' => e = .returned (.bool (calcR op m X)) ∧ Below w.heap.size w w' := by
  have HK : Hid (∀ W, Calls Tryd.prog 54 #[.agg #[.int .i64 (X 0).1, .int .i64 (X 0).2.1, .int .i64 (X 0).2.2], .int .i64 9, .int .i64 10] W fun e w' => e = .returned (.bool (okA (X 0).1 (X 0).2.1 (X 0).2.2 && ((X 0).1 == 9 || (X 0).1 == 10))) ∧ Below W.heap.size W w') := fun W => spec_kind _ _ _ 9 10 W
  have bl : b < w.heap.size := World.block_lt_of_cell? _ _ (hX 0 (by omega)).1
  have x0 := (hX 0 (by omega)).1
  have x1 := (hX 0 (by omega)).2.1
  have x2 := (hX 0 (by omega)).2.2
  simp only [Nat.zero_mul, Nat.add_zero] at x0 x1 x2
  obtain ⟨R, HR⟩ : ∃ R, Hid (R = calcR op m X) := ⟨_, Eq.refl (calcR op m X)⟩
  rw [← HR.out]
  generalize hr0 : (okA (X 0).1 (X 0).2.1 (X 0).2.2 && ((X 0).1 == 9 || (X 0).1 == 10)) = r0 at HK
  have hm0 : (0 : Int) < (m : Int) := by omega
  have h0 : ∀ ob, (w.alloc ob).cell? ⟨b, o, none⟩ = some (.int .i64 (X 0).1) := fun ob => (World.cell?_alloc_past _ _ _ bl).trans x0
  have h1 : ∀ ob, (w.alloc ob).cell? ⟨b, o + 1, none⟩ = some (.int .i64 (X 0).2.1) := fun ob => (World.cell?_alloc_past _ _ _ bl).trans x1
  have h2 : ∀ ob, (w.alloc ob).cell? ⟨b, o + 2, none⟩ = some (.int .i64 (X 0).2.2) := fun ob => (World.cell?_alloc_past _ _ _ bl).trans x2
  clear x0 x1 x2
  cases r0 with
  | false =>
    go_enter Tryd.func55, Tryd.ntmps55
    go_wp2_with fail
    refine (HK.out _).mono ?_
    rintro e w1 ⟨rfl, g1⟩
    have b1 : Below w.heap.size w w1 := ((Below.refl _ _).alloc (Nat.le_refl _) _).trans (g1.mono (by simp))
    clear g1
    go_wp2
    go_ret
    refine ⟨?_, b1⟩
    rw [HR.out]
    unfold calcR
    rw [hr0]
    rfl
  | true =>
    go_enter Tryd.func55, Tryd.ntmps55
    go_wp2_with fail
    refine (HK.out _).mono ?_
    rintro e w1 ⟨rfl, g1⟩
    have q0 := cell_later g1 (h0 _)
    have q1 : w1.cell? ⟨w.heap.size, 0, none⟩ = some (.int .i64 op) := cell_later g1 (by simp)
    have q2 : w1.cell? ⟨w.heap.size, 1, none⟩ = some (.slice (some ⟨b, o, none⟩) m cap) := cell_later g1 (by simp)
    have hWE : Below w.heap.size w (w.alloc (.cells #[.int .i64 op, .slice (some ⟨b, o, none⟩) m cap] 26)) := (Below.refl _ _).alloc (Nat.le_refl _) _
    clear h0 h1 h2 HK
    cases hw : ((X 0).1 == 9) with
    | true =>
      have HQ : Hid (∀ n W, Calls Tryd.prog 52 #[.agg #[.int .i64 (X n).1, .int .i64 (X n).2.1, .int .i64 (X n).2.2]] W fun e w' => e = .returned (.bool (okA (X n).1 (X n).2.1 (X n).2.2 && kW (X n).1)) ∧ Below W.heap.size W w') := fun n W => spec_iswhole _ _ _ W
      go_wp2
      go_loopg [4] (m - 1) (fun g i wr => ∃ n : Nat, n + g = m ∧ 1 ≤ n ∧ i = .int .i64 n ∧ Below (w.alloc (.cells #[.int .i64 op, .slice (some ⟨b, o, none⟩) m cap] 26)).heap.size (w.alloc (.cells #[.int .i64 op, .slice (some ⟨b, o, none⟩) m cap] 26)) wr ∧ ∀ j, 1 ≤ j → j < n → (okA (X j).1 (X j).2.1 (X j).2.2 && kW (X j).1) = true)
      case atStart => exact ⟨1, by omega, by omega, rfl, g1, fun j h1 h2 => by omega⟩
      case round =>
        obtain ⟨n, hn, hn1, rfl, hb, hp⟩ := hrel
        have hbw : Below w.heap.size w wr := hWE.trans (hb.mono hWE.size)
        have e0 : wr.cell? ⟨w.heap.size, 0, none⟩ = some (.int .i64 op) := cell_later hb (by simp)
        have e1 : wr.cell? ⟨w.heap.size, 1, none⟩ = some (.slice (some ⟨b, o, none⟩) m cap) := cell_later hb (by simp)
        by_cases hlt : n < m
        · have y0 : wr.cell? ⟨b, o + n * 3, none⟩ = some (.int .i64 (X n).1) := (hbw.cell (p := ⟨b, o + n * 3, none⟩) bl).trans (hX n hlt).1
          have y1 : wr.cell? ⟨b, o + n * 3 + 1, none⟩ = some (.int .i64 (X n).2.1) := (hbw.cell (p := ⟨b, o + n * 3 + 1, none⟩) bl).trans (hX n hlt).2.1
          have y2 : wr.cell? ⟨b, o + n * 3 + 2, none⟩ = some (.int .i64 (X n).2.2) := (hbw.cell (p := ⟨b, o + n * 3 + 2, none⟩) bl).trans (hX n hlt).2.2
          have i1 : (n : Int) < (m : Int) := by omega
          have i3 : (0 : Int) ≤ (n : Int) := by omega
          have HQn : Hid (∀ W, Calls Tryd.prog 52 #[.agg #[.int .i64 (X n).1, .int .i64 (X n).2.1, .int .i64 (X n).2.2]] W fun e w' => e = .returned (.bool (okA (X n).1 (X n).2.1 (X n).2.2 && kW (X n).1)) ∧ Below W.heap.size W w') := fun W => HQ.out n W
          generalize hA : (X n).1 = A1 at y0 HQn
          generalize hB : (X n).2.1 = A2 at y1 HQn
          generalize hC : (X n).2.2 = A3 at y2 HQn
          generalize hq : (okA A1 A2 A3 && kW A1) = q at HQn
          go_wp2_with fail
          refine (HQn.out _).mono ?_
          rintro e w4 ⟨rfl, g4⟩
          have D4 := hb.trans (g4.mono hb.size)
          have b4 : Below w.heap.size w w4 := hWE.trans (D4.mono hWE.size)
          have z0 := cell_later g4 e0
          have z1 := cell_later g4 e1
          clear g4
          cases q with
          | true =>
            go_wp2
            go_roundg (gk - 1)
            case measure => omega
            case rel =>
              refine ⟨n + 1, by omega, by omega, by simp, D4, ?_⟩
              intro j h1 h2
              by_cases hjn : j = n
              · rw [hjn, hA, hB, hC]; exact hq
              · exact hp j h1 (by omega)
          | false =>
            go_wp2
            go_ret
            refine ⟨?_, b4⟩
            rw [HR.out]
            unfold calcR
            rw [hr0, hw]
            have : ((List.range (m - 1)).all fun j => if true = true then okA (X (j + 1)).1 (X (j + 1)).2.1 (X (j + 1)).2.2 && kW (X (j + 1)).1 else okA (X (j + 1)).1 (X (j + 1)).2.1 (X (j + 1)).2.2 && kR (X (j + 1)).1) = false := by
              rw [List.all_eq_false]
              refine ⟨n - 1, List.mem_range.2 (by omega), ?_⟩
              rw [show n - 1 + 1 = n by omega, hA, hB, hC]
              simp [hq]
            rw [this]
            simp
        · have i1 : ¬ ((n : Int) < (m : Int)) := by omega
          have ea : ((List.range (m - 1)).all fun j => if true = true then okA (X (j + 1)).1 (X (j + 1)).2.1 (X (j + 1)).2.2 && kW (X (j + 1)).1 else okA (X (j + 1)).1 (X (j + 1)).2.1 (X (j + 1)).2.2 && kR (X (j + 1)).1) = true := by
            rw [List.all_eq_true]
            intro j hj
            have := hp (j + 1) (by omega) (by have := List.mem_range.1 hj; omega)
            simpa using this
          have eR : R = (true || !(op == 35)) := by
            rw [HR.out]
            unfold calcR
            rw [hr0, hw, ea]
            rfl
          go_wp2
          go_ret
          refine ⟨?_, hbw⟩
          try rw [eR]
          first | rfl | simp [bne]
    | false =>
      have HQ : Hid (∀ n W, Calls Tryd.prog 53 #[.agg #[.int .i64 (X n).1, .int .i64 (X n).2.1, .int .i64 (X n).2.2]] W fun e w' => e = .returned (.bool (okA (X n).1 (X n).2.1 (X n).2.2 && kR (X n).1)) ∧ Below W.heap.size W w') := fun n W => spec_isreal _ _ _ W
      go_wp2
      go_loopg [4] (m - 1) (fun g i wr => ∃ n : Nat, n + g = m ∧ 1 ≤ n ∧ i = .int .i64 n ∧ Below (w.alloc (.cells #[.int .i64 op, .slice (some ⟨b, o, none⟩) m cap] 26)).heap.size (w.alloc (.cells #[.int .i64 op, .slice (some ⟨b, o, none⟩) m cap] 26)) wr ∧ ∀ j, 1 ≤ j → j < n → (okA (X j).1 (X j).2.1 (X j).2.2 && kR (X j).1) = true)
      case atStart => exact ⟨1, by omega, by omega, rfl, g1, fun j h1 h2 => by omega⟩
      case round =>
        obtain ⟨n, hn, hn1, rfl, hb, hp⟩ := hrel
        have hbw : Below w.heap.size w wr := hWE.trans (hb.mono hWE.size)
        have e0 : wr.cell? ⟨w.heap.size, 0, none⟩ = some (.int .i64 op) := cell_later hb (by simp)
        have e1 : wr.cell? ⟨w.heap.size, 1, none⟩ = some (.slice (some ⟨b, o, none⟩) m cap) := cell_later hb (by simp)
        by_cases hlt : n < m
        · have y0 : wr.cell? ⟨b, o + n * 3, none⟩ = some (.int .i64 (X n).1) := (hbw.cell (p := ⟨b, o + n * 3, none⟩) bl).trans (hX n hlt).1
          have y1 : wr.cell? ⟨b, o + n * 3 + 1, none⟩ = some (.int .i64 (X n).2.1) := (hbw.cell (p := ⟨b, o + n * 3 + 1, none⟩) bl).trans (hX n hlt).2.1
          have y2 : wr.cell? ⟨b, o + n * 3 + 2, none⟩ = some (.int .i64 (X n).2.2) := (hbw.cell (p := ⟨b, o + n * 3 + 2, none⟩) bl).trans (hX n hlt).2.2
          have i1 : (n : Int) < (m : Int) := by omega
          have i3 : (0 : Int) ≤ (n : Int) := by omega
          have HQn : Hid (∀ W, Calls Tryd.prog 53 #[.agg #[.int .i64 (X n).1, .int .i64 (X n).2.1, .int .i64 (X n).2.2]] W fun e w' => e = .returned (.bool (okA (X n).1 (X n).2.1 (X n).2.2 && kR (X n).1)) ∧ Below W.heap.size W w') := fun W => HQ.out n W
          generalize hA : (X n).1 = A1 at y0 HQn
          generalize hB : (X n).2.1 = A2 at y1 HQn
          generalize hC : (X n).2.2 = A3 at y2 HQn
          generalize hq : (okA A1 A2 A3 && kR A1) = q at HQn
          go_wp2_with fail
          refine (HQn.out _).mono ?_
          rintro e w4 ⟨rfl, g4⟩
          have D4 := hb.trans (g4.mono hb.size)
          have b4 : Below w.heap.size w w4 := hWE.trans (D4.mono hWE.size)
          have z0 := cell_later g4 e0
          have z1 := cell_later g4 e1
          clear g4
          cases q with
          | true =>
            go_wp2
            go_roundg (gk - 1)
            case measure => omega
            case rel =>
              refine ⟨n + 1, by omega, by omega, by simp, D4, ?_⟩
              intro j h1 h2
              by_cases hjn : j = n
              · rw [hjn, hA, hB, hC]; exact hq
              · exact hp j h1 (by omega)
          | false =>
            go_wp2
            go_ret
            refine ⟨?_, b4⟩
            rw [HR.out]
            unfold calcR
            rw [hr0, hw]
            have : ((List.range (m - 1)).all fun j => if false = true then okA (X (j + 1)).1 (X (j + 1)).2.1 (X (j + 1)).2.2 && kW (X (j + 1)).1 else okA (X (j + 1)).1 (X (j + 1)).2.1 (X (j + 1)).2.2 && kR (X (j + 1)).1) = false := by
              rw [List.all_eq_false]
              refine ⟨n - 1, List.mem_range.2 (by omega), ?_⟩
              rw [show n - 1 + 1 = n by omega, hA, hB, hC]
              simp [hq]
            rw [this]
            simp
        · have i1 : ¬ ((n : Int) < (m : Int)) := by omega
          have ea : ((List.range (m - 1)).all fun j => if false = true then okA (X (j + 1)).1 (X (j + 1)).2.1 (X (j + 1)).2.2 && kW (X (j + 1)).1 else okA (X (j + 1)).1 (X (j + 1)).2.1 (X (j + 1)).2.2 && kR (X (j + 1)).1) = true := by
            rw [List.all_eq_true]
            intro j hj
            have := hp (j + 1) (by omega) (by have := List.mem_range.1 hj; omega)
            simpa using this
          have eR : R = (false || !(op == 35)) := by
            rw [HR.out]
            unfold calcR
            rw [hr0, hw, ea]
            rfl
          go_wp2
          go_ret
          refine ⟨?_, hbw⟩
          try rw [eR]
          first | rfl | simp [bne]
end Go.Proofs.YtkppcmpdghnmgaaDoor

/- ElemIsContact and ElemIsCoil of the specification. -/
namespace Go.Proofs.YtkppcmpdghnmgaaDoor
open Go.RowKit Go.Shelf
set_option linter.unusedVariables false

set_option maxRecDepth 10000 in
set_option maxHeartbeats 2000000 in
theorem scoil30 (k n p k1 n1 p1 : Int) (r0 : Bool) (b o cap : Nat) (w : World) (hx : Ops w b o [(k, n, p), (k1, n1, p1)])
    (hA : Hid (∀ W, Calls Tryd.prog 49 #[.int .i64 30] W fun e w' => e = .returned (.int .i64 2) ∧ Below W.heap.size W w'))
    (h0 : Hid (∀ W, Below w.heap.size w W → Calls Tryd.prog 55 #[.agg #[.int .i64 30, .slice (some ⟨b, o, none⟩) 2 cap]] W fun e w' => e = .returned (.bool r0) ∧ Below W.heap.size W w')) :
    Calls Tryd.prog 33 #[.agg #[.int .i64 30, .slice (some ⟨b, o, none⟩) 2 cap]] w fun e w' => e = .returned (.bool (r0)) ∧ Below w.heap.size w w' := by
  have hb0 : Below w.heap.size w (w.alloc (.cells #[.int .i64 30, .slice (some ⟨b, o, none⟩) 2 cap] 26)) := (Below.refl _ _).alloc (Nat.le_refl _) _
  have k0 := cell_regrown (w := (w.alloc (.cells #[.int .i64 30, .slice (some ⟨b, o, none⟩) 2 cap] 26))) (a := ⟨w.heap.size, 0, none⟩) (v := .int .i64 30) (by simp)
  have k1 := cell_regrown (w := (w.alloc (.cells #[.int .i64 30, .slice (some ⟨b, o, none⟩) 2 cap] 26))) (a := ⟨w.heap.size, 1, none⟩) (v := .slice (some ⟨b, o, none⟩) 2 cap) (by simp)
  have cA : ∀ d os, Calls Tryd.prog 49 #[.int .i64 30] (Sort.grow (redrawn (w.alloc (.cells #[.int .i64 30, .slice (some ⟨b, o, none⟩) 2 cap] 26)) d) os) fun e w'' => e = .returned (.int .i64 2) ∧ ∃ p : Regrown, w'' = Sort.grow (redrawn (w.alloc (.cells #[.int .i64 30, .slice (some ⟨b, o, none⟩) 2 cap] 26)) p.d) p.os :=
    fun d os => Calls.regrown_of (hA.out _)
  clear hA
  go_enter Tryd.func33, Tryd.ntmps33
  go_upto_region 1 with fail
  refine wp_region_quiet_below (by kernel_rfl) (by kernel_rfl) ?_
  repeat (go_big_quiet_step (first | exact cA _ _))
  refine wpQuiet_nil ?_
  intro _ hw'
  obtain ⟨⟨dq, osq⟩, hw''⟩ := hw'
  subst hw''
  have e0 := k0 dq osq
  have e1 := k1 dq osq
  have hb1 := hb0.trans ((below_regrown (w.alloc (.cells #[.int .i64 30, .slice (some ⟨b, o, none⟩) 2 cap] 26)) dq osq).mono hb0.size)
  have hx1 := hx.later hb1
  have lt1 : w.heap.size < (Sort.grow (redrawn (w.alloc (.cells #[.int .i64 30, .slice (some ⟨b, o, none⟩) 2 cap] 26)) dq) osq).heap.size := World.block_lt_of_cell? _ _ e0
  dsimp only at e0 e1 hb1 hx1 lt1 ⊢
  generalize Sort.grow (redrawn (w.alloc (.cells #[.int .i64 30, .slice (some ⟨b, o, none⟩) 2 cap] 26)) dq) osq = w2 at e0 e1 hb1 hx1 lt1 ⊢
  clear cA k0 k1 hb0 hx
  have lt2 : b < w2.heap.size := hx1.lt (by simp)
  have x00 := (hx1 0 _ rfl).1
  have x01 := (hx1 0 _ rfl).2.1
  have x02 := (hx1 0 _ rfl).2.2
  have x10 := (hx1 1 _ rfl).1
  have x11 := (hx1 1 _ rfl).2.1
  have x12 := (hx1 1 _ rfl).2.2
  simp only [Nat.zero_mul, Nat.add_zero, Nat.one_mul, Nat.add_assoc, Nat.reduceAdd] at x00 x01 x02 x10 x11 x12
  have hA0 : Below w2.heap.size w2 (w2.alloc (.cells #[.int .i64 k, .int .i64 n, .int .i64 p] 83)) := (Below.refl _ _).alloc (Nat.le_refl _) _
  have fe0 := cell_later hA0 e0
  have fe1 := cell_later hA0 e1
  have fx00 := cell_later hA0 x00
  have fx01 := cell_later hA0 x01
  have fx02 := cell_later hA0 x02
  have fx10 := cell_later hA0 x10
  have fx11 := cell_later hA0 x11
  have fx12 := cell_later hA0 x12
  have fa0 : (w2.alloc (.cells #[.int .i64 k, .int .i64 n, .int .i64 p] 83)).cell? ⟨w2.heap.size, 0, none⟩ = some (.int .i64 k) := by simp
  have fa1 : (w2.alloc (.cells #[.int .i64 k, .int .i64 n, .int .i64 p] 83)).cell? ⟨w2.heap.size, 1, none⟩ = some (.int .i64 n) := by simp
  have fa2 : (w2.alloc (.cells #[.int .i64 k, .int .i64 n, .int .i64 p] 83)).cell? ⟨w2.heap.size, 2, none⟩ = some (.int .i64 p) := by simp
  have hbA : Below w.heap.size w (w2.alloc (.cells #[.int .i64 k, .int .i64 n, .int .i64 p] 83)) := hb1.alloc hb1.size _
  go_wp2_with fail
  refine (h0.out _ hbA).mono ?_
  rintro e w3 ⟨rfl, g3⟩
  have D3 : Below (w2.alloc (.cells #[.int .i64 k, .int .i64 n, .int .i64 p] 83)).heap.size (w2.alloc (.cells #[.int .i64 k, .int .i64 n, .int .i64 p] 83)) w3 := g3
  have z3fe0 := cell_later D3 fe0
  have z3fe1 := cell_later D3 fe1
  have z3fx00 := cell_later D3 fx00
  have z3fx01 := cell_later D3 fx01
  have z3fx02 := cell_later D3 fx02
  have z3fx10 := cell_later D3 fx10
  have z3fx11 := cell_later D3 fx11
  have z3fx12 := cell_later D3 fx12
  have z3fa0 := cell_later D3 fa0
  have z3fa1 := cell_later D3 fa1
  have z3fa2 := cell_later D3 fa2
  clear g3
  cases r0 with
  | true =>
    go_wp2
    go_ret
    exact ⟨by simp, hbA.trans (D3.mono hbA.size)⟩
  | false =>
    go_wp2
    go_ret
    exact ⟨by simp, hbA.trans (D3.mono hbA.size)⟩

set_option maxRecDepth 10000 in
set_option maxHeartbeats 2000000 in
theorem scoil31 (k n p k1 n1 p1 k2 n2 p2 : Int) (r0 : Bool) (b o cap : Nat) (w : World) (hx : Ops w b o [(k, n, p), (k1, n1, p1), (k2, n2, p2)])
    (hA : Hid (∀ W, Calls Tryd.prog 49 #[.int .i64 31] W fun e w' => e = .returned (.int .i64 3) ∧ Below W.heap.size W w'))
    (h0 : Hid (∀ W, Below w.heap.size w W → Calls Tryd.prog 55 #[.agg #[.int .i64 31, .slice (some ⟨b, o, none⟩) 3 cap]] W fun e w' => e = .returned (.bool r0) ∧ Below W.heap.size W w')) :
    Calls Tryd.prog 33 #[.agg #[.int .i64 31, .slice (some ⟨b, o, none⟩) 3 cap]] w fun e w' => e = .returned (.bool (r0)) ∧ Below w.heap.size w w' := by
  have hb0 : Below w.heap.size w (w.alloc (.cells #[.int .i64 31, .slice (some ⟨b, o, none⟩) 3 cap] 26)) := (Below.refl _ _).alloc (Nat.le_refl _) _
  have k0 := cell_regrown (w := (w.alloc (.cells #[.int .i64 31, .slice (some ⟨b, o, none⟩) 3 cap] 26))) (a := ⟨w.heap.size, 0, none⟩) (v := .int .i64 31) (by simp)
  have k1 := cell_regrown (w := (w.alloc (.cells #[.int .i64 31, .slice (some ⟨b, o, none⟩) 3 cap] 26))) (a := ⟨w.heap.size, 1, none⟩) (v := .slice (some ⟨b, o, none⟩) 3 cap) (by simp)
  have cA : ∀ d os, Calls Tryd.prog 49 #[.int .i64 31] (Sort.grow (redrawn (w.alloc (.cells #[.int .i64 31, .slice (some ⟨b, o, none⟩) 3 cap] 26)) d) os) fun e w'' => e = .returned (.int .i64 3) ∧ ∃ p : Regrown, w'' = Sort.grow (redrawn (w.alloc (.cells #[.int .i64 31, .slice (some ⟨b, o, none⟩) 3 cap] 26)) p.d) p.os :=
    fun d os => Calls.regrown_of (hA.out _)
  clear hA
  go_enter Tryd.func33, Tryd.ntmps33
  go_upto_region 1 with fail
  refine wp_region_quiet_below (by kernel_rfl) (by kernel_rfl) ?_
  repeat (go_big_quiet_step (first | exact cA _ _))
  refine wpQuiet_nil ?_
  intro _ hw'
  obtain ⟨⟨dq, osq⟩, hw''⟩ := hw'
  subst hw''
  have e0 := k0 dq osq
  have e1 := k1 dq osq
  have hb1 := hb0.trans ((below_regrown (w.alloc (.cells #[.int .i64 31, .slice (some ⟨b, o, none⟩) 3 cap] 26)) dq osq).mono hb0.size)
  have hx1 := hx.later hb1
  have lt1 : w.heap.size < (Sort.grow (redrawn (w.alloc (.cells #[.int .i64 31, .slice (some ⟨b, o, none⟩) 3 cap] 26)) dq) osq).heap.size := World.block_lt_of_cell? _ _ e0
  dsimp only at e0 e1 hb1 hx1 lt1 ⊢
  generalize Sort.grow (redrawn (w.alloc (.cells #[.int .i64 31, .slice (some ⟨b, o, none⟩) 3 cap] 26)) dq) osq = w2 at e0 e1 hb1 hx1 lt1 ⊢
  clear cA k0 k1 hb0 hx
  have lt2 : b < w2.heap.size := hx1.lt (by simp)
  have x00 := (hx1 0 _ rfl).1
  have x01 := (hx1 0 _ rfl).2.1
  have x02 := (hx1 0 _ rfl).2.2
  have x10 := (hx1 1 _ rfl).1
  have x11 := (hx1 1 _ rfl).2.1
  have x12 := (hx1 1 _ rfl).2.2
  have x20 := (hx1 2 _ rfl).1
  have x21 := (hx1 2 _ rfl).2.1
  have x22 := (hx1 2 _ rfl).2.2
  simp only [Nat.zero_mul, Nat.add_zero, Nat.one_mul, Nat.reduceMul, Nat.add_assoc, Nat.reduceAdd] at x00 x01 x02 x10 x11 x12 x20 x21 x22
  have hA0 : Below w2.heap.size w2 (w2.alloc (.cells #[.int .i64 k, .int .i64 n, .int .i64 p] 83)) := (Below.refl _ _).alloc (Nat.le_refl _) _
  have fe0 := cell_later hA0 e0
  have fe1 := cell_later hA0 e1
  have fx00 := cell_later hA0 x00
  have fx01 := cell_later hA0 x01
  have fx02 := cell_later hA0 x02
  have fx10 := cell_later hA0 x10
  have fx11 := cell_later hA0 x11
  have fx12 := cell_later hA0 x12
  have fx20 := cell_later hA0 x20
  have fx21 := cell_later hA0 x21
  have fx22 := cell_later hA0 x22
  have fa0 : (w2.alloc (.cells #[.int .i64 k, .int .i64 n, .int .i64 p] 83)).cell? ⟨w2.heap.size, 0, none⟩ = some (.int .i64 k) := by simp
  have fa1 : (w2.alloc (.cells #[.int .i64 k, .int .i64 n, .int .i64 p] 83)).cell? ⟨w2.heap.size, 1, none⟩ = some (.int .i64 n) := by simp
  have fa2 : (w2.alloc (.cells #[.int .i64 k, .int .i64 n, .int .i64 p] 83)).cell? ⟨w2.heap.size, 2, none⟩ = some (.int .i64 p) := by simp
  have hbA : Below w.heap.size w (w2.alloc (.cells #[.int .i64 k, .int .i64 n, .int .i64 p] 83)) := hb1.alloc hb1.size _
  go_wp2_with fail
  refine (h0.out _ hbA).mono ?_
  rintro e w3 ⟨rfl, g3⟩
  have D3 : Below (w2.alloc (.cells #[.int .i64 k, .int .i64 n, .int .i64 p] 83)).heap.size (w2.alloc (.cells #[.int .i64 k, .int .i64 n, .int .i64 p] 83)) w3 := g3
  have z3fe0 := cell_later D3 fe0
  have z3fe1 := cell_later D3 fe1
  have z3fx00 := cell_later D3 fx00
  have z3fx01 := cell_later D3 fx01
  have z3fx02 := cell_later D3 fx02
  have z3fx10 := cell_later D3 fx10
  have z3fx11 := cell_later D3 fx11
  have z3fx12 := cell_later D3 fx12
  have z3fx20 := cell_later D3 fx20
  have z3fx21 := cell_later D3 fx21
  have z3fx22 := cell_later D3 fx22
  have z3fa0 := cell_later D3 fa0
  have z3fa1 := cell_later D3 fa1
  have z3fa2 := cell_later D3 fa2
  clear g3
  cases r0 with
  | true =>
    go_wp2
    go_ret
    exact ⟨by simp, hbA.trans (D3.mono hbA.size)⟩
  | false =>
    go_wp2
    go_ret
    exact ⟨by simp, hbA.trans (D3.mono hbA.size)⟩

set_option maxRecDepth 10000 in
set_option maxHeartbeats 2000000 in
theorem scoil32 (k n p k1 n1 p1 k2 n2 p2 : Int) (r0 : Bool) (b o cap : Nat) (w : World) (hx : Ops w b o [(k, n, p), (k1, n1, p1), (k2, n2, p2)])
    (hA : Hid (∀ W, Calls Tryd.prog 49 #[.int .i64 32] W fun e w' => e = .returned (.int .i64 3) ∧ Below W.heap.size W w'))
    (h0 : Hid (∀ W, Below w.heap.size w W → Calls Tryd.prog 55 #[.agg #[.int .i64 32, .slice (some ⟨b, o, none⟩) 3 cap]] W fun e w' => e = .returned (.bool r0) ∧ Below W.heap.size W w')) :
    Calls Tryd.prog 33 #[.agg #[.int .i64 32, .slice (some ⟨b, o, none⟩) 3 cap]] w fun e w' => e = .returned (.bool (r0)) ∧ Below w.heap.size w w' := by
  have hb0 : Below w.heap.size w (w.alloc (.cells #[.int .i64 32, .slice (some ⟨b, o, none⟩) 3 cap] 26)) := (Below.refl _ _).alloc (Nat.le_refl _) _
  have k0 := cell_regrown (w := (w.alloc (.cells #[.int .i64 32, .slice (some ⟨b, o, none⟩) 3 cap] 26))) (a := ⟨w.heap.size, 0, none⟩) (v := .int .i64 32) (by simp)
  have k1 := cell_regrown (w := (w.alloc (.cells #[.int .i64 32, .slice (some ⟨b, o, none⟩) 3 cap] 26))) (a := ⟨w.heap.size, 1, none⟩) (v := .slice (some ⟨b, o, none⟩) 3 cap) (by simp)
  have cA : ∀ d os, Calls Tryd.prog 49 #[.int .i64 32] (Sort.grow (redrawn (w.alloc (.cells #[.int .i64 32, .slice (some ⟨b, o, none⟩) 3 cap] 26)) d) os) fun e w'' => e = .returned (.int .i64 3) ∧ ∃ p : Regrown, w'' = Sort.grow (redrawn (w.alloc (.cells #[.int .i64 32, .slice (some ⟨b, o, none⟩) 3 cap] 26)) p.d) p.os :=
    fun d os => Calls.regrown_of (hA.out _)
  clear hA
  go_enter Tryd.func33, Tryd.ntmps33
  go_upto_region 1 with fail
  refine wp_region_quiet_below (by kernel_rfl) (by kernel_rfl) ?_
  repeat (go_big_quiet_step (first | exact cA _ _))
  refine wpQuiet_nil ?_
  intro _ hw'
  obtain ⟨⟨dq, osq⟩, hw''⟩ := hw'
  subst hw''
  have e0 := k0 dq osq
  have e1 := k1 dq osq
  have hb1 := hb0.trans ((below_regrown (w.alloc (.cells #[.int .i64 32, .slice (some ⟨b, o, none⟩) 3 cap] 26)) dq osq).mono hb0.size)
  have hx1 := hx.later hb1
  have lt1 : w.heap.size < (Sort.grow (redrawn (w.alloc (.cells #[.int .i64 32, .slice (some ⟨b, o, none⟩) 3 cap] 26)) dq) osq).heap.size := World.block_lt_of_cell? _ _ e0
  dsimp only at e0 e1 hb1 hx1 lt1 ⊢
  generalize Sort.grow (redrawn (w.alloc (.cells #[.int .i64 32, .slice (some ⟨b, o, none⟩) 3 cap] 26)) dq) osq = w2 at e0 e1 hb1 hx1 lt1 ⊢
  clear cA k0 k1 hb0 hx
  have lt2 : b < w2.heap.size := hx1.lt (by simp)
  have x00 := (hx1 0 _ rfl).1
  have x01 := (hx1 0 _ rfl).2.1
  have x02 := (hx1 0 _ rfl).2.2
  have x10 := (hx1 1 _ rfl).1
  have x11 := (hx1 1 _ rfl).2.1
  have x12 := (hx1 1 _ rfl).2.2
  have x20 := (hx1 2 _ rfl).1
  have x21 := (hx1 2 _ rfl).2.1
  have x22 := (hx1 2 _ rfl).2.2
  simp only [Nat.zero_mul, Nat.add_zero, Nat.one_mul, Nat.reduceMul, Nat.add_assoc, Nat.reduceAdd] at x00 x01 x02 x10 x11 x12 x20 x21 x22
  have hA0 : Below w2.heap.size w2 (w2.alloc (.cells #[.int .i64 k, .int .i64 n, .int .i64 p] 83)) := (Below.refl _ _).alloc (Nat.le_refl _) _
  have fe0 := cell_later hA0 e0
  have fe1 := cell_later hA0 e1
  have fx00 := cell_later hA0 x00
  have fx01 := cell_later hA0 x01
  have fx02 := cell_later hA0 x02
  have fx10 := cell_later hA0 x10
  have fx11 := cell_later hA0 x11
  have fx12 := cell_later hA0 x12
  have fx20 := cell_later hA0 x20
  have fx21 := cell_later hA0 x21
  have fx22 := cell_later hA0 x22
  have fa0 : (w2.alloc (.cells #[.int .i64 k, .int .i64 n, .int .i64 p] 83)).cell? ⟨w2.heap.size, 0, none⟩ = some (.int .i64 k) := by simp
  have fa1 : (w2.alloc (.cells #[.int .i64 k, .int .i64 n, .int .i64 p] 83)).cell? ⟨w2.heap.size, 1, none⟩ = some (.int .i64 n) := by simp
  have fa2 : (w2.alloc (.cells #[.int .i64 k, .int .i64 n, .int .i64 p] 83)).cell? ⟨w2.heap.size, 2, none⟩ = some (.int .i64 p) := by simp
  have hbA : Below w.heap.size w (w2.alloc (.cells #[.int .i64 k, .int .i64 n, .int .i64 p] 83)) := hb1.alloc hb1.size _
  go_wp2_with fail
  refine (h0.out _ hbA).mono ?_
  rintro e w3 ⟨rfl, g3⟩
  have D3 : Below (w2.alloc (.cells #[.int .i64 k, .int .i64 n, .int .i64 p] 83)).heap.size (w2.alloc (.cells #[.int .i64 k, .int .i64 n, .int .i64 p] 83)) w3 := g3
  have z3fe0 := cell_later D3 fe0
  have z3fe1 := cell_later D3 fe1
  have z3fx00 := cell_later D3 fx00
  have z3fx01 := cell_later D3 fx01
  have z3fx02 := cell_later D3 fx02
  have z3fx10 := cell_later D3 fx10
  have z3fx11 := cell_later D3 fx11
  have z3fx12 := cell_later D3 fx12
  have z3fx20 := cell_later D3 fx20
  have z3fx21 := cell_later D3 fx21
  have z3fx22 := cell_later D3 fx22
  have z3fa0 := cell_later D3 fa0
  have z3fa1 := cell_later D3 fa1
  have z3fa2 := cell_later D3 fa2
  clear g3
  cases r0 with
  | true =>
    go_wp2
    go_ret
    exact ⟨by simp, hbA.trans (D3.mono hbA.size)⟩
  | false =>
    go_wp2
    go_ret
    exact ⟨by simp, hbA.trans (D3.mono hbA.size)⟩

set_option maxRecDepth 10000 in
set_option maxHeartbeats 2000000 in
theorem scoil33 (k n p k1 n1 p1 k2 n2 p2 : Int) (r0 : Bool) (b o cap : Nat) (w : World) (hx : Ops w b o [(k, n, p), (k1, n1, p1), (k2, n2, p2)])
    (hA : Hid (∀ W, Calls Tryd.prog 49 #[.int .i64 33] W fun e w' => e = .returned (.int .i64 3) ∧ Below W.heap.size W w'))
    (h0 : Hid (∀ W, Below w.heap.size w W → Calls Tryd.prog 55 #[.agg #[.int .i64 33, .slice (some ⟨b, o, none⟩) 3 cap]] W fun e w' => e = .returned (.bool r0) ∧ Below W.heap.size W w')) :
    Calls Tryd.prog 33 #[.agg #[.int .i64 33, .slice (some ⟨b, o, none⟩) 3 cap]] w fun e w' => e = .returned (.bool (r0)) ∧ Below w.heap.size w w' := by
  have hb0 : Below w.heap.size w (w.alloc (.cells #[.int .i64 33, .slice (some ⟨b, o, none⟩) 3 cap] 26)) := (Below.refl _ _).alloc (Nat.le_refl _) _
  have k0 := cell_regrown (w := (w.alloc (.cells #[.int .i64 33, .slice (some ⟨b, o, none⟩) 3 cap] 26))) (a := ⟨w.heap.size, 0, none⟩) (v := .int .i64 33) (by simp)
  have k1 := cell_regrown (w := (w.alloc (.cells #[.int .i64 33, .slice (some ⟨b, o, none⟩) 3 cap] 26))) (a := ⟨w.heap.size, 1, none⟩) (v := .slice (some ⟨b, o, none⟩) 3 cap) (by simp)
  have cA : ∀ d os, Calls Tryd.prog 49 #[.int .i64 33] (Sort.grow (redrawn (w.alloc (.cells #[.int .i64 33, .slice (some ⟨b, o, none⟩) 3 cap] 26)) d) os) fun e w'' => e = .returned (.int .i64 3) ∧ ∃ p : Regrown, w'' = Sort.grow (redrawn (w.alloc (.cells #[.int .i64 33, .slice (some ⟨b, o, none⟩) 3 cap] 26)) p.d) p.os :=
    fun d os => Calls.regrown_of (hA.out _)
  clear hA
  go_enter Tryd.func33, Tryd.ntmps33
  go_upto_region 1 with fail
  refine wp_region_quiet_below (by kernel_rfl) (by kernel_rfl) ?_
  repeat (go_big_quiet_step (first | exact cA _ _))
  refine wpQuiet_nil ?_
  intro _ hw'
  obtain ⟨⟨dq, osq⟩, hw''⟩ := hw'
  subst hw''
  have e0 := k0 dq osq
  have e1 := k1 dq osq
  have hb1 := hb0.trans ((below_regrown (w.alloc (.cells #[.int .i64 33, .slice (some ⟨b, o, none⟩) 3 cap] 26)) dq osq).mono hb0.size)
  have hx1 := hx.later hb1
  have lt1 : w.heap.size < (Sort.grow (redrawn (w.alloc (.cells #[.int .i64 33, .slice (some ⟨b, o, none⟩) 3 cap] 26)) dq) osq).heap.size := World.block_lt_of_cell? _ _ e0
  dsimp only at e0 e1 hb1 hx1 lt1 ⊢
  generalize Sort.grow (redrawn (w.alloc (.cells #[.int .i64 33, .slice (some ⟨b, o, none⟩) 3 cap] 26)) dq) osq = w2 at e0 e1 hb1 hx1 lt1 ⊢
  clear cA k0 k1 hb0 hx
  have lt2 : b < w2.heap.size := hx1.lt (by simp)
  have x00 := (hx1 0 _ rfl).1
  have x01 := (hx1 0 _ rfl).2.1
  have x02 := (hx1 0 _ rfl).2.2
  have x10 := (hx1 1 _ rfl).1
  have x11 := (hx1 1 _ rfl).2.1
  have x12 := (hx1 1 _ rfl).2.2
  have x20 := (hx1 2 _ rfl).1
  have x21 := (hx1 2 _ rfl).2.1
  have x22 := (hx1 2 _ rfl).2.2
  simp only [Nat.zero_mul, Nat.add_zero, Nat.one_mul, Nat.reduceMul, Nat.add_assoc, Nat.reduceAdd] at x00 x01 x02 x10 x11 x12 x20 x21 x22
  have hA0 : Below w2.heap.size w2 (w2.alloc (.cells #[.int .i64 k, .int .i64 n, .int .i64 p] 83)) := (Below.refl _ _).alloc (Nat.le_refl _) _
  have fe0 := cell_later hA0 e0
  have fe1 := cell_later hA0 e1
  have fx00 := cell_later hA0 x00
  have fx01 := cell_later hA0 x01
  have fx02 := cell_later hA0 x02
  have fx10 := cell_later hA0 x10
  have fx11 := cell_later hA0 x11
  have fx12 := cell_later hA0 x12
  have fx20 := cell_later hA0 x20
  have fx21 := cell_later hA0 x21
  have fx22 := cell_later hA0 x22
  have fa0 : (w2.alloc (.cells #[.int .i64 k, .int .i64 n, .int .i64 p] 83)).cell? ⟨w2.heap.size, 0, none⟩ = some (.int .i64 k) := by simp
  have fa1 : (w2.alloc (.cells #[.int .i64 k, .int .i64 n, .int .i64 p] 83)).cell? ⟨w2.heap.size, 1, none⟩ = some (.int .i64 n) := by simp
  have fa2 : (w2.alloc (.cells #[.int .i64 k, .int .i64 n, .int .i64 p] 83)).cell? ⟨w2.heap.size, 2, none⟩ = some (.int .i64 p) := by simp
  have hbA : Below w.heap.size w (w2.alloc (.cells #[.int .i64 k, .int .i64 n, .int .i64 p] 83)) := hb1.alloc hb1.size _
  go_wp2_with fail
  refine (h0.out _ hbA).mono ?_
  rintro e w3 ⟨rfl, g3⟩
  have D3 : Below (w2.alloc (.cells #[.int .i64 k, .int .i64 n, .int .i64 p] 83)).heap.size (w2.alloc (.cells #[.int .i64 k, .int .i64 n, .int .i64 p] 83)) w3 := g3
  have z3fe0 := cell_later D3 fe0
  have z3fe1 := cell_later D3 fe1
  have z3fx00 := cell_later D3 fx00
  have z3fx01 := cell_later D3 fx01
  have z3fx02 := cell_later D3 fx02
  have z3fx10 := cell_later D3 fx10
  have z3fx11 := cell_later D3 fx11
  have z3fx12 := cell_later D3 fx12
  have z3fx20 := cell_later D3 fx20
  have z3fx21 := cell_later D3 fx21
  have z3fx22 := cell_later D3 fx22
  have z3fa0 := cell_later D3 fa0
  have z3fa1 := cell_later D3 fa1
  have z3fa2 := cell_later D3 fa2
  clear g3
  cases r0 with
  | true =>
    go_wp2
    go_ret
    exact ⟨by simp, hbA.trans (D3.mono hbA.size)⟩
  | false =>
    go_wp2
    go_ret
    exact ⟨by simp, hbA.trans (D3.mono hbA.size)⟩

set_option maxRecDepth 10000 in
set_option maxHeartbeats 2000000 in
theorem scoil34 (k n p k1 n1 p1 k2 n2 p2 : Int) (r0 : Bool) (b o cap : Nat) (w : World) (hx : Ops w b o [(k, n, p), (k1, n1, p1), (k2, n2, p2)])
    (hA : Hid (∀ W, Calls Tryd.prog 49 #[.int .i64 34] W fun e w' => e = .returned (.int .i64 3) ∧ Below W.heap.size W w'))
    (h0 : Hid (∀ W, Below w.heap.size w W → Calls Tryd.prog 55 #[.agg #[.int .i64 34, .slice (some ⟨b, o, none⟩) 3 cap]] W fun e w' => e = .returned (.bool r0) ∧ Below W.heap.size W w')) :
    Calls Tryd.prog 33 #[.agg #[.int .i64 34, .slice (some ⟨b, o, none⟩) 3 cap]] w fun e w' => e = .returned (.bool (r0)) ∧ Below w.heap.size w w' := by
  have hb0 : Below w.heap.size w (w.alloc (.cells #[.int .i64 34, .slice (some ⟨b, o, none⟩) 3 cap] 26)) := (Below.refl _ _).alloc (Nat.le_refl _) _
  have k0 := cell_regrown (w := (w.alloc (.cells #[.int .i64 34, .slice (some ⟨b, o, none⟩) 3 cap] 26))) (a := ⟨w.heap.size, 0, none⟩) (v := .int .i64 34) (by simp)
  have k1 := cell_regrown (w := (w.alloc (.cells #[.int .i64 34, .slice (some ⟨b, o, none⟩) 3 cap] 26))) (a := ⟨w.heap.size, 1, none⟩) (v := .slice (some ⟨b, o, none⟩) 3 cap) (by simp)
  have cA : ∀ d os, Calls Tryd.prog 49 #[.int .i64 34] (Sort.grow (redrawn (w.alloc (.cells #[.int .i64 34, .slice (some ⟨b, o, none⟩) 3 cap] 26)) d) os) fun e w'' => e = .returned (.int .i64 3) ∧ ∃ p : Regrown, w'' = Sort.grow (redrawn (w.alloc (.cells #[.int .i64 34, .slice (some ⟨b, o, none⟩) 3 cap] 26)) p.d) p.os :=
    fun d os => Calls.regrown_of (hA.out _)
  clear hA
  go_enter Tryd.func33, Tryd.ntmps33
  go_upto_region 1 with fail
  refine wp_region_quiet_below (by kernel_rfl) (by kernel_rfl) ?_
  repeat (go_big_quiet_step (first | exact cA _ _))
  refine wpQuiet_nil ?_
  intro _ hw'
  obtain ⟨⟨dq, osq⟩, hw''⟩ := hw'
  subst hw''
  have e0 := k0 dq osq
  have e1 := k1 dq osq
  have hb1 := hb0.trans ((below_regrown (w.alloc (.cells #[.int .i64 34, .slice (some ⟨b, o, none⟩) 3 cap] 26)) dq osq).mono hb0.size)
  have hx1 := hx.later hb1
  have lt1 : w.heap.size < (Sort.grow (redrawn (w.alloc (.cells #[.int .i64 34, .slice (some ⟨b, o, none⟩) 3 cap] 26)) dq) osq).heap.size := World.block_lt_of_cell? _ _ e0
  dsimp only at e0 e1 hb1 hx1 lt1 ⊢
  generalize Sort.grow (redrawn (w.alloc (.cells #[.int .i64 34, .slice (some ⟨b, o, none⟩) 3 cap] 26)) dq) osq = w2 at e0 e1 hb1 hx1 lt1 ⊢
  clear cA k0 k1 hb0 hx
  have lt2 : b < w2.heap.size := hx1.lt (by simp)
  have x00 := (hx1 0 _ rfl).1
  have x01 := (hx1 0 _ rfl).2.1
  have x02 := (hx1 0 _ rfl).2.2
  have x10 := (hx1 1 _ rfl).1
  have x11 := (hx1 1 _ rfl).2.1
  have x12 := (hx1 1 _ rfl).2.2
  have x20 := (hx1 2 _ rfl).1
  have x21 := (hx1 2 _ rfl).2.1
  have x22 := (hx1 2 _ rfl).2.2
  simp only [Nat.zero_mul, Nat.add_zero, Nat.one_mul, Nat.reduceMul, Nat.add_assoc, Nat.reduceAdd] at x00 x01 x02 x10 x11 x12 x20 x21 x22
  have hA0 : Below w2.heap.size w2 (w2.alloc (.cells #[.int .i64 k, .int .i64 n, .int .i64 p] 83)) := (Below.refl _ _).alloc (Nat.le_refl _) _
  have fe0 := cell_later hA0 e0
  have fe1 := cell_later hA0 e1
  have fx00 := cell_later hA0 x00
  have fx01 := cell_later hA0 x01
  have fx02 := cell_later hA0 x02
  have fx10 := cell_later hA0 x10
  have fx11 := cell_later hA0 x11
  have fx12 := cell_later hA0 x12
  have fx20 := cell_later hA0 x20
  have fx21 := cell_later hA0 x21
  have fx22 := cell_later hA0 x22
  have fa0 : (w2.alloc (.cells #[.int .i64 k, .int .i64 n, .int .i64 p] 83)).cell? ⟨w2.heap.size, 0, none⟩ = some (.int .i64 k) := by simp
  have fa1 : (w2.alloc (.cells #[.int .i64 k, .int .i64 n, .int .i64 p] 83)).cell? ⟨w2.heap.size, 1, none⟩ = some (.int .i64 n) := by simp
  have fa2 : (w2.alloc (.cells #[.int .i64 k, .int .i64 n, .int .i64 p] 83)).cell? ⟨w2.heap.size, 2, none⟩ = some (.int .i64 p) := by simp
  have hbA : Below w.heap.size w (w2.alloc (.cells #[.int .i64 k, .int .i64 n, .int .i64 p] 83)) := hb1.alloc hb1.size _
  go_wp2_with fail
  refine (h0.out _ hbA).mono ?_
  rintro e w3 ⟨rfl, g3⟩
  have D3 : Below (w2.alloc (.cells #[.int .i64 k, .int .i64 n, .int .i64 p] 83)).heap.size (w2.alloc (.cells #[.int .i64 k, .int .i64 n, .int .i64 p] 83)) w3 := g3
  have z3fe0 := cell_later D3 fe0
  have z3fe1 := cell_later D3 fe1
  have z3fx00 := cell_later D3 fx00
  have z3fx01 := cell_later D3 fx01
  have z3fx02 := cell_later D3 fx02
  have z3fx10 := cell_later D3 fx10
  have z3fx11 := cell_later D3 fx11
  have z3fx12 := cell_later D3 fx12
  have z3fx20 := cell_later D3 fx20
  have z3fx21 := cell_later D3 fx21
  have z3fx22 := cell_later D3 fx22
  have z3fa0 := cell_later D3 fa0
  have z3fa1 := cell_later D3 fa1
  have z3fa2 := cell_later D3 fa2
  clear g3
  cases r0 with
  | true =>
    go_wp2
    go_ret
    exact ⟨by simp, hbA.trans (D3.mono hbA.size)⟩
  | false =>
    go_wp2
    go_ret
    exact ⟨by simp, hbA.trans (D3.mono hbA.size)⟩

set_option maxRecDepth 10000 in
set_option maxHeartbeats 2000000 in
theorem scoil35 (k n p k1 n1 p1 k2 n2 p2 : Int) (r0 : Bool) (b o cap : Nat) (w : World) (hx : Ops w b o [(k, n, p), (k1, n1, p1), (k2, n2, p2)])
    (hA : Hid (∀ W, Calls Tryd.prog 49 #[.int .i64 35] W fun e w' => e = .returned (.int .i64 3) ∧ Below W.heap.size W w'))
    (h0 : Hid (∀ W, Below w.heap.size w W → Calls Tryd.prog 55 #[.agg #[.int .i64 35, .slice (some ⟨b, o, none⟩) 3 cap]] W fun e w' => e = .returned (.bool r0) ∧ Below W.heap.size W w')) :
    Calls Tryd.prog 33 #[.agg #[.int .i64 35, .slice (some ⟨b, o, none⟩) 3 cap]] w fun e w' => e = .returned (.bool (r0)) ∧ Below w.heap.size w w' := by
  have hb0 : Below w.heap.size w (w.alloc (.cells #[.int .i64 35, .slice (some ⟨b, o, none⟩) 3 cap] 26)) := (Below.refl _ _).alloc (Nat.le_refl _) _
  have k0 := cell_regrown (w := (w.alloc (.cells #[.int .i64 35, .slice (some ⟨b, o, none⟩) 3 cap] 26))) (a := ⟨w.heap.size, 0, none⟩) (v := .int .i64 35) (by simp)
  have k1 := cell_regrown (w := (w.alloc (.cells #[.int .i64 35, .slice (some ⟨b, o, none⟩) 3 cap] 26))) (a := ⟨w.heap.size, 1, none⟩) (v := .slice (some ⟨b, o, none⟩) 3 cap) (by simp)
  have cA : ∀ d os, Calls Tryd.prog 49 #[.int .i64 35] (Sort.grow (redrawn (w.alloc (.cells #[.int .i64 35, .slice (some ⟨b, o, none⟩) 3 cap] 26)) d) os) fun e w'' => e = .returned (.int .i64 3) ∧ ∃ p : Regrown, w'' = Sort.grow (redrawn (w.alloc (.cells #[.int .i64 35, .slice (some ⟨b, o, none⟩) 3 cap] 26)) p.d) p.os :=
    fun d os => Calls.regrown_of (hA.out _)
  clear hA
  go_enter Tryd.func33, Tryd.ntmps33
  go_upto_region 1 with fail
  refine wp_region_quiet_below (by kernel_rfl) (by kernel_rfl) ?_
  repeat (go_big_quiet_step (first | exact cA _ _))
  refine wpQuiet_nil ?_
  intro _ hw'
  obtain ⟨⟨dq, osq⟩, hw''⟩ := hw'
  subst hw''
  have e0 := k0 dq osq
  have e1 := k1 dq osq
  have hb1 := hb0.trans ((below_regrown (w.alloc (.cells #[.int .i64 35, .slice (some ⟨b, o, none⟩) 3 cap] 26)) dq osq).mono hb0.size)
  have hx1 := hx.later hb1
  have lt1 : w.heap.size < (Sort.grow (redrawn (w.alloc (.cells #[.int .i64 35, .slice (some ⟨b, o, none⟩) 3 cap] 26)) dq) osq).heap.size := World.block_lt_of_cell? _ _ e0
  dsimp only at e0 e1 hb1 hx1 lt1 ⊢
  generalize Sort.grow (redrawn (w.alloc (.cells #[.int .i64 35, .slice (some ⟨b, o, none⟩) 3 cap] 26)) dq) osq = w2 at e0 e1 hb1 hx1 lt1 ⊢
  clear cA k0 k1 hb0 hx
  have lt2 : b < w2.heap.size := hx1.lt (by simp)
  have x00 := (hx1 0 _ rfl).1
  have x01 := (hx1 0 _ rfl).2.1
  have x02 := (hx1 0 _ rfl).2.2
  have x10 := (hx1 1 _ rfl).1
  have x11 := (hx1 1 _ rfl).2.1
  have x12 := (hx1 1 _ rfl).2.2
  have x20 := (hx1 2 _ rfl).1
  have x21 := (hx1 2 _ rfl).2.1
  have x22 := (hx1 2 _ rfl).2.2
  simp only [Nat.zero_mul, Nat.add_zero, Nat.one_mul, Nat.reduceMul, Nat.add_assoc, Nat.reduceAdd] at x00 x01 x02 x10 x11 x12 x20 x21 x22
  have hA0 : Below w2.heap.size w2 (w2.alloc (.cells #[.int .i64 k, .int .i64 n, .int .i64 p] 83)) := (Below.refl _ _).alloc (Nat.le_refl _) _
  have fe0 := cell_later hA0 e0
  have fe1 := cell_later hA0 e1
  have fx00 := cell_later hA0 x00
  have fx01 := cell_later hA0 x01
  have fx02 := cell_later hA0 x02
  have fx10 := cell_later hA0 x10
  have fx11 := cell_later hA0 x11
  have fx12 := cell_later hA0 x12
  have fx20 := cell_later hA0 x20
  have fx21 := cell_later hA0 x21
  have fx22 := cell_later hA0 x22
  have fa0 : (w2.alloc (.cells #[.int .i64 k, .int .i64 n, .int .i64 p] 83)).cell? ⟨w2.heap.size, 0, none⟩ = some (.int .i64 k) := by simp
  have fa1 : (w2.alloc (.cells #[.int .i64 k, .int .i64 n, .int .i64 p] 83)).cell? ⟨w2.heap.size, 1, none⟩ = some (.int .i64 n) := by simp
  have fa2 : (w2.alloc (.cells #[.int .i64 k, .int .i64 n, .int .i64 p] 83)).cell? ⟨w2.heap.size, 2, none⟩ = some (.int .i64 p) := by simp
  have hbA : Below w.heap.size w (w2.alloc (.cells #[.int .i64 k, .int .i64 n, .int .i64 p] 83)) := hb1.alloc hb1.size _
  go_wp2_with fail
  refine (h0.out _ hbA).mono ?_
  rintro e w3 ⟨rfl, g3⟩
  have D3 : Below (w2.alloc (.cells #[.int .i64 k, .int .i64 n, .int .i64 p] 83)).heap.size (w2.alloc (.cells #[.int .i64 k, .int .i64 n, .int .i64 p] 83)) w3 := g3
  have z3fe0 := cell_later D3 fe0
  have z3fe1 := cell_later D3 fe1
  have z3fx00 := cell_later D3 fx00
  have z3fx01 := cell_later D3 fx01
  have z3fx02 := cell_later D3 fx02
  have z3fx10 := cell_later D3 fx10
  have z3fx11 := cell_later D3 fx11
  have z3fx12 := cell_later D3 fx12
  have z3fx20 := cell_later D3 fx20
  have z3fx21 := cell_later D3 fx21
  have z3fx22 := cell_later D3 fx22
  have z3fa0 := cell_later D3 fa0
  have z3fa1 := cell_later D3 fa1
  have z3fa2 := cell_later D3 fa2
  clear g3
  cases r0 with
  | true =>
    go_wp2
    go_ret
    exact ⟨by simp, hbA.trans (D3.mono hbA.size)⟩
  | false =>
    go_wp2
    go_ret
    exact ⟨by simp, hbA.trans (D3.mono hbA.size)⟩
end Go.Proofs.YtkppcmpdghnmgaaDoor

