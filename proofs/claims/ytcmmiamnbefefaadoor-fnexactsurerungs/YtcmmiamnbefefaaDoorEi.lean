/- l4Kind and l4Calc of the specification; the coils that reckon. -/
import Derived.Test.YtcmmiamnbefefaaDoorEh
namespace Go.Proofs.YtcmmiamnbefefaaDoor
open Go.RowKit Go.Shelf
set_option linter.unusedVariables false

set_option maxHeartbeats 1000000 in
theorem spec_kind (k n p A B : Int) (w : World) :
    Calls Tryd.prog 71 #[.agg #[.int .i64 k, .int .i64 n, .int .i64 p], .int .i64 A, .int .i64 B] w fun e w' => e = .returned (.bool (okA k n p && (k == A || k == B))) ∧ Below w.heap.size w w' := by
  have HK : Hid (∀ W, Calls Tryd.prog 68 #[.agg #[.int .i64 k, .int .i64 n, .int .i64 p]] W fun e w' => e = .returned (.bool (okA k n p)) ∧ Below W.heap.size W w') := fun W => spec_ok k n p W
  cases ho : okA k n p with
  | false =>
    rw [ho] at HK
    go_enter Tryd.func71, Tryd.ntmps71
    go_wp2_with fail
    refine (HK.out _).mono ?_
    rintro e w1 ⟨rfl, g1⟩
    have b1 : Below w.heap.size w w1 := ((Below.refl _ _).alloc (Nat.le_refl _) _).trans (g1.mono (by simp))
    clear g1
    go_wp2
    go_ret
    exact ⟨by simp, b1⟩
  | true =>
    rw [ho] at HK
    cases hA : (k == A) with
    | true =>
      go_enter Tryd.func71, Tryd.ntmps71
      go_wp2_with fail
      refine (HK.out _).mono ?_
      rintro e w1 ⟨rfl, g1⟩
      have c0 : w1.cell? ⟨w.heap.size, 0, none⟩ = some (.int .i64 k) := cell_later g1 (by simp)
      have b1 : Below w.heap.size w w1 := ((Below.refl _ _).alloc (Nat.le_refl _) _).trans (g1.mono (by simp))
      clear g1
      go_wp2
      go_ret
      exact ⟨by simp, b1⟩
    | false =>
      go_enter Tryd.func71, Tryd.ntmps71
      go_wp2_with fail
      refine (HK.out _).mono ?_
      rintro e w1 ⟨rfl, g1⟩
      have c0 : w1.cell? ⟨w.heap.size, 0, none⟩ = some (.int .i64 k) := cell_later g1 (by simp)
      have b1 : Below w.heap.size w w1 := ((Below.refl _ _).alloc (Nat.le_refl _) _).trans (g1.mono (by simp))
      clear g1
      go_wp2
      go_ret
      exact ⟨by simp, b1⟩

/-- The operands behind the first are numbers of one sort. -/
def calcR (op : Int) (m : Nat) (X : Nat → Arg) : Bool :=
  (okA (X 0).1 (X 0).2.1 (X 0).2.2 && ((X 0).1 == 9 || (X 0).1 == 10)) && ((List.range (m - 1)).all fun j => if (X 0).1 == 9 then okA (X (j + 1)).1 (X (j + 1)).2.1 (X (j + 1)).2.2 && kW (X (j + 1)).1 else okA (X (j + 1)).1 (X (j + 1)).2.1 (X (j + 1)).2.2 && kR (X (j + 1)).1) && ((X 0).1 == 9 || !(op == 35))

set_option maxRecDepth 10000 in
set_option maxHeartbeats 2000000 in
theorem spec_calc (op : Int) (m : Nat) (hm2 : 2 ≤ m) (hm3 : m ≤ 3) (X : Nat → Arg) (b o cap : Nat) (w : World)
    (hX : ∀ n, n < m → w.cell? ⟨b, o + n * 3, none⟩ = some (.int .i64 (X n).1) ∧ w.cell? ⟨b, o + n * 3 + 1, none⟩ = some (.int .i64 (X n).2.1) ∧ w.cell? ⟨b, o + n * 3 + 2, none⟩ = some (.int .i64 (X n).2.2)) :
    Calls Tryd.prog 72 #[.agg #[.int .i64 op, .slice (some ⟨b, o, none⟩) m cap]] w fun e w' => e = .returned (.bool (calcR op m X)) ∧ Below w.heap.size w w' := by
  have HK : Hid (∀ W, Calls Tryd.prog 71 #[.agg #[.int .i64 (X 0).1, .int .i64 (X 0).2.1, .int .i64 (X 0).2.2], .int .i64 9, .int .i64 10] W fun e w' => e = .returned (.bool (okA (X 0).1 (X 0).2.1 (X 0).2.2 && ((X 0).1 == 9 || (X 0).1 == 10))) ∧ Below W.heap.size W w') := fun W => spec_kind _ _ _ 9 10 W
  have bl : b < w.heap.size := World.block_lt_of_cell? _ _ (hX 0 (by omega)).1
  have x0 := (hX 0 (by omega)).1
  have x1 := (hX 0 (by omega)).2.1
  have x2 := (hX 0 (by omega)).2.2
  simp only [Nat.zero_mul, Nat.add_zero] at x0 x1 x2
  obtain ⟨R, HR⟩ : ∃ R, Hid (R = calcR op m X) := ⟨_, Eq.refl (calcR op m X)⟩
  rw [← HR.out]
  generalize hr0 : (okA (X 0).1 (X 0).2.1 (X 0).2.2 && ((X 0).1 == 9 || (X 0).1 == 10)) = r0 at HK
  have hm0 : (0 : Int) < (m : Int) := by omega
  have h0 : ∀ ob, (w.alloc ob).cell? ⟨b, o, none⟩ = some (.int .i64 (X 0).1) := fun ob => (World.cell?_alloc_past _ _ _ bl).trans x0
  have h1 : ∀ ob, (w.alloc ob).cell? ⟨b, o + 1, none⟩ = some (.int .i64 (X 0).2.1) := fun ob => (World.cell?_alloc_past _ _ _ bl).trans x1
  have h2 : ∀ ob, (w.alloc ob).cell? ⟨b, o + 2, none⟩ = some (.int .i64 (X 0).2.2) := fun ob => (World.cell?_alloc_past _ _ _ bl).trans x2
  clear x0 x1 x2
  cases r0 with
  | false =>
    go_enter Tryd.func72, Tryd.ntmps72
    go_wp2_with fail
    refine (HK.out _).mono ?_
    rintro e w1 ⟨rfl, g1⟩
    have b1 : Below w.heap.size w w1 := ((Below.refl _ _).alloc (Nat.le_refl _) _).trans (g1.mono (by simp))
    clear g1
    go_wp2
    go_ret
    refine ⟨?_, b1⟩
    rw [HR.out]
    unfold calcR
    rw [hr0]
    rfl
  | true =>
    go_enter Tryd.func72, Tryd.ntmps72
    go_wp2_with fail
    refine (HK.out _).mono ?_
    rintro e w1 ⟨rfl, g1⟩
    have q0 := cell_later g1 (h0 _)
    have q1 : w1.cell? ⟨w.heap.size, 0, none⟩ = some (.int .i64 op) := cell_later g1 (by simp)
    have q2 : w1.cell? ⟨w.heap.size, 1, none⟩ = some (.slice (some ⟨b, o, none⟩) m cap) := cell_later g1 (by simp)
    have hWE : Below w.heap.size w (w.alloc (.cells #[.int .i64 op, .slice (some ⟨b, o, none⟩) m cap] 48)) := (Below.refl _ _).alloc (Nat.le_refl _) _
    clear h0 h1 h2 HK
    cases hw : ((X 0).1 == 9) with
    | true =>
      have HQ : Hid (∀ n W, Calls Tryd.prog 69 #[.agg #[.int .i64 (X n).1, .int .i64 (X n).2.1, .int .i64 (X n).2.2]] W fun e w' => e = .returned (.bool (okA (X n).1 (X n).2.1 (X n).2.2 && kW (X n).1)) ∧ Below W.heap.size W w') := fun n W => spec_iswhole _ _ _ W
      go_wp2
      go_loopg [4] (m - 1) (fun g i wr => ∃ n : Nat, n + g = m ∧ 1 ≤ n ∧ i = .int .i64 n ∧ Below (w.alloc (.cells #[.int .i64 op, .slice (some ⟨b, o, none⟩) m cap] 48)).heap.size (w.alloc (.cells #[.int .i64 op, .slice (some ⟨b, o, none⟩) m cap] 48)) wr ∧ ∀ j, 1 ≤ j → j < n → (okA (X j).1 (X j).2.1 (X j).2.2 && kW (X j).1) = true)
      case atStart => exact ⟨1, by omega, by omega, rfl, g1, fun j h1 h2 => by omega⟩
      case round =>
        obtain ⟨n, hn, hn1, rfl, hb, hp⟩ := hrel
        have hbw : Below w.heap.size w wr := hWE.trans (hb.mono hWE.size)
        have e0 : wr.cell? ⟨w.heap.size, 0, none⟩ = some (.int .i64 op) := cell_later hb (by simp)
        have e1 : wr.cell? ⟨w.heap.size, 1, none⟩ = some (.slice (some ⟨b, o, none⟩) m cap) := cell_later hb (by simp)
        by_cases hlt : n < m
        · have y0 : wr.cell? ⟨b, o + n * 3, none⟩ = some (.int .i64 (X n).1) := (hbw.cell (p := ⟨b, o + n * 3, none⟩) bl).trans (hX n hlt).1
          have y1 : wr.cell? ⟨b, o + n * 3 + 1, none⟩ = some (.int .i64 (X n).2.1) := (hbw.cell (p := ⟨b, o + n * 3 + 1, none⟩) bl).trans (hX n hlt).2.1
          have y2 : wr.cell? ⟨b, o + n * 3 + 2, none⟩ = some (.int .i64 (X n).2.2) := (hbw.cell (p := ⟨b, o + n * 3 + 2, none⟩) bl).trans (hX n hlt).2.2
          have i1 : (n : Int) < (m : Int) := by omega
          have i3 : (0 : Int) ≤ (n : Int) := by omega
          have HQn : Hid (∀ W, Calls Tryd.prog 69 #[.agg #[.int .i64 (X n).1, .int .i64 (X n).2.1, .int .i64 (X n).2.2]] W fun e w' => e = .returned (.bool (okA (X n).1 (X n).2.1 (X n).2.2 && kW (X n).1)) ∧ Below W.heap.size W w') := fun W => HQ.out n W
          generalize hA : (X n).1 = A1 at y0 HQn
          generalize hB : (X n).2.1 = A2 at y1 HQn
          generalize hC : (X n).2.2 = A3 at y2 HQn
          generalize hq : (okA A1 A2 A3 && kW A1) = q at HQn
          go_wp2_with fail
          refine (HQn.out _).mono ?_
          rintro e w4 ⟨rfl, g4⟩
          have D4 := hb.trans (g4.mono hb.size)
          have b4 : Below w.heap.size w w4 := hWE.trans (D4.mono hWE.size)
          have z0 := cell_later g4 e0
          have z1 := cell_later g4 e1
          clear g4
          cases q with
          | true =>
            go_wp2
            go_roundg (gk - 1)
            case measure => omega
            case rel =>
              refine ⟨n + 1, by omega, by omega, by simp, D4, ?_⟩
              intro j h1 h2
              by_cases hjn : j = n
              · rw [hjn, hA, hB, hC]; exact hq
              · exact hp j h1 (by omega)
          | false =>
            go_wp2
            go_ret
            refine ⟨?_, b4⟩
            rw [HR.out]
            unfold calcR
            rw [hr0, hw]
            have : ((List.range (m - 1)).all fun j => if true = true then okA (X (j + 1)).1 (X (j + 1)).2.1 (X (j + 1)).2.2 && kW (X (j + 1)).1 else okA (X (j + 1)).1 (X (j + 1)).2.1 (X (j + 1)).2.2 && kR (X (j + 1)).1) = false := by
              rw [List.all_eq_false]
              refine ⟨n - 1, List.mem_range.2 (by omega), ?_⟩
              rw [show n - 1 + 1 = n by omega, hA, hB, hC]
              simp [hq]
            rw [this]
            simp
        · have i1 : ¬ ((n : Int) < (m : Int)) := by omega
          have ea : ((List.range (m - 1)).all fun j => if true = true then okA (X (j + 1)).1 (X (j + 1)).2.1 (X (j + 1)).2.2 && kW (X (j + 1)).1 else okA (X (j + 1)).1 (X (j + 1)).2.1 (X (j + 1)).2.2 && kR (X (j + 1)).1) = true := by
            rw [List.all_eq_true]
            intro j hj
            have := hp (j + 1) (by omega) (by have := List.mem_range.1 hj; omega)
            simpa using this
          have eR : R = (true || !(op == 35)) := by
            rw [HR.out]
            unfold calcR
            rw [hr0, hw, ea]
            rfl
          go_wp2
          go_ret
          refine ⟨?_, hbw⟩
          try rw [eR]
          first | rfl | simp [bne]
    | false =>
      have HQ : Hid (∀ n W, Calls Tryd.prog 70 #[.agg #[.int .i64 (X n).1, .int .i64 (X n).2.1, .int .i64 (X n).2.2]] W fun e w' => e = .returned (.bool (okA (X n).1 (X n).2.1 (X n).2.2 && kR (X n).1)) ∧ Below W.heap.size W w') := fun n W => spec_isreal _ _ _ W
      go_wp2
      go_loopg [4] (m - 1) (fun g i wr => ∃ n : Nat, n + g = m ∧ 1 ≤ n ∧ i = .int .i64 n ∧ Below (w.alloc (.cells #[.int .i64 op, .slice (some ⟨b, o, none⟩) m cap] 48)).heap.size (w.alloc (.cells #[.int .i64 op, .slice (some ⟨b, o, none⟩) m cap] 48)) wr ∧ ∀ j, 1 ≤ j → j < n → (okA (X j).1 (X j).2.1 (X j).2.2 && kR (X j).1) = true)
      case atStart => exact ⟨1, by omega, by omega, rfl, g1, fun j h1 h2 => by omega⟩
      case round =>
        obtain ⟨n, hn, hn1, rfl, hb, hp⟩ := hrel
        have hbw : Below w.heap.size w wr := hWE.trans (hb.mono hWE.size)
        have e0 : wr.cell? ⟨w.heap.size, 0, none⟩ = some (.int .i64 op) := cell_later hb (by simp)
        have e1 : wr.cell? ⟨w.heap.size, 1, none⟩ = some (.slice (some ⟨b, o, none⟩) m cap) := cell_later hb (by simp)
        by_cases hlt : n < m
        · have y0 : wr.cell? ⟨b, o + n * 3, none⟩ = some (.int .i64 (X n).1) := (hbw.cell (p := ⟨b, o + n * 3, none⟩) bl).trans (hX n hlt).1
          have y1 : wr.cell? ⟨b, o + n * 3 + 1, none⟩ = some (.int .i64 (X n).2.1) := (hbw.cell (p := ⟨b, o + n * 3 + 1, none⟩) bl).trans (hX n hlt).2.1
          have y2 : wr.cell? ⟨b, o + n * 3 + 2, none⟩ = some (.int .i64 (X n).2.2) := (hbw.cell (p := ⟨b, o + n * 3 + 2, none⟩) bl).trans (hX n hlt).2.2
          have i1 : (n : Int) < (m : Int) := by omega
          have i3 : (0 : Int) ≤ (n : Int) := by omega
          have HQn : Hid (∀ W, Calls Tryd.prog 70 #[.agg #[.int .i64 (X n).1, .int .i64 (X n).2.1, .int .i64 (X n).2.2]] W fun e w' => e = .returned (.bool (okA (X n).1 (X n).2.1 (X n).2.2 && kR (X n).1)) ∧ Below W.heap.size W w') := fun W => HQ.out n W
          generalize hA : (X n).1 = A1 at y0 HQn
          generalize hB : (X n).2.1 = A2 at y1 HQn
          generalize hC : (X n).2.2 = A3 at y2 HQn
          generalize hq : (okA A1 A2 A3 && kR A1) = q at HQn
          go_wp2_with fail
          refine (HQn.out _).mono ?_
          rintro e w4 ⟨rfl, g4⟩
          have D4 := hb.trans (g4.mono hb.size)
          have b4 : Below w.heap.size w w4 := hWE.trans (D4.mono hWE.size)
          have z0 := cell_later g4 e0
          have z1 := cell_later g4 e1
          clear g4
          cases q with
          | true =>
            go_wp2
            go_roundg (gk - 1)
            case measure => omega
            case rel =>
              refine ⟨n + 1, by omega, by omega, by simp, D4, ?_⟩
              intro j h1 h2
              by_cases hjn : j = n
              · rw [hjn, hA, hB, hC]; exact hq
              · exact hp j h1 (by omega)
          | false =>
            go_wp2
            go_ret
            refine ⟨?_, b4⟩
            rw [HR.out]
            unfold calcR
            rw [hr0, hw]
            have : ((List.range (m - 1)).all fun j => if false = true then okA (X (j + 1)).1 (X (j + 1)).2.1 (X (j + 1)).2.2 && kW (X (j + 1)).1 else okA (X (j + 1)).1 (X (j + 1)).2.1 (X (j + 1)).2.2 && kR (X (j + 1)).1) = false := by
              rw [List.all_eq_false]
              refine ⟨n - 1, List.mem_range.2 (by omega), ?_⟩
              rw [show n - 1 + 1 = n by omega, hA, hB, hC]
              simp [hq]
            rw [this]
            simp
        · have i1 : ¬ ((n : Int) < (m : Int)) := by omega
          have ea : ((List.range (m - 1)).all fun j => if false = true then okA (X (j + 1)).1 (X (j + 1)).2.1 (X (j + 1)).2.2 && kW (X (j + 1)).1 else okA (X (j + 1)).1 (X (j + 1)).2.1 (X (j + 1)).2.2 && kR (X (j + 1)).1) = true := by
            rw [List.all_eq_true]
            intro j hj
            have := hp (j + 1) (by omega) (by have := List.mem_range.1 hj; omega)
            simpa using this
          have eR : R = (false || !(op == 35)) := by
            rw [HR.out]
            unfold calcR
            rw [hr0, hw, ea]
            rfl
          go_wp2
          go_ret
          refine ⟨?_, hbw⟩
          try rw [eR]
          first | rfl | simp [bne]
end Go.Proofs.YtcmmiamnbefefaaDoor

