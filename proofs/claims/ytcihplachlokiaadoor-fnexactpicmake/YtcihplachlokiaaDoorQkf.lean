/- Operands as bytes: the program. -/
import Derived.Test.YtcihplachlokiaaDoorQke
namespace Go.Proofs.YtcihplachlokiaaDoor
open Go.RowKit Go.Shelf
set_option linter.unusedVariables false
set_option linter.unusedSimpArgs false

/-- The bytes of an operand. -/
def opdL (x : ArgT) : List Nat := nbL x.1 1 ++ nbL x.2.1 (wdT x.1) ++ (if x.1 = 12 then nbL x.2.2 1 else [])
theorem wd_fit {x : ArgT} (h : fitA x = true) : wdT x.1 = 1 ∨ wdT x.1 = 2 ∨ wdT x.1 = 4 := by
  unfold fitA fitB at h
  unfold wdT
  by_cases h1 : x.1 < 1 ∨ 13 < x.1
  · rw [if_pos h1] at h; cases h
  · rw [if_neg h1]
    by_cases h2 : x.1 = 12
    · rw [if_pos h2]; omega
    · rw [if_neg h2]
      by_cases h3 : x.1 = 11
      · rw [if_pos h3]; omega
      · rw [if_neg h3]; omega
theorem num_i (m : Nat) (hm : m = 1 ∨ m = 2 ∨ m = 4) (base : Nat) (v : Value) (l : List Nat) (n : Int) (w : World) (hb : base ≤ w.heap.size) (hl : l.length ≤ 1000000) (ho : OwL w base v l) :
    Calls Tryd.prog 39 #[v, .int .i64 n, .int .i64 (m : Nat)] w fun e w' => ∃ v', e = .returned v' ∧ OwL w' base v' (l ++ nbL n m) ∧ Gr w v w' v' := by
  rcases hm with rfl | rfl | rfl
  · exact num1_i base v l n w hb hl ho
  · exact num2_i base v l n w hb hl ho
  · exact num4_i base v l n w hb hl ho

/-- A box beside the row that grows. -/
def BoxR (B : Nat) (o : Obj) (v : Value) (W : World) : Prop := W.heap[B]? = some o ∧ v.ownBlock ≠ some B
theorem BoxR.lt {B : Nat} {o : Obj} {v : Value} {W : World} (h : BoxR B o v W) : B < W.heap.size := (Array.getElem?_eq_some_iff.1 h.1).1
theorem BoxR.gr {B : Nat} {o : Obj} {v v' : Value} {W W' : World} (h : BoxR B o v W) (g : Gr W v W' v') : BoxR B o v' W' := by
  have hl := h.lt
  refine ⟨(g.1.block B hl (fun e => h.2 e.symm)).trans h.1, fun e => ?_⟩
  rcases g.2 B e with h' | h'
  · exact h.2 h'
  · omega
theorem BoxR.later {B : Nat} {o : Obj} {v : Value} {W W' : World} (h : BoxR B o v W) (g : Below W.heap.size W W') : BoxR B o v W' := ⟨(g.block B h.lt).trans h.1, h.2⟩
theorem BoxR.new (w : World) (o : Obj) {base : Nat} {v : Value} {l : List Nat} (h : OwL w base v l) : BoxR w.heap.size (match o with | .cells c t f => .cells c t f | x => x) v (w.alloc o) := by
  refine ⟨?_, fun e => ?_⟩
  · rw [heap_alloc_last]; cases o <;> rfl
  · have := (h.own _ e).2; omega
theorem cellsQ3 {W : World} {B : Nat} {x y z : Value} {t : TypeId} (h : W.heap[B]? = some (.cells #[x, y, z] t (0, 0))) : W.cell? ⟨B, 0, none⟩ = some x ∧ W.cell? ⟨B, 1, none⟩ = some y ∧ W.cell? ⟨B, 2, none⟩ = some z :=
  ⟨(cell_of_row _ _ _ _ _ _ h).trans rfl, (cell_of_row _ _ _ _ _ _ h).trans rfl, (cell_of_row _ _ _ _ _ _ h).trans rfl⟩

set_option maxRecDepth 10000 in
set_option maxHeartbeats 4000000 in
theorem opd_i (base : Nat) (v : Value) (l : List Nat) (k n p : Int) (w : World) (hb : base ≤ w.heap.size) (hl : l.length ≤ 900000) (ho : OwL w base v l) (hf : fitA (k, n, p) = true) :
    Calls Tryd.prog 61 #[v, .agg #[.int .i64 k, .int .i64 n, .int .i64 p]] w fun e w' => ∃ v', e = .returned v' ∧ OwL w' base v' (l ++ opdL (k, n, p)) ∧ Gr w v w' v' := by
  have hwd := wd_fit hf
  have HW : Hid (∀ W, Calls Tryd.prog 76 #[.int .i64 k] W fun e w' => e = .returned (.int .i64 (wdT k : Nat)) ∧ W = w') := fun W => wd_i k W
  have HN1 : Hid (∀ (v : Value) (l : List Nat) (n : Int) W, base ≤ W.heap.size → l.length ≤ 1000000 → OwL W base v l → Calls Tryd.prog 39 #[v, .int .i64 n, .int .i64 1] W fun e w' => ∃ v', e = .returned v' ∧ OwL w' base v' (l ++ nbL n 1) ∧ Gr W v w' v') := fun v l n W h1 h2 h3 => num1_i base v l n W h1 h2 h3
  have HNm : Hid (∀ (v : Value) (l : List Nat) (n : Int) W, base ≤ W.heap.size → l.length ≤ 1000000 → OwL W base v l → Calls Tryd.prog 39 #[v, .int .i64 n, .int .i64 (wdT k : Nat)] W fun e w' => ∃ v', e = .returned v' ∧ OwL w' base v' (l ++ nbL n (wdT k)) ∧ Gr W v w' v') := fun v l n W h1 h2 h3 => num_i (wdT k) hwd base v l n W h1 h2 h3
  have HO0 : Hid (OwL w base v l ∧ base ≤ w.heap.size ∧ l.length ≤ 900000) := ⟨ho, hb, hl⟩
  have B0 : Hid (BoxR w.heap.size (.cells #[.int .i64 k, .int .i64 n, .int .i64 p] 87 (0, 0)) v (w.alloc (.cells #[.int .i64 k, .int .i64 n, .int .i64 p] 87))) := BoxR.new w _ ho
  have bA : Hid (Below w.heap.size w (w.alloc (.cells #[.int .i64 k, .int .i64 n, .int .i64 p] 87))) := (Below.refl _ _).alloc (Nat.le_refl _) _
  have HL : Hid (l ++ opdL (k, n, p) = (l ++ nbL k 1) ++ nbL n (wdT k) ++ (if k = 12 then nbL p 1 else [])) := (by unfold opdL; simp only [List.append_assoc] : l ++ opdL (k, n, p) = (l ++ nbL k 1) ++ nbL n (wdT k) ++ (if k = 12 then nbL p 1 else []))
  have HLen : Hid ((l ++ nbL k 1).length = l.length + 1 ∧ ((l ++ nbL k 1) ++ nbL n (wdT k)).length ≤ l.length + 5) := ⟨by rw [List.length_append, nbL_len], by rw [List.length_append, List.length_append, nbL_len, nbL_len]; rcases hwd with h | h | h <;> simp only [] at h <;> rw [h] <;> omega⟩
  obtain ⟨LL, HLL⟩ : ∃ LL, Hid (LL = l ++ opdL (k, n, p)) := ⟨_, rfl⟩
  rw [← HLL.out]
  obtain ⟨M, HM⟩ : ∃ M : Int, Hid (M = (wdT k : Nat)) := ⟨_, rfl⟩
  rw [← HM.out] at HW HNm
  clear ho hb hl hf hwd
  go_enter Tryd.func61, Tryd.ntmps61
  go_upto_region 1 with fail
  generalize (w.alloc (.cells #[.int .i64 k, .int .i64 n, .int .i64 p] 87)) = W0 at B0 bA ⊢
  obtain ⟨p0, p1, p2⟩ := cellsQ3 B0.out.1
  go_wp2_with fail
  refine (HN1.out v l k W0 (Nat.le_trans HO0.out.2.1 bA.out.size) (by have := HO0.out.2.2; omega) (HO0.out.1.later bA.out)).mono ?_
  rintro e w1 ⟨v1, rfl, h1, g1⟩
  have B1 : Hid (BoxR w.heap.size (.cells #[.int .i64 k, .int .i64 n, .int .i64 p] 87 (0, 0)) v1 w1) := B0.out.gr g1
  have G1 : Hid (Gr w v w1 v1 ∧ base ≤ w1.heap.size ∧ OwL w1 base v1 (l ++ nbL k 1)) := ⟨Gr.pre bA.out g1, Nat.le_trans (Nat.le_trans HO0.out.2.1 bA.out.size) g1.1.size, h1⟩
  clear g1 h1 p0 p1 p2 B0 bA
  have HNx : Hid (∀ W, Below w1.heap.size w1 W → Calls Tryd.prog 39 #[v1, .int .i64 n, .int .i64 M] W fun e w' => ∃ v', e = .returned v' ∧ OwL w' base v' (l ++ nbL k 1 ++ nbL n (wdT k)) ∧ Gr w1 v1 w' v') := fun W g => (HNm.out v1 _ n W (Nat.le_trans G1.out.2.1 g.size) (by have := HLen.out.1; have := HO0.out.2.2; omega) (G1.out.2.2.later g)).mono fun e w' ⟨v', a, b, c⟩ => ⟨v', a, b, Gr.pre g c⟩
  obtain ⟨p0, p1, p2⟩ := cellsQ3 B1.out.1
  clear HNm
  go_upto_region 2 with fail
  go_region_with (first
    | (go_at_call 76; refine (HW.out _).mono ?_; rintro e w2 ⟨rfl, rfl⟩)
    | (go_at_call 39; refine (HNx.out _ (by first | exact Below.refl _ _ | exact (Below.refl _ _).drew)).mono ?_; rintro e w2 ⟨v2, rfl, h2, g2⟩))
  all_goals
    have B2 : Hid (BoxR w.heap.size (.cells #[.int .i64 k, .int .i64 n, .int .i64 p] 87 (0, 0)) v2 w2) := B1.out.gr g2
    have G2 : Hid (Gr w v w2 v2 ∧ base ≤ w2.heap.size ∧ OwL w2 base v2 (l ++ nbL k 1 ++ nbL n (wdT k))) := ⟨G1.out.1.trans g2, Nat.le_trans G1.out.2.1 g2.1.size, h2⟩
    obtain ⟨p0, p1, p2⟩ := cellsQ3 B2.out.1
    clear g2 h2 G1 B1 HNx HW
    by_cases h12 : k = 12
    · subst h12
      go_wp2_with fail
      refine (HN1.out v2 _ p w2 G2.out.2.1 (by have := HLen.out.2; have := HO0.out.2.2; omega) G2.out.2.2).mono ?_
      rintro e w3 ⟨v3, rfl, h3, g3⟩
      have G3 : Hid (OwL w3 base v3 LL ∧ Gr w v w3 v3) := ⟨by rw [HLL.out, HL.out]; first | (rw [if_pos rfl]; exact h3) | (rw [if_pos trivial]; exact h3), G2.out.1.trans g3⟩
      clear g3 h3 p0 p1 p2 B2 G2 HN1
      go_wp2
      go_ret
      exact ⟨_, rfl, G3.out⟩
    · have e1 : (k == 12) = false := by simpa using h12
      have G3 : Hid (OwL w2 base v2 LL ∧ Gr w v w2 v2) := ⟨by rw [HLL.out, HL.out, if_neg h12, List.append_nil]; exact G2.out.2.2, G2.out.1⟩
      clear h12
      go_wp2
      go_ret
      exact ⟨_, rfl, G3.out⟩
end Go.Proofs.YtcihplachlokiaaDoor
