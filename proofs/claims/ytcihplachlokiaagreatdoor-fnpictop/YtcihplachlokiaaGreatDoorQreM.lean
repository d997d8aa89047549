/- Instructions read: the program's inst. -/
import Derived.Test.YtcihplachlokiaaGreatDoorQrbM
import Derived.Test.YtcihplachlokiaaGreatDoorCfa
import Derived.Deep.RegionLaw
import Derived.RegionDies
namespace Go.Proofs.YtcihplachlokiaaGreatDoor
open Go.RowKit Go.Shelf
set_option linter.unusedVariables false
set_option linter.unusedSimpArgs false

/-- So many operands off the rest. -/
def argsM : Nat → List Nat → Int ⊕ (List ArgT × List Nat)
  | 0, r => .inr ([], r)
  | n + 1, r =>
    match argM r with
    | .inl c => .inl c
    | .inr (x, r1) =>
      match argsM n r1 with
      | .inl c => .inl c
      | .inr (xs, r2) => .inr (x :: xs, r2)
def instM (r : List Nat) : Int ⊕ (InstT × List Nat) :=
  match numM 1 r with
  | none => .inl 6
  | some (c, r1) =>
    if knB c = false then .inl 2 else
    if hasB c = false then .inr (⟨c, ⟨0, []⟩⟩, r1) else
    match numM 1 r1 with
    | none => .inl 6
    | some (o, r2) =>
      if opB c o = false then .inl 2 else
      match argsM (arN o).toNat r2 with
      | .inl e => .inl e
      | .inr (xs, r3) => .inr (⟨c, ⟨o, xs⟩⟩, r3)
theorem argM_sub {r r' : List Nat} {x : ArgT} (h : argM r = .inr (x, r')) : ∀ b ∈ r', b ∈ r := by
  unfold argM at h
  cases h1 : numM 1 r with
  | none => rw [h1] at h; cases h
  | some q1 =>
    obtain ⟨k, r1⟩ := q1
    rw [h1] at h
    simp only [] at h
    by_cases hw : wdT k = 0
    · rw [if_pos hw] at h; cases h
    · rw [if_neg hw] at h
      cases h2 : numM (wdT k) r1 with
      | none => rw [h2] at h; cases h
      | some q2 =>
        obtain ⟨n, r2⟩ := q2
        rw [h2] at h
        simp only [] at h
        by_cases h12 : k = 12
        · rw [if_pos h12] at h
          cases h3 : numM 1 r2 with
          | none => rw [h3] at h; cases h
          | some q3 =>
            obtain ⟨p, r3⟩ := q3
            rw [h3] at h
            cases h
            exact fun b hb => numM_sub h1 b (numM_sub h2 b (numM_sub h3 b hb))
        · rw [if_neg h12] at h
          cases h
          exact fun b hb => numM_sub h1 b (numM_sub h2 b hb)

/-- Where the reading of operands stands: the reader, the two boxes, the row so far. -/
def IS (w : World) (R B3 : Nat) (c o : Int) (v : Value) (xs : List ArgT) (r : List Nat) (at' : Int) (W : World) : Prop :=
  Rd R r at' W ∧ R < w.heap.size ∧ w.heap.size < B3 ∧ W.heap[w.heap.size]? = some (.cells #[.int .i64 0, .int .i64 0, .slice none 0 0] 44 (0, 0)) ∧ W.heap[B3]? = some (.cells #[.int .i64 c, .int .i64 o, v] 44 (0, 0)) ∧
  W.ownsRow (B3 + 1) 72 3 v xs.length (avs xs) ∧ w.grownBy W (some R) ∧ B3 < W.heap.size
theorem IS.read {w W W' : World} {R B3 : Nat} {c o : Int} {v : Value} {xs : List ArgT} {r r' : List Nat} {at' : Int} (h : IS w R B3 c o v xs r at' W) (d : Rd R r' at' W') (g : W.grownBy W' (some R)) : IS w R B3 c o v xs r' at' W' := by
  obtain ⟨h1, h2, h3, h4, h5, h6, h7, h8⟩ := h
  refine ⟨d, h2, h3, gb_row g h4 (by omega), gb_row g h5 (by omega), World.ownsRow.kept (row := some R) h6 g (.inr fun e => ?_), gb_step18 h7 g, Nat.lt_of_lt_of_le h8 g.size⟩
  have := (World.ownsRow.lt h6 R e).1
  omega
theorem IS.later {w W W' : World} {R B3 : Nat} {c o : Int} {v : Value} {xs : List ArgT} {r : List Nat} {at' : Int} (h : IS w R B3 c o v xs r at' W) (g : Below W.heap.size W W') : IS w R B3 c o v xs r at' W' :=
  h.read (h.1.later g) ⟨g.os, g.tape, g.output, g.size, fun k hk _ => g.block k hk⟩
/-- A row that grew, and its new value laid into the box. -/
theorem IS.put {w W W5 : World} {R B3 g' cap' : Nat} {c o : Int} {v : Value} {xs : List ArgT} {x : ArgT} {r : List Nat} {at' : Int} (h : IS w R B3 c o v xs r at' W)
    (hown : W5.ownsRow (B3 + 1) 72 3 (.slice (some ⟨g', 0, none⟩) (xs.length + 1) cap') (xs.length + 1) (avs xs ++ [.int .i64 x.1, .int .i64 x.2.1, .int .i64 x.2.2])) (hg : W.grownBy W5 v.ownBlock) :
    IS w R B3 c o (.slice (some ⟨g', 0, none⟩) (xs.length + 1) cap') (xs ++ [x]) r at' (W5.setCell ⟨B3, 2, none⟩ (.slice (some ⟨g', 0, none⟩) (xs.length + 1) cap')) := by
  obtain ⟨h1, h2, h3, h4, h5, h6, h7, h8⟩ := h
  have hv : ∀ j, v.ownBlock = some j → B3 + 1 ≤ j := fun j hj => (World.ownsRow.lt h6 j hj).1
  have k5 : W5.heap[B3]? = some (.cells #[.int .i64 c, .int .i64 o, v] 44 (0, 0)) := (hg.block B3 h8 (fun e => by have := hv B3 e.symm; omega)).trans h5
  have k4 : W5.heap[w.heap.size]? = some (.cells #[.int .i64 0, .int .i64 0, .slice none 0 0] 44 (0, 0)) := (hg.block _ (by omega) (fun e => by have := hv _ e.symm; omega)).trans h4
  have d5 : Rd R r at' W5 := h1.gr hg (fun j hj => by have := hv j hj; omega)
  have g5 : w.grownBy W5 (some R) := ⟨hg.os.trans h7.os, hg.tape.trans h7.tape, hg.output.trans h7.output, Nat.le_trans h7.size hg.size, fun k hk hne => (hg.block k (Nat.lt_of_lt_of_le hk h7.size) (fun e => by have := hv k e.symm; omega)).trans (h7.block k hk hne)⟩
  have o5 := World.ownsRow.lt hown g' rfl
  refine ⟨d5.set B3 2 _ (by omega), h2, h3, row_other k4 _ _ (by omega) _, row_put k5 2 _, ?_, gb_new g5 B3 (by omega) _ _, by simpa using Nat.lt_of_lt_of_le h8 hg.size⟩
  have e1 : (xs ++ [x]).length = xs.length + 1 := by simp
  rw [e1, avs_snoc]
  exact World.ownsRow.kept (row := some B3) hown (gb_set18 (gb_refl18 _ _) _ _) (.inr fun e => by simp [Value.ownBlock] at e; omega)
theorem infoIn : (Tryz.prog.info? 44).map (·.size) = some 3 := by kernel_rfl
theorem infoDA2 : (Tryz.prog.info? 72).map (fun i => (i.zero, i.size, i.bytes)) = some (some (.agg #[.int .i64 0, .int .i64 0, .int .i64 0]), 3, 24) := by kernel_rfl
/-- The last move: the instruction into its result. -/
theorem inst_fin {w W : World} {R B3 : Nat} {c o : Int} {v : Value} {xs : List ArgT} {r : List Nat} {at' : Int} (h : IS w R B3 c o v xs r at' W) :
    (((W.setCell ⟨w.heap.size, 0, none⟩ (.int .i64 c)).setCell ⟨w.heap.size, 1, none⟩ (.int .i64 o)).setCell ⟨w.heap.size, 2, none⟩ v).heap[w.heap.size]? = some (.cells #[.int .i64 c, .int .i64 o, v] 44 (0, 0)) ∧
    Rd R r at' (((W.setCell ⟨w.heap.size, 0, none⟩ (.int .i64 c)).setCell ⟨w.heap.size, 1, none⟩ (.int .i64 o)).setCell ⟨w.heap.size, 2, none⟩ v) ∧
    w.grownBy (((W.setCell ⟨w.heap.size, 0, none⟩ (.int .i64 c)).setCell ⟨w.heap.size, 1, none⟩ (.int .i64 o)).setCell ⟨w.heap.size, 2, none⟩ v) (some R) ∧
    (((W.setCell ⟨w.heap.size, 0, none⟩ (.int .i64 c)).setCell ⟨w.heap.size, 1, none⟩ (.int .i64 o)).setCell ⟨w.heap.size, 2, none⟩ v).ownsRow (w.heap.size + 1) 72 3 v xs.length (avs xs) := by
  obtain ⟨h1, h2, h3, h4, h5, h6, h7, h8⟩ := h
  have hb : ∀ (W : World) (f : Nat) (u : Value), W.ownsRow (w.heap.size + 1) 72 3 v xs.length (avs xs) → (W.setCell ⟨w.heap.size, f, none⟩ u).ownsRow (w.heap.size + 1) 72 3 v xs.length (avs xs) := fun W f u h => World.ownsRow.kept (row := some w.heap.size) h (gb_set18 (gb_refl18 _ _) _ _) (.inr fun e => by have := (World.ownsRow.lt h _ e).1; omega)
  exact ⟨row_put (row_put (row_put h4 0 _) 1 _) 2 _, ((h1.set _ 0 _ h2).set _ 1 _ h2).set _ 2 _ h2, gb_new (gb_new (gb_new h7 _ (Nat.le_refl _) _ _) _ (Nat.le_refl _) _ _) _ (Nat.le_refl _) _ _, hb _ _ _ (hb _ _ _ (hb _ _ _ (h6.mono (by omega))))⟩
end Go.Proofs.YtcihplachlokiaaGreatDoor
/- Instructions read: the walk of the program's inst. -/
namespace Go.Proofs.YtcihplachlokiaaGreatDoor
open Go.RowKit Go.Shelf
set_option linter.unusedVariables false
set_option linter.unusedSimpArgs false

theorem cell_three18 (w : World) (x y z : Value) (t : TypeId) : ∀ j u, [x, y, z][j]? = some u → (w.alloc (.cells #[x, y, z] t)).cell? ((⟨w.heap.size, 0, none⟩ : Addr).add j) = some u := by
  intro j u hj
  match j, hj with
  | 0, hj => simp at hj; subst hj; simp [Addr.add]
  | 1, hj => simp at hj; subst hj; simp [Addr.add]
  | 2, hj => simp at hj; subst hj; simp [Addr.add]
  | j + 3, hj => simp at hj
theorem IS.row5 {w W W5 : World} {R B3 : Nat} {c o : Int} {v : Value} {xs : List ArgT} {r : List Nat} {at' : Int} (h : IS w R B3 c o v xs r at' W) (hg : W.grownBy W5 v.ownBlock) : W5.heap[B3]? = some (.cells #[.int .i64 c, .int .i64 o, v] 44 (0, 0)) := by
  obtain ⟨h1, h2, h3, h4, h5, h6, h7, h8⟩ := h
  exact (hg.block B3 h8 (fun e => by have := (World.ownsRow.lt h6 B3 e.symm).1; omega)).trans h5
/-- What a read of an instruction leaves. -/
def RdI (R : Nat) (i : InstT) (r : List Nat) (at' : Int) (w : World) (e : Ending) (w' : World) : Prop :=
  ∃ v, e = .returned (.agg #[.int .i64 i.code, .int .i64 i.one.op, v]) ∧ w'.ownsRow (w.heap.size + 1) 72 3 v i.one.args.length (avs i.one.args) ∧ Rd R r at' w' ∧ w.grownBy w' (some R)

set_option maxRecDepth 10000 in
set_option maxHeartbeats 8000000 in
theorem ins_ok (R : Nat) (r r' : List Nat) (at' : Int) (x : InstT) (w : World) (hr : ∀ b ∈ r, b < 256) (ha : instM r = .inr (x, r')) (h : Rd R r at' w) :
    Calls Tryz.prog 49 #[.pointer (some ⟨R, 0, none⟩)] w fun e w' => RdI R x r' at' w e w' := by
  obtain ⟨i0, hi, hz0, hz1, hz2⟩ := info_parts infoDA2
  unfold instM at ha
  cases h1 : numM 1 r with
  | none => rw [h1] at ha; cases ha
  | some q1 =>
    obtain ⟨c, r1⟩ := q1
    rw [h1] at ha
    simp only [] at ha
    by_cases hk : knB c = false
    · rw [if_pos hk] at ha; cases ha
    rw [if_neg hk] at ha
    have hk' : knB c = true := by simpa using hk
    have hr1 : ∀ b ∈ r1, b < 256 := fun b hb => hr b (numM_sub h1 b hb)
    have HN1 : Hid (∀ W, Rd R r at' W → Calls Tryz.prog 66 #[.pointer (some ⟨R, 0, none⟩), .int .i64 1] W fun e w' => RdN R r1 at' c W e w') := fun W h => number_ok (m := 1) W hr h1 h
    have HK : Hid (∀ W, Calls Tryz.prog 60 #[.int .i64 c] W fun e w' => e = .returned (.bool true) ∧ W = w') := fun W => by rw [← hk']; exact kn_i c W
    have HB : Hid (∀ W, Calls Tryz.prog 40 #[.int .i64 c] W fun e w' => e = .returned (.bool (hasB c)) ∧ W = w') := fun W => has_i c W
    have HR0 : Hid (Rd R r at' (w.alloc (.cells #[.int .i64 0, .int .i64 0, .slice none 0 0] 44)) ∧ R < w.heap.size ∧ (w.alloc (.cells #[.int .i64 0, .int .i64 0, .slice none 0 0] 44)).heap[w.heap.size]? = some (.cells #[.int .i64 0, .int .i64 0, .slice none 0 0] 44 (0, 0)) ∧ w.grownBy (w.alloc (.cells #[.int .i64 0, .int .i64 0, .slice none 0 0] 44)) (some R) ∧ (w.alloc (.cells #[.int .i64 0, .int .i64 0, .slice none 0 0] 44)).heap.size = w.heap.size + 1) := ⟨h.later ((Below.refl _ _).alloc (Nat.le_refl _) _), h.lt, heap_alloc_last _ _, gb_al _ _ _, by simp⟩
    clear h hk hk' h1 hr
    go_enter Tryz.func49, Tryz.ntmps49
    go_upto_region 1 with fail
    generalize (w.alloc (.cells #[.int .i64 0, .int .i64 0, .slice none 0 0] 44)) = W0 at HR0 ⊢
    go_wp2_with fail
    refine (HN1.out W0 HR0.out.1).mono ?_
    rintro e w1 ⟨rfl, d1, g1⟩
    have hs1 := g1.size
    have I1 : Hid (IS w R w1.heap.size c 0 (.slice none 0 0) [] r1 at' (w1.alloc (.cells #[.int .i64 c, .int .i64 0, .slice none 0 0] 44))) := by
      obtain ⟨a1, a2, a3, a4, a5⟩ := HR0.out
      have gA : Below w1.heap.size w1 (w1.alloc (.cells #[.int .i64 c, .int .i64 0, .slice none 0 0] 44)) := (Below.refl _ _).alloc (Nat.le_refl _) _
      exact ⟨d1.later gA, a2, by omega, (gA.block _ (by omega)).trans (gb_row g1 a3 (by omega)), heap_alloc_last _ _, World.ownsRow_nil _ _ _ _, gb_step18 (gb_step18 a4 g1) (gb_al _ _ _), by simp⟩
    clear d1 g1 HN1 hs1 HR0
    obtain ⟨B3, hB3⟩ : ∃ B, w1.heap.size = B := ⟨_, rfl⟩
    rw [hB3] at I1
    go_upto_region 2 with fail
    generalize (w1.alloc (.cells #[.int .i64 c, .int .i64 0, .slice none 0 0] 44)) = W1 at I1 ⊢
    clear hB3
    obtain ⟨x0, x1, x2, y0, y1, y2⟩ := box3 I1.out.2.2.2.2.1
    go_wp2_with fail
    refine (HK.out W1).mono ?_
    rintro e w2 ⟨rfl, rfl⟩
    go_wp2_with fail
    refine (HB.out W1).mono ?_
    rintro e w2 ⟨rfl, rfl⟩
    by_cases hh : hasB c = false
    · rw [if_pos hh] at ha
      cases ha
      rw [hh]
      have HFin := inst_fin I1.out
      obtain ⟨z0, z1, z2, u0, u1, u2⟩ := box3 I1.out.2.2.2.1
      have HRow := HFin.1
      have HFn : Hid (RdI R ⟨c, ⟨0, []⟩⟩ r' at' w (.returned (.agg #[.int .i64 c, .int .i64 0, .slice none 0 0])) (((W1.setCell ⟨w.heap.size, 0, none⟩ (.int .i64 c)).setCell ⟨w.heap.size, 1, none⟩ (.int .i64 0)).setCell ⟨w.heap.size, 2, none⟩ (.slice none 0 0))) := ⟨_, rfl, HFin.2.2.2, HFin.2.1, HFin.2.2.1⟩
      clear HFin I1 hh HK HB
      go_wp2
      refine ret_row rfl rfl HRow Tryz.underlying44 rfl infoIn rfl ?_
      exact HFn.out
    · rw [if_neg hh] at ha
      have hh' : hasB c = true := by simpa using hh
      rw [hh']
      cases h2 : numM 1 r1 with
      | none => rw [h2] at ha; cases ha
      | some q2 =>
        obtain ⟨o, r2⟩ := q2
        rw [h2] at ha
        simp only [] at ha
        by_cases hop : opB c o = false
        · rw [if_pos hop] at ha; cases ha
        rw [if_neg hop] at ha
        have hop' : opB c o = true := by simpa using hop
        cases h3 : argsM (arN o).toNat r2 with
        | inl e => rw [h3] at ha; cases ha
        | inr q3 =>
          obtain ⟨XS, r3⟩ := q3
          rw [h3] at ha
          cases ha
          have hr2 : ∀ b ∈ r2, b < 256 := fun b hb => hr1 b (numM_sub h2 b hb)
          have HN2 : Hid (∀ W, Rd R r1 at' W → Calls Tryz.prog 66 #[.pointer (some ⟨R, 0, none⟩), .int .i64 1] W fun e w' => RdN R r2 at' o W e w') := fun W h => number_ok (m := 1) W hr1 h2 h
          have HO : Hid (∀ W, Calls Tryz.prog 62 #[.int .i64 c, .int .i64 o] W fun e w' => e = .returned (.bool true) ∧ W = w') := fun W => by rw [← hop']; exact op_i c o W
          obtain ⟨N, hN⟩ : ∃ N : Nat, arN o = (N : Int) := ⟨(ndP o).length, rfl⟩
          have hN3 : N ≤ 3 := by have := arN_le o; omega
          have HA : Hid (∀ W, Calls Tryz.prog 63 #[.int .i64 o] W fun e w' => e = .returned (.int .i64 (N : Nat)) ∧ Below W.heap.size W w') := fun W => by rw [← hN]; exact impl_arity o W
          have H3 : Hid (argsM N r2 = .inr (XS, r') ∧ (∀ b ∈ r2, b < 256)) := ⟨by rw [hN] at h3; exact h3, hr2⟩
          clear hh hh' h2 hop hop' h3 hr1 hr2 hN HK HB
          go_wp2_with fail
          refine (HN2.out W1 I1.out.1).mono ?_
          rintro e w2 ⟨rfl, d2, g2⟩
          have I2' := I1.out.read d2 g2
          have I2 : Hid (IS w R B3 c o (.slice none 0 0) [] r2 at' (w2.setCell ⟨B3, 1, none⟩ (.int .i64 o))) := by
            obtain ⟨a1, a2, a3, a4, a5, a6, a7, a8⟩ := I2'
            exact ⟨a1.set B3 1 _ (by omega), a2, a3, row_other a4 _ _ (by omega) _, row_put a5 1 _, World.ownsRow_nil _ _ _ _, gb_new a7 B3 (by omega) _ _, by simpa using a8⟩
          clear x0 x1 x2 y0 y1 y2
          obtain ⟨x0, x1, x2, y0, y1, y2⟩ := box3 I2'.2.2.2.2.1
          clear d2 g2 HN2 I1 I2'
          go_upto_region 7 with fail
          generalize (w2.setCell ⟨B3, 1, none⟩ (.int .i64 o)) = W2 at I2 ⊢
          clear x0 x1 x2 y0 y1 y2
          obtain ⟨x0, x1, x2, y0, y1, y2⟩ := box3 I2.out.2.2.2.2.1
          go_wp2_with fail
          refine (HO.out W2).mono ?_
          rintro e w3 ⟨rfl, rfl⟩
          go_wp2_with fail
          refine (HA.out W2).mono ?_
          rintro e w3 ⟨rfl, g3⟩
          have I3 : Hid (IS w R B3 c o (.slice none 0 0) [] r2 at' w3) := I2.out.later g3
          clear g3 I2 HO HA x0 x1 x2 y0 y1 y2
          go_wp2
          go_loopw [35] (fun i wr => ∃ k : Nat, k ≤ N ∧ i = .int .i64 k ∧ Hid (∃ v xs rk ys, IS w R B3 c o v xs rk at' wr ∧ xs.length = k ∧ (∀ b ∈ rk, b < 256) ∧ argsM (N - k) rk = .inr (ys, r') ∧ XS = xs ++ ys)) (fun i _ => N - (intOf i).toNat)
          case atStart => exact ⟨0, Nat.zero_le _, rfl, _, _, _, _, I3.out, rfl, H3.out.2, H3.out.1, rfl⟩
          case round =>
            clear I3
            obtain ⟨k, hk, rfl, HR⟩ := hrel
            obtain ⟨v, xs, rk, ys, hI, hxl, hrk, hargs, hXS⟩ := HR.out
            by_cases hlt : k < N
            · have ik : (k : Int) < (N : Int) := by omega
              obtain ⟨m, hm⟩ : ∃ m, N - k = m + 1 := ⟨N - k - 1, by omega⟩
              rw [hm] at hargs
              unfold argsM at hargs
              cases ho : argM rk with
              | inl e => rw [ho] at hargs; cases hargs
              | inr q4 =>
                obtain ⟨x, rk1⟩ := q4
                rw [ho] at hargs
                simp only [] at hargs
                cases hq : argsM m rk1 with
                | inl e => rw [hq] at hargs; cases hargs
                | inr q5 =>
                  obtain ⟨ys', r3'⟩ := q5
                  rw [hq] at hargs
                  simp only [Sum.inr.injEq, Prod.mk.injEq] at hargs
                  obtain ⟨rfl, rfl⟩ := hargs
                  have HOp : Hid (∀ W, Below wr.heap.size wr W → Calls Tryz.prog 67 #[.pointer (some ⟨R, 0, none⟩)] W fun e w' => e = .returned (.agg #[.int .i64 x.1, .int .i64 x.2.1, .int .i64 x.2.2]) ∧ IS w R B3 c o v xs rk1 at' w') := fun W g => (opr_ok R rk rk1 at' x W hrk ho (hI.later g).1).mono fun e w' ⟨a, b, d⟩ => ⟨a, (hI.later g).read b d⟩
                  obtain ⟨x0, x1, x2, y0, y1, y2⟩ := box3 hI.2.2.2.2.1
                  have HE : Hid (XS = (xs ++ [x]) ++ ys' ∧ argsM (N - (k + 1)) rk1 = .inr (ys', r3') ∧ (∀ b ∈ rk1, b < 256) ∧ xs.length = k) := ⟨by rw [hXS, List.append_assoc]; rfl, by rw [show N - (k + 1) = m by omega]; exact hq, fun b hb => hrk b (argM_sub ho b hb), hxl⟩
                  clear hI hxl hrk hXS ho hq HR hm
                  obtain ⟨xk, xn, xp⟩ := x
                  simp only [] at HOp
                  go_upto_region 11 with fail
                  go_region_law (first
                    | (go_simp; go_at_call 67; refine (HOp.out _ (by first | exact Below.refl _ _ | exact (Below.refl _ _).drew)).mono ?_; rintro e w10 ⟨rfl, h10⟩; obtain ⟨t0, t1, t2, s0, s1, s2⟩ := box3 h10.2.2.2.2.1; have t2a : ∀ o : Obj, (w10.alloc o).cell? ⟨B3, 2, none⟩ = some v := (fun o => (World.cell?_alloc_past _ _ _ h10.2.2.2.2.2.2.2).trans t2); simp only [])
                    | (refine step_append_lies _ rfl (.tmp 39) (.tmp 42) 40 rfl (B3 + 1) 72 i0 (.agg #[.int .i64 0, .int .i64 0, .int .i64 0]) 3 24 Tryz.underlying40 hi hz0 hz1 hz2 rfl (by decide) _ xs.length (avs xs) rfl (by exact h10.2.2.2.2.2.1.alloc _) ⟨w10.heap.size, 0, none⟩ 1 1 [.int .i64 xk, .int .i64 xn, .int .i64 xp] rfl rfl (by exact cell_three18 _ _ _ _ _) (by intro u hu; simp at hu; rcases hu with rfl | rfl | rfl <;> rfl) (by decide) (by have := HE.out.2.2.2; unfold maxLen; omega) (by have := HE.out.2.2.2; omega) (by have := h10.2.2.2.2.2.2.2; simp; omega) _ rfl ?_; intro g' cap' w11 hown' hgrow hat hlt'; obtain ⟨e0, e1, e2, f0, f1, f2⟩ := box3 (IS.row5 (h10.later ((Below.refl _ _).alloc (Nat.le_refl _) _)) hgrow)))
                  all_goals
                    have HNx : Hid (∃ v xs2 rk ys, IS w R B3 c o v xs2 rk at' (w11.setCell ⟨B3, 2, none⟩ (.slice (some ⟨g', 0, none⟩) (xs.length + 1) cap')) ∧ xs2.length = k + 1 ∧ (∀ b ∈ rk, b < 256) ∧ argsM (N - (k + 1)) rk = .inr (ys, r3') ∧ XS = xs2 ++ ys) :=
                      ⟨_, _, _, _, IS.put (x := (xk, xn, xp)) (h10.later ((Below.refl _ _).alloc (Nat.le_refl _) _)) hown' hgrow, by have := HE.out.2.2.2; simp; omega, HE.out.2.2.1, HE.out.2.1, HE.out.1⟩
                    clear hown' hgrow hat hlt' h10 HE HOp x0 x1 x2 y0 y1 y2 t0 t1 t2 s0 s1 s2 t2a e0 e1 e2 f0 f1 f2
                    go_wp2
                    go_roundw
                    case rel => exact ⟨k + 1, by omega, by go_num, HNx⟩
                    case measure => simp [intOf]; omega
            · have hkn : N - k = 0 := by omega
              rw [hkn] at hargs
              unfold argsM at hargs
              simp only [Sum.inr.injEq, Prod.mk.injEq] at hargs
              obtain ⟨rfl, rfl⟩ := hargs
              rw [List.append_nil] at hXS
              have ik : ¬ ((k : Int) < (N : Int)) := by omega
              obtain ⟨vp, vn, vc, rfl⟩ : ∃ p n cp, v = .slice p n cp := by
                rcases hI.2.2.2.2.2.1.2 with ⟨h, _⟩ | ⟨g, cap, cur, h, _⟩
                · exact ⟨_, _, _, h⟩
                · exact ⟨_, _, _, h⟩
              have HFin := inst_fin hI
              obtain ⟨z0, z1, z2, u0, u1, u2⟩ := box3 hI.2.2.2.1
              obtain ⟨x0, x1, x2, y0, y1, y2⟩ := box3 hI.2.2.2.2.1
              have HRow := HFin.1
              have HFn : Hid (RdI R ⟨c, ⟨o, XS⟩⟩ rk at' w (.returned (.agg #[.int .i64 c, .int .i64 o, .slice vp vn vc])) (((wr.setCell ⟨w.heap.size, 0, none⟩ (.int .i64 c)).setCell ⟨w.heap.size, 1, none⟩ (.int .i64 o)).setCell ⟨w.heap.size, 2, none⟩ (.slice vp vn vc))) := by rw [hXS]; exact ⟨_, rfl, HFin.2.2.2, HFin.2.1, HFin.2.2.1⟩
              clear HFin hI HR hxl hrk hXS H3 hkn
              go_wp2
              refine ret_row rfl rfl HRow Tryz.underlying44 rfl infoIn rfl ?_
              exact HFn.out
end Go.Proofs.YtcihplachlokiaaGreatDoor
/- Instructions that cannot be read. -/
namespace Go.Proofs.YtcihplachlokiaaGreatDoor
open Go.RowKit Go.Shelf
set_option linter.unusedVariables false
set_option linter.unusedSimpArgs false

set_option maxRecDepth 10000 in
set_option maxHeartbeats 8000000 in
theorem ins_no (R : Nat) (r : List Nat) (at' ec : Int) (w : World) (hr : ∀ b ∈ r, b < 256) (ha : instM r = .inl ec) (h : Rd R r at' w) :
    Calls Tryz.prog 49 #[.pointer (some ⟨R, 0, none⟩)] w fun e w' => RdP R ec at' w e w' := by
  obtain ⟨i0, hi, hz0, hz1, hz2⟩ := info_parts infoDA2
  unfold instM at ha
  have HR0 : Hid (Rd R r at' (w.alloc (.cells #[.int .i64 0, .int .i64 0, .slice none 0 0] 44)) ∧ R < w.heap.size ∧ (w.alloc (.cells #[.int .i64 0, .int .i64 0, .slice none 0 0] 44)).heap[w.heap.size]? = some (.cells #[.int .i64 0, .int .i64 0, .slice none 0 0] 44 (0, 0)) ∧ w.grownBy (w.alloc (.cells #[.int .i64 0, .int .i64 0, .slice none 0 0] 44)) (some R) ∧ (w.alloc (.cells #[.int .i64 0, .int .i64 0, .slice none 0 0] 44)).heap.size = w.heap.size + 1) := ⟨h.later ((Below.refl _ _).alloc (Nat.le_refl _) _), h.lt, heap_alloc_last _ _, gb_al _ _ _, by simp⟩
  clear h
  cases h1 : numM 1 r with
  | none =>
    rw [h1] at ha
    cases ha
    have HN1 : Hid (∀ W, Rd R r at' W → Calls Tryz.prog 66 #[.pointer (some ⟨R, 0, none⟩), .int .i64 1] W fun e w' => RdP R 6 at' W e w') := fun W h => number_no (m := 1) W (.inl rfl) hr h1 h
    clear h1 hr
    go_enter Tryz.func49, Tryz.ntmps49
    go_upto_region 1 with fail
    generalize (w.alloc (.cells #[.int .i64 0, .int .i64 0, .slice none 0 0] 44)) = W0 at HR0 ⊢
    go_wp2_with fail
    refine (HN1.out W0 HR0.out.1).mono ?_
    rintro e w1 ⟨rfl, g1⟩
    have HF : Hid (RdP R 6 at' w (tld 6 at') w1) := ⟨rfl, gb_step18 HR0.out.2.2.2.1 g1⟩
    unfold tld at HF ⊢
    clear g1
    go_wp2
    exact ⟨rfl, HF.out⟩
  | some q1 =>
    obtain ⟨c, r1⟩ := q1
    rw [h1] at ha
    simp only [] at ha
    have hr1 : ∀ b ∈ r1, b < 256 := fun b hb => hr b (numM_sub h1 b hb)
    have HN1 : Hid (∀ W, Rd R r at' W → Calls Tryz.prog 66 #[.pointer (some ⟨R, 0, none⟩), .int .i64 1] W fun e w' => RdN R r1 at' c W e w') := fun W h => number_ok (m := 1) W hr h1 h
    have HK : Hid (∀ W, Calls Tryz.prog 60 #[.int .i64 c] W fun e w' => e = .returned (.bool (knB c)) ∧ W = w') := fun W => kn_i c W
    have HB : Hid (∀ W, Calls Tryz.prog 40 #[.int .i64 c] W fun e w' => e = .returned (.bool (hasB c)) ∧ W = w') := fun W => has_i c W
    clear h1 hr
    go_enter Tryz.func49, Tryz.ntmps49
    go_upto_region 1 with fail
    generalize (w.alloc (.cells #[.int .i64 0, .int .i64 0, .slice none 0 0] 44)) = W0 at HR0 ⊢
    go_wp2_with fail
    refine (HN1.out W0 HR0.out.1).mono ?_
    rintro e w1 ⟨rfl, d1, g1⟩
    have hs1 := g1.size
    have I1 : Hid (IS w R w1.heap.size c 0 (.slice none 0 0) [] r1 at' (w1.alloc (.cells #[.int .i64 c, .int .i64 0, .slice none 0 0] 44))) := by
      obtain ⟨a1, a2, a3, a4, a5⟩ := HR0.out
      have gA : Below w1.heap.size w1 (w1.alloc (.cells #[.int .i64 c, .int .i64 0, .slice none 0 0] 44)) := (Below.refl _ _).alloc (Nat.le_refl _) _
      exact ⟨d1.later gA, a2, by omega, (gA.block _ (by omega)).trans (gb_row g1 a3 (by omega)), heap_alloc_last _ _, World.ownsRow_nil _ _ _ _, gb_step18 (gb_step18 a4 g1) (gb_al _ _ _), by simp⟩
    clear d1 g1 HN1 hs1 HR0
    obtain ⟨B3, hB3⟩ : ∃ B, w1.heap.size = B := ⟨_, rfl⟩
    rw [hB3] at I1
    go_upto_region 2 with fail
    generalize (w1.alloc (.cells #[.int .i64 c, .int .i64 0, .slice none 0 0] 44)) = W1 at I1 ⊢
    clear hB3
    obtain ⟨x0, x1, x2, y0, y1, y2⟩ := box3 I1.out.2.2.2.2.1
    go_wp2_with fail
    refine (HK.out W1).mono ?_
    rintro e w2 ⟨rfl, rfl⟩
    by_cases hk : knB c = false
    · rw [if_pos hk] at ha
      cases ha
      rw [hk]
      have HT : Hid (Calls Tryz.prog 48 #[.pointer (some ⟨R, 0, none⟩), .int .i64 2] W1 fun e w' => e = tld 2 at' ∧ W1 = w') := tell_i R r1 at' 2 W1 I1.out.1
      have HF : Hid (RdP R 2 at' w (tld 2 at') W1) := ⟨rfl, I1.out.2.2.2.2.2.2.1⟩
      unfold tld at HT HF
      clear hk
      go_wp2_with fail
      refine HT.out.mono ?_
      rintro e w3 ⟨rfl, rfl⟩
      go_wp2
      exact ⟨rfl, HF.out⟩
    rw [if_neg hk] at ha
    have hk' : knB c = true := by simpa using hk
    rw [hk']
    clear hk hk' HK
    go_wp2_with fail
    refine (HB.out W1).mono ?_
    rintro e w2 ⟨rfl, rfl⟩
    by_cases hh : hasB c = false
    · rw [if_pos hh] at ha; cases ha
    rw [if_neg hh] at ha
    have hh' : hasB c = true := by simpa using hh
    rw [hh']
    clear hh hh' HB
    cases h2 : numM 1 r1 with
    | none =>
      rw [h2] at ha
      cases ha
      have HN2 : Hid (Calls Tryz.prog 66 #[.pointer (some ⟨R, 0, none⟩), .int .i64 1] W1 fun e w' => RdP R 6 at' W1 e w') := number_no (m := 1) W1 (.inl rfl) hr1 h2 I1.out.1
      clear h2 hr1
      go_wp2_with fail
      refine HN2.out.mono ?_
      rintro e w2 ⟨rfl, g2⟩
      have HF : Hid (RdP R 6 at' w (tld 6 at') w2) := ⟨rfl, gb_step18 I1.out.2.2.2.2.2.2.1 g2⟩
      unfold tld at HF ⊢
      clear g2
      go_wp2
      exact ⟨rfl, HF.out⟩
    | some q2 =>
      obtain ⟨o, r2⟩ := q2
      rw [h2] at ha
      simp only [] at ha
      have hr2 : ∀ b ∈ r2, b < 256 := fun b hb => hr1 b (numM_sub h2 b hb)
      have HN2 : Hid (∀ W, Rd R r1 at' W → Calls Tryz.prog 66 #[.pointer (some ⟨R, 0, none⟩), .int .i64 1] W fun e w' => RdN R r2 at' o W e w') := fun W h => number_ok (m := 1) W hr1 h2 h
      have HO : Hid (∀ W, Calls Tryz.prog 62 #[.int .i64 c, .int .i64 o] W fun e w' => e = .returned (.bool (opB c o)) ∧ W = w') := fun W => op_i c o W
      clear h2 hr1
      go_wp2_with fail
      refine (HN2.out W1 I1.out.1).mono ?_
      rintro e w2 ⟨rfl, d2, g2⟩
      have I2' := I1.out.read d2 g2
      have I2 : Hid (IS w R B3 c o (.slice none 0 0) [] r2 at' (w2.setCell ⟨B3, 1, none⟩ (.int .i64 o))) := by
        obtain ⟨a1, a2, a3, a4, a5, a6, a7, a8⟩ := I2'
        exact ⟨a1.set B3 1 _ (by omega), a2, a3, row_other a4 _ _ (by omega) _, row_put a5 1 _, World.ownsRow_nil _ _ _ _, gb_new a7 B3 (by omega) _ _, by simpa using a8⟩
      clear x0 x1 x2 y0 y1 y2
      obtain ⟨x0, x1, x2, y0, y1, y2⟩ := box3 I2'.2.2.2.2.1
      clear d2 g2 HN2 I1 I2'
      go_upto_region 7 with fail
      generalize (w2.setCell ⟨B3, 1, none⟩ (.int .i64 o)) = W2 at I2 ⊢
      clear x0 x1 x2 y0 y1 y2
      obtain ⟨x0, x1, x2, y0, y1, y2⟩ := box3 I2.out.2.2.2.2.1
      go_wp2_with fail
      refine (HO.out W2).mono ?_
      rintro e w3 ⟨rfl, rfl⟩
      by_cases hop : opB c o = false
      · rw [if_pos hop] at ha
        cases ha
        rw [hop]
        have HT : Hid (Calls Tryz.prog 48 #[.pointer (some ⟨R, 0, none⟩), .int .i64 2] W2 fun e w' => e = tld 2 at' ∧ W2 = w') := tell_i R r2 at' 2 W2 I2.out.1
        have HF : Hid (RdP R 2 at' w (tld 2 at') W2) := ⟨rfl, I2.out.2.2.2.2.2.2.1⟩
        unfold tld at HT HF
        clear hop
        go_wp2_with fail
        refine HT.out.mono ?_
        rintro e w3 ⟨rfl, rfl⟩
        go_wp2
        exact ⟨rfl, HF.out⟩
      rw [if_neg hop] at ha
      have hop' : opB c o = true := by simpa using hop
      rw [hop']
      cases h3 : argsM (arN o).toNat r2 with
      | inr q3 => rw [h3] at ha; cases ha
      | inl e0 =>
        rw [h3] at ha
        cases ha
        obtain ⟨N, hN⟩ : ∃ N : Nat, arN o = (N : Int) := ⟨(ndP o).length, rfl⟩
        have hN3 : N ≤ 3 := by have := arN_le o; omega
        have HA : Hid (∀ W, Calls Tryz.prog 63 #[.int .i64 o] W fun e w' => e = .returned (.int .i64 (N : Nat)) ∧ Below W.heap.size W w') := fun W => by rw [← hN]; exact impl_arity o W
        have H3 : Hid (argsM N r2 = .inl ec ∧ (∀ b ∈ r2, b < 256)) := ⟨by rw [hN] at h3; exact h3, hr2⟩
        clear hop hop' h3 hr2 hN HO
        go_wp2_with fail
        refine (HA.out W2).mono ?_
        rintro e w3 ⟨rfl, g3⟩
        have I3 : Hid (IS w R B3 c o (.slice none 0 0) [] r2 at' w3) := I2.out.later g3
        clear g3 I2 HA x0 x1 x2 y0 y1 y2
        go_wp2
        go_loopw [35] (fun i wr => ∃ k : Nat, k ≤ N ∧ i = .int .i64 k ∧ Hid (∃ v xs rk, IS w R B3 c o v xs rk at' wr ∧ xs.length = k ∧ (∀ b ∈ rk, b < 256) ∧ argsM (N - k) rk = .inl ec)) (fun i _ => N - (intOf i).toNat)
        case atStart => exact ⟨0, Nat.zero_le _, rfl, _, _, _, I3.out, rfl, H3.out.2, H3.out.1⟩
        case round =>
          clear I3
          obtain ⟨k, hk, rfl, HR⟩ := hrel
          obtain ⟨v, xs, rk, hI, hxl, hrk, hargs⟩ := HR.out
          by_cases hlt : k < N
          · have ik : (k : Int) < (N : Int) := by omega
            obtain ⟨m, hm⟩ : ∃ m, N - k = m + 1 := ⟨N - k - 1, by omega⟩
            rw [hm] at hargs
            unfold argsM at hargs
            cases ho : argM rk with
            | inl e =>
              rw [ho] at hargs
              simp only [Sum.inl.injEq] at hargs
              subst hargs
              have HOp : Hid (∀ W, Below wr.heap.size wr W → Calls Tryz.prog 67 #[.pointer (some ⟨R, 0, none⟩)] W fun e' w' => e' = .panicked [{ v := .iface 26 (.agg #[.int .i64 e, .int .i64 at']), recovered := false }] ∧ RdP R e at' w (.panicked [{ v := .iface 26 (.agg #[.int .i64 e, .int .i64 at']), recovered := false }]) w') := fun W g => (opr_no R rk at' e W hrk ho (hI.later g).1).mono fun e' w' ⟨a, b⟩ => ⟨a, rfl, gb_step18 (hI.later g).2.2.2.2.2.2.1 b⟩
              obtain ⟨x0, x1, x2, y0, y1, y2⟩ := box3 hI.2.2.2.2.1
              clear hI hxl hrk ho HR hm
              go_upto_region 11 with fail
              go_region_dies
              all_goals
                refine (HOp.out _ (by first | exact Below.refl _ _ | exact (Below.refl _ _).drew)).mono ?_
                rintro e9 w10 ⟨rfl, h10⟩
                go_wp2
                exact ⟨rfl, h10⟩
            | inr q4 =>
              obtain ⟨x, rk1⟩ := q4
              rw [ho] at hargs
              simp only [] at hargs
              cases hq : argsM m rk1 with
              | inr q5 => rw [hq] at hargs; cases hargs
              | inl e =>
                rw [hq] at hargs
                simp only [Sum.inl.injEq] at hargs
                subst hargs
                have HOp : Hid (∀ W, Below wr.heap.size wr W → Calls Tryz.prog 67 #[.pointer (some ⟨R, 0, none⟩)] W fun e w' => e = .returned (.agg #[.int .i64 x.1, .int .i64 x.2.1, .int .i64 x.2.2]) ∧ IS w R B3 c o v xs rk1 at' w') := fun W g => (opr_ok R rk rk1 at' x W hrk ho (hI.later g).1).mono fun e w' ⟨a, b, d⟩ => ⟨a, (hI.later g).read b d⟩
                obtain ⟨x0, x1, x2, y0, y1, y2⟩ := box3 hI.2.2.2.2.1
                have HE : Hid (argsM (N - (k + 1)) rk1 = .inl e ∧ (∀ b ∈ rk1, b < 256) ∧ xs.length = k) := ⟨by rw [show N - (k + 1) = m by omega]; exact hq, fun b hb => hrk b (argM_sub ho b hb), hxl⟩
                clear hI hxl hrk ho hq HR hm
                obtain ⟨xk, xn, xp⟩ := x
                simp only [] at HOp
                go_upto_region 11 with fail
                go_region_law (first
                  | (go_simp; go_at_call 67; refine (HOp.out _ (by first | exact Below.refl _ _ | exact (Below.refl _ _).drew)).mono ?_; rintro e w10 ⟨rfl, h10⟩; obtain ⟨t0, t1, t2, s0, s1, s2⟩ := box3 h10.2.2.2.2.1; have t2a : ∀ o : Obj, (w10.alloc o).cell? ⟨B3, 2, none⟩ = some v := (fun o => (World.cell?_alloc_past _ _ _ h10.2.2.2.2.2.2.2).trans t2); simp only [])
                  | (refine step_append_lies _ rfl (.tmp 39) (.tmp 42) 40 rfl (B3 + 1) 72 i0 (.agg #[.int .i64 0, .int .i64 0, .int .i64 0]) 3 24 Tryz.underlying40 hi hz0 hz1 hz2 rfl (by decide) _ xs.length (avs xs) rfl (by exact h10.2.2.2.2.2.1.alloc _) ⟨w10.heap.size, 0, none⟩ 1 1 [.int .i64 xk, .int .i64 xn, .int .i64 xp] rfl rfl (by exact cell_three18 _ _ _ _ _) (by intro u hu; simp at hu; rcases hu with rfl | rfl | rfl <;> rfl) (by decide) (by have := HE.out.2.2; unfold maxLen; omega) (by have := HE.out.2.2; omega) (by have := h10.2.2.2.2.2.2.2; simp; omega) _ rfl ?_; intro g' cap' w11 hown' hgrow hat hlt'; obtain ⟨e0, e1, e2, f0, f1, f2⟩ := box3 (IS.row5 (h10.later ((Below.refl _ _).alloc (Nat.le_refl _) _)) hgrow)))
                all_goals
                  have HNx : Hid (∃ v xs2 rk, IS w R B3 c o v xs2 rk at' (w11.setCell ⟨B3, 2, none⟩ (.slice (some ⟨g', 0, none⟩) (xs.length + 1) cap')) ∧ xs2.length = k + 1 ∧ (∀ b ∈ rk, b < 256) ∧ argsM (N - (k + 1)) rk = .inl e) :=
                    ⟨_, _, _, IS.put (x := (xk, xn, xp)) (h10.later ((Below.refl _ _).alloc (Nat.le_refl _) _)) hown' hgrow, by have := HE.out.2.2; simp; omega, HE.out.2.1, HE.out.1⟩
                  clear hown' hgrow hat hlt' h10 HE HOp x0 x1 x2 y0 y1 y2 t0 t1 t2 s0 s1 s2 t2a e0 e1 e2 f0 f1 f2
                  go_wp2
                  go_roundw
                  case rel => exact ⟨k + 1, by omega, by go_num, HNx⟩
                  case measure => simp [intOf]; omega
          · have hkn : N - k = 0 := by omega
            rw [hkn] at hargs
            unfold argsM at hargs
            cases hargs
end Go.Proofs.YtcihplachlokiaaGreatDoor
/- Lists read: what is read, as mathematics; where the reading of a list stands. -/
namespace Go.Proofs.YtcihplachlokiaaGreatDoor
open Go.RowKit Go.Shelf
set_option linter.unusedVariables false
set_option linter.unusedSimpArgs false

/-- So many instructions off the rest, or what is wrong and at which. -/
def instsM : Nat → Int → List Nat → (Int × Int) ⊕ (List InstT × List Nat)
  | 0, _, r => .inr ([], r)
  | n + 1, k, r =>
    match instM r with
    | .inl c => .inl (c, k)
    | .inr (x, r1) =>
      match instsM n (k + 1) r1 with
      | .inl e => .inl e
      | .inr (xs, r2) => .inr (x :: xs, r2)
def listM (N : Nat) (r : List Nat) : (Int × Int) ⊕ List InstT :=
  if 1000 < N then .inl (1, 0) else
  match instsM N 0 r with
  | .inl e => .inl e
  | .inr (xs, r') => if r' = [] then .inr xs else .inl (7, N)
theorem argsM_sub : ∀ (n : Nat) {r r' : List Nat} {xs : List ArgT}, argsM n r = .inr (xs, r') → ∀ b ∈ r', b ∈ r
  | 0, r, r', xs, h => by
    unfold argsM at h
    cases h
    exact fun b hb => hb
  | n + 1, r, r', xs, h => by
    unfold argsM at h
    cases h1 : argM r with
    | inl e => rw [h1] at h; cases h
    | inr q =>
      obtain ⟨x, r1⟩ := q
      rw [h1] at h
      simp only [] at h
      cases h2 : argsM n r1 with
      | inl e => rw [h2] at h; cases h
      | inr q2 =>
        obtain ⟨ys, r2⟩ := q2
        rw [h2] at h
        cases h
        exact fun b hb => argM_sub h1 b (argsM_sub n h2 b hb)
theorem instM_sub {r r' : List Nat} {x : InstT} (h : instM r = .inr (x, r')) : ∀ b ∈ r', b ∈ r := by
  unfold instM at h
  cases h1 : numM 1 r with
  | none => rw [h1] at h; cases h
  | some q =>
    obtain ⟨c, r1⟩ := q
    rw [h1] at h
    simp only [] at h
    by_cases hk : knB c = false
    · rw [if_pos hk] at h; cases h
    rw [if_neg hk] at h
    by_cases hh : hasB c = false
    · rw [if_pos hh] at h; cases h; exact fun b hb => numM_sub h1 b hb
    rw [if_neg hh] at h
    cases h2 : numM 1 r1 with
    | none => rw [h2] at h; cases h
    | some q2 =>
      obtain ⟨o, r2⟩ := q2
      rw [h2] at h
      simp only [] at h
      by_cases hop : opB c o = false
      · rw [if_pos hop] at h; cases h
      rw [if_neg hop] at h
      cases h3 : argsM (arN o).toNat r2 with
      | inl e => rw [h3] at h; cases h
      | inr q3 =>
        obtain ⟨xs, r3⟩ := q3
        rw [h3] at h
        cases h
        exact fun b hb => numM_sub h1 b (numM_sub h2 b (argsM_sub _ h3 b hb))

theorem Rd.setAt {R : Nat} {r : List Nat} {at' : Int} {W : World} (h : Rd R r at' W) (k : Int) : Rd R r k (W.setCell ⟨R, 1, none⟩ (.int .i64 k)) := by
  obtain ⟨a, cap, h1, h2, h3, h4⟩ := h
  refine ⟨a, cap, row_put h1 1 (.int .i64 k), ?_, h3, h4⟩
  rcases h2 with h2 | ⟨b, o, e1, e2, e3⟩
  · exact .inl h2
  · refine .inr ⟨b, o, e1, by simpa using e2, fun j hj => ?_⟩
    have hne := h4 b o e1
    rw [World.cell?_setCell_other _ _ _ _ (by simp <;> omega)]
    exact e3 j hj

/-- Where the reading of a list stands. -/
def LS (w : World) (R : Nat) (v : Value) (xs : List InstT) (cs : List Value) (F : List Nat) (r : List Nat) (at' : Int) (W : World) : Prop :=
  Rd R r at' W ∧ R < w.heap.size ∧ Each (InstOwn W w.heap.size) 3 F xs cs ∧ W.ownsRow w.heap.size 44 3 v xs.length cs ∧ (v.ownBlock.toList ++ F).Nodup ∧ w.grownBy W (some R)
theorem LS.own {w W : World} {R : Nat} {v : Value} {xs : List InstT} {cs : List Value} {F r : List Nat} {at' : Int} (h : LS w R v xs cs F r at' W) : InstsOwn W w.heap.size (v.ownBlock.toList ++ F) v xs := ⟨cs, F, h.2.2.1, h.2.2.2.1, rfl⟩
theorem LS.bounds {w W : World} {R : Nat} {v : Value} {xs : List InstT} {cs : List Value} {F r : List Nat} {at' : Int} (h : LS w R v xs cs F r at' W) : ∀ b ∈ v.ownBlock.toList ++ F, w.heap.size ≤ b ∧ b < W.heap.size := InstsOwn.lt h.own
theorem LS.read {w W W' : World} {R : Nat} {v : Value} {xs : List InstT} {cs : List Value} {F r r' : List Nat} {at' k : Int} (h : LS w R v xs cs F r at' W) (d : Rd R r' k W') (g : W.grownBy W' (some R)) : LS w R v xs cs F r' k W' := by
  have hb := h.bounds
  obtain ⟨h1, h2, h3, h4, h5, h6⟩ := h
  have hne : ∀ b, w.heap.size ≤ b → some b ≠ some R := fun b hb e => by cases e; omega
  refine ⟨d, h2, h3.move fun f x c hf h => h.move (row := some R) g (fun b hb => hne b (h.lt b hb).1), World.ownsRow.kept (row := some R) h4 g (.inr fun e => ?_), h5, gb_step18 h6 g⟩
  have := (World.ownsRow.lt h4 R e).1
  omega
theorem LS.later {w W W' : World} {R : Nat} {v : Value} {xs : List InstT} {cs : List Value} {F r : List Nat} {at' : Int} (h : LS w R v xs cs F r at' W) (g : Below W.heap.size W W') : LS w R v xs cs F r at' W' :=
  h.read (h.1.later g) ⟨g.os, g.tape, g.output, g.size, fun k hk _ => g.block k hk⟩
theorem LS.setAt {w W : World} {R : Nat} {v : Value} {xs : List InstT} {cs : List Value} {F r : List Nat} {at' : Int} (h : LS w R v xs cs F r at' W) (k : Int) : LS w R v xs cs F r k (W.setCell ⟨R, 1, none⟩ (.int .i64 k)) :=
  h.read (h.1.setAt k) (gb_setR _ _)
theorem LS.put {w W4 W6 : World} {R g1 cap1 : Nat} {v va : Value} {xs : List InstT} {cs : List Value} {F f r : List Nat} {at' : Int} {x : InstT} (h : LS w R v xs cs F r at' W4)
    (hA : ArgsOwn W4 w.heap.size f va x.one.args) (hfn : f.Nodup) (hdis : ∀ b ∈ f, b ∉ v.ownBlock.toList ++ F)
    (own6 : W6.ownsRow w.heap.size 44 3 (.slice (some ⟨g1, 0, none⟩) (xs.length + 1) cap1) (xs.length + 1) (cs ++ [.int .i64 x.code, .int .i64 x.one.op, va])) (g6 : W4.grownBy W6 v.ownBlock) (hat : v.ownBlock = some g1 ∨ g1 = W4.heap.size) :
    LS w R (.slice (some ⟨g1, 0, none⟩) (xs.length + 1) cap1) (xs ++ [x]) (cs ++ [.int .i64 x.code, .int .i64 x.one.op, va]) (F ++ f) r at' W6 := by
  have hb := h.bounds
  obtain ⟨h1, h2, h3, h4, h5, h6⟩ := h
  have key := row_step (base := w.heap.size) (R := fun W => InstOwn W w.heap.size) (fun W W' row f x c hg hr h => h.move hg hr) (w := { W4 with heap := #[] }) (w4 := W4) (w5 := W6) (v := v) (F := v.ownBlock.toList ++ F) (f := f) (x := x) (by simp)
    h3 rfl hb h5 ⟨va, rfl, hA⟩ rfl (fun b hb => ArgsOwn.lt hA b hb) hfn hdis own6 g6 hat ⟨rfl, rfl, rfl, by simp, fun k hk => by simp at hk⟩
  have hv : ∀ j, v.ownBlock = some j → w.heap.size ≤ j := fun j hj => (hb j (by rw [hj]; simp)).1
  have hF' : ∀ b ∈ F, some b ≠ v.ownBlock := fun b hb e => (List.nodup_append.1 h5).2.2 b (by rw [← e]; simp) b hb rfl
  have hf' : ∀ b ∈ f, some b ≠ v.ownBlock := fun b hb e => hdis b hb (by rw [← e]; simp)
  have e1 : (xs ++ [x]).length = xs.length + 1 := by simp
  have hX : InstOwn W4 w.heap.size f x [.int .i64 x.code, .int .i64 x.one.op, va] := ⟨va, rfl, hA⟩
  refine ⟨h1.gr g6 (fun b hb => by have := hv b hb; omega), h2, ?_, by rw [e1]; exact own6, key.2.1, ⟨g6.os.trans h6.os, g6.tape.trans h6.tape, g6.output.trans h6.output, Nat.le_trans h6.size g6.size, fun i hi hne => (g6.block i (Nat.lt_of_lt_of_le hi h6.size) (fun e => by have := hv i e.symm; omega)).trans (h6.block i hi hne)⟩⟩
  exact .add (h3.move fun f1 x1 c1 h1 h2 => h2.move g6 (fun b hb => hF' b (h1 hb))) rfl (hX.move g6 hf')

/-- What a read of a list leaves. -/
def RdL (R : Nat) (xs : List InstT) (w : World) (e : Ending) (w' : World) : Prop :=
  ∃ v F, e = .returned v ∧ InstsOwn w' w.heap.size F v xs ∧ F.Nodup ∧ w.grownBy w' (some R)
end Go.Proofs.YtcihplachlokiaaGreatDoor
/- Lists read: the walk of the program's list. -/
namespace Go.Proofs.YtcihplachlokiaaGreatDoor
open Go.RowKit Go.Shelf
set_option linter.unusedVariables false
set_option linter.unusedSimpArgs false

def sliceLen18 : Value → Nat
  | .slice _ n _ => n
  | _ => 0
set_option maxHeartbeats 2000000 in
theorem list_many (R N : Nat) (r : List Nat) (w : World) (hN : 1000 < N) (h : Rd R r 0 w) :
    Calls Tryz.prog 25 #[.pointer (some ⟨R, 0, none⟩), .int .i64 N] w fun e w' => RdP R 1 0 w e w' := by
  have HT : Hid (Calls Tryz.prog 48 #[.pointer (some ⟨R, 0, none⟩), .int .i64 1] w fun e w' => e = tld 1 0 ∧ w = w') := tell_i R r 0 1 w h
  have HF : Hid (RdP R 1 0 w (tld 1 0) w) := ⟨rfl, gb_refl18 _ _⟩
  have ik : (1000 : Int) < (N : Int) := by omega
  unfold tld at HT HF
  clear h hN
  go_enter Tryz.func25, Tryz.ntmps25
  go_wp2_with fail
  refine HT.out.mono ?_
  rintro e w3 ⟨rfl, rfl⟩
  go_wp2
  exact ⟨rfl, HF.out⟩

set_option maxRecDepth 10000 in
set_option maxHeartbeats 8000000 in
theorem list_ok (R N : Nat) (r : List Nat) (XS : List InstT) (w : World) (hN : N ≤ 1000) (hr : ∀ b ∈ r, b < 256) (ha : instsM N 0 r = .inr (XS, [])) (h : Rd R r 0 w) :
    Calls Tryz.prog 25 #[.pointer (some ⟨R, 0, none⟩), .int .i64 N] w fun e w' => RdL R XS w e w' := by
  have hinfo : (Tryz.prog.info? 44).map (fun i => (i.zero, i.size, i.bytes)) = some (some (.agg #[.int .i64 0, .int .i64 0, .slice none 0 0]), 3, 40) := by kernel_rfl
  obtain ⟨i0, hi, hz0, hz1, hz2⟩ := info_parts hinfo
  clear hinfo
  have H0 : Hid (LS w R (.slice none 0 0) [] [] [] r 0 w ∧ (∀ b ∈ r, b < 256) ∧ instsM N 0 r = .inr (XS, [])) := ⟨⟨h, h.lt, .nil, World.ownsRow_nil _ _ _ _, by simp [Value.ownBlock], gb_refl18 _ _⟩, hr, ha⟩
  have ik : ¬ ((1000 : Int) < (N : Int)) := by omega
  clear h hr ha
  go_enter Tryz.func25, Tryz.ntmps25
  go_wp2
  go_loopw [5] (fun i wr => ∃ (v : Value) (k : Nat), i = v ∧ k ≤ N ∧ Hid (∃ xs cs F rk ys, LS w R v xs cs F rk (k : Nat) wr ∧ xs.length = k ∧ (∀ b ∈ rk, b < 256) ∧ instsM (N - k) (k : Nat) rk = .inr (ys, []) ∧ XS = xs ++ ys)) (fun i _ => N - (sliceLen18 i))
  case atStart => exact ⟨_, 0, rfl, Nat.zero_le _, _, _, _, _, _, H0.out.1, rfl, H0.out.2.1, H0.out.2.2, rfl⟩
  case round =>
    obtain ⟨v, k, hiv, hk, HR⟩ := hrel
    obtain ⟨xs, cs, F, rk, ys, hI, hxl, hrk, hargs⟩ := HR.out
    obtain ⟨vp, vn, vc, rfl⟩ : ∃ p n cp, v = .slice p n cp := by
      rcases hI.2.2.2.1.2 with ⟨h, _⟩ | ⟨g, cap, cur, h, _⟩
      · exact ⟨_, _, _, h⟩
      · exact ⟨_, _, _, h⟩
    subst hiv
    have hvn : vn = k := by
      rcases hI.2.2.2.1.2 with ⟨h, h0⟩ | ⟨g, cap, cur, h, _⟩
      · cases h; omega
      · cases h; omega
    subst hvn
    obtain ⟨ra, rcap, R1, _⟩ := hI.1
    have p0 : wr.cell? ⟨R, 0, none⟩ = some (.slice ra rk.length rcap) := (cell_of_row _ _ _ _ _ _ R1).trans rfl
    have p1 : wr.cell? ⟨R, 1, none⟩ = some (.int .i64 (vn : Nat)) := (cell_of_row _ _ _ _ _ _ R1).trans rfl
    clear R1
    by_cases hlt : vn < N
    · have il : (vn : Int) < (N : Int) := by omega
      obtain ⟨m, hm⟩ : ∃ m, N - vn = m + 1 := ⟨N - vn - 1, by omega⟩
      obtain ⟨hargs, hXS⟩ := hargs
      rw [hm] at hargs
      unfold instsM at hargs
      cases ho : instM rk with
      | inl e => rw [ho] at hargs; cases hargs
      | inr q4 =>
        obtain ⟨x, rk1⟩ := q4
        rw [ho] at hargs
        simp only [] at hargs
        cases hq : instsM m ((vn : Int) + 1) rk1 with
        | inl e => rw [hq] at hargs; cases hargs
        | inr q5 =>
          obtain ⟨ys', r3'⟩ := q5
          rw [hq] at hargs
          simp only [Sum.inr.injEq, Prod.mk.injEq] at hargs
          obtain ⟨rfl, rfl⟩ := hargs
          have HIn : Hid (Calls Tryz.prog 49 #[.pointer (some ⟨R, 0, none⟩)] wr fun e w' => RdI R x rk1 (vn : Nat) wr e w') := ins_ok R rk rk1 _ x wr hrk ho hI.1
          have HE : Hid (XS = (xs ++ [x]) ++ ys' ∧ instsM (N - (vn + 1)) ((vn + 1 : Nat) : Int) rk1 = .inr (ys', []) ∧ (∀ b ∈ rk1, b < 256) ∧ xs.length = vn ∧ LS w R (.slice vp vn vc) xs cs F rk (vn : Nat) wr) := ⟨by rw [hXS, List.append_assoc]; rfl, by rw [show N - (vn + 1) = m by omega]; exact hq, fun b hb => hrk b (instM_sub ho b hb), hxl, hI⟩
          clear hI hxl hrk ho hq HR hm hXS
          go_wp2_with fail
          refine HIn.out.mono ?_
          rintro e w1 ⟨va, rfl, hva, d1, g1⟩
          obtain ⟨ap, an, ac, rfl⟩ : ∃ p n cp, va = .slice p n cp := by
            rcases hva.2 with ⟨h, _⟩ | ⟨g, cap, cur, h, _⟩
            · exact ⟨_, _, _, h⟩
            · exact ⟨_, _, _, h⟩
          have gA : Below w1.heap.size w1 (w1.alloc (.cells #[.int .i64 x.code, .int .i64 x.one.op, .slice ap an ac] 44)) := (Below.refl _ _).alloc (Nat.le_refl _) _
          have hL := (HE.out.2.2.2.2.read d1 g1).later gA
          have own3 := hL.2.2.2.1
          have hA1 : ArgsOwn (w1.alloc (.cells #[.int .i64 x.code, .int .i64 x.one.op, .slice ap an ac] 44)) w.heap.size (Value.slice ap an ac).ownBlock.toList (.slice ap an ac) x.one.args := args_of ((hva.mono (by have := HE.out.2.2.2.2.2.2.2.2.2.size; omega)).alloc _)
          have hdis : ∀ b ∈ (Value.slice ap an ac).ownBlock.toList, b ∉ (Value.slice vp vn vc).ownBlock.toList ++ F := fun b hb hm => by
            have h1 := (World.ownsRow.lt hva b (by simpa using hb)).1
            have h2 := (HE.out.2.2.2.2.bounds b hm).2
            omega
          have hsz : w.heap.size ≤ w1.heap.size := Nat.le_trans HE.out.2.2.2.2.2.2.2.2.2.size g1.size
          have hfn : (Value.slice ap an ac).ownBlock.toList.Nodup := by cases (Value.slice ap an ac).ownBlock <;> simp
          have HP : Hid (LS w R (.slice vp vn vc) xs cs F rk1 (vn : Nat) (w1.alloc (.cells #[.int .i64 x.code, .int .i64 x.one.op, .slice ap an ac] 44)) ∧ ArgsOwn (w1.alloc (.cells #[.int .i64 x.code, .int .i64 x.one.op, .slice ap an ac] 44)) w.heap.size (Value.slice ap an ac).ownBlock.toList (.slice ap an ac) x.one.args ∧ (Value.slice ap an ac).ownBlock.toList.Nodup ∧ (∀ b ∈ (Value.slice ap an ac).ownBlock.toList, b ∉ (Value.slice vp vn vc).ownBlock.toList ++ F)) := ⟨hL, hA1, hfn, hdis⟩
          have hxl : xs.length = vn := HE.out.2.2.2.1
          rw [hxl] at own3
          clear hva d1 g1 gA hL hA1 hdis hfn p0 p1 HIn
          go_wp2_with (at_builtin; refine wpList_append_lies _ rfl _ _ 23 rfl w.heap.size 44 i0 (.agg #[.int .i64 0, .int .i64 0, .slice none 0 0]) 3 40 Tryz.underlying23 hi hz0 hz1 hz2 rfl (by decide) _ vn cs rfl own3 ⟨w1.heap.size, 0, none⟩ 1 1 [.int .i64 x.code, .int .i64 x.one.op, .slice ap an ac] rfl rfl (cell_three18 _ _ _ _ _) ?c2 (by omega) ?c3 ?c4 ?c5 _ rfl ?_)
          case c2 => intro u hu; simp at hu; rcases hu with rfl | rfl | rfl <;> rfl
          case c3 => unfold maxLen; omega
          case c4 => omega
          case c5 => simp; omega
          intro g' cap' w6 own6 g6 hat hlt6
          have key : LS w R (.slice (some ⟨g', 0, none⟩) (xs.length + 1) cap') (xs ++ [x]) (cs ++ [.int .i64 x.code, .int .i64 x.one.op, .slice ap an ac]) (F ++ (Value.slice ap an ac).ownBlock.toList) rk1 (vn : Nat) w6 := LS.put HP.out.1 HP.out.2.1 HP.out.2.2.1 HP.out.2.2.2 (by rw [hxl]; exact own6) g6 (by simpa using hat)
          obtain ⟨ra, rcap, R1, _⟩ := key.1
          have p1 : w6.cell? ⟨R, 1, none⟩ = some (.int .i64 (vn : Nat)) := (cell_of_row _ _ _ _ _ _ R1).trans rfl
          have q1 : w6.frozen? ⟨R, 1, none⟩ = false := by simp [World.frozen?, R1]
          have HNx : Hid (∃ xs2 cs F rk ys, LS w R (.slice (some ⟨g', 0, none⟩) (vn + 1) cap') xs2 cs F rk ((vn + 1 : Nat) : Int) (w6.setCell ⟨R, 1, none⟩ (.int .i64 ((vn : Int) + 1))) ∧ xs2.length = vn + 1 ∧ (∀ b ∈ rk, b < 256) ∧ instsM (N - (vn + 1)) ((vn + 1 : Nat) : Int) rk = .inr (ys, []) ∧ XS = xs2 ++ ys) := ⟨_, _, _, _, _, by rw [← hxl]; exact key.setAt _, by simp [hxl], HE.out.2.2.1, HE.out.2.1, HE.out.1⟩
          clear own3 own6 g6 hat hlt6 key HP HE R1 hxl
          go_wp2
          go_roundw
          case rel => exact ⟨_, vn + 1, rfl, by omega, HNx⟩
          case measure => simp [sliceLen18]; omega
    · have il : ¬ ((vn : Int) < (N : Int)) := by omega
      have hkn : N - vn = 0 := by omega
      obtain ⟨hargs, hXS⟩ := hargs
      rw [hkn] at hargs
      unfold instsM at hargs
      simp only [Sum.inr.injEq, Prod.mk.injEq] at hargs
      obtain ⟨rfl, rfl⟩ := hargs
      rw [List.append_nil] at hXS
      have HF : Hid (RdL R XS w (.returned (.slice vp vn vc)) wr) := by
        refine ⟨_, _, rfl, ?_, hI.2.2.2.2.1, hI.2.2.2.2.2⟩
        rw [hXS]
        exact hI.own
      rw [show ([] : List Nat).length = 0 from rfl] at p0
      clear hI HR hxl hrk hXS hkn H0
      go_wp2
      go_ret
      exact HF.out
end Go.Proofs.YtcihplachlokiaaGreatDoor
