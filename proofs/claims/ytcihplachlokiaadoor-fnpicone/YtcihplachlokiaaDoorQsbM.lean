/- The specification's reader: operands. -/
import Derived.Test.YtcihplachlokiaaDoorQrjM
namespace Go.Proofs.YtcihplachlokiaaDoor
open Go.RowKit Go.Shelf
set_option linter.unusedVariables false
set_option linter.unusedSimpArgs false

theorem atL_lt2 {r : List Nat} (hr : ∀ b ∈ r, b < 256) : ∀ j, atL r j < 256 := fun j => atL_lt hr j
theorem numM_none {m : Nat} {r : List Nat} (hm : m = 1 ∨ m = 2 ∨ m = 4) (h : numM m r = none) : r.length < m := by
  rcases r with _ | ⟨a, _ | ⟨b, _ | ⟨c, _ | ⟨d, r⟩⟩⟩⟩ <;> rcases hm with rfl | rfl | rfl <;> simp [numM] at h ⊢
theorem numM_some {m : Nat} {r r' : List Nat} {v : Int} (hr : ∀ b ∈ r, b < 256) (h : numM m r = some (v, r')) : m ≤ r.length ∧ 0 < m ∧ m ≤ 4 ∧ r' = r.drop m ∧ v = vlS (atL r) m := by
  unfold numM at h
  split at h
  · cases h
    exact ⟨by simp, by omega, by omega, rfl, by rw [vl_1]; rfl⟩
  · cases h
    exact ⟨by simp, by omega, by omega, rfl, by rw [vl_2 _ (atL_lt2 hr)]; rfl⟩
  · cases h
    exact ⟨by simp, by omega, by omega, rfl, by rw [vl_4 _ (atL_lt2 hr)]; rfl⟩
  · cases h
/-- A number taken and told, as the specification does it. -/
theorem snum_ok (R m : Nat) (r r' : List Nat) (v : Int) (w : World) (hr : ∀ b ∈ r, b < 256) (h : numM m r = some (v, r')) (hS : Sd R r w) :
    Calls Tryd.prog 48 #[.pointer (some ⟨R, 0, none⟩), .int .i64 m] w fun e w' => ∃ g o c, e = .returned (.tuple #[.slice (some ⟨g, o, none⟩) m c, .bool true]) ∧ Sd R r' w' ∧ w.grownBy w' (some R) ∧ g < R ∧ w'.cell? ⟨g, o, none⟩ = some (.int .u8 (atL r 0 : Nat)) ∧
      (∀ W, W.heap[g]? = w'.heap[g]? → Calls Tryd.prog 66 #[.slice (some ⟨g, o, none⟩) m c] W fun e w'' => e = .returned (.int .i64 v) ∧ W = w'') := by
  obtain ⟨h1, h2, h3, rfl, rfl⟩ := numM_some hr h
  refine (stake_ok R m r w h2 h1 hS).mono ?_
  rintro e w' ⟨g, o, c, rfl, ⟨hg, hc⟩, hd, gg⟩
  refine ⟨g, o, c, rfl, hd, gg, hg, by have := hc 0 h2; rwa [Nat.add_zero] at this, fun W e1 => val_s g o m c (atL r) (atL_lt2 hr) W h2 h3 fun j hj => ?_⟩
  have := hc j hj
  unfold World.cell? at this ⊢
  simp only [] at this ⊢
  rw [e1]
  exact this
theorem snum_no (R m : Nat) (r : List Nat) (w : World) (hm : m = 1 ∨ m = 2 ∨ m = 4) (h : numM m r = none) (hS : Sd R r w) :
    Calls Tryd.prog 48 #[.pointer (some ⟨R, 0, none⟩), .int .i64 m] w fun e w' => e = .returned (.tuple #[.slice none 0 0, .bool false]) ∧ Below w.heap.size w w' :=
  stake_no R m r w (by omega) (numM_none hm h) hS

/-- A box and a value handed back. -/
theorem ret_ct {P : Program} {fn : Func} {Q : Ending → World → Prop} {a : Act} {w : World} {p p2 : Tmp} {ty : TypeId} (hf : fn.results = #[.cell p ty, .tmp p2]) {g : Nat} (hp : a.tmps.getD p undef = .pointer (some ⟨g, 0, none⟩)) {v2 : Value} (hp2 : a.tmps.getD p2 undef = v2)
    {v : Value} (h1 : (loadVar ty ⟨g, 0, none⟩).run P w = .ok v w) (hdf : a.defers = []) (hR : Q (.returned (.tuple #[v, v2])) w) : bodyPost P fn Q .ret a w := by
  refine bodyPost_ret (v := .tuple #[v, v2]) ?_ hdf hR
  have hp' : a.tmps[p]?.getD undef = .pointer (some ⟨g, 0, none⟩) := by simpa using hp
  have hp2' : a.tmps[p2]?.getD undef = v2 := by simpa using hp2
  simp [results, hf, hp', hp2', asAddr, h1]
/-- Where the reading of an operand stands: the reader, the result's box, the operand's box. -/
def AS0 (w : World) (R : Nat) (r : List Nat) (W : World) : Prop :=
  Sd R r W ∧ R < w.heap.size ∧ W.heap[w.heap.size]? = some (.cells #[.int .i64 0, .int .i64 0, .int .i64 0] 87 (0, 0)) ∧ w.grownBy W (some R)
theorem AS0.start {w : World} {R : Nat} {r : List Nat} (h : Sd R r w) : AS0 w R r (w.alloc (.cells #[.int .i64 0, .int .i64 0, .int .i64 0] 87)) :=
  ⟨h.later ((Below.refl _ _).alloc (Nat.le_refl _) _), h.lt, heap_alloc_last _ _, gb_al _ _ _⟩
theorem AS0.lt {w W : World} {R : Nat} {r : List Nat} (h : AS0 w R r W) : w.heap.size < W.heap.size := (Array.getElem?_eq_some_iff.1 h.2.2.1).1
theorem AS0.read {w W W' : World} {R : Nat} {r r' : List Nat} (h : AS0 w R r W) (d : Sd R r' W') (g : W.grownBy W' (some R)) : AS0 w R r' W' := by
  obtain ⟨h1, h2, h3, h4⟩ := h
  exact ⟨d, h2, gb_row g h3 (by omega), gb_step18 h4 g⟩
theorem AS0.later {w W W' : World} {R : Nat} {r : List Nat} (h : AS0 w R r W) (g : Below W.heap.size W W') : AS0 w R r W' :=
  h.read (h.1.later g) ⟨g.os, g.tape, g.output, g.size, fun k hk _ => g.block k hk⟩
def AS (w : World) (R B3 : Nat) (k n p : Int) (r : List Nat) (W : World) : Prop :=
  AS0 w R r W ∧ w.heap.size < B3 ∧ W.heap[B3]? = some (.cells #[.int .i64 k, .int .i64 n, .int .i64 p] 87 (0, 0))
theorem AS.start {w W : World} {R : Nat} {k : Int} {r : List Nat} (h : AS0 w R r W) : AS w R W.heap.size k 0 0 r (W.alloc (.cells #[.int .i64 k, .int .i64 0, .int .i64 0] 87)) :=
  ⟨h.later ((Below.refl _ _).alloc (Nat.le_refl _) _), h.lt, heap_alloc_last _ _⟩
theorem AS.read {w W W' : World} {R B3 : Nat} {k n p : Int} {r r' : List Nat} (h : AS w R B3 k n p r W) (d : Sd R r' W') (g : W.grownBy W' (some R)) : AS w R B3 k n p r' W' :=
  ⟨h.1.read d g, h.2.1, gb_row g h.2.2 (by have := h.1.2.1; have := h.2.1; omega)⟩
theorem AS.put {w W : World} {R B3 : Nat} {k n p : Int} {r : List Nat} (h : AS w R B3 k n p r W) (f : Nat) (v : Value) : AS0 w R r (W.setCell ⟨B3, f, none⟩ v) := by
  obtain ⟨⟨h1, h2, h3, h4⟩, h5, h6⟩ := h
  exact ⟨h1.gr (row := some B3) (gb_set18 (gb_refl18 _ _) _ _) (fun b hb => by cases hb; omega), h2, row_other h3 _ _ (by omega) _, gb_new h4 B3 (by omega) _ _⟩
/-- The last move: the operand into its result. -/
theorem as_fin {w W : World} {R : Nat} {x y z : Int} {r : List Nat} (h : AS0 w R r W) :
    (((W.setCell ⟨w.heap.size, 0, none⟩ (.int .i64 x)).setCell ⟨w.heap.size, 1, none⟩ (.int .i64 y)).setCell ⟨w.heap.size, 2, none⟩ (.int .i64 z)).heap[w.heap.size]? = some (.cells #[.int .i64 x, .int .i64 y, .int .i64 z] 87 (0, 0)) ∧
    Sd R r (((W.setCell ⟨w.heap.size, 0, none⟩ (.int .i64 x)).setCell ⟨w.heap.size, 1, none⟩ (.int .i64 y)).setCell ⟨w.heap.size, 2, none⟩ (.int .i64 z)) ∧
    w.grownBy (((W.setCell ⟨w.heap.size, 0, none⟩ (.int .i64 x)).setCell ⟨w.heap.size, 1, none⟩ (.int .i64 y)).setCell ⟨w.heap.size, 2, none⟩ (.int .i64 z)) (some R) := by
  obtain ⟨h1, h2, h3, h4⟩ := h
  have s1 : ∀ (W : World) (f : Nat) (v : Value), Sd R r W → Sd R r (W.setCell ⟨w.heap.size, f, none⟩ v) := fun W f v h => h.gr (row := some w.heap.size) (gb_set18 (gb_refl18 _ _) _ _) (fun b hb => by cases hb; exact h2)
  exact ⟨row_put (row_put (row_put h3 0 _) 1 _) 2 _, s1 _ _ _ (s1 _ _ _ (s1 _ _ _ h1)), gb_new (gb_new (gb_new h4 _ (Nat.le_refl _) _ _) _ (Nat.le_refl _) _ _) _ (Nat.le_refl _) _ _⟩
theorem infoDAs : (Tryd.prog.info? 87).map (·.size) = some 3 := by kernel_rfl
theorem as_load {W : World} {B : Nat} {x y z : Int} (h : W.heap[B]? = some (.cells #[.int .i64 x, .int .i64 y, .int .i64 z] 87 (0, 0))) : (loadVar 87 ⟨B, 0, none⟩).run Tryd.prog W = .ok (.agg #[.int .i64 x, .int .i64 y, .int .i64 z]) W :=
  run_loadVar_row W B _ 87 _ _ _ h Tryd.underlying87 rfl infoDAs

/-- What a read of an operand leaves. -/
def SaR (R : Nat) (x : ArgT) (r : List Nat) (w : World) (e : Ending) (w' : World) : Prop :=
  e = .returned (.tuple #[.agg #[.int .i64 x.1, .int .i64 x.2.1, .int .i64 x.2.2], .int .i64 0]) ∧ Sd R r w' ∧ w.grownBy w' (some R)
set_option maxRecDepth 10000 in
set_option maxHeartbeats 4000000 in
theorem arg_s_ok (R : Nat) (r r' : List Nat) (x : ArgT) (w : World) (hr : ∀ b ∈ r, b < 256) (ha : argM r = .inr (x, r')) (h : Sd R r w) :
    Calls Tryd.prog 52 #[.pointer (some ⟨R, 0, none⟩)] w fun e w' => SaR R x r' w e w' := by
  unfold argM at ha
  cases h1 : numM 1 r with
  | none => rw [h1] at ha; cases ha
  | some q1 =>
    obtain ⟨k, r1⟩ := q1
    rw [h1] at ha
    simp only [] at ha
    have hr1 : ∀ b ∈ r1, b < 256 := fun b hb => hr b (numM_sub h1 b hb)
    by_cases hw : wdT k = 0
    · rw [if_pos hw] at ha; cases ha
    rw [if_neg hw] at ha
    have hk : 1 ≤ k ∧ k ≤ 13 := by
      unfold wdT at hw
      by_cases h0 : k < 1 ∨ 13 < k
      · rw [if_pos h0] at hw; exact absurd rfl hw
      · omega
    cases h2 : numM (wdT k) r1 with
    | none => rw [h2] at ha; cases ha
    | some q2 =>
      obtain ⟨n, r2⟩ := q2
      rw [h2] at ha
      simp only [] at ha
      have hr2 : ∀ b ∈ r2, b < 256 := fun b hb => hr1 b (numM_sub h2 b hb)
      have hkv : ((atL r 0 : Nat) : Int) = k := by
        have := (numM_some hr h1).2.2.2.2
        rw [vl_1] at this
        exact this.symm
      obtain ⟨A, hA⟩ : ∃ A, atL r 0 = A := ⟨_, rfl⟩
      have HT1 : Hid (Calls Tryd.prog 48 #[.pointer (some ⟨R, 0, none⟩), .int .i64 1] (w.alloc (.cells #[.int .i64 0, .int .i64 0, .int .i64 0] 87)) fun e w' => ∃ g o c, e = .returned (.tuple #[.slice (some ⟨g, o, none⟩) 1 c, .bool true]) ∧ AS0 w R r1 w' ∧ g < R ∧ w'.cell? ⟨g, o, none⟩ = some (.int .u8 (A : Nat))) := (snum_ok R 1 r r1 k _ hr h1 (AS0.start h).1).mono fun e w' ⟨g, o, c, e1, e2, e3, e4, e5, _⟩ => ⟨g, o, c, e1, (AS0.start h).read e2 e3, e4, by rw [← hA]; exact e5⟩
      have HT2 : Hid (∀ W, Sd R r1 W → Calls Tryd.prog 48 #[.pointer (some ⟨R, 0, none⟩), .int .i64 (wdT k : Nat)] W fun e w' => ∃ g o c, e = .returned (.tuple #[.slice (some ⟨g, o, none⟩) (wdT k) c, .bool true]) ∧ Sd R r2 w' ∧ W.grownBy w' (some R) ∧ g < R ∧ w'.cell? ⟨g, o, none⟩ = some (.int .u8 (atL r1 0 : Nat)) ∧ (∀ W, W.heap[g]? = w'.heap[g]? → Calls Tryd.prog 66 #[.slice (some ⟨g, o, none⟩) (wdT k) c] W fun e w'' => e = .returned (.int .i64 n) ∧ W = w'')) := fun W hW => snum_ok R (wdT k) r1 r2 n W hr1 h2 hW
      have HW : Hid (∀ W, Calls Tryd.prog 57 #[.int .i64 k] W fun e w' => e = .returned (.int .i64 (wdT k : Nat)) ∧ W = w') := fun W => wd_s k W hk.1 hk.2
      obtain ⟨M, HM⟩ : ∃ M : Nat, Hid (M = wdT k) := ⟨_, rfl⟩
      rw [← HM.out] at HT2 HW
      have hA256 : A < 256 := by rw [← hA]; exact atL_lt hr 0
      rw [hA] at hkv
      have k1 : ¬ k < 1 := by omega
      have k2 : ¬ 13 < k := by omega
      clear h h1 h2 hw hr hr1 hA
      go_enter Tryd.func52, Tryd.ntmps52
      go_wp2_with fail
      refine HT1.out.mono ?_
      rintro e w1 ⟨g1, o1, c1, rfl, d1, hg1, x1⟩
      have hI := AS.start (k := k) d1
      have hg1' : g1 < w1.heap.size := by have := d1.lt; have := d1.2.1; omega
      obtain ⟨B3, hB3⟩ : ∃ B, w1.heap.size = B := ⟨_, rfl⟩
      rw [hB3] at hI hg1'
      have I1 : Hid (AS w R B3 k 0 0 r1 (w1.alloc (.cells #[.int .i64 k, .int .i64 0, .int .i64 0] 87))) := hI
      clear d1 hI HT1 hg1
      go_wp2_with fail
      generalize (w1.alloc (.cells #[.int .i64 k, .int .i64 0, .int .i64 0] 87)) = W1 at I1 ⊢
      refine (HW.out W1).mono ?_
      rintro e w2 ⟨rfl, rfl⟩
      clear hB3 x1
      go_wp2_with fail
      refine (HT2.out W1 I1.out.1.1).mono ?_
      rintro e w3 ⟨g3, o3, c3, rfl, d3, gg3, hg3, x3, hv3⟩
      have I3 := I1.out.read d3 gg3
      have HV : Hid (Calls Tryd.prog 66 #[.slice (some ⟨g3, o3, none⟩) (M : Nat) c3] w3 fun e w'' => e = .returned (.int .i64 n) ∧ w3 = w'') := hv3 w3 rfl
      obtain ⟨x0, x1, x2, y0, y1, y2⟩ := box3 I3.2.2
      obtain ⟨z0, z1, z2, u0, u1, u2⟩ := box3 I3.1.2.2.1
      have hb1 : B3 ≠ w.heap.size := by have := I3.2.1; omega
      have hb2 : w.heap.size ≠ B3 := by have := I3.2.1; omega
      have J3 : Hid (AS0 w R r2 (w3.setCell ⟨B3, 1, none⟩ (.int .i64 n)) ∧ (w3.setCell ⟨B3, 1, none⟩ (.int .i64 n)).heap[B3]? = some (.cells #[.int .i64 k, .int .i64 n, .int .i64 0] 87 (0, 0)) ∧ w.heap.size < B3) := ⟨I3.put 1 _, row_put I3.2.2 1 _, I3.2.1⟩
      clear I1 d3 gg3 hg3 hv3 I3 x3 HW HT2
      go_wp2_with fail
      refine HV.out.mono ?_
      rintro e w4 ⟨rfl, rfl⟩
      by_cases h12 : k = 12
      · rw [if_pos h12] at ha
        subst h12
        cases h3 : numM 1 r2 with
        | none => rw [h3] at ha; cases ha
        | some q3 =>
          obtain ⟨p, r3⟩ := q3
          rw [h3] at ha
          cases ha
          have hpv : ((atL r2 0 : Nat) : Int) = p := by
            have := (numM_some hr2 h3).2.2.2.2
            rw [vl_1] at this
            exact this.symm
          have hP256 := atL_lt hr2 0
          obtain ⟨A2, hA2⟩ : ∃ A, atL r2 0 = A := ⟨_, rfl⟩
          rw [hA2] at hpv hP256
          have HT3 : Hid (Calls Tryd.prog 48 #[.pointer (some ⟨R, 0, none⟩), .int .i64 1] (w3.setCell ⟨B3, 1, none⟩ (.int .i64 n)) fun e w' => ∃ g o c, e = .returned (.tuple #[.slice (some ⟨g, o, none⟩) 1 c, .bool true]) ∧ AS w R B3 12 n 0 r' w' ∧ w'.cell? ⟨g, o, none⟩ = some (.int .u8 (A2 : Nat))) := (snum_ok R 1 r2 r' p _ hr2 h3 J3.out.1.1).mono fun e w' ⟨g, o, c, e1, e2, e3, e4, e5, _⟩ => ⟨g, o, c, e1, AS.read ⟨J3.out.1, J3.out.2.2, J3.out.2.1⟩ e2 e3, by rw [← hA2]; exact e5⟩
          have e12 : ((12 : Int) == 12) = true := by decide
          clear J3 HV h3 hA2 hr2
          go_wp2_with fail
          refine HT3.out.mono ?_
          rintro e w5 ⟨g5, o5, c5, rfl, I5, x5⟩
          clear x0 x1 x2 y0 y1 y2 z0 z1 z2 u0 u1 u2
          obtain ⟨x0, x1, x2, y0, y1, y2⟩ := box3 I5.2.2
          obtain ⟨z0, z1, z2, u0, u1, u2⟩ := box3 I5.1.2.2.1
          have J5 : Hid (AS0 w R r' (w5.setCell ⟨B3, 2, none⟩ (.int .i64 p)) ∧ (w5.setCell ⟨B3, 2, none⟩ (.int .i64 p)).heap[B3]? = some (.cells #[.int .i64 12, .int .i64 n, .int .i64 p] 87 (0, 0)) ∧ w.heap.size < B3) := ⟨I5.put 2 _, row_put I5.2.2 2 _, I5.2.1⟩
          clear HT3 I5
          have HFin := as_fin (x := 12) (y := n) (z := p) J5.out.1
          have HRow := as_load HFin.1
          have HFn : Hid (SaR R (12, n, p) r' w (.returned (.tuple #[.agg #[.int .i64 12, .int .i64 n, .int .i64 p], .int .i64 0])) ((((w5.setCell ⟨B3, 2, none⟩ (.int .i64 p)).setCell ⟨w.heap.size, 0, none⟩ (.int .i64 12)).setCell ⟨w.heap.size, 1, none⟩ (.int .i64 n)).setCell ⟨w.heap.size, 2, none⟩ (.int .i64 p))) := ⟨rfl, HFin.2⟩
          clear HFin J5
          go_wp2
          exact ret_ct rfl rfl rfl HRow rfl HFn.out
      · rw [if_neg h12] at ha
        cases ha
        have e12 : (k == 12) = false := by simpa using h12
        have HFin := as_fin (x := k) (y := n) (z := 0) J3.out.1
        have HRow := as_load HFin.1
        have HFn : Hid (SaR R (k, n, 0) r' w (.returned (.tuple #[.agg #[.int .i64 k, .int .i64 n, .int .i64 0], .int .i64 0])) ((((w3.setCell ⟨B3, 1, none⟩ (.int .i64 n)).setCell ⟨w.heap.size, 0, none⟩ (.int .i64 k)).setCell ⟨w.heap.size, 1, none⟩ (.int .i64 n)).setCell ⟨w.heap.size, 2, none⟩ (.int .i64 0))) := ⟨rfl, HFin.2⟩
        clear HFin J3 HV
        go_wp2
        exact ret_ct rfl rfl rfl HRow rfl HFn.out
end Go.Proofs.YtcihplachlokiaaDoor
/- The specification's reader: operands that cannot be read. -/
namespace Go.Proofs.YtcihplachlokiaaDoor
open Go.RowKit Go.Shelf
set_option linter.unusedVariables false
set_option linter.unusedSimpArgs false

theorem argM_pos {r : List Nat} {c : Int} (h : argM r = .inl c) : 0 < c := by
  unfold argM at h
  cases h1 : numM 1 r with
  | none => rw [h1] at h; cases h; decide
  | some q1 =>
    obtain ⟨k, r1⟩ := q1
    rw [h1] at h
    simp only [] at h
    by_cases hw : wdT k = 0
    · rw [if_pos hw] at h; cases h; decide
    rw [if_neg hw] at h
    cases h2 : numM (wdT k) r1 with
    | none => rw [h2] at h; cases h; decide
    | some q2 =>
      obtain ⟨n, r2⟩ := q2
      rw [h2] at h
      simp only [] at h
      by_cases h12 : k = 12
      · rw [if_pos h12] at h
        cases h3 : numM 1 r2 with
        | none => rw [h3] at h; cases h; decide
        | some q3 => rw [h3] at h; cases h
      · rw [if_neg h12] at h; cases h
/-- What a read of an operand leaves, where there is none. -/
def SaN (R : Nat) (c : Int) (w : World) (e : Ending) (w' : World) : Prop :=
  e = .returned (.tuple #[.agg #[.int .i64 0, .int .i64 0, .int .i64 0], .int .i64 c]) ∧ w.grownBy w' (some R)
set_option maxRecDepth 10000 in
set_option maxHeartbeats 4000000 in
theorem arg_s_no (R : Nat) (r : List Nat) (c : Int) (w : World) (hr : ∀ b ∈ r, b < 256) (ha : argM r = .inl c) (h : Sd R r w) :
    Calls Tryd.prog 52 #[.pointer (some ⟨R, 0, none⟩)] w fun e w' => SaN R c w e w' := by
  unfold argM at ha
  cases h1 : numM 1 r with
  | none =>
    rw [h1] at ha
    cases ha
    have HT1 : Hid (Calls Tryd.prog 48 #[.pointer (some ⟨R, 0, none⟩), .int .i64 1] (w.alloc (.cells #[.int .i64 0, .int .i64 0, .int .i64 0] 87)) fun e w' => e = .returned (.tuple #[.slice none 0 0, .bool false]) ∧ AS0 w R r w') := (snum_no R 1 r _ (.inl rfl) h1 (AS0.start h).1).mono fun e w' ⟨a, b⟩ => ⟨a, (AS0.start h).later b⟩
    clear h h1 hr
    go_enter Tryd.func52, Tryd.ntmps52
    go_wp2_with fail
    refine HT1.out.mono ?_
    rintro e w1 ⟨rfl, d1⟩
    obtain ⟨z0, z1, z2, u0, u1, u2⟩ := box3 d1.2.2.1
    have HFin := as_fin (x := 0) (y := 0) (z := 0) d1
    have HRow := as_load HFin.1
    have HFn : Hid (SaN R 6 w (.returned (.tuple #[.agg #[.int .i64 0, .int .i64 0, .int .i64 0], .int .i64 6])) (((w1.setCell ⟨w.heap.size, 0, none⟩ (.int .i64 0)).setCell ⟨w.heap.size, 1, none⟩ (.int .i64 0)).setCell ⟨w.heap.size, 2, none⟩ (.int .i64 0))) := ⟨rfl, HFin.2.2⟩
    clear HFin d1 HT1
    go_wp2
    refine ret_ct rfl rfl rfl HRow rfl ?_; exact HFn.out
  | some q1 =>
    obtain ⟨k, r1⟩ := q1
    rw [h1] at ha
    simp only [] at ha
    have hr1 : ∀ b ∈ r1, b < 256 := fun b hb => hr b (numM_sub h1 b hb)
    have hkv : ((atL r 0 : Nat) : Int) = k := by
      have := (numM_some hr h1).2.2.2.2
      rw [vl_1] at this
      exact this.symm
    obtain ⟨A, hA⟩ : ∃ A, atL r 0 = A := ⟨_, rfl⟩
    have HT1 : Hid (Calls Tryd.prog 48 #[.pointer (some ⟨R, 0, none⟩), .int .i64 1] (w.alloc (.cells #[.int .i64 0, .int .i64 0, .int .i64 0] 87)) fun e w' => ∃ g o c, e = .returned (.tuple #[.slice (some ⟨g, o, none⟩) 1 c, .bool true]) ∧ AS0 w R r1 w' ∧ g < R ∧ w'.cell? ⟨g, o, none⟩ = some (.int .u8 (A : Nat))) := (snum_ok R 1 r r1 k _ hr h1 (AS0.start h).1).mono fun e w' ⟨g, o, c, e1, e2, e3, e4, e5, _⟩ => ⟨g, o, c, e1, (AS0.start h).read e2 e3, e4, by rw [← hA]; exact e5⟩
    have hA256 : A < 256 := by rw [← hA]; exact atL_lt hr 0
    rw [hA] at hkv
    clear h h1 hr hA
    go_enter Tryd.func52, Tryd.ntmps52
    go_wp2_with fail
    refine HT1.out.mono ?_
    rintro e w1 ⟨g1, o1, c1, rfl, d1, hg1, x1⟩
    have hI := AS.start (k := k) d1
    have hg1' : g1 < w1.heap.size := by have := d1.lt; have := d1.2.1; omega
    obtain ⟨B3, hB3⟩ : ∃ B, w1.heap.size = B := ⟨_, rfl⟩
    rw [hB3] at hI hg1'
    have I1 : Hid (AS w R B3 k 0 0 r1 (w1.alloc (.cells #[.int .i64 k, .int .i64 0, .int .i64 0] 87))) := hI
    clear d1 hI HT1 hg1
    by_cases hw : wdT k = 0
    · rw [if_pos hw] at ha
      cases ha
      have hk : k < 1 ∨ 13 < k := by
        unfold wdT at hw
        by_cases h0 : k < 1 ∨ 13 < k
        · exact h0
        · rw [if_neg h0] at hw; split at hw <;> first | (split at hw <;> omega) | omega
      have kd : (decide (k < 1) || decide (13 < k)) = true := by
        rcases hk with hk | hk
        · rw [decide_eq_true hk]; rfl
        · rw [decide_eq_true hk, Bool.or_true]
      clear hw
      go_upto_region 5 with fail
      generalize (w1.alloc (.cells #[.int .i64 k, .int .i64 0, .int .i64 0] 87)) = W1 at I1 ⊢
      obtain ⟨x0, x1, x2, y0, y1, y2⟩ := box3 I1.out.2.2
      obtain ⟨z0, z1, z2, u0, u1, u2⟩ := box3 I1.out.1.2.2.1
      have HFin := as_fin (x := 0) (y := 0) (z := 0) I1.out.1
      have HRow := as_load HFin.1
      have HFn : Hid (SaN R 3 w (.returned (.tuple #[.agg #[.int .i64 0, .int .i64 0, .int .i64 0], .int .i64 3])) (((W1.setCell ⟨w.heap.size, 0, none⟩ (.int .i64 0)).setCell ⟨w.heap.size, 1, none⟩ (.int .i64 0)).setCell ⟨w.heap.size, 2, none⟩ (.int .i64 0))) := ⟨rfl, HFin.2.2⟩
      clear HFin I1 hB3
      rcases hk with hk | hk
      · go_wp2

        refine ret_ct rfl rfl rfl HRow rfl ?_; exact HFn.out
      · have hk1 : ¬ k < 1 := by omega
        go_wp2
        refine ret_ct rfl rfl rfl HRow rfl ?_; exact HFn.out
    · rw [if_neg hw] at ha
      have hk : 1 ≤ k ∧ k ≤ 13 := by
        unfold wdT at hw
        by_cases h0 : k < 1 ∨ 13 < k
        · rw [if_pos h0] at hw; exact absurd rfl hw
        · omega
      have HW : Hid (∀ W, Calls Tryd.prog 57 #[.int .i64 k] W fun e w' => e = .returned (.int .i64 (wdT k : Nat)) ∧ W = w') := fun W => wd_s k W hk.1 hk.2
      obtain ⟨M, HM⟩ : ∃ M : Nat, Hid (M = wdT k) := ⟨_, rfl⟩
      rw [← HM.out] at HW
      have k1 : ¬ k < 1 := by omega
      have k2 : ¬ 13 < k := by omega
      go_wp2_with fail
      generalize (w1.alloc (.cells #[.int .i64 k, .int .i64 0, .int .i64 0] 87)) = W1 at I1 ⊢
      refine (HW.out W1).mono ?_
      rintro e w2 ⟨rfl, rfl⟩
      clear hB3 x1
      cases h2 : numM (wdT k) r1 with
      | none =>
        rw [h2] at ha
        cases ha
        have HT2 : Hid (Calls Tryd.prog 48 #[.pointer (some ⟨R, 0, none⟩), .int .i64 (wdT k : Nat)] W1 fun e w' => e = .returned (.tuple #[.slice none 0 0, .bool false]) ∧ AS0 w R r1 w') := (snum_no R (wdT k) r1 _ (wd_124 hw) h2 I1.out.1.1).mono fun e w' ⟨a, b⟩ => ⟨a, I1.out.1.later b⟩
        rw [← HM.out] at HT2
        clear hw h2 I1
        go_wp2_with fail
        refine HT2.out.mono ?_
        rintro e w3 ⟨rfl, d1⟩
        obtain ⟨z0, z1, z2, u0, u1, u2⟩ := box3 d1.2.2.1
        have HFin := as_fin (x := 0) (y := 0) (z := 0) d1
        have HRow := as_load HFin.1
        have HFn : Hid (SaN R 6 w (.returned (.tuple #[.agg #[.int .i64 0, .int .i64 0, .int .i64 0], .int .i64 6])) (((w3.setCell ⟨w.heap.size, 0, none⟩ (.int .i64 0)).setCell ⟨w.heap.size, 1, none⟩ (.int .i64 0)).setCell ⟨w.heap.size, 2, none⟩ (.int .i64 0))) := ⟨rfl, HFin.2.2⟩
        clear HFin d1 HT2
        go_wp2
        refine ret_ct rfl rfl rfl HRow rfl ?_; exact HFn.out
      | some q2 =>
        obtain ⟨n, r2⟩ := q2
        rw [h2] at ha
        simp only [] at ha
        by_cases h12 : k = 12
        · rw [if_pos h12] at ha
          cases h3 : numM 1 r2 with
          | some q3 => rw [h3] at ha; cases ha
          | none =>
            rw [h3] at ha
            cases ha
            have HT2 : Hid (∀ W, Sd R r1 W → Calls Tryd.prog 48 #[.pointer (some ⟨R, 0, none⟩), .int .i64 (wdT k : Nat)] W fun e w' => ∃ g o c, e = .returned (.tuple #[.slice (some ⟨g, o, none⟩) (wdT k) c, .bool true]) ∧ Sd R r2 w' ∧ W.grownBy w' (some R) ∧ g < R ∧ w'.cell? ⟨g, o, none⟩ = some (.int .u8 (atL r1 0 : Nat)) ∧ (∀ W, W.heap[g]? = w'.heap[g]? → Calls Tryd.prog 66 #[.slice (some ⟨g, o, none⟩) (wdT k) c] W fun e w'' => e = .returned (.int .i64 n) ∧ W = w'')) := fun W hW => snum_ok R (wdT k) r1 r2 n W hr1 h2 hW
            rw [← HM.out] at HT2
            clear hw h2
            go_wp2_with fail
            refine (HT2.out W1 I1.out.1.1).mono ?_
            rintro e w3 ⟨g3, o3, c3, rfl, d3, gg3, hg3, x3, hv3⟩
            have I3 := I1.out.read d3 gg3
            have HV : Hid (Calls Tryd.prog 66 #[.slice (some ⟨g3, o3, none⟩) (M : Nat) c3] w3 fun e w'' => e = .returned (.int .i64 n) ∧ w3 = w'') := hv3 w3 rfl
            obtain ⟨x0, x1, x2, y0, y1, y2⟩ := box3 I3.2.2
            have hb1 : B3 ≠ w.heap.size := by have := I3.2.1; omega
            have hb2 : w.heap.size ≠ B3 := by have := I3.2.1; omega
            have J3 : Hid (AS0 w R r2 (w3.setCell ⟨B3, 1, none⟩ (.int .i64 n)) ∧ (w3.setCell ⟨B3, 1, none⟩ (.int .i64 n)).heap[B3]? = some (.cells #[.int .i64 k, .int .i64 n, .int .i64 0] 87 (0, 0)) ∧ w.heap.size < B3) := ⟨I3.put 1 _, row_put I3.2.2 1 _, I3.2.1⟩
            have HT3 : Hid (Calls Tryd.prog 48 #[.pointer (some ⟨R, 0, none⟩), .int .i64 1] (w3.setCell ⟨B3, 1, none⟩ (.int .i64 n)) fun e w' => e = .returned (.tuple #[.slice none 0 0, .bool false]) ∧ AS0 w R r2 w') := (snum_no R 1 r2 _ (.inl rfl) h3 J3.out.1.1).mono fun e w' ⟨a, b⟩ => ⟨a, J3.out.1.later b⟩
            have e12 : (k == 12) = true := by simpa using h12
            clear I1 d3 gg3 hg3 hv3 I3 x3 HW HT2 J3 h3
            go_wp2_with fail
            refine HV.out.mono ?_
            rintro e w4 ⟨rfl, rfl⟩
            clear HV
            go_wp2_with fail
            refine HT3.out.mono ?_
            rintro e w5 ⟨rfl, d1⟩
            clear x0 x1 x2 y0 y1 y2
            obtain ⟨z0, z1, z2, u0, u1, u2⟩ := box3 d1.2.2.1
            have HFin := as_fin (x := 0) (y := 0) (z := 0) d1
            have HRow := as_load HFin.1
            have HFn : Hid (SaN R 6 w (.returned (.tuple #[.agg #[.int .i64 0, .int .i64 0, .int .i64 0], .int .i64 6])) (((w5.setCell ⟨w.heap.size, 0, none⟩ (.int .i64 0)).setCell ⟨w.heap.size, 1, none⟩ (.int .i64 0)).setCell ⟨w.heap.size, 2, none⟩ (.int .i64 0))) := ⟨rfl, HFin.2.2⟩
            clear HFin d1 HT3
            go_wp2
            refine ret_ct rfl rfl rfl HRow rfl ?_; exact HFn.out
        · rw [if_neg h12] at ha
          cases ha
end Go.Proofs.YtcihplachlokiaaDoor
/- The specification's reader: where the reading of an instruction stands. -/
namespace Go.Proofs.YtcihplachlokiaaDoor
open Go.RowKit Go.Shelf
set_option linter.unusedVariables false
set_option linter.unusedSimpArgs false

theorem Sd.set {R : Nat} {r : List Nat} {W : World} (h : Sd R r W) (b o : Nat) (v : Value) (hb : R < b) : Sd R r (W.setCell ⟨b, o, none⟩ v) :=
  h.gr (row := some b) (gb_set18 (gb_refl18 W (some b)) o v) (fun x hx => by cases hx; exact hb)
/-- Where the reading of operands stands: the reader, the two boxes, the row so far. -/
def SI (w : World) (R B3 : Nat) (c o : Int) (v : Value) (xs : List ArgT) (r : List Nat) (W : World) : Prop :=
  Sd R r W ∧ R < w.heap.size ∧ w.heap.size < B3 ∧ W.heap[w.heap.size]? = some (.cells #[.int .i64 0, .int .i64 0, .slice none 0 0] 56 (0, 0)) ∧ W.heap[B3]? = some (.cells #[.int .i64 c, .int .i64 o, v] 56 (0, 0)) ∧
  W.ownsRow (B3 + 1) 87 3 v xs.length (avs xs) ∧ w.grownBy W (some R) ∧ B3 < W.heap.size
theorem SI.read {w W W' : World} {R B3 : Nat} {c o : Int} {v : Value} {xs : List ArgT} {r r' : List Nat} (h : SI w R B3 c o v xs r W) (d : Sd R r' W') (g : W.grownBy W' (some R)) : SI w R B3 c o v xs r' W' := by
  obtain ⟨h1, h2, h3, h4, h5, h6, h7, h8⟩ := h
  refine ⟨d, h2, h3, gb_row g h4 (by omega), gb_row g h5 (by omega), World.ownsRow.kept (row := some R) h6 g (.inr fun e => ?_), gb_step18 h7 g, Nat.lt_of_lt_of_le h8 g.size⟩
  have := (World.ownsRow.lt h6 R e).1
  omega
theorem SI.later {w W W' : World} {R B3 : Nat} {c o : Int} {v : Value} {xs : List ArgT} {r : List Nat} (h : SI w R B3 c o v xs r W) (g : Below W.heap.size W W') : SI w R B3 c o v xs r W' :=
  h.read (h.1.later g) ⟨g.os, g.tape, g.output, g.size, fun k hk _ => g.block k hk⟩
/-- A row that grew, and its new value laid into the box. -/
theorem SI.put {w W W5 : World} {R B3 g' cap' : Nat} {c o : Int} {v : Value} {xs : List ArgT} {x : ArgT} {r : List Nat} (h : SI w R B3 c o v xs r W)
    (hown : W5.ownsRow (B3 + 1) 87 3 (.slice (some ⟨g', 0, none⟩) (xs.length + 1) cap') (xs.length + 1) (avs xs ++ [.int .i64 x.1, .int .i64 x.2.1, .int .i64 x.2.2])) (hg : W.grownBy W5 v.ownBlock) :
    SI w R B3 c o (.slice (some ⟨g', 0, none⟩) (xs.length + 1) cap') (xs ++ [x]) r (W5.setCell ⟨B3, 2, none⟩ (.slice (some ⟨g', 0, none⟩) (xs.length + 1) cap')) := by
  obtain ⟨h1, h2, h3, h4, h5, h6, h7, h8⟩ := h
  have hv : ∀ j, v.ownBlock = some j → B3 + 1 ≤ j := fun j hj => (World.ownsRow.lt h6 j hj).1
  have k5 : W5.heap[B3]? = some (.cells #[.int .i64 c, .int .i64 o, v] 56 (0, 0)) := (hg.block B3 h8 (fun e => by have := hv B3 e.symm; omega)).trans h5
  have k4 : W5.heap[w.heap.size]? = some (.cells #[.int .i64 0, .int .i64 0, .slice none 0 0] 56 (0, 0)) := (hg.block _ (by omega) (fun e => by have := hv _ e.symm; omega)).trans h4
  have d5 : Sd R r W5 := h1.gr hg (fun j hj => by have := hv j hj; omega)
  have g5 : w.grownBy W5 (some R) := ⟨hg.os.trans h7.os, hg.tape.trans h7.tape, hg.output.trans h7.output, Nat.le_trans h7.size hg.size, fun k hk hne => (hg.block k (Nat.lt_of_lt_of_le hk h7.size) (fun e => by have := hv k e.symm; omega)).trans (h7.block k hk hne)⟩
  have o5 := World.ownsRow.lt hown g' rfl
  refine ⟨d5.set B3 2 _ (by omega), h2, h3, row_other k4 _ _ (by omega) _, row_put k5 2 _, ?_, gb_new g5 B3 (by omega) _ _, by simpa using Nat.lt_of_lt_of_le h8 hg.size⟩
  have e1 : (xs ++ [x]).length = xs.length + 1 := by simp
  rw [e1, avs_snoc]
  exact World.ownsRow.kept (row := some B3) hown (gb_set18 (gb_refl18 _ _) _ _) (.inr fun e => by simp [Value.ownBlock] at e; omega)
/-- The last move: the instruction into its result. -/
theorem si_load {W : World} {B : Nat} {x y : Int} {v : Value} (h : W.heap[B]? = some (.cells #[.int .i64 x, .int .i64 y, v] 56 (0, 0))) : (loadVar 56 ⟨B, 0, none⟩).run Tryd.prog W = .ok (.agg #[.int .i64 x, .int .i64 y, v]) W :=
  run_loadVar_row W B _ 56 _ _ _ h Tryd.underlying56 rfl infoIn
theorem sinst_fin {w W : World} {R B3 : Nat} {c o : Int} {v : Value} {xs : List ArgT} {r : List Nat} (h : SI w R B3 c o v xs r W) :
    (((W.setCell ⟨w.heap.size, 0, none⟩ (.int .i64 c)).setCell ⟨w.heap.size, 1, none⟩ (.int .i64 o)).setCell ⟨w.heap.size, 2, none⟩ v).heap[w.heap.size]? = some (.cells #[.int .i64 c, .int .i64 o, v] 56 (0, 0)) ∧
    Sd R r (((W.setCell ⟨w.heap.size, 0, none⟩ (.int .i64 c)).setCell ⟨w.heap.size, 1, none⟩ (.int .i64 o)).setCell ⟨w.heap.size, 2, none⟩ v) ∧
    w.grownBy (((W.setCell ⟨w.heap.size, 0, none⟩ (.int .i64 c)).setCell ⟨w.heap.size, 1, none⟩ (.int .i64 o)).setCell ⟨w.heap.size, 2, none⟩ v) (some R) ∧
    (((W.setCell ⟨w.heap.size, 0, none⟩ (.int .i64 c)).setCell ⟨w.heap.size, 1, none⟩ (.int .i64 o)).setCell ⟨w.heap.size, 2, none⟩ v).ownsRow (w.heap.size + 1) 87 3 v xs.length (avs xs) := by
  obtain ⟨h1, h2, h3, h4, h5, h6, h7, h8⟩ := h
  have hb : ∀ (W : World) (f : Nat) (u : Value), W.ownsRow (w.heap.size + 1) 87 3 v xs.length (avs xs) → (W.setCell ⟨w.heap.size, f, none⟩ u).ownsRow (w.heap.size + 1) 87 3 v xs.length (avs xs) := fun W f u h => World.ownsRow.kept (row := some w.heap.size) h (gb_set18 (gb_refl18 _ _) _ _) (.inr fun e => by have := (World.ownsRow.lt h _ e).1; omega)
  exact ⟨row_put (row_put (row_put h4 0 _) 1 _) 2 _, ((h1.set _ 0 _ h2).set _ 1 _ h2).set _ 2 _ h2, gb_new (gb_new (gb_new h7 _ (Nat.le_refl _) _ _) _ (Nat.le_refl _) _ _) _ (Nat.le_refl _) _ _, hb _ _ _ (hb _ _ _ (hb _ _ _ (h6.mono (by omega))))⟩
theorem SI.row5 {w W W5 : World} {R B3 : Nat} {c o : Int} {v : Value} {xs : List ArgT} {r : List Nat} (h : SI w R B3 c o v xs r W) (hg : W.grownBy W5 v.ownBlock) : W5.heap[B3]? = some (.cells #[.int .i64 c, .int .i64 o, v] 56 (0, 0)) := by
  obtain ⟨h1, h2, h3, h4, h5, h6, h7, h8⟩ := h
  exact (hg.block B3 h8 (fun e => by have := (World.ownsRow.lt h6 B3 e.symm).1; omega)).trans h5
/-- The bare last move, where there is no instruction. -/
theorem bare_fin {w W : World} {R : Nat} (h4 : W.heap[w.heap.size]? = some (.cells #[.int .i64 0, .int .i64 0, .slice none 0 0] 56 (0, 0))) (h7 : w.grownBy W (some R)) :
    (((W.setCell ⟨w.heap.size, 0, none⟩ (.int .i64 0)).setCell ⟨w.heap.size, 1, none⟩ (.int .i64 0)).setCell ⟨w.heap.size, 2, none⟩ (.slice none 0 0)).heap[w.heap.size]? = some (.cells #[.int .i64 0, .int .i64 0, .slice none 0 0] 56 (0, 0)) ∧
    w.grownBy (((W.setCell ⟨w.heap.size, 0, none⟩ (.int .i64 0)).setCell ⟨w.heap.size, 1, none⟩ (.int .i64 0)).setCell ⟨w.heap.size, 2, none⟩ (.slice none 0 0)) (some R) :=
  ⟨row_put (row_put (row_put h4 0 _) 1 _) 2 _, gb_new (gb_new (gb_new h7 _ (Nat.le_refl _) _ _) _ (Nat.le_refl _) _ _) _ (Nat.le_refl _) _ _⟩
/-- What a read of an instruction leaves. -/
def SdI (R : Nat) (i : InstT) (r : List Nat) (w : World) (e : Ending) (w' : World) : Prop :=
  ∃ v, e = .returned (.tuple #[.agg #[.int .i64 i.code, .int .i64 i.one.op, v], .int .i64 0]) ∧ w'.ownsRow (w.heap.size + 1) 87 3 v i.one.args.length (avs i.one.args) ∧ Sd R r w' ∧ w.grownBy w' (some R)
def SdN (R : Nat) (c : Int) (w : World) (e : Ending) (w' : World) : Prop :=
  e = .returned (.tuple #[.agg #[.int .i64 0, .int .i64 0, .slice none 0 0], .int .i64 c]) ∧ w.grownBy w' (some R)
theorem argsM_pos : ∀ (n : Nat) {r : List Nat} {c : Int}, argsM n r = .inl c → 0 < c
  | 0, r, c, h => by unfold argsM at h; cases h
  | n + 1, r, c, h => by
    unfold argsM at h
    cases h1 : argM r with
    | inl e => rw [h1] at h; cases h; exact argM_pos h1
    | inr q =>
      obtain ⟨x, r1⟩ := q
      rw [h1] at h
      simp only [] at h
      cases h2 : argsM n r1 with
      | inl e => rw [h2] at h; cases h; exact argsM_pos n h2
      | inr q2 => obtain ⟨ys, r2⟩ := q2; rw [h2] at h; cases h
theorem instM_pos {r : List Nat} {c : Int} (h : instM r = .inl c) : 0 < c := by
  unfold instM at h
  cases h1 : numM 1 r with
  | none => rw [h1] at h; cases h; decide
  | some q =>
    obtain ⟨k, r1⟩ := q
    rw [h1] at h
    simp only [] at h
    by_cases hk : knB k = false
    · rw [if_pos hk] at h; cases h; decide
    rw [if_neg hk] at h
    by_cases hh : hasB k = false
    · rw [if_pos hh] at h; cases h
    rw [if_neg hh] at h
    cases h2 : numM 1 r1 with
    | none => rw [h2] at h; cases h; decide
    | some q2 =>
      obtain ⟨o, r2⟩ := q2
      rw [h2] at h
      simp only [] at h
      by_cases hop : opB k o = false
      · rw [if_pos hop] at h; cases h; decide
      rw [if_neg hop] at h
      cases h3 : argsM (arN o).toNat r2 with
      | inl e => rw [h3] at h; cases h; exact argsM_pos _ h3
      | inr q3 => obtain ⟨ys, r3⟩ := q3; rw [h3] at h; cases h
end Go.Proofs.YtcihplachlokiaaDoor
/- The specification's reader: instructions. -/
namespace Go.Proofs.YtcihplachlokiaaDoor
open Go.RowKit Go.Shelf
set_option linter.unusedVariables false
set_option linter.unusedSimpArgs false

theorem knB_bd {c : Int} (h : knB c = true) : 1 ≤ c ∧ c ≤ 11 := by
  unfold knB at h
  rw [Bool.and_eq_true] at h
  exact ⟨of_decide_eq_true h.1, of_decide_eq_true h.2⟩
set_option maxRecDepth 10000 in
set_option maxHeartbeats 8000000 in
theorem ins_s_ok (R : Nat) (r r' : List Nat) (x : InstT) (w : World) (hr : ∀ b ∈ r, b < 256) (ha : instM r = .inr (x, r')) (h : Sd R r w) :
    Calls Tryd.prog 27 #[.pointer (some ⟨R, 0, none⟩)] w fun e w' => SdI R x r' w e w' := by
  obtain ⟨i0, hi, hz0, hz1, hz2⟩ := info_parts infoDA2
  unfold instM at ha
  cases h1 : numM 1 r with
  | none => rw [h1] at ha; cases ha
  | some q1 =>
    obtain ⟨c, r1⟩ := q1
    rw [h1] at ha
    simp only [] at ha
    by_cases hk : knB c = false
    · rw [if_pos hk] at ha; cases ha
    rw [if_neg hk] at ha
    have hk' : knB c = true := by simpa using hk
    have hkb := knB_bd hk'
    have hr1 : ∀ b ∈ r1, b < 256 := fun b hb => hr b (numM_sub h1 b hb)
    have hkv : ((atL r 0 : Nat) : Int) = c := by
      have := (numM_some hr h1).2.2.2.2
      rw [vl_1] at this
      exact this.symm
    obtain ⟨A, hA⟩ : ∃ A, atL r 0 = A := ⟨_, rfl⟩
    have hA256 : A < 256 := by rw [← hA]; exact atL_lt hr 0
    have b0 : Below w.heap.size w (w.alloc (.cells #[.int .i64 0, .int .i64 0, .slice none 0 0] 56)) := (Below.refl _ _).alloc (Nat.le_refl _) _
    have HR0 : Hid (R < w.heap.size ∧ (w.alloc (.cells #[.int .i64 0, .int .i64 0, .slice none 0 0] 56)).heap[w.heap.size]? = some (.cells #[.int .i64 0, .int .i64 0, .slice none 0 0] 56 (0, 0)) ∧ w.grownBy (w.alloc (.cells #[.int .i64 0, .int .i64 0, .slice none 0 0] 56)) (some R) ∧ (w.alloc (.cells #[.int .i64 0, .int .i64 0, .slice none 0 0] 56)).heap.size = w.heap.size + 1) := ⟨h.lt, heap_alloc_last _ _, gb_al _ _ _, by simp⟩
    have HT1 : Hid (Calls Tryd.prog 48 #[.pointer (some ⟨R, 0, none⟩), .int .i64 1] (w.alloc (.cells #[.int .i64 0, .int .i64 0, .slice none 0 0] 56)) fun e w' => ∃ g o cc, e = .returned (.tuple #[.slice (some ⟨g, o, none⟩) 1 cc, .bool true]) ∧ Sd R r1 w' ∧ (w.alloc (.cells #[.int .i64 0, .int .i64 0, .slice none 0 0] 56)).grownBy w' (some R) ∧ w'.cell? ⟨g, o, none⟩ = some (.int .u8 (A : Nat)) ∧ g < w'.heap.size) := (snum_ok R 1 r r1 c _ hr h1 (h.later b0)).mono fun e w' ⟨g, o, cc, e1, e2, e3, e4, e5, _⟩ => ⟨g, o, cc, e1, e2, e3, by rw [← hA]; exact e5, by have := e2.lt; omega⟩
    have HB : Hid (∀ W, Calls Tryd.prog 49 #[.int .i64 c] W fun e w' => e = .returned (.bool (hasB c)) ∧ W = w') := fun W => has_s c W
    rw [hA] at hkv
    have k1 : ¬ c < 1 := by omega
    have k2 : ¬ 11 < c := by omega
    clear h hk hk' h1 hr hA b0 hkb
    go_enter Tryd.func27, Tryd.ntmps27
    go_wp2_with fail
    refine HT1.out.mono ?_
    rintro e w1 ⟨g1, o1, c1, rfl, d1, gg1, x1, hg1⟩
    have hs1 := gg1.size
    have I1 : Hid (SI w R w1.heap.size c 0 (.slice none 0 0) [] r1 (w1.alloc (.cells #[.int .i64 c, .int .i64 0, .slice none 0 0] 56))) := by
      obtain ⟨a2, a3, a4, a5⟩ := HR0.out
      have gA : Below w1.heap.size w1 (w1.alloc (.cells #[.int .i64 c, .int .i64 0, .slice none 0 0] 56)) := (Below.refl _ _).alloc (Nat.le_refl _) _
      exact ⟨d1.later gA, a2, by omega, (gA.block _ (by omega)).trans (gb_row gg1 a3 (by omega)), heap_alloc_last _ _, World.ownsRow_nil _ _ _ _, gb_step18 (gb_step18 a4 gg1) (gb_al _ _ _), by simp⟩
    clear d1 gg1 HT1 hs1 HR0
    obtain ⟨B3, hB3⟩ : ∃ B, w1.heap.size = B := ⟨_, rfl⟩
    rw [hB3] at I1 hg1
    go_upto_region 5 with fail
    generalize (w1.alloc (.cells #[.int .i64 c, .int .i64 0, .slice none 0 0] 56)) = W1 at I1 ⊢
    clear hB3 x1
    obtain ⟨x0, x1, x2, y0, y1, y2⟩ := box3 I1.out.2.2.2.2.1
    obtain ⟨z0, z1, z2, u0, u1, u2⟩ := box3 I1.out.2.2.2.1
    have hb1 : B3 ≠ w.heap.size := by have := I1.out.2.2.1; omega
    have hb2 : w.heap.size ≠ B3 := by have := I1.out.2.2.1; omega
    go_wp2_with fail
    refine (HB.out W1).mono ?_
    rintro e w2 ⟨rfl, rfl⟩
    by_cases hh : hasB c = false
    · rw [if_pos hh] at ha
      cases ha
      rw [hh]
      have HFin := sinst_fin I1.out
      have HRow := si_load HFin.1
      have HFn : Hid (SdI R ⟨c, ⟨0, []⟩⟩ r' w (.returned (.tuple #[.agg #[.int .i64 c, .int .i64 0, .slice none 0 0], .int .i64 0])) (((W1.setCell ⟨w.heap.size, 0, none⟩ (.int .i64 c)).setCell ⟨w.heap.size, 1, none⟩ (.int .i64 0)).setCell ⟨w.heap.size, 2, none⟩ (.slice none 0 0))) := ⟨_, rfl, HFin.2.2.2, HFin.2.1, HFin.2.2.1⟩
      clear HFin I1 hh HB
      go_wp2
      refine ret_ct rfl rfl rfl HRow rfl ?_
      exact HFn.out
    · rw [if_neg hh] at ha
      have hh' : hasB c = true := by simpa using hh
      rw [hh']
      cases h2 : numM 1 r1 with
      | none => rw [h2] at ha; cases ha
      | some q2 =>
        obtain ⟨o, r2⟩ := q2
        rw [h2] at ha
        simp only [] at ha
        by_cases hop : opB c o = false
        · rw [if_pos hop] at ha; cases ha
        rw [if_neg hop] at ha
        have hop' : opB c o = true := by simpa using hop
        cases h3 : argsM (arN o).toNat r2 with
        | inl e => rw [h3] at ha; cases ha
        | inr q3 =>
          obtain ⟨XS, r3⟩ := q3
          rw [h3] at ha
          cases ha
          have hr2 : ∀ b ∈ r2, b < 256 := fun b hb => hr1 b (numM_sub h2 b hb)
          have hov : ((atL r1 0 : Nat) : Int) = o := by
            have := (numM_some hr1 h2).2.2.2.2
            rw [vl_1] at this
            exact this.symm
          obtain ⟨A2, hA2⟩ : ∃ A, atL r1 0 = A := ⟨_, rfl⟩
          have hA2b : A2 < 256 := by rw [← hA2]; exact atL_lt hr1 0
          rw [hA2] at hov
          have HT2 : Hid (Calls Tryd.prog 48 #[.pointer (some ⟨R, 0, none⟩), .int .i64 1] W1 fun e w' => ∃ g o' cc, e = .returned (.tuple #[.slice (some ⟨g, o', none⟩) 1 cc, .bool true]) ∧ SI w R B3 c 0 (.slice none 0 0) [] r2 w' ∧ w'.cell? ⟨g, o', none⟩ = some (.int .u8 (A2 : Nat)) ∧ g < B3) := (snum_ok R 1 r1 r2 o _ hr1 h2 I1.out.1).mono fun e w' ⟨g, o', cc, e1, e2, e3, e4, e5, _⟩ => ⟨g, o', cc, e1, I1.out.read e2 e3, by rw [← hA2]; exact e5, by have := I1.out.2.1; have := I1.out.2.2.1; omega⟩
          have HO : Hid (∀ W, Calls Tryd.prog 50 #[.int .i64 c, .int .i64 o] W fun e w' => e = .returned (.bool true) ∧ W = w') := fun W => by rw [← hop']; exact op_s c o W
          obtain ⟨N, hN⟩ : ∃ N : Nat, arN o = (N : Int) := ⟨(ndP o).length, rfl⟩
          have hN3 : N ≤ 3 := by have := arN_le o; omega
          have HA : Hid (∀ W, Calls Tryd.prog 51 #[.int .i64 o] W fun e w' => e = .returned (.int .i64 (N : Nat)) ∧ w' = W) := fun W => by rw [← hN]; exact spec_arity o W
          have H3 : Hid (argsM N r2 = .inr (XS, r') ∧ (∀ b ∈ r2, b < 256)) := ⟨by rw [hN] at h3; exact h3, hr2⟩
          clear hh hh' h2 hop hop' h3 hr1 hr2 hN HB hA2 I1
          go_wp2_with fail
          refine HT2.out.mono ?_
          rintro e w2 ⟨g2, o2, c2, rfl, I2', t2, hg2⟩
          have I2 : Hid (SI w R B3 c o (.slice none 0 0) [] r2 (w2.setCell ⟨B3, 1, none⟩ (.int .i64 o))) := by
            obtain ⟨a1, a2, a3, a4, a5, a6, a7, a8⟩ := I2'
            exact ⟨a1.set B3 1 _ (by omega), a2, a3, row_other a4 _ _ (by omega) _, row_put a5 1 _, World.ownsRow_nil _ _ _ _, gb_new a7 B3 (by omega) _ _, by simpa using a8⟩
          clear x0 x1 x2 y0 y1 y2 z0 z1 z2 u0 u1 u2
          obtain ⟨x0, x1, x2, y0, y1, y2⟩ := box3 I2'.2.2.2.2.1
          clear HT2 I2'
          go_upto_region 13 with fail
          generalize (w2.setCell ⟨B3, 1, none⟩ (.int .i64 o)) = W2 at I2 ⊢
          clear x0 x1 x2 y0 y1 y2 t2
          obtain ⟨x0, x1, x2, y0, y1, y2⟩ := box3 I2.out.2.2.2.2.1
          go_wp2_with fail
          refine (HO.out W2).mono ?_
          rintro e w3 ⟨rfl, rfl⟩
          clear HO
          go_wp2
          go_loopw [9, 10, 11] (fun i _ _ wr => ∃ k : Nat, k ≤ N ∧ i = .int .i64 k ∧ Hid (∃ v xs rk ys, SI w R B3 c o v xs rk wr ∧ xs.length = k ∧ (∀ b ∈ rk, b < 256) ∧ argsM (N - k) rk = .inr (ys, r') ∧ XS = xs ++ ys)) (fun i _ _ _ => N - (intOf i).toNat)
          case atStart => exact ⟨0, Nat.zero_le _, rfl, _, _, _, _, I2.out, rfl, H3.out.2, H3.out.1, rfl⟩
          case round =>
            clear I2 x0 x1 x2 y0 y1 y2
            obtain ⟨k, hk, rfl, HR⟩ := hrel
            obtain ⟨v, xs, rk, ys, hI, hxl, hrk, hargs, hXS⟩ := HR.out
            obtain ⟨vp, vn, vc, rfl⟩ : ∃ p n cp, v = .slice p n cp := by
              rcases hI.2.2.2.2.2.1.2 with ⟨h, _⟩ | ⟨g, cap, cur, h, _⟩
              · exact ⟨_, _, _, h⟩
              · exact ⟨_, _, _, h⟩
            obtain ⟨x0, x1, x2, y0, y1, y2⟩ := box3 hI.2.2.2.2.1
            have HI : Hid (SI w R B3 c o (.slice vp vn vc) xs rk wr) := hI
            go_wp2_with fail
            refine (HA.out wr).mono ?_
            rintro e w3 ⟨rfl, rfl⟩
            by_cases hlt : k < N
            · have ik : (k : Int) < (N : Int) := by omega
              obtain ⟨m, hm⟩ : ∃ m, N - k = m + 1 := ⟨N - k - 1, by omega⟩
              rw [hm] at hargs
              unfold argsM at hargs
              cases ho : argM rk with
              | inl e => rw [ho] at hargs; cases hargs
              | inr q4 =>
                obtain ⟨x, rk1⟩ := q4
                rw [ho] at hargs
                simp only [] at hargs
                cases hq : argsM m rk1 with
                | inl e => rw [hq] at hargs; cases hargs
                | inr q5 =>
                  obtain ⟨ys', r3'⟩ := q5
                  rw [hq] at hargs
                  simp only [Sum.inr.injEq, Prod.mk.injEq] at hargs
                  obtain ⟨rfl, rfl⟩ := hargs
                  obtain ⟨xk, xn, xp⟩ := x
                  have HOp : Hid (Calls Tryd.prog 52 #[.pointer (some ⟨R, 0, none⟩)] w3 fun e w' => e = .returned (.tuple #[.agg #[.int .i64 xk, .int .i64 xn, .int .i64 xp], .int .i64 0]) ∧ SI w R B3 c o (.slice vp vn vc) xs rk1 w') := (arg_s_ok R rk rk1 (xk, xn, xp) w3 hrk ho hI.1).mono fun e w' ⟨a, b, d⟩ => ⟨a, hI.read b d⟩
                  have HE : Hid (XS = (xs ++ [(xk, xn, xp)]) ++ ys' ∧ argsM (N - (k + 1)) rk1 = .inr (ys', r3') ∧ (∀ b ∈ rk1, b < 256) ∧ xs.length = k) := ⟨by rw [hXS, List.append_assoc]; rfl, by rw [show N - (k + 1) = m by omega]; exact hq, fun b hb => hrk b (argM_sub ho b hb), hxl⟩
                  clear hI hxl hrk hXS ho hq HR hm HI x0 x1 x2 y0 y1 y2
                  go_wp2_with fail
                  refine HOp.out.mono ?_
                  rintro e w10 ⟨rfl, h10⟩
                  have h11 := h10.later ((Below.refl _ _).alloc (Nat.le_refl _) (.cells #[.int .i64 xk, .int .i64 xn, .int .i64 xp] 87))
                  have r11 := heap_alloc_last w10 (.cells #[.int .i64 xk, .int .i64 xn, .int .i64 xp] 87)
                  obtain ⟨B10, hB10⟩ : ∃ B, w10.heap.size = B := ⟨_, rfl⟩
                  rw [hB10] at r11
                  go_upto_region 21 with fail
                  generalize (w10.alloc (.cells #[.int .i64 xk, .int .i64 xn, .int .i64 xp] 87)) = W11 at h11 r11 ⊢
                  have H11 : Hid (SI w R B3 c o (.slice vp vn vc) xs rk1 W11) := h11
                  have own3 := h11.2.2.2.2.2.1
                  have hxl : xs.length = k := HE.out.2.2.2
                  rw [hxl] at own3
                  obtain ⟨x0, x1, x2, y0, y1, y2⟩ := box3 h11.2.2.2.2.1
                  obtain ⟨t0, t1, t2, s0, s1, s2⟩ := box3 r11
                  have hlt11 : B3 < W11.heap.size := h11.2.2.2.2.2.2.2
                  clear h10 h11 HOp hB10 r11
                  go_wp2_with (at_builtin; refine wpList_append_lies _ rfl _ _ 52 rfl (B3 + 1) 87 i0 (.agg #[.int .i64 0, .int .i64 0, .int .i64 0]) 3 24 Tryd.underlying52 hi hz0 hz1 hz2 rfl (by decide) _ k (avs xs) rfl (own3.alloc _) ⟨W11.heap.size, 0, none⟩ 1 1 [.int .i64 xk, .int .i64 xn, .int .i64 xp] rfl rfl (cell_three18 _ _ _ _ _) ?c2 (by decide) ?c3 ?c4 ?c5 _ rfl ?_)
                  case c2 => intro u hu; simp at hu; rcases hu with rfl | rfl | rfl <;> rfl
                  case c3 => unfold maxLen; omega
                  case c4 => omega
                  case c5 => simp; omega
                  intro g' cap' w12 hown' hgrow hat hlt'
                  obtain ⟨e0, e1, e2, f0, f1, f2⟩ := box3 (SI.row5 (H11.out.later ((Below.refl _ _).alloc (Nat.le_refl _) _)) hgrow)
                  have hput := SI.put (x := (xk, xn, xp)) (g' := g') (cap' := cap') (H11.out.later ((Below.refl _ _).alloc (Nat.le_refl _) _)) (by rw [hxl]; exact hown') hgrow
                  rw [hxl] at hput
                  have HNx : Hid (∃ v xs2 rk ys, SI w R B3 c o v xs2 rk (w12.setCell ⟨B3, 2, none⟩ (.slice (some ⟨g', 0, none⟩) (k + 1) cap')) ∧ xs2.length = k + 1 ∧ (∀ b ∈ rk, b < 256) ∧ argsM (N - (k + 1)) rk = .inr (ys, r3') ∧ XS = xs2 ++ ys) :=
                    ⟨_, _, _, _, hput, by simp [hxl], HE.out.2.2.1, HE.out.2.1, HE.out.1⟩
                  clear hown' hgrow hat hlt' hput HE H11 own3 hlt11 x0 x1 x2 y0 y1 y2 t0 t1 t2 s0 s1 s2
                  go_wp2
                  go_roundw
                  case rel => exact ⟨k + 1, by omega, by go_num, HNx⟩
                  case measure => simp [intOf]; omega
            · have hkn : N - k = 0 := by omega
              rw [hkn] at hargs
              unfold argsM at hargs
              simp only [Sum.inr.injEq, Prod.mk.injEq] at hargs
              obtain ⟨rfl, rfl⟩ := hargs
              rw [List.append_nil] at hXS
              have ik : ¬ ((k : Int) < (N : Int)) := by omega
              have HFin := sinst_fin hI
              obtain ⟨z0, z1, z2, u0, u1, u2⟩ := box3 hI.2.2.2.1
              have HRow := si_load HFin.1
              have HFn : Hid (SdI R ⟨c, ⟨o, XS⟩⟩ rk w (.returned (.tuple #[.agg #[.int .i64 c, .int .i64 o, .slice vp vn vc], .int .i64 0])) (((w3.setCell ⟨w.heap.size, 0, none⟩ (.int .i64 c)).setCell ⟨w.heap.size, 1, none⟩ (.int .i64 o)).setCell ⟨w.heap.size, 2, none⟩ (.slice vp vn vc))) := by rw [hXS]; exact ⟨_, rfl, HFin.2.2.2, HFin.2.1, HFin.2.2.1⟩
              clear HFin hI HI HR hxl hrk hXS H3 hkn
              go_wp2
              refine ret_ct rfl rfl rfl HRow rfl ?_
              exact HFn.out
end Go.Proofs.YtcihplachlokiaaDoor
