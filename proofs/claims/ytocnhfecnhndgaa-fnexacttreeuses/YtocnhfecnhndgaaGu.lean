/- TreeUses of the program: the loop over the parts. -/
import Derived.Test.YtocnhfecnhndgaaGt
namespace Go.Proofs.Ytocnhfecnhndgaa
open Go.RowKit Go.Shelf
set_option linter.unusedVariables false
attribute [local go_sem] Oper.semAt_some

noncomputable def useds {w : World} (a : ArgT) (ys : List (PartW w)) : Nat := usP a (ghosts ys)
theorem useds_snoc {w : World} (a : ArgT) (ys : List (PartW w)) (x : PartW w) : useds a (ys ++ [x]) = useds a ys + pUse a x.1.2 := by simp [useds, usP, ghosts]
theorem pUse_le {w : World} (a : ArgT) (x : PartW w) : pUse a x.1.2 ≤ 1048576 := by
  obtain ⟨⟨v, g⟩, h⟩ := x
  cases g with
  | inl t =>
    obtain ⟨m, cs, hN, hw, _⟩ := h
    cases m with
    | zero => exact hN.elim
    | succ m =>
      cases t with
      | mk k e kids =>
        have h1 := uE_le a e
        rw [show wN (m + 1) (NetT.mk k e kids) = wE e + (kids.length + (kids.map (wN m)).sum) from rfl] at hw
        show uE a e ≤ _
        omega
  | inr t =>
    obtain ⟨m, cs, r, hA, hw, _⟩ := h
    cases m with
    | zero => exact hA.elim
    | succ m =>
      cases t with
      | mk net coils kids =>
        rw [show wA (m + 1) (ArmT.mk net coils kids) = wN m net + (coils.length + (coils.map wE).sum) + (kids.length + (kids.map (wA m)).sum) from rfl] at hw
        have h2 := sum_le_sum (uE a) wE coils (fun x _ => uE_le _ x)
        show (coils.map (uE a)).sum ≤ _
        omega
theorem useds_le {w : World} (a : ArgT) : ∀ (ys : List (PartW w)), useds a ys ≤ 1048576 * ys.length
  | [] => by simp [useds, usP, ghosts]
  | y :: ys => by
    have h1 := useds_le a ys
    have h2 := pUse_le a y
    have h3 : useds a (y :: ys) = pUse a y.1.2 + useds a ys := by simp [useds, usP, ghosts]
    rw [h3, List.length_cons]; omega

/-- What the part says of its operands. -/
theorem part_uses (k n p : Int) {w : World} (x : Value × PartT) (h : POk w x) : ∃ T u f, x.1 = .iface T u ∧ (∀ W, Below w.heap.size w W → Calls Try.prog f #[u, .agg #[.int .i64 k, .int .i64 n, .int .i64 p]] W fun e w' => e = .returned (.int .i64 (pUse (k, n, p) x.2 : Nat)) ∧ Below W.heap.size W w') ∧ ((T = 107 ∧ f = 138) ∨ (T = 92 ∧ f = 108)) := by
  obtain ⟨v, g⟩ := x
  cases g with
  | inl t =>
    obtain ⟨m, cs, hN, hw, rfl⟩ := h
    cases m with
    | zero => exact hN.elim
    | succ m =>
      cases t with
      | mk kd e kids =>
        obtain ⟨v1, v2, rfl, ha, hk⟩ := hN
        rw [show wN (m + 1) (NetT.mk kd e kids) = wE e + (kids.length + (kids.map (wN m)).sum) from rfl] at hw
        exact ⟨_, _, _, rfl, fun W g => netUses_i k n p (.int .i64 kd) [.int .i64 e.op, v1] v2 e W 0 rfl hk.one ⟨v1, rfl, argsIs_move (Keeps.of_below g 0) (Nat.le_refl _) ha⟩ (by omega), .inl ⟨rfl, rfl⟩⟩
  | inr t =>
    obtain ⟨m, cs, r, hA, hw, rfl⟩ := h
    cases m with
    | zero => exact hA.elim
    | succ m =>
      cases t with
      | mk net coils kids =>
        obtain ⟨ns, v3, v4, rfl, hn, hc, hk⟩ := hA
        rw [show wA (m + 1) (ArmT.mk net coils kids) = wN m net + (coils.length + (coils.map wE).sum) + (kids.length + (kids.map (wA m)).sum) from rfl] at hw
        obtain ⟨c0, c1, c2, c3, rfl, o0, o1, o2, o3⟩ := hn.cells
        exact ⟨_, _, _, rfl, fun W g => armUses_i k n p c0 c1 c2 c3 v4 (.bool r) v3 o0 o1 o2 o3 hk.one rfl coils W 0 (elemsIs_move (Keeps.of_below g 0) (Nat.le_refl _) hc) (by omega), .inr ⟨rfl, rfl⟩⟩

set_option maxRecDepth 100000 in
set_option maxHeartbeats 8000000 in
theorem uses_i (k n p : Int) (m : Nat) (v : Value) (xs : List ArmT) (w : World) (hv : ArmsIs w 0 m v xs) (hw : (xs.map (wA m)).sum ≤ 1048576) (hP : (xs.flatMap (pArm m)).length ≤ 4194304) :
    Calls Try.prog 16 #[v, .agg #[.int .i64 k, .int .i64 n, .int .i64 p]] w fun e w' => e = .returned (.int .i64 (usP (k, n, p) (xs.flatMap (pArm m)) : Nat)) ∧ Below w.heap.size w w' := by
  refine (callsIn_wide (n := 5)).1 ?_
  refine callsIn_of_wp_marks Try.func16 rfl trivial ?_ rfl
  simp only [Try.ntmps16, List.size_toArray, List.length_cons, List.length_nil, Nat.reduceAdd, Nat.reduceSub, Array.replicate_succ, Array.replicate_zero, List.push_toArray, List.append_toArray, List.nil_append, List.cons_append]
  obtain ⟨a, cap, rfl, _, _⟩ := id hv
  gi_wp2_with (refine ⟨trivial, ?_⟩; gi_at_call 27; refine (callsIn_wide.2 (parts_i _ _ _ _)).mono ?_; rintro e w' ⟨rfl, rfl⟩)
  obtain ⟨W0, hW0⟩ : ∃ W0, ((w.alloc (.cells #[.int .i64 k, .int .i64 n, .int .i64 p] 33)).alloc (.cells #[.int .i64 0] 3)).alloc (.cells #[.slice a xs.length cap] 25) = W0 := ⟨_, rfl⟩
  have hk := rows3 w (.cells #[.int .i64 k, .int .i64 n, .int .i64 p] 33) (.cells #[.int .i64 0] 3) (.cells #[.slice a xs.length cap] 25)
  have b0 : Below w.heap.size w W0 := by rw [← hW0]; exact (((Below.refl _ _).alloc (Nat.le_refl _) _).alloc (by simp) _).alloc (by simp <;> omega) _
  have hsz : W0.heap.size = w.heap.size + 1 + 1 + 1 := by rw [← hW0]; simp
  rw [hW0] at hk ⊢
  have z0 : W0.cell? ⟨w.heap.size, 0, none⟩ = some (.int .i64 k) := (cell_of_row _ _ _ _ _ _ hk.1).trans rfl
  have z1 : W0.cell? ⟨w.heap.size, 1, none⟩ = some (.int .i64 n) := (cell_of_row _ _ _ _ _ _ hk.1).trans rfl
  have z2 : W0.cell? ⟨w.heap.size, 2, none⟩ = some (.int .i64 p) := (cell_of_row _ _ _ _ _ _ hk.1).trans rfl
  have c0 : W0.cell? ⟨w.heap.size + 1, 0, none⟩ = some (.int .i64 0) := (cell_of_row _ _ _ _ _ _ hk.2.1).trans rfl
  have f0 : W0.frozen? ⟨w.heap.size + 1, 0, none⟩ = false := by simp [World.frozen?, hk.2.1]
  have c1 : W0.cell? ⟨w.heap.size + 1 + 1, 0, none⟩ = some (.slice a xs.length cap) := (cell_of_row _ _ _ _ _ _ hk.2.2).trans rfl
  refine range_n (α := PartW w) (gf := 56) (lb := #[.pointer (some ⟨w.heap.size + 1 + 1, 0, none⟩)]) rfl (enters_of Try.func56 (by kernel_rfl) rfl) (parts_seq w (w.heap.size + 1) (w.heap.size + 1 + 1) m (5 - 1) 4194304 (by omega) (by omega) _ xs W0 b0 (by omega) c1 hv hw hP) (fun h k => h.trans k) (kd_l (by omega)) (fun h k => h.trans k) (kd_l (by omega)) (Below.refl _ _) (fun _ => rfl)
    (fun pre W => (W.cell? ⟨w.heap.size + 1, 0, none⟩ = some (.int .i64 (useds (k, n, p) pre : Nat)) ∧ W.frozen? ⟨w.heap.size + 1, 0, none⟩ = false ∧ W.cell? ⟨w.heap.size, 0, none⟩ = some (.int .i64 k) ∧ W.cell? ⟨w.heap.size, 1, none⟩ = some (.int .i64 n) ∧ W.cell? ⟨w.heap.size, 2, none⟩ = some (.int .i64 p)) ∧ Below w.heap.size w W)
    (fun _ _ _ => False)
    (fun s X Y g hs => ⟨⟨dep_cell g (by omega) hs.1.1, dep_frozen g (by omega) hs.1.2.1, dep_cell g (by omega) hs.1.2.2.1, dep_cell g (by omega) hs.1.2.2.2.1, dep_cell g (by omega) hs.1.2.2.2.2⟩, hs.2.trans (g.mono (by omega))⟩)
    (fun _ _ _ _ _ hs => hs)
    ⟨⟨by simpa [useds, usP, ghosts] using c0, f0, z0, z1, z2⟩, b0⟩
    (fun x => { tmps := #[.slice a xs.length cap, .agg #[.int .i64 k, .int .i64 n, .int .i64 p], undef, .pointer (some ⟨w.heap.size, 0, none⟩), .int .i64 0, .pointer (some ⟨w.heap.size + 1, 0, none⟩), x.1.1, .slice a xs.length cap, .func (.func 56) #[] #[.pointer (some ⟨w.heap.size + 1 + 1, 0, none⟩)], x.1.1, undef, undef, undef, undef, undef, undef], defers := [] }) ?assign ?body ?done ?stop
  case assign =>
    intro l x W K hK
    gi_wp2
    exact hK
  case body =>
    rintro l pre x W ⟨⟨hc, hf, y0, y1, y2⟩, hB⟩ hpre
    obtain ⟨T, u, f, hx, hcall, hT⟩ := part_uses k n p x.1 x.2
    have hs := useds_le (k, n, p) pre
    have hp := pUse_le (k, n, p) x
    have hwr : IntKind.i64.wrap (((useds (k, n, p) pre : Nat) : Int) + ((pUse (k, n, p) x.1.2 : Nat) : Int)) = ((useds (k, n, p) (pre ++ [x]) : Nat) : Int) := by
      rw [useds_snoc, wrap_small64 (by omega) (by omega)]; omega
    rcases hT with ⟨rfl, rfl⟩ | ⟨rfl, rfl⟩
    · rw [hx]
      have hmx : Try.prog.follows .mixedOrders = true := by kernel_rfl
      have hmeth : ∀ W, (method 252 107 u "loop.example/stile/impl.uses").run Try.prog W = .ok (138, u) W := fun W => by kernel_rfl
      gi_wp2
      gi_region_with_o ((first | refine ⟨trivial, ?_⟩ | refine ⟨fun _ _ => trivial, ?_⟩ | skip); gi_at_call 138; refine (CallsIn.inRound l (callsIn_wide.2 (hcall _ hB.drew))).mono ?_; rintro e w' ⟨rfl, g⟩; have hc' : w'.cell? ⟨w.heap.size + 1, 0, none⟩ = some (.int .i64 (useds (k, n, p) pre : Nat)) := (Keeps.of_below g 0) _ _ _ (Nat.zero_le _) (by simpa using hc); have hf' : w'.frozen? ⟨w.heap.size + 1, 0, none⟩ = false := frozen_keep g (by simpa using hf) (by simpa using hc); have u0 : w'.cell? ⟨w.heap.size, 0, none⟩ = some (.int .i64 k) := (Keeps.of_below g 0) _ _ _ (Nat.zero_le _) (by simpa using y0); have u1 : w'.cell? ⟨w.heap.size, 1, none⟩ = some (.int .i64 n) := (Keeps.of_below g 0) _ _ _ (Nat.zero_le _) (by simpa using y1); have u2 : w'.cell? ⟨w.heap.size, 2, none⟩ = some (.int .i64 p) := (Keeps.of_below g 0) _ _ _ (Nat.zero_le _) (by simpa using y2))
      all_goals
        obtain ⟨q1, q2, q3, q4⟩ := round_end (n₀ := w.heap.size) (by omega) hB.size (.inr rfl) g hc' hf' (.int .i64 ((useds (k, n, p) (pre ++ [x]) : Nat) : Int))
        exact ⟨q1.from _, ⟨q2, q1.from _⟩, ⟨q3, q4, q2.cell (by omega) y0, q2.cell (by omega) y1, q2.cell (by omega) y2⟩, hB.trans q2.1⟩
    · rw [hx]
      have hmx : Try.prog.follows .mixedOrders = true := by kernel_rfl
      have hmeth : ∀ W, (method 252 92 u "loop.example/stile/impl.uses").run Try.prog W = .ok (108, u) W := fun W => by kernel_rfl
      gi_wp2
      gi_region_with_o ((first | refine ⟨trivial, ?_⟩ | refine ⟨fun _ _ => trivial, ?_⟩ | skip); gi_at_call 108; refine (CallsIn.inRound l (callsIn_wide.2 (hcall _ hB.drew))).mono ?_; rintro e w' ⟨rfl, g⟩; have hc' : w'.cell? ⟨w.heap.size + 1, 0, none⟩ = some (.int .i64 (useds (k, n, p) pre : Nat)) := (Keeps.of_below g 0) _ _ _ (Nat.zero_le _) (by simpa using hc); have hf' : w'.frozen? ⟨w.heap.size + 1, 0, none⟩ = false := frozen_keep g (by simpa using hf) (by simpa using hc); have u0 : w'.cell? ⟨w.heap.size, 0, none⟩ = some (.int .i64 k) := (Keeps.of_below g 0) _ _ _ (Nat.zero_le _) (by simpa using y0); have u1 : w'.cell? ⟨w.heap.size, 1, none⟩ = some (.int .i64 n) := (Keeps.of_below g 0) _ _ _ (Nat.zero_le _) (by simpa using y1); have u2 : w'.cell? ⟨w.heap.size, 2, none⟩ = some (.int .i64 p) := (Keeps.of_below g 0) _ _ _ (Nat.zero_le _) (by simpa using y2))
      all_goals
        obtain ⟨q1, q2, q3, q4⟩ := round_end (n₀ := w.heap.size) (by omega) hB.size (.inr rfl) g hc' hf' (.int .i64 ((useds (k, n, p) (pre ++ [x]) : Nat) : Int))
        exact ⟨q1.from _, ⟨q2, q1.from _⟩, ⟨q3, q4, q2.cell (by omega) y0, q2.cell (by omega) y1, q2.cell (by omega) y2⟩, hB.trans q2.1⟩
  case done =>
    rintro D ys W hD hys ⟨⟨hc, _⟩, hB⟩ hK
    gi_wp2
    refine ⟨by simp, .inl ⟨_, _, rfl, run_takeDeferred hK, ?_⟩⟩
    refine ⟨_, results_tmp rfl _ _ _, ?_, hB.trans (belowK_b (w := w) (Nat.le_refl _) W D _ _ (by omega) hK rfl rfl)⟩
    show Ending.returned (Value.int .i64 (useds (k, n, p) ys : Nat)) = _
    unfold useds
    rw [hys]
  case stop =>
    rintro D c pre W _ h _
    exact h.elim
end Go.Proofs.Ytocnhfecnhndgaa
