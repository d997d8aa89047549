/- The program's word on a part; whether a ladder is too great. -/
import Derived.Test.YtgopfaegdlefpaaGreatDoorUd
namespace Go.Proofs.YtgopfaegdlefpaaGreatDoor
open Go.RowKit Go.Shelf
set_option linter.unusedVariables false
attribute [local go_sem] Oper.semAt_some

/-- What the part says is wrong with it. -/
theorem part_wrong {w : World} (ct cl : Int → List ArgT → Bool)
    (HC : ∀ W, Below w.heap.size w W → ∀ op v xs, ArgsIs W 0 v xs → Calls Tryz.prog 200 #[.agg #[.int .i64 op, v]] W fun e w' => e = .returned (.bool (ct op xs)) ∧ Below W.heap.size W w')
    (HL : ∀ W, Below w.heap.size w W → ∀ op v xs, ArgsIs W 0 v xs → Calls Tryz.prog 169 #[.agg #[.int .i64 op, v]] W fun e w' => e = .returned (.bool (cl op xs)) ∧ Below W.heap.size W w')
    (x : Value × PartT) (h : POk w x) : ∃ T u f, x.1 = .iface T u ∧ (∀ W, Below w.heap.size w W → Calls Tryz.prog f #[u] W fun e w' => e = .returned (errV (cP ct cl x.2)) ∧ Below W.heap.size W w') ∧ ((T = 205 ∧ f = 315) ∨ (T = 172 ∧ f = 301)) := by
  obtain ⟨v, g⟩ := x
  cases g with
  | inl t =>
    obtain ⟨m, cs, hN, hw, hv⟩ := h
    subst hv
    refine ⟨_, _, _, rfl, fun W hb => ?_, .inl ⟨rfl, rfl⟩⟩
    cases m with
    | zero => exact hN.elim
    | succ m =>
      cases t with
      | mk k e kids =>
        obtain ⟨v1, v2, rfl, ha, hk⟩ := hN
        obtain ⟨a1, c1, rfl, hl1, _⟩ := id ha
        obtain ⟨a2, c2, rfl, hl2, _⟩ := id hk
        exact netWrong_i k e.op a1 _ c1 a2 _ c2 W hl1 _ (fun W' g => HC W' (hb.trans (g.mono hb.size)) e.op _ e.args (argsIs_move (Keeps.of_below (hb.trans (g.mono hb.size)) 0) (Nat.le_refl _) ha))
  | inr a =>
    obtain ⟨a, r⟩ := a
    obtain ⟨m, cs, hA, hw, hv⟩ := h
    subst hv
    refine ⟨_, _, _, rfl, fun W hb => ?_, .inr ⟨rfl, rfl⟩⟩
    cases m with
    | zero => exact hA.elim
    | succ m =>
      cases a with
      | mk net coils kids =>
        obtain ⟨ns, v3, v4, rfl, hn, hc, hk⟩ := hA
        cases m with
        | zero => exact hn.elim
        | succ m =>
          cases net with
          | mk k e nk =>
            obtain ⟨v1, v2, rfl, ha, hnk⟩ := hn
            obtain ⟨a1, c1, rfl, hl1, _⟩ := id ha
            obtain ⟨a2, c2, rfl, hl2, _⟩ := id hnk
            obtain ⟨a4, c4, rfl, hl4, _⟩ := id hk
            exact armWrong_i k e.op a1 _ c1 a2 _ c2 v3 coils a4 _ c4 r (noneT (.mk k e nk)) W 0 (elemsIs_move (Keeps.of_below hb 0) (Nat.le_refl _) hc) cl (fun W' g => HL W' (hb.trans (g.mono hb.size))) (fun W' => by rw [noneT_len]; exact none_i k e.op a1 _ c1 a2 _ c2 W' hl1 hl2)

theorem szP_sizes {w : World} (ys : List (PartW w)) : sizes ys = szP (ghosts ys) := rfl
theorem szP_pre {a b : List PartT} (h : a <+: b) : szP a ≤ szP b := by
  obtain ⟨z, rfl⟩ := h
  rw [szP_app]; omega
theorem szP_lenT' (m : Nat) (xs : List ArmT) : szP (xs.flatMap (pArm m true)) = szP (xs.flatMap (pArm m false)) := by
  rw [szP_flat, szP_flat]
  congr 1
  exact List.map_congr_left fun x _ => szP_flag m true x
theorem fit_snoc {w : World} {L : List PartT} {pre : List (PartW w)} {x : PartW w} (h : Fit L pre [x.1.2]) : ghosts (pre ++ [x]) <+: L := by
  have : ghosts (pre ++ [x]) = ghosts pre ++ [x.1.2] := by simp [ghosts]
  rw [this]; exact h

set_option maxRecDepth 100000 in
set_option maxHeartbeats 8000000 in
theorem many_i (m : Nat) (v : Value) (xs : List ArmT) (w : World) (hv : ArmsIs w 0 m v xs) (hw : (xs.map (wA m)).sum ≤ 1048576) (hP : (xs.flatMap (pArm m true)).length ≤ 4194304) :
    Calls Tryz.prog 89 #[v] w fun e w' => e = .returned (.bool (manyT m xs)) ∧ Below w.heap.size w w' := by
  refine (callsIn_wide (n := 5)).1 ?_
  refine callsIn_of_wp_marks Tryz.func89 rfl trivial ?_ rfl
  simp only [Tryz.ntmps89, List.size_toArray, List.length_cons, List.length_nil, Nat.reduceAdd, Nat.reduceSub, Array.replicate_succ, Array.replicate_zero, List.push_toArray, List.append_toArray, List.nil_append, List.cons_append]
  have hdd : ∀ k : Nat, (Fence.wide.depth.isSome = true → 1 ≤ k) := fun k h => by cases h
  obtain ⟨a, cap, rfl, hlen, _⟩ := id hv
  have hM : manyT m xs = (decide (40 < xs.length) || decide (400 < szP (xs.flatMap (pArm m true)))) := by unfold manyT; rw [szP_lenT']
  obtain ⟨MT, HMT⟩ : ∃ b, Hid (b = manyT m xs) := ⟨_, rfl⟩
  rw [← HMT.out]
  have HM : Hid (MT = (decide (40 < xs.length) || decide (400 < szP (xs.flatMap (pArm m true))))) := (by rw [HMT.out, hM] : MT = _)
  clear hM
  have r0 := heap_alloc_last w (.cells #[.bool false] 4)
  by_cases h40 : 40 < xs.length
  · have g40 : (xs.length : Int) > 40 := by omega
    have g40' : (40 : Int) < (xs.length : Int) := by omega
    have HMT2 : Hid (MT = true) := (by rw [HM.out]; simp [h40] : MT = true)
    clear h40 r0 hv hw hP hlen
    gi_wp2
    exact ⟨.bool true, by simp [results, Tryz.results89, go_sem], by rw [HMT2.out], (Below.refl _ _).alloc (Nat.le_refl _) _⟩
  · have g40 : ¬ ((xs.length : Int) > 40) := by omega
    have g40' : ¬ ((40 : Int) < (xs.length : Int)) := by omega
    gi_wp2_with (refine ⟨trivial, ?_⟩; gi_at_call 52; refine (callsIn_wide.2 (parts_i _ _ _ _)).mono ?_; rintro e w' ⟨rfl, rfl⟩)
    obtain ⟨W0, hW0⟩ : ∃ W0, ((w.alloc (.cells #[.bool false] 4)).alloc (.cells #[.int .i64 0] 3)).alloc (.cells #[.slice a xs.length cap] 23) = W0 := ⟨_, rfl⟩
    have hk := rows3 w (.cells #[.bool false] 4) (.cells #[.int .i64 0] 3) (.cells #[.slice a xs.length cap] 23)
    have b0 : Below w.heap.size w W0 := by rw [← hW0]; exact (((Below.refl _ _).alloc (Nat.le_refl _) _).alloc (by simp) _).alloc (by simp <;> omega) _
    have hsz : W0.heap.size = w.heap.size + 1 + 1 + 1 := by rw [← hW0]; simp
    try simp only [World.size_alloc]
    rw [hW0] at hk ⊢
    have rr : W0.heap[w.heap.size]? = some (.cells #[.bool false] 4 (0, 0)) := hk.1
    have c0 : W0.cell? ⟨w.heap.size + 1, 0, none⟩ = some (.int .i64 0) := (cell_of_row _ _ _ _ _ _ hk.2.1).trans rfl
    have f0 : W0.frozen? ⟨w.heap.size + 1, 0, none⟩ = false := by simp [World.frozen?, hk.2.1]
    have c1 : W0.cell? ⟨w.heap.size + 1 + 1, 0, none⟩ = some (.slice a xs.length cap) := (cell_of_row _ _ _ _ _ _ hk.2.2).trans rfl
    refine range_n (α := PartW w) (gf := 94) (lb := #[.pointer (some ⟨w.heap.size + 1 + 1, 0, none⟩)]) rfl (enters_of Tryz.func94 (by kernel_rfl) rfl) (parts_seq w (w.heap.size + 1) (w.heap.size + 1 + 1) m (5 - 1) (by omega) (by omega) _ xs W0 b0 (by omega) c1 hv hw) (fun h k => h.trans k) (kd_l (by omega)) (fun h k => h.trans k) (kq_l (Nat.le_refl _)) (Below.refl _ _) (fun _ => rfl)
      (fun pre W => (W.cell? ⟨w.heap.size + 1, 0, none⟩ = some (.int .i64 (sizes pre : Nat)) ∧ W.frozen? ⟨w.heap.size + 1, 0, none⟩ = false) ∧ Below w.heap.size w W ∧ W.heap[w.heap.size]? = some (.cells #[.bool false] 4 (0, 0)) ∧ sizes pre ≤ 400)
      (fun c pre W => c = .ret ∧ Below w.heap.size w W ∧ W.heap[w.heap.size]? = some (.cells #[.bool true] 4 (0, 0)) ∧ 400 < sizes pre ∧ ghosts pre <+: xs.flatMap (pArm m true))
      (fun s X Y g hs => ⟨⟨dep_cell g (by omega) hs.1.1, dep_frozen g (by omega) hs.1.2⟩, hs.2.1.trans (g.mono (by omega)), (g.block _ (by omega)).trans hs.2.2.1, hs.2.2.2⟩)
      (fun c s X Y g hs => ⟨hs.1, hs.2.1.trans (g.mono (by omega)), (g.block _ (by omega)).trans hs.2.2.1, hs.2.2.2⟩)
      ⟨⟨c0, f0⟩, b0, rr, by simp [sizes, ghosts]⟩
      (fun x => { tmps := #[.slice a xs.length cap, undef, .pointer (some ⟨w.heap.size, 0, none⟩), .pointer (some ⟨w.heap.size + 1, 0, none⟩), x.1.1, .slice a xs.length cap, .int .i64 xs.length, .bool false, .slice a xs.length cap, .func (.func 94) #[] #[.pointer (some ⟨w.heap.size + 1 + 1, 0, none⟩)], x.1.1, undef, undef, undef, undef, undef, undef], defers := [] }) ?assign ?body ?done ?stop
    case assign =>
      intro l x W K hK
      gi_wp2
      exact hK
    case body =>
      rintro l pre x W ⟨⟨hc, hf⟩, hB, hrr, h400⟩ hpre
      obtain ⟨T, u, f, hx, hcall, hT⟩ := part_size x.1 x.2
      have hp := pSize_le x
      have hpx := fit_snoc hpre
      have HPX : Hid (ghosts (pre ++ [x]) <+: xs.flatMap (pArm m true)) := hpx
      have hsn := sizes_snoc pre x
      have hwr : IntKind.i64.wrap (((sizes pre : Nat) : Int) + ((pSize x.1.2 : Nat) : Int)) = ((sizes (pre ++ [x]) : Nat) : Int) := by
        rw [sizes_snoc, wrap_small64 (by omega) (by omega)]; omega
      have hbig : sizes (pre ++ [x]) ≤ 2000000 := by omega
      obtain ⟨S, HS⟩ : ∃ S, Hid (S = sizes (pre ++ [x])) := ⟨_, rfl⟩
      rw [← HS.out] at hwr hbig
      clear hsn hp hpx hpre
      rcases hT with ⟨rfl, rfl⟩ | ⟨rfl, rfl⟩
      all_goals
        rw [hx]
        have hmx : Tryz.prog.follows .mixedOrders = true := by kernel_rfl
      · have hmeth : ∀ W, (method 446 205 u "loop.example/stile/impl.size").run Tryz.prog W = .ok (313, u) W := fun W => by kernel_rfl
        gi_wp2
        gi_region_with_o ((first | refine ⟨trivial, ?_⟩ | refine ⟨fun _ _ => trivial, ?_⟩ | skip); gi_at_call 313; refine (CallsIn.inRound l (callsIn_wide.2 (hcall _))).mono ?_; rintro e w' ⟨rfl, g⟩; have hc' : w'.cell? ⟨w.heap.size + 1, 0, none⟩ = some (.int .i64 (sizes pre : Nat)) := (Keeps.of_below g 0) _ _ _ (Nat.zero_le _) (by simpa using hc); have hf' : w'.frozen? ⟨w.heap.size + 1, 0, none⟩ = false := frozen_keep g (by simpa using hf) (by simpa using hc))
        all_goals
          obtain ⟨q1, q2, q3, q4⟩ := round_end (n₀ := w.heap.size) (B := w.heap.size + 1) (by omega) hB.size (.inr rfl) g hc' hf' (.int .i64 ((S : Nat) : Int))
          have rr2 : (w'.setCell ⟨w.heap.size + 1, 0, none⟩ (.int .i64 ((S : Nat) : Int))).heap[w.heap.size]? = some (.cells #[.bool false] 4 (0, 0)) := q2.2 _ _ _ _ (by omega) hrr
          have bb := hB.trans q2.1
          obtain ⟨V, hV⟩ : ∃ V, w'.setCell ⟨w.heap.size + 1, 0, none⟩ (.int .i64 ((S : Nat) : Int)) = V := ⟨_, rfl⟩
          rw [hV] at q1 q2 q3 q4 rr2 bb ⊢
          clear hc' hf' g hc hf
          by_cases hb4 : 400 < S
          · have z : (S : Int) > 400 := by omega
            have z' : (400 : Int) < (S : Int) := by omega
            have d0 : V.cell? ⟨w.heap.size, 0, none⟩ = some (.bool false) := (cell_of_row _ _ _ _ _ _ rr2).trans rfl
            have d1 : V.frozen? ⟨w.heap.size, 0, none⟩ = false := by simp [World.frozen?, rr2]
            have HP : Hid (KeepsFrom W0.heap.size W (V.setCell ⟨w.heap.size, 0, none⟩ (.bool true)) ∧ KQ (W0.heap.size + 2) W (V.setCell ⟨w.heap.size, 0, none⟩ (.bool true)) ∧ Below w.heap.size w (V.setCell ⟨w.heap.size, 0, none⟩ (.bool true)) ∧ (V.setCell ⟨w.heap.size, 0, none⟩ (.bool true)).heap[w.heap.size]? = some (.cells #[.bool true] 4 (0, 0)) ∧ 400 < sizes (pre ++ [x]) ∧ ghosts (pre ++ [x]) <+: xs.flatMap (pArm m true)) := by
              refine ⟨(q1.trans (KeepsOthers.setCell _ _ _)).from _, ⟨fun b C t f hb hc => ?_, (q1.trans (KeepsOthers.setCell _ _ _)).from _⟩, bb.setCell (p := ⟨w.heap.size, 0, none⟩) (Nat.le_refl _) _, row_put rr2 _ _, by rw [← HS.out]; exact hb4, HPX.out⟩
              exact row_other (q2.2 b C t f (by omega) hc) _ _ (by omega) _
            clear hb4 q1 q2 rr2 bb
            gi_wp2
            obtain ⟨p1, p2, p3, p4, p5, p6⟩ := HP.out
            exact ⟨by first | exact p1 | (rw [hsz] at p1; exact p1), by first | exact p2 | (rw [hsz] at p2; exact p2), rfl, p3, p4, p5, p6⟩
          · have z : ¬ ((S : Int) > 400) := by omega
            have z' : ¬ ((400 : Int) < (S : Int)) := by omega
            have HP : Hid (KeepsFrom W0.heap.size W V ∧ KD w.heap.size (w.heap.size + 1) (W0.heap.size + 2) W V ∧ ((V.cell? ⟨w.heap.size + 1, 0, none⟩ = some (.int .i64 (sizes (pre ++ [x]) : Nat)) ∧ V.frozen? ⟨w.heap.size + 1, 0, none⟩ = false) ∧ Below w.heap.size w V ∧ V.heap[w.heap.size]? = some (.cells #[.bool false] 4 (0, 0)) ∧ sizes (pre ++ [x]) ≤ 400)) :=
              ⟨q1.from _, ⟨q2, q1.from _⟩, ⟨by rw [← HS.out]; exact q3, q4⟩, bb, rr2, by rw [← HS.out]; omega⟩
            clear hb4 q1 q2 rr2 bb
            gi_wp2
            obtain ⟨p1, p2, p3⟩ := HP.out
            exact ⟨by first | exact p1 | (rw [hsz] at p1; exact p1), by first | exact p2 | (rw [hsz] at p2; exact p2), p3⟩
      · have hmeth : ∀ W, (method 446 172 u "loop.example/stile/impl.size").run Tryz.prog W = .ok (299, u) W := fun W => by kernel_rfl
        gi_wp2
        gi_region_with_o ((first | refine ⟨trivial, ?_⟩ | refine ⟨fun _ _ => trivial, ?_⟩ | skip); gi_at_call 299; refine (CallsIn.inRound l (callsIn_wide.2 (hcall _))).mono ?_; rintro e w' ⟨rfl, g⟩; have hc' : w'.cell? ⟨w.heap.size + 1, 0, none⟩ = some (.int .i64 (sizes pre : Nat)) := (Keeps.of_below g 0) _ _ _ (Nat.zero_le _) (by simpa using hc); have hf' : w'.frozen? ⟨w.heap.size + 1, 0, none⟩ = false := frozen_keep g (by simpa using hf) (by simpa using hc))
        all_goals
          obtain ⟨q1, q2, q3, q4⟩ := round_end (n₀ := w.heap.size) (B := w.heap.size + 1) (by omega) hB.size (.inr rfl) g hc' hf' (.int .i64 ((S : Nat) : Int))
          have rr2 : (w'.setCell ⟨w.heap.size + 1, 0, none⟩ (.int .i64 ((S : Nat) : Int))).heap[w.heap.size]? = some (.cells #[.bool false] 4 (0, 0)) := q2.2 _ _ _ _ (by omega) hrr
          have bb := hB.trans q2.1
          obtain ⟨V, hV⟩ : ∃ V, w'.setCell ⟨w.heap.size + 1, 0, none⟩ (.int .i64 ((S : Nat) : Int)) = V := ⟨_, rfl⟩
          rw [hV] at q1 q2 q3 q4 rr2 bb ⊢
          clear hc' hf' g hc hf
          by_cases hb4 : 400 < S
          · have z : (S : Int) > 400 := by omega
            have z' : (400 : Int) < (S : Int) := by omega
            have d0 : V.cell? ⟨w.heap.size, 0, none⟩ = some (.bool false) := (cell_of_row _ _ _ _ _ _ rr2).trans rfl
            have d1 : V.frozen? ⟨w.heap.size, 0, none⟩ = false := by simp [World.frozen?, rr2]
            have HP : Hid (KeepsFrom W0.heap.size W (V.setCell ⟨w.heap.size, 0, none⟩ (.bool true)) ∧ KQ (W0.heap.size + 2) W (V.setCell ⟨w.heap.size, 0, none⟩ (.bool true)) ∧ Below w.heap.size w (V.setCell ⟨w.heap.size, 0, none⟩ (.bool true)) ∧ (V.setCell ⟨w.heap.size, 0, none⟩ (.bool true)).heap[w.heap.size]? = some (.cells #[.bool true] 4 (0, 0)) ∧ 400 < sizes (pre ++ [x]) ∧ ghosts (pre ++ [x]) <+: xs.flatMap (pArm m true)) := by
              refine ⟨(q1.trans (KeepsOthers.setCell _ _ _)).from _, ⟨fun b C t f hb hc => ?_, (q1.trans (KeepsOthers.setCell _ _ _)).from _⟩, bb.setCell (p := ⟨w.heap.size, 0, none⟩) (Nat.le_refl _) _, row_put rr2 _ _, by rw [← HS.out]; exact hb4, HPX.out⟩
              exact row_other (q2.2 b C t f (by omega) hc) _ _ (by omega) _
            clear hb4 q1 q2 rr2 bb
            gi_wp2
            obtain ⟨p1, p2, p3, p4, p5, p6⟩ := HP.out
            exact ⟨by first | exact p1 | (rw [hsz] at p1; exact p1), by first | exact p2 | (rw [hsz] at p2; exact p2), rfl, p3, p4, p5, p6⟩
          · have z : ¬ ((S : Int) > 400) := by omega
            have z' : ¬ ((400 : Int) < (S : Int)) := by omega
            have HP : Hid (KeepsFrom W0.heap.size W V ∧ KD w.heap.size (w.heap.size + 1) (W0.heap.size + 2) W V ∧ ((V.cell? ⟨w.heap.size + 1, 0, none⟩ = some (.int .i64 (sizes (pre ++ [x]) : Nat)) ∧ V.frozen? ⟨w.heap.size + 1, 0, none⟩ = false) ∧ Below w.heap.size w V ∧ V.heap[w.heap.size]? = some (.cells #[.bool false] 4 (0, 0)) ∧ sizes (pre ++ [x]) ≤ 400)) :=
              ⟨q1.from _, ⟨q2, q1.from _⟩, ⟨by rw [← HS.out]; exact q3, q4⟩, bb, rr2, by rw [← HS.out]; omega⟩
            clear hb4 q1 q2 rr2 bb
            gi_wp2
            obtain ⟨p1, p2, p3⟩ := HP.out
            exact ⟨by first | exact p1 | (rw [hsz] at p1; exact p1), by first | exact p2 | (rw [hsz] at p2; exact p2), p3⟩
    case done =>
      rintro D ys W hD hys ⟨⟨hc, _⟩, hB, hrr, h400⟩ hK
      have q0 : W.cell? ⟨w.heap.size, 0, none⟩ = some (.bool false) := (cell_of_row _ _ _ _ _ _ hrr).trans rfl
      have q1 : W.frozen? ⟨w.heap.size, 0, none⟩ = false := by simp [World.frozen?, hrr]
      obtain ⟨V2, hV2⟩ : ∃ V2, W.setCell ⟨w.heap.size, 0, none⟩ (.bool false) = V2 := ⟨_, rfl⟩
      have rD : V2.heap[D]? = some (.deferred (some [])) := by rw [← hV2]; exact row_other hK _ _ (by omega) _
      have r2 : V2.heap[w.heap.size]? = some (.cells #[.bool false] 4 (0, 0)) := by rw [← hV2]; exact row_put hrr _ _
      have r3 : (V2.putObj D (.deferred none)).heap[w.heap.size]? = some (.cells #[.bool false] 4 (0, 0)) := (World.putObj_heap_other (by omega)).trans r2
      have c3 : (V2.putObj D (.deferred none)).cell? ⟨w.heap.size, 0, none⟩ = some (.bool false) := (cell_of_row _ _ _ _ _ _ r3).trans rfl
      have bV : Below w.heap.size W (V2.putObj D (.deferred none)) := by
        have b1 : Below w.heap.size W V2 := by rw [← hV2]; exact (Below.refl _ _).setCell (p := ⟨w.heap.size, 0, none⟩) (Nat.le_refl _) _
        exact b1.trans (below_putObj rD (by omega) _)
      have HF : Hid (MT = false) := (by
        rw [HM.out]
        have h1 : szP (xs.flatMap (pArm m true)) ≤ 400 := by rw [← hys, ← szP_sizes]; exact h400
        simp; omega : MT = false)
      clear hc hrr h400 hys
      gi_wp2
      refine ⟨by simp, .inl ⟨_, _, rfl, run_takeDeferred rD, ?_⟩⟩
      exact ⟨.bool false, by simp [results, Tryz.results89, go_sem, c3], by rw [HF.out], hB.trans bV⟩
    case stop =>
      rintro D c q V hD ⟨rfl, hB, hrr, h400, hpf⟩ hDV
      have r3 : (V.putObj D (.deferred none)).heap[w.heap.size]? = some (.cells #[.bool true] 4 (0, 0)) := (World.putObj_heap_other (by omega)).trans hrr
      have c3 : (V.putObj D (.deferred none)).cell? ⟨w.heap.size, 0, none⟩ = some (.bool true) := (cell_of_row _ _ _ _ _ _ r3).trans rfl
      have bV : Below w.heap.size V (V.putObj D (.deferred none)) := below_putObj hDV (by omega) _
      have HF : Hid (MT = true) := (by
        rw [HM.out]
        have h1 := szP_pre hpf
        rw [← szP_sizes] at h1
        simp; omega : MT = true)
      clear hrr h400 hpf
      gi_wp2
      refine ⟨by simp, .inl ⟨_, _, rfl, run_takeDeferred hDV, ?_⟩⟩
      exact ⟨.bool true, by simp [results, Tryz.results89, go_sem, c3], by rw [HF.out], hB.trans bV⟩
end Go.Proofs.YtgopfaegdlefpaaGreatDoor
