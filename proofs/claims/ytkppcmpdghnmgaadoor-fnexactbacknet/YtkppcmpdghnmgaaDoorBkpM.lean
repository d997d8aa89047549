/- normFits of the program, at nets whose parts are right. -/
import Derived.Test.YtkppcmpdghnmgaaDoorBkmM
import Derived.RangeFuncFrom
namespace Go.Proofs.YtkppcmpdghnmgaaDoor
open Go.RowKit Go.Shelf
set_option linter.unusedVariables false
attribute [local go_sem] Oper.semAt_some

theorem szP_nets : ∀ (m : Nat) (t : NetT), szP (pNet m t) = (pNet m t).length
  | 0, t => rfl
  | m + 1, .mk k e kids => by
    show szP (.inl (.mk k e kids) :: kids.flatMap (pNet m)) = (kids.flatMap (pNet m)).length + 1
    have h1 : szP (.inl (.mk k e kids) :: kids.flatMap (pNet m)) = 1 + szP (kids.flatMap (pNet m)) := by simp [szP, pSize]
    have h2 : szP (kids.flatMap (pNet m)) = (kids.flatMap (pNet m)).length := by
      rw [szP_flat, List.length_flatMap]
      congr 1
      exact List.map_congr_left fun x _ => szP_nets m x
    rw [h1, h2]
    omega
theorem rows5 (w : World) (o0 o1 o2 o3 o4 : Obj) : (((((w.alloc o0).alloc o1).alloc o2).alloc o3).alloc o4).heap[w.heap.size + 1]? = some o1 ∧ (((((w.alloc o0).alloc o1).alloc o2).alloc o3).alloc o4).heap[w.heap.size + 1 + 1]? = some o2 ∧ (((((w.alloc o0).alloc o1).alloc o2).alloc o3).alloc o4).heap[w.heap.size + 1 + 1 + 1 + 1]? = some o4 := by
  obtain ⟨h0, h1, h2, h3⟩ := rows4 w o0 o1 o2 o3
  have g : Below ((((w.alloc o0).alloc o1).alloc o2).alloc o3).heap.size ((((w.alloc o0).alloc o1).alloc o2).alloc o3) (((((w.alloc o0).alloc o1).alloc o2).alloc o3).alloc o4) := (Below.refl _ _).alloc (Nat.le_refl _) _
  have hs : ((((w.alloc o0).alloc o1).alloc o2).alloc o3).heap.size = w.heap.size + 1 + 1 + 1 + 1 := by simp
  refine ⟨(g.block _ (by omega)).trans h1, (g.block _ (by omega)).trans h2, ?_⟩
  have := heap_alloc_last ((((w.alloc o0).alloc o1).alloc o2).alloc o3) o4
  rw [hs] at this; exact this
/-- A part that is a net is right. -/
theorem net_wrong {w : World} (hT : KT w) (x : Value × PartT) (h : POk w x) (hr : ∀ cl : Int → List ArgT → Bool, cP ctB cl x.2 = 0) : ∃ u, x.1 = .iface 99 u ∧ ∀ W, Below w.heap.size w W → Calls Tryd.prog 114 #[u] W fun e w' => e = .returned .nilIface ∧ Below W.heap.size W w' := by
  obtain ⟨v, p⟩ := x
  cases p with
  | inr a => exact h.elim
  | inl t =>
    obtain ⟨m, cs, hN, hw, rfl⟩ := h
    cases m with
    | zero => exact hN.elim
    | succ m =>
      obtain ⟨k, e, kids⟩ := t
      obtain ⟨v1, v2, rfl, hA, hK⟩ := hN
      refine ⟨_, rfl, fun W gW => ?_⟩
      have hA0 := hA
      obtain ⟨a1, c1, rfl, hl1, _⟩ := hA
      obtain ⟨a2, c2, rfl, hl2, _⟩ := hK
      have h0 : cNv k e.op e.args.length kids.length (ctB e.op e.args) = 0 := hr (fun _ _ => true)
      have := netWrong_i k e.op a1 e.args.length c1 a2 kids.length c2 W hl1 (ctB e.op e.args) (fun W' g' => impl_iscontact e.op a1 e.args e.args.length c1 rfl W' (hT.later (gW.trans (g'.mono gW.size))) (sl_of (argsIs_move (Keeps.of_below (gW.trans (g'.mono gW.size)) 0) (Nat.le_refl _) hA0)).2)
      rw [h0] at this
      exact this

set_option maxRecDepth 10000 in
set_option maxHeartbeats 4000000 in
theorem nfits_i (m : Nat) (k op : Int) (a1 : Option Addr) (l1 c1 : Nat) (a2 : Option Addr) (l2 c2 : Nat) (t : NetT) (w : World) (ht : NetIs w 0 m t [.int .i64 k, .int .i64 op, .slice a1 l1 c1, .slice a2 l2 c2]) (hw : wN m t ≤ 1048576) (hT : KT w) (hr : Rt t) (hc : cnt m t ≤ 2000) :
    Calls Tryd.prog 22 #[.agg #[.int .i64 k, .int .i64 op, .slice a1 l1 c1, .slice a2 l2 c2]] w fun e w' => e = .returned (.bool (decide (cnt m t ≤ 400))) ∧ Below w.heap.size w w' := by
  refine (callsIn_wide (n := 5)).1 ?_
  refine callsIn_of_wp_marks Tryd.func22 rfl trivial ?_ rfl
  simp only [Tryd.ntmps22, List.size_toArray, List.length_cons, List.length_nil, Nat.reduceAdd, Nat.reduceSub, Array.replicate_succ, Array.replicate_zero, List.push_toArray, List.append_toArray, List.nil_append, List.cons_append]
  have hdd : ∀ k : Nat, (Fence.wide.depth.isSome = true → 1 ≤ k) := fun k h => by cases h
  have hcl : cnt m t = (pNet m t).length := szP_nets m t
  obtain ⟨MT, HMT⟩ : ∃ b, Hid (b = decide (cnt m t ≤ 400)) := ⟨_, rfl⟩
  rw [← HMT.out]
  have HM : Hid (MT = decide ((pNet m t).length ≤ 400)) := (by rw [HMT.out, hcl] : MT = _)
  have hlen : (pNet m t).length ≤ 2000 := by rw [← hcl]; exact hc
  clear hc hcl
  obtain ⟨U, hU⟩ : ∃ U, ((((w.alloc (.cells #[.int .i64 k, .int .i64 op, .slice a1 l1 c1, .slice a2 l2 c2] 29)).alloc (.cells #[.bool false] 4)).alloc (.cells #[.int .i64 0] 3)).alloc (.cells #[.int .i64 k, .int .i64 op, .slice a1 l1 c1, .slice a2 l2 c2] 29)).alloc (.cells #[.slice (some ⟨w.heap.size + 1 + 1 + 1, 0, none⟩) 1 1] 27) = U := ⟨_, rfl⟩
  have hk := rows5 w (.cells #[.int .i64 k, .int .i64 op, .slice a1 l1 c1, .slice a2 l2 c2] 29) (.cells #[.bool false] 4) (.cells #[.int .i64 0] 3) (.cells #[.int .i64 k, .int .i64 op, .slice a1 l1 c1, .slice a2 l2 c2] 29) (.cells #[.slice (some ⟨w.heap.size + 1 + 1 + 1, 0, none⟩) 1 1] 27)
  have gU : Below w.heap.size w U := by rw [← hU]; exact (((((Below.refl _ _).alloc (Nat.le_refl _) _).alloc (by simp) _).alloc (by simp <;> omega) _).alloc (by simp <;> omega) _).alloc (by simp <;> omega) _
  have sU : U.heap.size = w.heap.size + 1 + 1 + 1 + 1 + 1 := by rw [← hU]; simp
  have hrow : RowB U (w.heap.size + 1 + 1) 4 (NetIs w 0 m) (.slice (some ⟨w.heap.size + 1 + 1 + 1, 0, none⟩) 1 1) [t] := by
    have h := rowB_one (R := NetIs w 0 m) (W := ((w.alloc (.cells #[.int .i64 k, .int .i64 op, .slice a1 l1 c1, .slice a2 l2 c2] 29)).alloc (.cells #[.bool false] 4)).alloc (.cells #[.int .i64 0] 3)) (B := w.heap.size + 1 + 1) (t := t) (by simp) ht
    have hz : (((w.alloc (.cells #[.int .i64 k, .int .i64 op, .slice a1 l1 c1, .slice a2 l2 c2] 29)).alloc (.cells #[.bool false] 4)).alloc (.cells #[.int .i64 0] 3)).heap.size = w.heap.size + 1 + 1 + 1 := by simp
    rw [hz] at h
    rw [← hU]
    exact h.keep (KC.alloc (n₀ := 0) (Nat.zero_le _) _)
  rw [hU] at hk
  have cx : U.cell? ⟨w.heap.size + 1 + 1 + 1 + 1, 0, none⟩ = some (.slice (some ⟨w.heap.size + 1 + 1 + 1, 0, none⟩) 1 1) := (cell_of_row _ _ _ _ _ _ hk.2.2).trans rfl
  have eP : [t].flatMap (pNet m) = pNet m t := by simp
  have hseq : SeqN (5 - 1) Tryd.prog 63 #[.pointer (some ⟨w.heap.size + 1 + 1 + 1 + 1, 0, none⟩)] (fun x : PartW w => #[x.1.1]) (KC w.heap.size (w.heap.size + 1 + 1)) (fun _ _ => True) (fun ys => ghosts ys = pNet m t) (fun xs x => Fit (pNet m t) xs [x.1.2]) U := fun l' J' Jx' V hV hsz hJ' hJx' hY' h0 => by
    have h := nets1_in w (w.heap.size + 1 + 1) (w.heap.size + 1 + 1 + 1 + 1) l' m (pNet m t) (by omega) (fun ys X => J' ys X ∧ V.heap.size ≤ X.heap.size) Jx' (fun pre X Y g h => ⟨hJ' _ _ _ (g.mono h.2) h.1, Nat.le_trans h.2 g.size⟩) (5 - 1) (fun pre x X h hl => (hY' pre x X h.1 hl).mono fun e W' hh => by
        rcases hh with ⟨he, hk, hj⟩ | ⟨he, hk, hj⟩
        · exact .inl ⟨he, ⟨hj, Nat.le_trans h.2 hk.1.size⟩, hk⟩
        · exact .inr ⟨he, hj⟩) _ [t] V (gU.trans (hV.mono gU.size)) (by have := hV.size; omega) ((Keeps.of_below hV 0) _ _ _ (Nat.zero_le _) cx) (hrow.keep (KC.of_below (n₀ := w.heap.size) hV gU.size)) (by simpa using hw) ⟨h0, Nat.le_refl _⟩ (by rw [eP]; exact List.prefix_refl _)
    rw [eP] at h
    refine h.mono fun e W' hh => ⟨hh.1, ?_⟩
    rcases hh.2 with ⟨ys, k1, k2⟩ | ⟨q, k1⟩
    · exact .inl ⟨ys, k1, k2.1⟩
    · exact .inr ⟨q, k1⟩
  have rr : U.heap[w.heap.size + 1]? = some (.cells #[.bool false] 4 (0, 0)) := hk.1
  have c0 : U.cell? ⟨w.heap.size + 1 + 1, 0, none⟩ = some (.int .i64 0) := (cell_of_row _ _ _ _ _ _ hk.2.1).trans rfl
  have f0 : U.frozen? ⟨w.heap.size + 1 + 1, 0, none⟩ = false := by simp [World.frozen?, hk.2.1]
  have HS : Hid (SeqN (5 - 1) Tryd.prog 63 #[.pointer (some ⟨w.heap.size + 1 + 1 + 1 + 1, 0, none⟩)] (fun x : PartW w => #[x.1.1]) (KC w.heap.size (w.heap.size + 1 + 1)) (fun _ _ => True) (fun ys => ghosts ys = pNet m t) (fun xs x => Fit (pNet m t) xs [x.1.2]) U) := hseq
  have HT : Hid (KT w) := hT
  have HRt : Hid (Rt t) := hr
  clear hseq hrow cx hk eP ht hw hT hr
  gi_wp2_with (refine ⟨trivial, ?_⟩; gi_at_call 45; refine (callsIn_wide.2 (nets_call _ _ _ _)).mono ?_; rintro e w' ⟨rfl, rfl⟩)
  try simp only [World.size_alloc]
  try rw [hU]
  clear hU
  refine range_n (α := PartW w) (gf := 63) (lb := #[.pointer (some ⟨w.heap.size + 1 + 1 + 1 + 1, 0, none⟩)]) rfl (enters_of Tryd.func63 (by kernel_rfl) rfl) HS.out (fun h k => h.trans k) (fun V r o' h => kc_b (w := U) gU.size V _ _ o' (by omega) h rfl rfl) (fun _ _ => trivial) (fun _ _ _ _ => trivial) (Below.refl _ _) (fun _ => rfl)
    (fun pre W => (W.cell? ⟨w.heap.size + 1 + 1, 0, none⟩ = some (.int .i64 (pre.length : Nat)) ∧ W.frozen? ⟨w.heap.size + 1 + 1, 0, none⟩ = false) ∧ Below w.heap.size w W ∧ W.heap[w.heap.size + 1]? = some (.cells #[.bool false] 4 (0, 0)) ∧ pre.length ≤ 400)
    (fun c pre W => c = .ret ∧ Below w.heap.size w W ∧ W.heap[w.heap.size + 1]? = some (.cells #[.bool false] 4 (0, 0)) ∧ 400 < pre.length ∧ ghosts pre <+: pNet m t)
    (fun s X Y g hs => ⟨⟨dep_cell g (by omega) hs.1.1, dep_frozen g (by omega) hs.1.2⟩, hs.2.1.trans (g.mono (by omega)), (g.block _ (by omega)).trans hs.2.2.1, hs.2.2.2⟩)
    (fun c s X Y g hs => ⟨hs.1, hs.2.1.trans (g.mono (by omega)), (g.block _ (by omega)).trans hs.2.2.1, hs.2.2.2⟩)
    ⟨⟨c0, f0⟩, gU, rr, by simp⟩
    (fun x => { tmps := #[.agg #[.int .i64 k, .int .i64 op, .slice a1 l1 c1, .slice a2 l2 c2], .pointer (some ⟨w.heap.size, 0, none⟩), .pointer (some ⟨w.heap.size + 1, 0, none⟩), .pointer (some ⟨w.heap.size + 1 + 1, 0, none⟩), x.1.1, .agg #[.int .i64 k, .int .i64 op, .slice a1 l1 c1, .slice a2 l2 c2], .slice (some ⟨w.heap.size + 1 + 1 + 1, 0, none⟩) 1 1, .func (.func 63) #[] #[.pointer (some ⟨w.heap.size + 1 + 1 + 1 + 1, 0, none⟩)], x.1.1, undef, undef, undef, undef, undef, undef, undef, undef, undef], defers := [] }) ?assign ?body ?done ?stop
  case assign =>
    intro l x W K hK
    gi_wp2
    exact hK
  case body =>
    rintro l pre x W ⟨⟨hc, hf⟩, hB, hrr, h400⟩ hpre
    have hpx := (by obtain ⟨Z, hZ⟩ := hpre; exact ⟨Z, by rw [← hZ]; simp [ghosts]⟩ : ghosts (pre ++ [x]) <+: pNet m t)
    have hxm : x.1.2 ∈ pNet m t := hpx.subset (by simp [ghosts])
    obtain ⟨u, hu, hcall⟩ := net_wrong HT.out x.1 x.2 (fun cl => HRt.out m cl _ hxm)
    have HPX : Hid (ghosts (pre ++ [x]) <+: pNet m t) := hpx
    have hwr : IntKind.i64.wrap (((pre.length : Nat) : Int) + 1) = (((pre.length + 1 : Nat)) : Int) := by rw [IntKind.wrap_i64]; omega
    obtain ⟨S, HSS⟩ : ∃ S, Hid (S = pre.length + 1) := ⟨_, rfl⟩
    rw [← HSS.out] at hwr
    rw [hu]
    have hmeth : ∀ W, (method 239 99 u "loop.example/stile/impl.wrong").run Tryd.prog W = .ok (114, u) W := fun W => by kernel_rfl
    have q1 : KeepsOthers W (W.setCell ⟨w.heap.size + 1 + 1, 0, none⟩ (.int .i64 (S : Int))) := KeepsOthers.setCell _ _ _
    have q2 : KC w.heap.size (w.heap.size + 1 + 1) W (W.setCell ⟨w.heap.size + 1 + 1, 0, none⟩ (.int .i64 (S : Int))) := ⟨(Below.refl _ _).setCell (p := ⟨w.heap.size + 1 + 1, 0, none⟩) (by simp; omega) _, fun b C t f hb h => row_other h _ _ (by omega) _⟩
    have q3 : (W.setCell ⟨w.heap.size + 1 + 1, 0, none⟩ (.int .i64 (S : Int))).cell? ⟨w.heap.size + 1 + 1, 0, none⟩ = some (.int .i64 (S : Int)) := World.cell?_setCell_same _ _ _ hc
    have q4 : (W.setCell ⟨w.heap.size + 1 + 1, 0, none⟩ (.int .i64 (S : Int))).frozen? ⟨w.heap.size + 1 + 1, 0, none⟩ = false := by simpa using hf
    have rr2 : (W.setCell ⟨w.heap.size + 1 + 1, 0, none⟩ (.int .i64 (S : Int))).heap[w.heap.size + 1]? = some (.cells #[.bool false] 4 (0, 0)) := row_other hrr _ _ (by omega) _
    have bb : Below w.heap.size w (W.setCell ⟨w.heap.size + 1 + 1, 0, none⟩ (.int .i64 (S : Int))) := hB.trans q2.1
    by_cases hb4 : 400 < S
    · have z : (S : Int) > 400 := by omega
      have z' : (400 : Int) < (S : Int) := by omega
      obtain ⟨V, hV⟩ : ∃ V, W.setCell ⟨w.heap.size + 1 + 1, 0, none⟩ (.int .i64 (S : Int)) = V := ⟨_, rfl⟩
      rw [hV] at q1 q2 q3 q4 rr2 bb
      have d0 : V.cell? ⟨w.heap.size + 1, 0, none⟩ = some (.bool false) := (cell_of_row _ _ _ _ _ _ rr2).trans rfl
      have d1 : V.frozen? ⟨w.heap.size + 1, 0, none⟩ = false := by simp [World.frozen?, rr2]
      have HP : Hid (KeepsFrom U.heap.size W (V.setCell ⟨w.heap.size + 1, 0, none⟩ (.bool false)) ∧ Below w.heap.size w (V.setCell ⟨w.heap.size + 1, 0, none⟩ (.bool false)) ∧ (V.setCell ⟨w.heap.size + 1, 0, none⟩ (.bool false)).heap[w.heap.size + 1]? = some (.cells #[.bool false] 4 (0, 0)) ∧ 400 < (pre ++ [x]).length ∧ ghosts (pre ++ [x]) <+: pNet m t) := by
        refine ⟨(q1.trans (KeepsOthers.setCell _ _ _)).from _, bb.setCell (p := ⟨w.heap.size + 1, 0, none⟩) (by simp) _, row_put rr2 _ _, by simp; have := HSS.out; omega, HPX.out⟩
      clear hb4 q1 q2 rr2 bb hrr
      gi_wp2
      all_goals
        refine ⟨fun _ _ => trivial, ?_⟩
        gi_wp2
        obtain ⟨p1, p3, p4, p5, p6⟩ := HP.out
        exact ⟨by first | exact p1 | (rw [sU] at p1; exact p1), trivial, rfl, p3, p4, p5, p6⟩
    · have z : ¬ ((S : Int) > 400) := by omega
      have z' : ¬ ((400 : Int) < (S : Int)) := by omega
      obtain ⟨V, hV⟩ : ∃ V, W.setCell ⟨w.heap.size + 1 + 1, 0, none⟩ (.int .i64 (S : Int)) = V := ⟨_, rfl⟩
      rw [hV] at q1 q2 q3 q4 rr2 bb
      have HP : Hid (∀ w', Below V.heap.size V w' → KeepsFrom U.heap.size W w' ∧ KC w.heap.size (w.heap.size + 1 + 1) W w' ∧ ((w'.cell? ⟨w.heap.size + 1 + 1, 0, none⟩ = some (.int .i64 ((pre ++ [x]).length : Nat)) ∧ w'.frozen? ⟨w.heap.size + 1 + 1, 0, none⟩ = false) ∧ Below w.heap.size w w' ∧ w'.heap[w.heap.size + 1]? = some (.cells #[.bool false] 4 (0, 0)) ∧ (pre ++ [x]).length ≤ 400)) := fun w' g => by
        have e1 : (pre ++ [x]).length = S := by rw [HSS.out]; simp
        refine ⟨KeepsFrom.trans (q1.from _) (KeepsFrom.of_grownBy (row := none) (gbb g) (fun j h => by cases h)), q2.trans (KC.of_below g bb.size), ⟨by rw [e1]; exact (Keeps.of_below g 0) _ _ _ (Nat.zero_le _) q3, frozen_keep g q4 q3⟩, bb.trans (g.mono bb.size), (g.block _ (Array.getElem?_eq_some_iff.1 rr2).1).trans rr2, by omega⟩
      have HCw : Hid (Calls Tryd.prog 114 #[u] V fun e w' => e = .returned .nilIface ∧ Below V.heap.size V w') := hcall V bb
      clear hb4 q1 q2 rr2 bb hrr hcall
      gi_wp2_with ((first | refine ⟨trivial, ?_⟩ | refine ⟨fun _ _ => trivial, ?_⟩ | skip); gi_at_call 114; refine (CallsIn.inRound l (callsIn_wide.2 HCw.out)).mono ?_; rintro e w' ⟨rfl, g⟩)
      obtain ⟨p1, p2, p3⟩ := HP.out w' g
      exact ⟨by first | exact p1 | (rw [sU] at p1; exact p1), p2, p3⟩
  case done =>
    rintro D ys W hD hys ⟨⟨hc, _⟩, hB, hrr, h400⟩ hK
    have q0 : W.cell? ⟨w.heap.size + 1, 0, none⟩ = some (.bool false) := (cell_of_row _ _ _ _ _ _ hrr).trans rfl
    have q1 : W.frozen? ⟨w.heap.size + 1, 0, none⟩ = false := by simp [World.frozen?, hrr]
    obtain ⟨V2, hV2⟩ : ∃ V2, W.setCell ⟨w.heap.size + 1, 0, none⟩ (.bool true) = V2 := ⟨_, rfl⟩
    have rD : V2.heap[D]? = some (.deferred (some [])) := by rw [← hV2]; exact row_other hK _ _ (by omega) _
    have r2 : V2.heap[w.heap.size + 1]? = some (.cells #[.bool true] 4 (0, 0)) := by rw [← hV2]; exact row_put hrr _ _
    have r3 : (V2.putObj D (.deferred none)).heap[w.heap.size + 1]? = some (.cells #[.bool true] 4 (0, 0)) := (World.putObj_heap_other (by omega)).trans r2
    have c3 : (V2.putObj D (.deferred none)).cell? ⟨w.heap.size + 1, 0, none⟩ = some (.bool true) := (cell_of_row _ _ _ _ _ _ r3).trans rfl
    have bV : Below w.heap.size W (V2.putObj D (.deferred none)) := by
      have b1 : Below w.heap.size W V2 := by rw [← hV2]; exact (Below.refl _ _).setCell (p := ⟨w.heap.size + 1, 0, none⟩) (by simp) _
      exact b1.trans (below_putObj rD (by omega) _)
    have HF : Hid (MT = true) := (by
      rw [HM.out]
      have h1 : (pNet m t).length ≤ 400 := by rw [← hys]; simpa [ghosts] using h400
      simp; omega : MT = true)
    clear hc hrr h400 hys
    gi_wp2
    refine ⟨by simp, .inl ⟨_, _, rfl, run_takeDeferred rD, ?_⟩⟩
    exact ⟨.bool true, by simp [results, Tryd.results22, go_sem, c3], by rw [HF.out], hB.trans bV⟩
  case stop =>
    rintro D c q V hD ⟨rfl, hB, hrr, h400, hpf⟩ hDV
    have r3 : (V.putObj D (.deferred none)).heap[w.heap.size + 1]? = some (.cells #[.bool false] 4 (0, 0)) := (World.putObj_heap_other (by omega)).trans hrr
    have c3 : (V.putObj D (.deferred none)).cell? ⟨w.heap.size + 1, 0, none⟩ = some (.bool false) := (cell_of_row _ _ _ _ _ _ r3).trans rfl
    have bV : Below w.heap.size V (V.putObj D (.deferred none)) := below_putObj hDV (by omega) _
    have HF : Hid (MT = false) := (by
      rw [HM.out]
      have h1 := hpf.length_le
      have h2 : (ghosts q).length = q.length := by simp [ghosts]
      simp; omega : MT = false)
    clear hrr h400 hpf
    gi_wp2
    refine ⟨by simp, .inl ⟨_, _, rfl, run_takeDeferred hDV, ?_⟩⟩
    exact ⟨.bool false, by simp [results, Tryd.results22, go_sem, c3], by rw [HF.out], hB.trans bV⟩
end Go.Proofs.YtkppcmpdghnmgaaDoor
/- BackNet of the program. -/
namespace Go.Proofs.YtkppcmpdghnmgaaDoor
open Go.RowKit
set_option linter.unusedVariables false

/-- Where the program's loop stands. -/
def IlAt (xs : List InstT) (w : World) (j : Nat) (u : Option Addr) (wr : World) : Prop :=
  ∃ (F : List Nat) (s : List NetT), StkIs wr (w.heap.size + 1) (j + 1) F (.pointer u) s ∧ F.Nodup ∧ GS j s ∧ bk xs [] = bk (xs.drop j) s ∧ Below (w.heap.size + 1) (w.alloc (.cells #[.int .i64 0, .int .i64 0, .slice none 0 0, .slice none 0 0] 29)) wr
theorem il_step {xs : List InstT} {w wr : World} {j : Nat} {u : Option Addr} {x : InstT} {lo : Nat} {ua : Option Addr} {uc : Nat} (h : IlAt xs w j u wr) (hx : xs[j]? = some x) (hl : xs.length ≤ 1000) :
    (okX x = false → netB xs = none) ∧
    (okX x = true → ∀ W, Below wr.heap.size wr W → ArgsIs W lo (.slice ua x.one.args.length uc) x.one.args → x.one.args.length ≤ 1048576 → Calls Tryd.prog 20 #[.pointer u, .agg #[.int .i64 x.code, .int .i64 x.one.op, .slice ua x.one.args.length uc]] W fun e w' => ∃ u', e = .returned (.pointer u') ∧ Below W.heap.size W w' ∧ (u' = none → netB xs = none) ∧ (∀ b, u' = some b → IlAt xs w (j + 1) u' w')) := by
  obtain ⟨F, s, hS, hnd, hG, hb, gB⟩ := h
  have hj : j < xs.length := (List.getElem?_eq_some_iff.1 hx).1
  have hat := bk_at hx s
  have hno : bk xs [] = none → netB xs = none := fun h => by unfold netB; rw [if_pos hl, h]
  refine ⟨fun h => hno ?_, fun h W gW hv hbig => ?_⟩
  · rw [hb, hat, h]; rfl
  · have hsz : w.heap.size + 1 ≤ wr.heap.size := by have := gB.size; simpa using this
    refine (bh_i (w.heap.size + 1) j lo x.one.op ua x.one.args.length uc x.one.args u x.code s F W rfl hv hbig hnd (by have := gW.size; omega) (StkIs.later (Nat.le_refl _) gW _ _ _ hS) (hG.okS (by omega))).mono ?_
    intro e w' hB
    cases hs : stp x.code x.one s with
    | none =>
      have hs' : stp x.code ⟨x.one.op, x.one.args⟩ s = none := hs
      rw [hs'] at hB
      obtain ⟨rfl, g'⟩ := hB
      exact ⟨none, rfl, g', fun _ => hno (by rw [hb, hat, if_pos h, hs]), fun b hb => by simp at hb⟩
    | some s' =>
      have hs' : stp x.code ⟨x.one.op, x.one.args⟩ s = some s' := hs
      rw [hs'] at hB
      obtain ⟨F', b, rfl, h2, h3, h4, h5⟩ := hB
      refine ⟨some ⟨b, 0, none⟩, rfl, h5, fun h => by simp at h, fun b' hb' => ⟨F', s', h2, h3, hG.step h hs, ?_, (gB.trans (gW.mono hsz)).trans (h5.mono (by have := gW.size; omega))⟩⟩
      rw [hb, hat, if_pos h, hs]

set_option maxRecDepth 10000 in
set_option maxHeartbeats 4000000 in
theorem bnet_i (v : Value) (xs : List InstT) (w : World) (lo : Nat) (hv : InstsIs w lo v xs) (hbig : xs.length + (xs.map wI).sum ≤ 1048576) (hT : KT w) (hLt : LT w) :
    Calls Tryd.prog 7 #[v] w fun e w' => BnR xs w e w' := by
  obtain ⟨a, cap, rfl, hl, hx⟩ := hv
  have HX : Hid (∀ j x, xs[j]? = some x → ∃ b o cs, a = some ⟨b, o, none⟩ ∧ lo ≤ b ∧ cs.length = 3 ∧ w.rangeAt b (o + j * 3) cs ∧ InstIs w lo x cs) := hx
  have HBg : Hid (∀ x ∈ xs, x.one.args.length ≤ 1048576) := fun x hx => by have h1 := sum_mem wI xs x hx; have h2 : wI x = x.one.args.length := rfl; omega
  have HTT : Hid (∀ W, Below w.heap.size w W → KT W ∧ LT W) := fun W g => ⟨hT.later g, hLt.later g⟩
  obtain ⟨len, HL⟩ : ∃ len, Hid (len = xs.length) := ⟨_, rfl⟩
  rw [← HL.out] at hl ⊢
  have b0 : Below w.heap.size w (w.alloc (.cells #[.int .i64 0, .int .i64 0, .slice none 0 0, .slice none 0 0] 29)) := (Below.refl _ _).alloc (Nat.le_refl _) _
  clear hx hbig hT hLt
  by_cases hlen : len ≤ 1000
  case neg =>
    have i1 : (1000 : Int) < (len : Int) := by omega
    have HF : Hid (BnR xs w (.returned (.tuple #[.agg #[.int .i64 0, .int .i64 0, .slice none 0 0, .slice none 0 0], .bool false])) (w.alloc (.cells #[.int .i64 0, .int .i64 0, .slice none 0 0, .slice none 0 0] 29))) := bn_none (by unfold netB; rw [if_neg (by rw [← HL.out]; exact hlen)]) rfl b0
    clear HX HBg b0 HTT
    go_enter Tryd.func7, Tryd.ntmps7
    go_wp2
    exact bodyPost_ret (v := .tuple #[.agg #[.int .i64 0, .int .i64 0, .slice none 0 0, .slice none 0 0], .bool false]) (by simp [results, Tryd.results7, go_sem]) rfl HF.out
  have i0 : ¬ ((1000 : Int) < (len : Int)) := by omega
  have HST : Hid (IlAt xs w 0 none (w.alloc (.cells #[.int .i64 0, .int .i64 0, .slice none 0 0, .slice none 0 0] 29))) := ⟨[], [], ⟨rfl, rfl⟩, List.nodup_nil, GS.nil, rfl, Below.refl _ _⟩
  have HNone : Hid (netB xs = none → ∀ W, Below w.heap.size w W → W.heap[w.heap.size]? = some (.cells #[.int .i64 0, .int .i64 0, .slice none 0 0, .slice none 0 0] 29 (0, 0)) → ∃ W', (storeVar 29 ⟨w.heap.size, 0, none⟩ (.agg #[.int .i64 0, .int .i64 0, .slice none 0 0, .slice none 0 0])).run Tryd.prog W = .ok () W' ∧ (W'.cell? ⟨w.heap.size, 0, none⟩ = some (.int .i64 0) ∧ W'.cell? ⟨w.heap.size, 1, none⟩ = some (.int .i64 0) ∧ W'.cell? ⟨w.heap.size, 2, none⟩ = some (.slice none 0 0) ∧ W'.cell? ⟨w.heap.size, 3, none⟩ = some (.slice none 0 0)) ∧ BnR xs w (.returned (.tuple #[.agg #[.int .i64 0, .int .i64 0, .slice none 0 0, .slice none 0 0], .bool false])) W') := fun hno W gW hr => by
    have k := row_set hr #[.int .i64 0, .int .i64 0, .slice none 0 0, .slice none 0 0]
    exact ⟨_, store_all hr _ _ rfl (by kernel_rfl) (by simp [Value.oneCell']), ⟨(cell_of_row _ _ _ _ _ _ k).trans rfl, (cell_of_row _ _ _ _ _ _ k).trans rfl, (cell_of_row _ _ _ _ _ _ k).trans rfl, (cell_of_row _ _ _ _ _ _ k).trans rfl⟩, bn_none hno rfl (below_setRow gW (Nat.le_refl _) _)⟩
  have HZr : Hid (∀ j u wr, IlAt xs w j u wr → Below w.heap.size w wr ∧ wr.heap[w.heap.size]? = some (.cells #[.int .i64 0, .int .i64 0, .slice none 0 0, .slice none 0 0] 29 (0, 0))) := fun j u wr hS => by
    obtain ⟨F, s, -, -, -, -, gB⟩ := hS
    exact ⟨b0.trans (gB.mono (by omega)), (gB.block _ (by omega)).trans (heap_alloc_last w _)⟩
  go_enter Tryd.func7, Tryd.ntmps7
  go_wp2
  go_loopg [4, 13] len (fun gg sv i wr => ∃ (j : Nat) (u : Option Addr), j + gg = len ∧ i = .int .i64 j ∧ sv = .pointer u ∧ Hid (IlAt xs w j u wr))
  case atStart => exact ⟨0, none, by omega, rfl, rfl, HST⟩
  case round =>
    clear HST
    obtain ⟨j, u, hn, rfl, rfl, HS⟩ := hrel
    obtain ⟨gW, rW⟩ := HZr.out _ _ _ HS.out
    by_cases hlt : j < len
    · have i1 : (j : Int) < (len : Int) := by omega
      have i3 : (0 : Int) ≤ (j : Int) := by omega
      obtain ⟨x, hxn⟩ : ∃ x, xs[j]? = some x := ⟨_, List.getElem?_eq_getElem (by have := HL.out; omega)⟩
      obtain ⟨bk', o, cs, rfl, hlo, hcs, hrg, u0, rfl, hR⟩ := HX.out j x hxn
      have hR0 := hR
      obtain ⟨ua, uc, rfl, -, -⟩ := hR
      have HLd : Hid (∀ W, Below w.heap.size w W → (loadVar 46 ⟨bk', o + j * 3, none⟩).run Tryd.prog W = .ok (.agg #[.int .i64 x.code, .int .i64 x.one.op, .slice ua x.one.args.length uc]) W) := fun W g => run_loadVar_mid W bk' (o + j * 3) 46 [.int .i64 x.code, .int .i64 x.one.op, .slice ua x.one.args.length uc] _ (fun i c hi => (Keeps.of_below g 0) _ _ _ (Nat.zero_le _) (hrg i c hi)) Tryd.underlying46 rfl (by kernel_rfl)
      have HOk : Hid (∀ W, Below w.heap.size w W → Calls Tryd.prog 19 #[.agg #[.int .i64 x.code, .int .i64 x.one.op, .slice ua x.one.args.length uc]] W fun e w' => e = .returned (.bool (okX x)) ∧ Below W.heap.size W w') := fun W g => ok_i x.code x.one.op ua x.one.args x.one.args.length uc rfl W (HTT.out W g).1 (HTT.out W g).2 (sl_of (argsIs_move (Keeps.of_below g lo) (Nat.le_refl _) hR0)).2
      obtain ⟨t1, t4⟩ := il_step (lo := lo) (ua := ua) (uc := uc) HS.out hxn (by have := HL.out; omega)
      have HT1 : Hid (okX x = false → netB xs = none) := t1
      have HT4 : Hid (okX x = true → ∀ W, Below wr.heap.size wr W → Calls Tryd.prog 20 #[.pointer u, .agg #[.int .i64 x.code, .int .i64 x.one.op, .slice ua x.one.args.length uc]] W fun e w' => ∃ u', e = .returned (.pointer u') ∧ Below W.heap.size W w' ∧ (u' = none → netB xs = none) ∧ (∀ b, u' = some b → IlAt xs w (j + 1) u' w')) := fun q1 W g => t4 q1 W g (argsIs_move (Keeps.of_below (gW.trans (g.mono gW.size)) lo) (Nat.le_refl _) hR0) (HBg.out x (List.mem_of_getElem? hxn))
      obtain ⟨b, Hb⟩ : ∃ b, Hid (b = okX x) := ⟨_, rfl⟩
      obtain ⟨c, Hc⟩ : ∃ c, Hid (c = x.code) := ⟨_, rfl⟩
      obtain ⟨op, Hop⟩ : ∃ c, Hid (c = x.one.op) := ⟨_, rfl⟩
      obtain ⟨ul, Hul⟩ : ∃ c, Hid (c = x.one.args.length) := ⟨_, rfl⟩
      rw [← Hc.out, ← Hop.out, ← Hul.out] at HLd HOk HT4
      rw [← Hb.out] at HOk HT1 HT4
      have gA : Below wr.heap.size wr (wr.alloc (.cells #[.int .i64 c, .int .i64 op, .slice ua ul uc] 46)) := (Below.refl _ _).alloc (Nat.le_refl _) _
      have GA : Below w.heap.size w (wr.alloc (.cells #[.int .i64 c, .int .i64 op, .slice ua ul uc] 46)) := gW.trans (gA.mono gW.size)
      have rA : (wr.alloc (.cells #[.int .i64 c, .int .i64 op, .slice ua ul uc] 46)).heap[wr.heap.size]? = some (.cells #[.int .i64 c, .int .i64 op, .slice ua ul uc] 46 (0, 0)) := heap_alloc_last wr _
      have HLd1 : Hid ((loadVar 46 ⟨bk', o + j * 3, none⟩).run Tryd.prog wr = .ok (.agg #[.int .i64 c, .int .i64 op, .slice ua ul uc]) wr) := HLd.out wr gW
      have HLd2 : Hid ((loadVar 46 ⟨wr.heap.size, 0, none⟩).run Tryd.prog (wr.alloc (.cells #[.int .i64 c, .int .i64 op, .slice ua ul uc] 46)) = .ok (.agg #[.int .i64 c, .int .i64 op, .slice ua ul uc]) (wr.alloc (.cells #[.int .i64 c, .int .i64 op, .slice ua ul uc] 46))) := load_all rA _ _ Tryd.underlying46 rfl (by kernel_rfl)
      have HOk1 : Hid (Calls Tryd.prog 19 #[.agg #[.int .i64 c, .int .i64 op, .slice ua ul uc]] (wr.alloc (.cells #[.int .i64 c, .int .i64 op, .slice ua ul uc] 46)) fun e w' => e = .returned (.bool b) ∧ Below (wr.alloc (.cells #[.int .i64 c, .int .i64 op, .slice ua ul uc] 46)).heap.size (wr.alloc (.cells #[.int .i64 c, .int .i64 op, .slice ua ul uc] 46)) w') := HOk.out _ GA
      have HGA : Hid (Below wr.heap.size wr (wr.alloc (.cells #[.int .i64 c, .int .i64 op, .slice ua ul uc] 46)) ∧ Below w.heap.size w (wr.alloc (.cells #[.int .i64 c, .int .i64 op, .slice ua ul uc] 46)) ∧ (wr.alloc (.cells #[.int .i64 c, .int .i64 op, .slice ua ul uc] 46)).heap[wr.heap.size]? = some (.cells #[.int .i64 c, .int .i64 op, .slice ua ul uc] 46 (0, 0)) ∧ (wr.alloc (.cells #[.int .i64 c, .int .i64 op, .slice ua ul uc] 46)).heap[w.heap.size]? = some (.cells #[.int .i64 0, .int .i64 0, .slice none 0 0, .slice none 0 0] 29 (0, 0))) := ⟨gA, GA, rA, (gA.block _ (Array.getElem?_eq_some_iff.1 rW).1).trans rW⟩
      clear t1 t4 hR0 hrg hlo hcs Hb Hc Hop Hul hxn HOk HX HBg HS HLd gA GA rA
      go_wp2_with (first | (refine wpL_load rfl 46 _ rfl _ _ rfl _ HLd1.out ?_) | (refine wpL_load rfl 46 _ rfl _ _ rfl _ HLd2.out ?_) | fail)
      refine HOk1.out.mono ?_
      rintro e w1 ⟨rfl, g1⟩
      obtain ⟨gA, GA, rA, rA0⟩ := HGA.out
      have G1 : Below w.heap.size w w1 := GA.trans (g1.mono GA.size)
      have g1' : Below wr.heap.size wr w1 := gA.trans (g1.mono gA.size)
      have r1 : w1.heap[w.heap.size]? = some (.cells #[.int .i64 0, .int .i64 0, .slice none 0 0, .slice none 0 0] 29 (0, 0)) := (g1.block _ (Array.getElem?_eq_some_iff.1 rA0).1).trans rA0
      have r1x : w1.heap[wr.heap.size]? = some (.cells #[.int .i64 c, .int .i64 op, .slice ua ul uc] 46 (0, 0)) := (g1.block _ (Array.getElem?_eq_some_iff.1 rA).1).trans rA
      have HLd3 : Hid ((loadVar 46 ⟨wr.heap.size, 0, none⟩).run Tryd.prog w1 = .ok (.agg #[.int .i64 c, .int .i64 op, .slice ua ul uc]) w1) := load_all r1x _ _ Tryd.underlying46 rfl (by kernel_rfl)
      clear g1 rW gW HOk1 HLd1 HLd2 gA GA rA rA0 HGA r1x
      cases b
      · obtain ⟨W', hs, ⟨z0, z1, z2, z3⟩, hB⟩ := HNone.out (HT1.out (by first | rfl | trivial)) w1 G1 r1
        have HSt : Hid ((storeVar 29 ⟨w.heap.size, 0, none⟩ (.agg #[.int .i64 0, .int .i64 0, .slice none 0 0, .slice none 0 0])).run Tryd.prog w1 = .ok () W') := hs
        have HFB : Hid (BnR xs w (.returned (.tuple #[.agg #[.int .i64 0, .int .i64 0, .slice none 0 0, .slice none 0 0], .bool false])) W') := hB
        clear hs hB HNone HT1 HT4 G1 r1 g1' HZr HTT HLd3
        go_wp2_with (first | (refine wpL_store rfl 29 (.tmp 2) (.tmp 20) rfl w.heap.size 0 rfl (.agg #[.int .i64 0, .int .i64 0, .slice none 0 0, .slice none 0 0]) rfl W' HSt.out ?_) | fail)
        exact bodyPost_ret (v := .tuple #[.agg #[.int .i64 0, .int .i64 0, .slice none 0 0, .slice none 0 0], .bool false]) (by simp [results, Tryd.results7, go_sem, z0, z1, z2, z3]) rfl HFB.out
      have HBh : Hid (Calls Tryd.prog 20 #[.pointer u, .agg #[.int .i64 c, .int .i64 op, .slice ua ul uc]] w1 fun e w' => ∃ u', e = .returned (.pointer u') ∧ Below w1.heap.size w1 w' ∧ (u' = none → netB xs = none) ∧ (∀ b, u' = some b → IlAt xs w (j + 1) u' w')) := HT4.out (by first | rfl | trivial) w1 g1'
      clear HT1 HT4 g1'
      go_wp2_with (first | (refine wpL_load rfl 46 _ rfl _ _ rfl _ HLd3.out ?_) | fail)
      refine HBh.out.mono ?_
      rintro e w3 ⟨u', rfl, g3, hno, hyes⟩
      have G3 : Below w.heap.size w w3 := G1.trans (g3.mono G1.size)
      have r3 : w3.heap[w.heap.size]? = some (.cells #[.int .i64 0, .int .i64 0, .slice none 0 0, .slice none 0 0] 29 (0, 0)) := (g3.block _ (Array.getElem?_eq_some_iff.1 r1).1).trans r1
      clear g3 HBh HLd3 G1 r1
      cases u' with
      | none =>
        obtain ⟨W', hs, ⟨z0, z1, z2, z3⟩, hB⟩ := HNone.out (hno rfl) w3 G3 r3
        have HSt : Hid ((storeVar 29 ⟨w.heap.size, 0, none⟩ (.agg #[.int .i64 0, .int .i64 0, .slice none 0 0, .slice none 0 0])).run Tryd.prog w3 = .ok () W') := hs
        have HFB : Hid (BnR xs w (.returned (.tuple #[.agg #[.int .i64 0, .int .i64 0, .slice none 0 0, .slice none 0 0], .bool false])) W') := hB
        clear hs hB HNone G3 r3 HZr HTT hyes hno
        go_wp2_with (first | (refine wpL_store rfl 29 (.tmp 2) (.tmp 26) rfl w.heap.size 0 rfl (.agg #[.int .i64 0, .int .i64 0, .slice none 0 0, .slice none 0 0]) rfl W' HSt.out ?_) | fail)
        exact bodyPost_ret (v := .tuple #[.agg #[.int .i64 0, .int .i64 0, .slice none 0 0, .slice none 0 0], .bool false]) (by simp [results, Tryd.results7, go_sem, z0, z1, z2, z3]) rfl HFB.out
      | some ad =>
        have HI : Hid (IlAt xs w (j + 1) (some ad) w3) := hyes ad rfl
        clear hyes hno G3 r3
        go_wp2
        go_roundg (gk - 1)
        case measure => omega
        case rel => exact ⟨j + 1, _, by omega, by simp, rfl, HI⟩
    · have i1 : ¬ ((j : Int) < (len : Int)) := by omega
      have hjl : j = xs.length := by have := HL.out; omega
      have hIl : IlAt xs w xs.length u wr := by rw [← hjl]; exact HS.out
      obtain ⟨F, s, hS, hnd, hG, hb, gB⟩ := hIl
      rw [List.drop_length] at hb
      have hb : bk xs [] = some s := hb
      have hl1 : xs.length ≤ 1000 := by have := HL.out; omega
      have HH1 : Hid (Calls Tryd.prog 21 #[.pointer u, .int .i64 1] wr fun e w' => e = .returned (.bool (decide (1 ≤ s.length))) ∧ w' = wr) := has_i _ _ 1 _ _ _ _ hS (by omega)
      have HH2 : Hid (Calls Tryd.prog 21 #[.pointer u, .int .i64 2] wr fun e w' => e = .returned (.bool (decide (2 ≤ s.length))) ∧ w' = wr) := has_i _ _ 2 _ _ _ _ hS (by omega)
      match s, hS, hG, hb, HH1, HH2 with
      | [], hS, hG, hb, HH1, HH2 =>
        have hno : netB xs = none := by unfold netB; rw [if_pos hl1, hb]
        obtain ⟨W', hs, ⟨z0, z1, z2, z3⟩, hB⟩ := HNone.out (hno) wr gW rW
        have HSt : Hid ((storeVar 29 ⟨w.heap.size, 0, none⟩ (.agg #[.int .i64 0, .int .i64 0, .slice none 0 0, .slice none 0 0])).run Tryd.prog wr = .ok () W') := hs
        have HFB : Hid (BnR xs w (.returned (.tuple #[.agg #[.int .i64 0, .int .i64 0, .slice none 0 0, .slice none 0 0], .bool false])) W') := hB
        clear hs hB HNone gW rW HZr HS hjl HX HBg HTT hS hG hb gB hnd HH2 hno hl1
        go_wp2_with fail
        refine HH1.out.mono ?_
        rintro e w9 ⟨rfl, rfl⟩
        go_wp2_with (first | (refine wpL_store rfl 29 (.tmp 2) (.tmp 43) rfl w.heap.size 0 rfl (.agg #[.int .i64 0, .int .i64 0, .slice none 0 0, .slice none 0 0]) rfl W' HSt.out ?_) | fail)
        exact bodyPost_ret (v := .tuple #[.agg #[.int .i64 0, .int .i64 0, .slice none 0 0, .slice none 0 0], .bool false]) (by simp [results, Tryd.results7, go_sem, z0, z1, z2, z3]) rfl HFB.out
      | t0 :: t1 :: r, hS, hG, hb, HH1, HH2 =>
        have hno : netB xs = none := by unfold netB; rw [if_pos hl1, hb]
        have e1 : decide (1 ≤ (t0 :: t1 :: r).length) = true := by simp
        have e2 : decide (2 ≤ (t0 :: t1 :: r).length) = true := by simp
        rw [e1] at HH1
        rw [e2] at HH2
        obtain ⟨W', hs, ⟨z0, z1, z2, z3⟩, hB⟩ := HNone.out (hno) wr gW rW
        have HSt : Hid ((storeVar 29 ⟨w.heap.size, 0, none⟩ (.agg #[.int .i64 0, .int .i64 0, .slice none 0 0, .slice none 0 0])).run Tryd.prog wr = .ok () W') := hs
        have HFB : Hid (BnR xs w (.returned (.tuple #[.agg #[.int .i64 0, .int .i64 0, .slice none 0 0, .slice none 0 0], .bool false])) W') := hB
        clear hs hB HNone gW rW HZr HS hjl HX HBg HTT hS hG hb gB hnd hno hl1 e1 e2
        go_wp2_with fail
        refine HH1.out.mono ?_
        rintro e w9 ⟨rfl, rfl⟩
        go_wp2_with fail
        refine HH2.out.mono ?_
        rintro e w8 ⟨rfl, rfl⟩
        go_wp2_with (first | (refine wpL_store rfl 29 (.tmp 2) (.tmp 43) rfl w.heap.size 0 rfl (.agg #[.int .i64 0, .int .i64 0, .slice none 0 0, .slice none 0 0]) rfl W' HSt.out ?_) | fail)
        exact bodyPost_ret (v := .tuple #[.agg #[.int .i64 0, .int .i64 0, .slice none 0 0, .slice none 0 0], .bool false]) (by simp [results, Tryd.results7, go_sem, z0, z1, z2, z3]) rfl HFB.out
      | [t], hS, hG, hb, HH1, HH2 =>
        have e1 : decide (1 ≤ [t].length) = true := by simp
        have e2 : decide (2 ≤ [t].length) = false := by simp
        rw [e1] at HH1
        rw [e2] at HH2
        obtain ⟨bb, k1, o1, p1, pl1, pc1, q1, ql1, qc1, uu, F1, F2, eu, e3, hr1, hN1, hS2⟩ := hS
        obtain rfl : u = some ⟨bb, 0, none⟩ := by simpa using eu
        have hq1 := hG.one (t := t) (by simp) (xs.length + 1)
        have hcg : cnt (xs.length + 2) t = cnt (xs.length + 1) t := cnt_grow _ _ _ _ hN1 _ (by omega)
        have HFit : Hid (Calls Tryd.prog 22 #[.agg #[.int .i64 k1, .int .i64 o1, .slice p1 pl1 pc1, .slice q1 ql1 qc1]] wr fun e w' => e = .returned (.bool (decide (cnt (xs.length + 1) t ≤ 400))) ∧ Below wr.heap.size wr w') := nfits_i (xs.length + 1) k1 o1 p1 pl1 pc1 q1 ql1 qc1 t wr (NetOwn.is (Nat.zero_le _) _ _ _ _ hN1) (by omega) (HTT.out wr gW).1 (hG.ok t (by simp)).2 (by omega)
        have HNy : Hid (NetOwn wr (w.heap.size + 1) (xs.length + 1) F1 t [.int .i64 k1, .int .i64 o1, .slice p1 pl1 pc1, .slice q1 ql1 qc1] ∧ F1.Nodup) := ⟨hN1, by rw [e3] at hnd; exact (List.nodup_append.1 hnd).1⟩
        have HY : Hid (cnt (xs.length + 1) t ≤ 400 → netB xs = some t) := fun h4 => by unfold netB; rw [if_pos hl1, hb]; simp only; rw [hcg, if_pos h4]
        have HNo : Hid (¬ cnt (xs.length + 1) t ≤ 400 → netB xs = none) := fun h4 => by unfold netB; rw [if_pos hl1, hb]; simp only; rw [hcg, if_neg h4]
        obtain ⟨q, Hq⟩ : ∃ q, Hid (q = cnt (xs.length + 1) t) := ⟨_, rfl⟩
        rw [← Hq.out] at HFit HY HNo
        have HRb : Hid (wr.heap[bb]? = some (.cells #[.int .i64 k1, .int .i64 o1, .slice p1 pl1 pc1, .slice q1 ql1 qc1, .pointer uu] 57 (0, 0))) := hr1
        have m0 : wr.cell? ⟨bb, 0, none⟩ = some (.int .i64 k1) := (cell_of_row _ _ _ _ _ _ hr1).trans rfl
        have m1 : wr.cell? ⟨bb, 1, none⟩ = some (.int .i64 o1) := (cell_of_row _ _ _ _ _ _ hr1).trans rfl
        have m2 : wr.cell? ⟨bb, 2, none⟩ = some (.slice p1 pl1 pc1) := (cell_of_row _ _ _ _ _ _ hr1).trans rfl
        have m3 : wr.cell? ⟨bb, 3, none⟩ = some (.slice q1 ql1 qc1) := (cell_of_row _ _ _ _ _ _ hr1).trans rfl
        clear HZr HS hjl HX HBg HTT hG hb gB hnd hl1 e1 e2 hN1 hS2 hr1 eu e3 hq1 hcg
        go_wp2_with fail
        refine HH1.out.mono ?_
        rintro e w9 ⟨rfl, rfl⟩
        go_wp2_with fail
        refine HH2.out.mono ?_
        rintro e w8 ⟨rfl, rfl⟩
        go_wp2_with fail
        refine HFit.out.mono ?_
        rintro e w5 ⟨rfl, g5⟩
        have G5 : Below w.heap.size w w5 := gW.trans (g5.mono gW.size)
        have r5 : w5.heap[w.heap.size]? = some (.cells #[.int .i64 0, .int .i64 0, .slice none 0 0, .slice none 0 0] 29 (0, 0)) := (g5.block _ (Array.getElem?_eq_some_iff.1 rW).1).trans rW
        have r5b : w5.heap[bb]? = some (.cells #[.int .i64 k1, .int .i64 o1, .slice p1 pl1 pc1, .slice q1 ql1 qc1, .pointer uu] 57 (0, 0)) := (g5.block _ (Array.getElem?_eq_some_iff.1 HRb.out).1).trans HRb.out
        by_cases h4 : q ≤ 400
        · rw [decide_eq_true h4]
          obtain ⟨W', hs, ⟨z0, z1, z2, z3⟩, hB⟩ := bn_some (HY.out h4) (HNy.out.1.later (Nat.le_refl _) g5) HNy.out.2 G5 r5
          have HL5 : Hid ((loadVar 29 ⟨bb, 0, none⟩).run Tryd.prog w5 = .ok (.agg #[.int .i64 k1, .int .i64 o1, .slice p1 pl1 pc1, .slice q1 ql1 qc1]) w5) := load_sub r5b _ _ 0 4 (by simp) Tryd.underlying29 rfl (by kernel_rfl)
          have HSt : Hid ((storeVar 29 ⟨w.heap.size, 0, none⟩ (.agg #[.int .i64 k1, .int .i64 o1, .slice p1 pl1 pc1, .slice q1 ql1 qc1])).run Tryd.prog w5 = .ok () W') := hs
          have HFB : Hid (BnR xs w (.returned (.tuple #[.agg #[.int .i64 k1, .int .i64 o1, .slice p1 pl1 pc1, .slice q1 ql1 qc1], .bool true])) W') := hB
          clear hs hB HNone gW rW HY HNo HNy G5 r5 r5b g5 h4 m0 m1 m2 m3 HH1 HH2 HFit HRb
          go_wp2_with (first | (refine wpL_load rfl 29 (.tmp 46) rfl bb 0 rfl (.agg #[.int .i64 k1, .int .i64 o1, .slice p1 pl1 pc1, .slice q1 ql1 qc1]) HL5.out ?_) | (refine wpL_store rfl 29 (.tmp 2) (.tmp 47) rfl w.heap.size 0 rfl (.agg #[.int .i64 k1, .int .i64 o1, .slice p1 pl1 pc1, .slice q1 ql1 qc1]) rfl W' HSt.out ?_) | fail)
          exact bodyPost_ret (v := .tuple #[.agg #[.int .i64 k1, .int .i64 o1, .slice p1 pl1 pc1, .slice q1 ql1 qc1], .bool true]) (by simp [results, Tryd.results7, go_sem, z0, z1, z2, z3]) rfl HFB.out
        · rw [decide_eq_false h4]
          obtain ⟨W', hs, ⟨z0, z1, z2, z3⟩, hB⟩ := HNone.out (HNo.out h4) w5 G5 r5
          have HSt : Hid ((storeVar 29 ⟨w.heap.size, 0, none⟩ (.agg #[.int .i64 0, .int .i64 0, .slice none 0 0, .slice none 0 0])).run Tryd.prog w5 = .ok () W') := hs
          have HFB : Hid (BnR xs w (.returned (.tuple #[.agg #[.int .i64 0, .int .i64 0, .slice none 0 0, .slice none 0 0], .bool false])) W') := hB
          clear hs hB HNone gW rW HY HNo HNy G5 r5 r5b g5 h4 m0 m1 m2 m3 HH1 HH2 HFit HRb
          go_wp2_with (first | (refine wpL_store rfl 29 (.tmp 2) (.tmp 43) rfl w.heap.size 0 rfl (.agg #[.int .i64 0, .int .i64 0, .slice none 0 0, .slice none 0 0]) rfl W' HSt.out ?_) | fail)
          exact bodyPost_ret (v := .tuple #[.agg #[.int .i64 0, .int .i64 0, .slice none 0 0, .slice none 0 0], .bool false]) (by simp [results, Tryd.results7, go_sem, z0, z1, z2, z3]) rfl HFB.out
end Go.Proofs.YtkppcmpdghnmgaaDoor
