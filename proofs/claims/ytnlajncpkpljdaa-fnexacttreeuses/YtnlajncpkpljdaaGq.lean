/- TreeSize of the program. -/
import Derived.Test.YtnlajncpkpljdaaGp
import Derived.RangeFuncFrom
namespace Go.Proofs.Ytnlajncpkpljdaa
open Go.RowKit Go.Shelf
set_option linter.unusedVariables false
attribute [local go_sem] Oper.semAt_some

def pSize : PartT → Nat
  | .inl _ => 1
  | .inr (.mk _ coils _) => 1 + coils.length
def sizes {w : World} (ys : List (PartW w)) : Nat := ((ghosts ys).map pSize).sum
theorem sizes_snoc {w : World} (ys : List (PartW w)) (x : PartW w) : sizes (ys ++ [x]) = sizes ys + pSize x.1.2 := by simp [sizes, ghosts]
theorem pSize_le {w : World} (x : PartW w) : pSize x.1.2 ≤ 1048577 := by
  obtain ⟨⟨v, g⟩, h⟩ := x
  cases g with
  | inl t => show 1 ≤ _; omega
  | inr a =>
    obtain ⟨m, cs, r, hA, hw, _⟩ := h
    cases m with
    | zero => exact hA.elim
    | succ m =>
      cases a with
      | mk net coils kids =>
        have : wA (m + 1) (.mk net coils kids) = wN m net + (coils.length + (coils.map wE).sum) + (kids.length + (kids.map (wA m)).sum) := rfl
        show 1 + coils.length ≤ _
        omega
theorem sizes_le {w : World} : ∀ (ys : List (PartW w)), sizes ys ≤ 1048577 * ys.length
  | [] => by simp [sizes, ghosts]
  | y :: ys => by
    have h1 := sizes_le ys
    have h2 := pSize_le y
    have h3 : sizes (y :: ys) = pSize y.1.2 + sizes ys := by simp [sizes, ghosts]
    rw [h3, List.length_cons]; omega

set_option maxHeartbeats 1000000 in
theorem parts_i (a : Option Addr) (l c : Nat) (w : World) : Calls Try.prog 19 #[.slice a l c] w fun e w' => e = .returned (.func (.func 36) #[] #[.pointer (some ⟨w.heap.size, 0, none⟩)]) ∧ w' = w.alloc (.cells #[.slice a l c] 25) := by
  have hmf : ∀ (fn : Fn) (first cap : Array Value) (w : World), (Instr.makeFunc fn first cap).run Try.prog w = .ok (.func fn first cap) w := fun _ _ _ _ => rfl
  go_enter Try.func19, Try.ntmps19
  go_wp2
  go_ret
  exact ⟨rfl, rfl⟩

theorem frozen_keep {W W' : World} (g : Below W.heap.size W W') {b o : Nat} {v : Value} (hf : W.frozen? ⟨b, o, none⟩ = false) (hc : W.cell? ⟨b, o, none⟩ = some v) : W'.frozen? ⟨b, o, none⟩ = false := by
  have hh := g.block b (World.block_lt_of_cell? _ _ hc)
  unfold World.frozen? at hf ⊢
  rw [hh]; exact hf
theorem kc_b {n₀ B : Nat} {w : World} (hn : n₀ ≤ w.heap.size) (W : World) (l : Nat) (o o' : Obj) (hl : w.heap.size ≤ l) (h : W.heap[l]? = some o) (hc : o.isCells = false) (hw : o.isWalk = false) : KC n₀ B W (W.putObj l o') :=
  ⟨belowK_b hn W l o o' hl h hc hw, fun b C t f _ hb => by
    have hne : b ≠ l := fun e => by subst e; rw [h] at hb; cases hb; cases hc
    rw [World.putObj_heap_other hne]; exact hb⟩

set_option maxHeartbeats 1000000 in
theorem netSize_i (c0 c1 c2 c3 : Value) (w : World) : Calls Try.prog 71 #[.agg #[c0, c1, c2, c3]] w fun e w' => e = .returned (.int .i64 1) ∧ Below w.heap.size w w' := by
  go_enter Try.func71, Try.ntmps71
  go_wp2
  go_ret
  exact ⟨rfl, (Below.refl _ _).alloc (Nat.le_refl _) _⟩
set_option maxHeartbeats 1000000 in
theorem armSize_i (c0 c1 c2 c3 c5 c6 : Value) (a : Option Addr) (l cap : Nat) (hl : l ≤ 1048576) (w : World) : Calls Try.prog 75 #[.agg #[c0, c1, c2, c3, .slice a l cap, c5, c6]] w fun e w' => e = .returned (.int .i64 (1 + (l : Int))) ∧ Below w.heap.size w w' := by
  have h0 : (0 : Int) ≤ (l : Int) := by omega
  have h1 : (l : Int) ≤ 1048576 := by omega
  go_enter Try.func75, Try.ntmps75
  go_wp2
  go_ret
  exact ⟨rfl, (Below.refl _ _).alloc (Nat.le_refl _) _⟩

/-- What the part says of its size. -/
theorem part_size {w : World} (x : Value × PartT) (h : POk w x) : ∃ T u f, x.1 = .iface T u ∧ (∀ W, Calls Try.prog f #[u] W fun e w' => e = .returned (.int .i64 (pSize x.2)) ∧ Below W.heap.size W w') ∧ ((T = 80 ∧ f = 71) ∨ (T = 83 ∧ f = 75)) := by
  obtain ⟨v, g⟩ := x
  cases g with
  | inl t =>
    obtain ⟨m, cs, hN, hw, rfl⟩ := h
    obtain ⟨c0, c1, c2, c3, rfl, _⟩ := hN.cells
    exact ⟨_, _, _, rfl, fun W => netSize_i c0 c1 c2 c3 W, .inl ⟨rfl, rfl⟩⟩
  | inr a =>
    have hle : pSize (.inr a) ≤ 1048577 := pSize_le (w := w) ⟨(v, .inr a), h⟩
    obtain ⟨m, cs, r, hA, hw, rfl⟩ := h
    cases m with
    | zero => exact hA.elim
    | succ m =>
      cases a with
      | mk net coils kids =>
        obtain ⟨ns, v3, v4, rfl, hn, hc, hk⟩ := hA
        obtain ⟨c0, c1, c2, c3, rfl, _⟩ := hn.cells
        obtain ⟨a3, cap3, rfl, _, _⟩ := id hc
        have hle2 : 1 + coils.length ≤ 1048577 := hle
        refine ⟨_, _, _, rfl, fun W => ?_, .inr ⟨rfl, rfl⟩⟩
        have := armSize_i c0 c1 c2 c3 v4 (.bool r) a3 coils.length cap3 (by omega) W
        show Calls _ _ _ W fun e w' => e = .returned (.int .i64 ((1 + coils.length : Nat) : Int)) ∧ _
        rw [show ((1 + coils.length : Nat) : Int) = 1 + (coils.length : Int) by omega]
        exact this

theorem wrap_small64 {x : Int} (h0 : 0 ≤ x) (h1 : x ≤ 9223372036854775807) : IntKind.i64.wrap x = x := by rw [IntKind.wrap_i64]; omega
/-- A round ends: one cell is put. -/
theorem round_end {n₀ B : Nat} {W W1 w' : World} (hn : n₀ ≤ B) (hW : n₀ ≤ W.heap.size) (e1 : W1 = W ∨ W1 = W.drew) (g : Below W1.heap.size W1 w') {x : Value} (hc : w'.cell? ⟨B, 0, none⟩ = some x) (hf : w'.frozen? ⟨B, 0, none⟩ = false) (v : Value) :
    KeepsOthers W (w'.setCell ⟨B, 0, none⟩ v) ∧ KC n₀ B W (w'.setCell ⟨B, 0, none⟩ v) ∧ (w'.setCell ⟨B, 0, none⟩ v).cell? ⟨B, 0, none⟩ = some v ∧ (w'.setCell ⟨B, 0, none⟩ v).frozen? ⟨B, 0, none⟩ = false := by
  have k1 : KeepsOthers W W1 ∧ Below n₀ W W1 ∧ W1.heap = W.heap := by
    rcases e1 with rfl | rfl
    · exact ⟨KeepsOthers.refl _, Below.refl _ _, rfl⟩
    · exact ⟨KeepsOthers.drew _, (Below.refl _ _).drew, rfl⟩
  have hg : W1.grownBy w' none := ⟨g.os, g.tape, g.output, g.size, fun k hk _ => g.block k hk⟩
  refine ⟨(k1.1.trans (KeepsOthers.of_grownBy hg (fun j o e => by cases e))).trans (KeepsOthers.setCell _ _ _), ⟨(k1.2.1.trans (g.mono (by rw [k1.2.2]; exact hW))).setCell (p := ⟨B, 0, none⟩) hn _, fun b C t f hb hr => ?_⟩, World.cell?_setCell_same' _ _ _ (by rw [hc]; rfl), by rw [World.frozen?_setCell]; exact hf⟩
  have h2 : w'.heap[b]? = some (.cells C t f) := (g.block b (by rw [k1.2.2]; exact (Array.getElem?_eq_some_iff.1 hr).1)).trans (by rw [k1.2.2]; exact hr)
  exact row_other h2 B 0 (fun e => hb e.symm) v

set_option maxRecDepth 100000 in
set_option maxHeartbeats 4000000 in
theorem size_i (m : Nat) (v : Value) (xs : List ArmT) (w : World) (hv : ArmsIs w 0 m v xs) (hw : (xs.map (wA m)).sum ≤ 1048576) (hP : (xs.flatMap (pArm m)).length ≤ 4194304) :
    Calls Try.prog 9 #[v] w fun e w' => e = .returned (.int .i64 (((xs.flatMap (pArm m)).map pSize).sum : Nat)) ∧ Below w.heap.size w w' := by
  refine (callsIn_wide (n := 5)).1 ?_
  refine callsIn_of_wp_marks Try.func9 rfl trivial ?_ rfl
  simp only [Try.ntmps9, List.size_toArray, List.length_cons, List.length_nil, Nat.reduceAdd, Nat.reduceSub, Array.replicate_succ, Array.replicate_zero, List.push_toArray, List.append_toArray, List.nil_append, List.cons_append]
  have hdd : ∀ k : Nat, (Fence.wide.depth.isSome = true → 1 ≤ k) := fun k h => by cases h
  obtain ⟨a, cap, rfl, _, _⟩ := id hv
  gi_wp2_with (refine ⟨trivial, ?_⟩; gi_at_call 19; refine (callsIn_wide.2 (parts_i _ _ _ _)).mono ?_; rintro e w' ⟨rfl, rfl⟩)
  obtain ⟨W0, hW0⟩ : ∃ W0, (w.alloc (.cells #[.int .i64 0] 3)).alloc (.cells #[.slice a xs.length cap] 25) = W0 := ⟨_, rfl⟩
  have hk := rows2 w (.cells #[.int .i64 0] 3) (.cells #[.slice a xs.length cap] 25)
  have b0 : Below w.heap.size w W0 := by rw [← hW0]; exact ((Below.refl _ _).alloc (Nat.le_refl _) _).alloc (by simp) _
  have hsz : W0.heap.size = w.heap.size + 1 + 1 := by rw [← hW0]; simp
  rw [hW0] at hk ⊢
  have c0 : W0.cell? ⟨w.heap.size, 0, none⟩ = some (.int .i64 0) := (cell_of_row _ _ _ _ _ _ hk.1).trans rfl
  have f0 : W0.frozen? ⟨w.heap.size, 0, none⟩ = false := by simp [World.frozen?, hk.1]
  have c1 : W0.cell? ⟨w.heap.size + 1, 0, none⟩ = some (.slice a xs.length cap) := (cell_of_row _ _ _ _ _ _ hk.2).trans rfl
  have hseq : SeqStopsK Fence.wide (5 - 1) Try.prog 36 #[.pointer (some ⟨w.heap.size + 1, 0, none⟩)] (fun x : PartW w => #[x.1.1]) (KC w.heap.size w.heap.size) (fun ys => ghosts ys = xs.flatMap (pArm m)) (fun _ => True) 4194304 W0 := fun l J Jx W hW hJ _ hY h0 =>
    parts1_in w w.heap.size (w.heap.size + 1) l 4194304 m (Nat.le_refl _) (by omega) J Jx (fun pre W W' g h => hJ pre W W' none h ⟨g.os, g.tape, g.output, g.size, fun k hk _ => g.block k hk⟩ (fun r e => by cases e)) (5 - 1) hY _ xs W (b0.trans (hW.mono b0.size)) (by have := hW.size; omega) ((Keeps.of_below hW 0) _ _ _ (Nat.zero_le _) c1) hv hw h0 hP
  refine wpIn_rangeFunc_ownF (α := PartW w) rfl (by omega) (gf := 36) (lb := #[.pointer (some ⟨w.heap.size + 1, 0, none⟩)]) rfl trivial (enters_of Try.func36 (by kernel_rfl) rfl) hseq (fun h k => h.trans k) (kc_b (by omega)) (Below.refl _ _) (fun _ => rfl)
    (fun pre W => (W.cell? ⟨w.heap.size, 0, none⟩ = some (.int .i64 (sizes pre : Nat)) ∧ W.frozen? ⟨w.heap.size, 0, none⟩ = false) ∧ Below w.heap.size w W)
    (fun _ _ _ => False)
    (OwnFrom.and (Own.from (fun s A B row hs hg hr => ⟨cell_kept hs.1 hg hr, (frozen_kept hs.1 hg hr).trans hs.2⟩) _) (ownFrom_below (Nat.le_refl _) (by omega)))
    (fun _ _ _ _ _ hs _ _ => hs)
    ⟨⟨c0, f0⟩, b0⟩
    (fun x => { tmps := #[.slice a xs.length cap, undef, .int .i64 0, .pointer (some ⟨w.heap.size, 0, none⟩), x.1.1, .slice a xs.length cap, .func (.func 36) #[] #[.pointer (some ⟨w.heap.size + 1, 0, none⟩)], x.1.1, undef, undef, undef, undef, undef], defers := [] }) ?assign ?body ?done ?stop
  case assign =>
    intro l x W K hK
    gi_wp2
    exact hK
  case body =>
    rintro l pre x W ⟨⟨hc, hf⟩, hB⟩ hpre
    obtain ⟨T, u, f, hx, hcall, hT⟩ := part_size x.1 x.2
    have hs := sizes_le pre
    have hp := pSize_le x
    have hwr : IntKind.i64.wrap (((sizes pre : Nat) : Int) + ((pSize x.1.2 : Nat) : Int)) = ((sizes (pre ++ [x]) : Nat) : Int) := by
      rw [sizes_snoc, wrap_small64 (by omega) (by omega)]; omega
    rcases hT with ⟨rfl, rfl⟩ | ⟨rfl, rfl⟩
    · rw [hx]
      have hmx : Try.prog.follows .mixedOrders = true := by kernel_rfl
      have hmeth : ∀ W, (method 214 80 u "loop.example/stile/impl.size").run Try.prog W = .ok (71, u) W := fun W => by kernel_rfl
      gi_wp2
      gi_region_with_o ((first | refine ⟨trivial, ?_⟩ | refine ⟨fun _ _ => trivial, ?_⟩ | skip); gi_at_call 71; refine (CallsIn.inRound l (callsIn_wide.2 (hcall _))).mono ?_; rintro e w' ⟨rfl, g⟩; have hc' : w'.cell? ⟨w.heap.size, 0, none⟩ = some (.int .i64 (sizes pre : Nat)) := (Keeps.of_below g 0) _ _ _ (Nat.zero_le _) (by simpa using hc); have hf' : w'.frozen? ⟨w.heap.size, 0, none⟩ = false := frozen_keep g (by simpa using hf) (by simpa using hc))
      all_goals
        obtain ⟨q1, q2, q3, q4⟩ := round_end (Nat.le_refl _) hB.size (.inr rfl) g hc' hf' (.int .i64 ((sizes (pre ++ [x]) : Nat) : Int))
        exact ⟨q1, q2, ⟨q3, q4⟩, hB.trans q2.1⟩
    · rw [hx]
      have hmx : Try.prog.follows .mixedOrders = true := by kernel_rfl
      have hmeth : ∀ W, (method 214 83 u "loop.example/stile/impl.size").run Try.prog W = .ok (75, u) W := fun W => by kernel_rfl
      gi_wp2
      gi_region_with_o ((first | refine ⟨trivial, ?_⟩ | refine ⟨fun _ _ => trivial, ?_⟩ | skip); gi_at_call 75; refine (CallsIn.inRound l (callsIn_wide.2 (hcall _))).mono ?_; rintro e w' ⟨rfl, g⟩; have hc' : w'.cell? ⟨w.heap.size, 0, none⟩ = some (.int .i64 (sizes pre : Nat)) := (Keeps.of_below g 0) _ _ _ (Nat.zero_le _) (by simpa using hc); have hf' : w'.frozen? ⟨w.heap.size, 0, none⟩ = false := frozen_keep g (by simpa using hf) (by simpa using hc))
      all_goals
        obtain ⟨q1, q2, q3, q4⟩ := round_end (Nat.le_refl _) hB.size (.inr rfl) g hc' hf' (.int .i64 ((sizes (pre ++ [x]) : Nat) : Int))
        exact ⟨q1, q2, ⟨q3, q4⟩, hB.trans q2.1⟩
  case done =>
    rintro D ys W hD hys ⟨⟨hc, _⟩, hB⟩ hK
    gi_wp2
    refine ⟨by simp, .inl ⟨_, _, rfl, run_takeDeferred hK, ?_⟩⟩
    refine ⟨_, results_tmp rfl _ _ _, ?_, hB.trans (belowK_b (w := w) (Nat.le_refl _) W D _ _ (by omega) hK rfl rfl)⟩
    show Ending.returned (Value.int .i64 (sizes ys : Nat)) = _
    unfold sizes
    rw [hys]
  case stop =>
    rintro D c pre W _ _ h _
    exact h.elim
end Go.Proofs.Ytnlajncpkpljdaa
