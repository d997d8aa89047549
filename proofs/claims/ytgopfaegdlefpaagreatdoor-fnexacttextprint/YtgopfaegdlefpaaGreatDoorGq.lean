/- TreeSize of the program. -/
import Derived.Test.YtgopfaegdlefpaaGreatDoorGoM
import Derived.RangeFuncFrom
namespace Go.Proofs.YtgopfaegdlefpaaGreatDoor
open Go.RowKit Go.Shelf
set_option linter.unusedVariables false
attribute [local go_sem] Oper.semAt_some

def pSize : PartT → Nat
  | .inl _ => 1
  | .inr (.mk _ coils _, _) => 1 + coils.length
def sizes {w : World} (ys : List (PartW w)) : Nat := ((ghosts ys).map pSize).sum
theorem sizes_snoc {w : World} (ys : List (PartW w)) (x : PartW w) : sizes (ys ++ [x]) = sizes ys + pSize x.1.2 := by simp [sizes, ghosts]
theorem pSize_le {w : World} (x : PartW w) : pSize x.1.2 ≤ 1048577 := by
  obtain ⟨⟨v, g⟩, h⟩ := x
  cases g with
  | inl t => show 1 ≤ _; omega
  | inr a =>
    obtain ⟨a, r⟩ := a
    obtain ⟨m, cs, hA, hw, _⟩ := h
    cases m with
    | zero => exact hA.elim
    | succ m =>
      cases a with
      | mk net coils kids =>
        replace hw : wA (m + 1) (.mk net coils kids) ≤ 1048576 := hw
        have : wA (m + 1) (.mk net coils kids) = wN m net + (coils.length + (coils.map wE).sum) + (kids.length + (kids.map (wA m)).sum) := rfl
        show 1 + coils.length ≤ _
        omega
theorem sizes_le {w : World} : ∀ (ys : List (PartW w)), sizes ys ≤ 1048577 * ys.length
  | [] => by simp [sizes, ghosts]
  | y :: ys => by
    have h1 := sizes_le ys
    have h2 := pSize_le y
    have h3 : sizes (y :: ys) = pSize y.1.2 + sizes ys := by simp [sizes, ghosts]
    rw [h3, List.length_cons]; omega

set_option maxHeartbeats 1000000 in
theorem parts_i (a : Option Addr) (l c : Nat) (w : World) : Calls Tryz.prog 52 #[.slice a l c] w fun e w' => e = .returned (.func (.func 94) #[] #[.pointer (some ⟨w.heap.size, 0, none⟩)]) ∧ w' = w.alloc (.cells #[.slice a l c] 23) := by
  have hmf : ∀ (fn : Fn) (first cap : Array Value) (w : World), (Instr.makeFunc fn first cap).run Tryz.prog w = .ok (.func fn first cap) w := fun _ _ _ _ => rfl
  go_enter Tryz.func52, Tryz.ntmps52
  go_wp2
  go_ret
  exact ⟨rfl, rfl⟩

theorem frozen_keep {W W' : World} (g : Below W.heap.size W W') {b o : Nat} {v : Value} (hf : W.frozen? ⟨b, o, none⟩ = false) (hc : W.cell? ⟨b, o, none⟩ = some v) : W'.frozen? ⟨b, o, none⟩ = false := by
  have hh := g.block b (World.block_lt_of_cell? _ _ hc)
  unfold World.frozen? at hf ⊢
  rw [hh]; exact hf
theorem kd_l {n₀ B : Nat} {W0 : World} (hn : n₀ ≤ W0.heap.size) (W : World) (r : Loop) (o' : Obj) (h : W.heap[W0.heap.size + 1]? = some (.loop r)) : KD n₀ B (W0.heap.size + 2) W (W.putObj (W0.heap.size + 1) o') :=
  ⟨kc_b (w := W0) hn W _ _ o' (by omega) h rfl rfl, KeepsFrom.of_grownBy (grownBy_putObj' W _ o') (fun j e => by cases e; omega)⟩
theorem kq_l {b0 : Nat} {W0 : World} (hb : b0 ≤ W0.heap.size + 2) (W : World) (r : Loop) (o' : Obj) (h : W.heap[W0.heap.size + 1]? = some (.loop r)) : KQ (W0.heap.size + 2) W (W.putObj (W0.heap.size + 1) o') :=
  ⟨fun b C t f hb' hc => by rw [World.putObj_heap_other (by omega)]; exact hc, KeepsFrom.of_grownBy (grownBy_putObj' W _ o') (fun j e => by cases e; omega)⟩
theorem dep_below {β : Type} {n₀ b : Nat} {w : World} (h : n₀ ≤ b) : Dep b (fun (_ : β) W => Below n₀ w W) := fun s W W' g hs => hs.trans (g.mono h)
theorem dep_cell {b k o : Nat} {v : Value} {W W' : World} (g : Below b W W') (h : k < b) (hc : W.cell? ⟨k, o, none⟩ = some v) : W'.cell? ⟨k, o, none⟩ = some v := by
  have e := g.block k h
  unfold World.cell? at hc ⊢
  rw [e]; exact hc
theorem dep_frozen {b k o : Nat} {v : Bool} {W W' : World} (g : Below b W W') (h : k < b) (hc : W.frozen? ⟨k, o, none⟩ = v) : W'.frozen? ⟨k, o, none⟩ = v := by
  have e := g.block k h
  unfold World.frozen? at hc ⊢
  rw [e]; exact hc
/-- The iterator over a ladder's parts. -/
theorem parts_seq (w : World) (B Bx m n : Nat) (hBw : w.heap.size ≤ B) (hBx : Bx ≠ B) (v : Value) (xs : List ArmT) (W0 : World) (g0 : Below w.heap.size w W0) (hB : B < W0.heap.size) (c1 : W0.cell? ⟨Bx, 0, none⟩ = some v) (hv : ArmsIs w 0 m v xs) (hw : (xs.map (wA m)).sum ≤ 1048576) :
    SeqN n Tryz.prog 94 #[.pointer (some ⟨Bx, 0, none⟩)] (fun x : PartW w => #[x.1.1]) (KD w.heap.size B (W0.heap.size + 2)) (KQ (W0.heap.size + 2)) (fun ys => ghosts ys = xs.flatMap (pArm m true)) (fun pre x => Fit (xs.flatMap (pArm m true)) pre [x.1.2]) W0 := fun l J Jx W hW hsz hJ hJx hY h0 => by
  have h := parts1_in w B Bx l m (W0.heap.size + 2) W.heap.size (xs.flatMap (pArm m true)) hBw (by omega) hsz hBx (fun ys X => J ys X ∧ W.heap.size ≤ X.heap.size) Jx (fun pre X Y g h => ⟨hJ _ _ _ (g.mono h.2) h.1, Nat.le_trans h.2 g.size⟩) (fun s X Y g h => ⟨hJ _ _ _ g h.1, Nat.le_trans h.2 g.size⟩) hJx (fun _ _ h => h.2) n (fun pre x X h hl => (hY pre x X h.1 hl).mono fun e W' hh => by
      rcases hh with ⟨he, hk, hj⟩ | ⟨he, hk, hj⟩
      · exact .inl ⟨he, hk, hj, Nat.le_trans h.2 hk.2.size⟩
      · exact .inr ⟨he, hk, hj⟩) v xs W (g0.trans (hW.mono g0.size)) (by have := hW.size; omega) ((Keeps.of_below hW 0) _ _ _ (Nat.zero_le _) c1) hv hw ⟨h0, Nat.le_refl _⟩ (List.prefix_refl _)
  refine h.mono fun e W' hh => ⟨hh.1, ?_⟩
  rcases hh.2 with ⟨ys, k1, k2⟩ | ⟨q, _, k1⟩
  · exact .inl ⟨ys, k1, k2.1⟩
  · exact .inr ⟨q, k1⟩

set_option maxHeartbeats 1000000 in
theorem netSize_i (c0 c1 c2 c3 : Value) (w : World) : Calls Tryz.prog 313 #[.agg #[c0, c1, c2, c3]] w fun e w' => e = .returned (.int .i64 1) ∧ Below w.heap.size w w' := by
  go_enter Tryz.func313, Tryz.ntmps313
  go_wp2
  go_ret
  exact ⟨rfl, (Below.refl _ _).alloc (Nat.le_refl _) _⟩
set_option maxHeartbeats 1000000 in
theorem armSize_i (c0 c1 c2 c3 c5 c6 : Value) (a : Option Addr) (l cap : Nat) (hl : l ≤ 1048576) (w : World) : Calls Tryz.prog 299 #[.agg #[c0, c1, c2, c3, .slice a l cap, c5, c6]] w fun e w' => e = .returned (.int .i64 (1 + (l : Int))) ∧ Below w.heap.size w w' := by
  have h0 : (0 : Int) ≤ (l : Int) := by omega
  have h1 : (l : Int) ≤ 1048576 := by omega
  go_enter Tryz.func299, Tryz.ntmps299
  go_wp2
  go_ret
  exact ⟨rfl, (Below.refl _ _).alloc (Nat.le_refl _) _⟩

/-- What the part says of its size. -/
theorem part_size {w : World} (x : Value × PartT) (h : POk w x) : ∃ T u f, x.1 = .iface T u ∧ (∀ W, Calls Tryz.prog f #[u] W fun e w' => e = .returned (.int .i64 (pSize x.2)) ∧ Below W.heap.size W w') ∧ ((T = 205 ∧ f = 313) ∨ (T = 172 ∧ f = 299)) := by
  obtain ⟨v, g⟩ := x
  cases g with
  | inl t =>
    obtain ⟨m, cs, hN, hw, rfl⟩ := h
    obtain ⟨c0, c1, c2, c3, rfl, _⟩ := hN.cells
    exact ⟨_, _, _, rfl, fun W => netSize_i c0 c1 c2 c3 W, .inl ⟨rfl, rfl⟩⟩
  | inr a =>
    have hle : pSize (.inr a) ≤ 1048577 := pSize_le (w := w) ⟨(v, .inr a), h⟩
    obtain ⟨a, r⟩ := a
    obtain ⟨m, cs, hA, hw, rfl⟩ := h
    cases m with
    | zero => exact hA.elim
    | succ m =>
      cases a with
      | mk net coils kids =>
        obtain ⟨ns, v3, v4, rfl, hn, hc, hk⟩ := hA
        obtain ⟨c0, c1, c2, c3, rfl, _⟩ := hn.cells
        obtain ⟨a3, cap3, rfl, _, _⟩ := id hc
        have hle2 : 1 + coils.length ≤ 1048577 := hle
        refine ⟨_, _, _, rfl, fun W => ?_, .inr ⟨rfl, rfl⟩⟩
        have := armSize_i c0 c1 c2 c3 v4 (.bool r) a3 coils.length cap3 (by omega) W
        show Calls _ _ _ W fun e w' => e = .returned (.int .i64 ((1 + coils.length : Nat) : Int)) ∧ _
        rw [show ((1 + coils.length : Nat) : Int) = 1 + (coils.length : Int) by omega]
        exact this

theorem wrap_small64 {x : Int} (h0 : 0 ≤ x) (h1 : x ≤ 9223372036854775807) : IntKind.i64.wrap x = x := by rw [IntKind.wrap_i64]; omega
/-- A round ends: one cell is put. -/
theorem round_end {n₀ B : Nat} {W W1 w' : World} (hn : n₀ ≤ B) (hW : n₀ ≤ W.heap.size) (e1 : W1 = W ∨ W1 = W.drew) (g : Below W1.heap.size W1 w') {x : Value} (hc : w'.cell? ⟨B, 0, none⟩ = some x) (hf : w'.frozen? ⟨B, 0, none⟩ = false) (v : Value) :
    KeepsOthers W (w'.setCell ⟨B, 0, none⟩ v) ∧ KC n₀ B W (w'.setCell ⟨B, 0, none⟩ v) ∧ (w'.setCell ⟨B, 0, none⟩ v).cell? ⟨B, 0, none⟩ = some v ∧ (w'.setCell ⟨B, 0, none⟩ v).frozen? ⟨B, 0, none⟩ = false := by
  have k1 : KeepsOthers W W1 ∧ Below n₀ W W1 ∧ W1.heap = W.heap := by
    rcases e1 with rfl | rfl
    · exact ⟨KeepsOthers.refl _, Below.refl _ _, rfl⟩
    · exact ⟨KeepsOthers.drew _, (Below.refl _ _).drew, rfl⟩
  have hg : W1.grownBy w' none := ⟨g.os, g.tape, g.output, g.size, fun k hk _ => g.block k hk⟩
  refine ⟨(k1.1.trans (KeepsOthers.of_grownBy hg (fun j o e => by cases e))).trans (KeepsOthers.setCell _ _ _), ⟨(k1.2.1.trans (g.mono (by rw [k1.2.2]; exact hW))).setCell (p := ⟨B, 0, none⟩) hn _, fun b C t f hb hr => ?_⟩, World.cell?_setCell_same' _ _ _ (by rw [hc]; rfl), by rw [World.frozen?_setCell]; exact hf⟩
  have h2 : w'.heap[b]? = some (.cells C t f) := (g.block b (by rw [k1.2.2]; exact (Array.getElem?_eq_some_iff.1 hr).1)).trans (by rw [k1.2.2]; exact hr)
  exact row_other h2 B 0 (fun e => hb e.symm) v

set_option maxRecDepth 100000 in
set_option maxHeartbeats 4000000 in
theorem size_i (m : Nat) (v : Value) (xs : List ArmT) (w : World) (hv : ArmsIs w 0 m v xs) (hw : (xs.map (wA m)).sum ≤ 1048576) (hP : (xs.flatMap (pArm m true)).length ≤ 4194304) :
    Calls Tryz.prog 18 #[v] w fun e w' => e = .returned (.int .i64 (((xs.flatMap (pArm m true)).map pSize).sum : Nat)) ∧ Below w.heap.size w w' := by
  refine (callsIn_wide (n := 5)).1 ?_
  refine callsIn_of_wp_marks Tryz.func18 rfl trivial ?_ rfl
  simp only [Tryz.ntmps18, List.size_toArray, List.length_cons, List.length_nil, Nat.reduceAdd, Nat.reduceSub, Array.replicate_succ, Array.replicate_zero, List.push_toArray, List.append_toArray, List.nil_append, List.cons_append]
  have hdd : ∀ k : Nat, (Fence.wide.depth.isSome = true → 1 ≤ k) := fun k h => by cases h
  obtain ⟨a, cap, rfl, _, _⟩ := id hv
  gi_wp2_with (refine ⟨trivial, ?_⟩; gi_at_call 52; refine (callsIn_wide.2 (parts_i _ _ _ _)).mono ?_; rintro e w' ⟨rfl, rfl⟩)
  obtain ⟨W0, hW0⟩ : ∃ W0, (w.alloc (.cells #[.int .i64 0] 3)).alloc (.cells #[.slice a xs.length cap] 23) = W0 := ⟨_, rfl⟩
  have hk := rows2 w (.cells #[.int .i64 0] 3) (.cells #[.slice a xs.length cap] 23)
  have b0 : Below w.heap.size w W0 := by rw [← hW0]; exact ((Below.refl _ _).alloc (Nat.le_refl _) _).alloc (by simp) _
  have hsz : W0.heap.size = w.heap.size + 1 + 1 := by rw [← hW0]; simp
  rw [hW0] at hk ⊢
  have c0 : W0.cell? ⟨w.heap.size, 0, none⟩ = some (.int .i64 0) := (cell_of_row _ _ _ _ _ _ hk.1).trans rfl
  have f0 : W0.frozen? ⟨w.heap.size, 0, none⟩ = false := by simp [World.frozen?, hk.1]
  have c1 : W0.cell? ⟨w.heap.size + 1, 0, none⟩ = some (.slice a xs.length cap) := (cell_of_row _ _ _ _ _ _ hk.2).trans rfl
  refine range_n (α := PartW w) (gf := 94) (lb := #[.pointer (some ⟨w.heap.size + 1, 0, none⟩)]) rfl (enters_of Tryz.func94 (by kernel_rfl) rfl) (parts_seq w w.heap.size (w.heap.size + 1) m (5 - 1) (Nat.le_refl _) (by omega) _ xs W0 b0 (by omega) c1 hv hw) (fun h k => h.trans k) (kd_l (by omega)) (fun h k => h.trans k) (kq_l (Nat.le_refl _)) (Below.refl _ _) (fun _ => rfl)
    (fun pre W => (W.cell? ⟨w.heap.size, 0, none⟩ = some (.int .i64 (sizes pre : Nat)) ∧ W.frozen? ⟨w.heap.size, 0, none⟩ = false) ∧ Below w.heap.size w W)
    (fun _ _ _ => False)
    (fun s X Y g hs => ⟨⟨dep_cell g (by omega) hs.1.1, dep_frozen g (by omega) hs.1.2⟩, hs.2.trans (g.mono (by omega))⟩)
    (fun _ _ _ _ _ hs => hs)
    ⟨⟨c0, f0⟩, b0⟩
    (fun x => { tmps := #[.slice a xs.length cap, undef, .int .i64 0, .pointer (some ⟨w.heap.size, 0, none⟩), x.1.1, .slice a xs.length cap, .func (.func 94) #[] #[.pointer (some ⟨w.heap.size + 1, 0, none⟩)], x.1.1, undef, undef, undef, undef, undef], defers := [] }) ?assign ?body ?done ?stop
  case assign =>
    intro l x W K hK
    gi_wp2
    exact hK
  case body =>
    rintro l pre x W ⟨⟨hc, hf⟩, hB⟩ hpre
    obtain ⟨T, u, f, hx, hcall, hT⟩ := part_size x.1 x.2
    have hpre : pre.length < 4194304 := by
      have h1 : (ghosts pre ++ [x.1.2]).length ≤ (xs.flatMap (pArm m true)).length := List.IsPrefix.length_le hpre
      have h2 : (ghosts pre).length = pre.length := by simp [ghosts]
      rw [List.length_append, h2, List.length_singleton] at h1
      omega
    have hs := sizes_le pre
    have hp := pSize_le x
    have hwr : IntKind.i64.wrap (((sizes pre : Nat) : Int) + ((pSize x.1.2 : Nat) : Int)) = ((sizes (pre ++ [x]) : Nat) : Int) := by
      rw [sizes_snoc, wrap_small64 (by omega) (by omega)]; omega
    rcases hT with ⟨rfl, rfl⟩ | ⟨rfl, rfl⟩
    · rw [hx]
      have hmx : Tryz.prog.follows .mixedOrders = true := by kernel_rfl
      have hmeth : ∀ W, (method 446 205 u "loop.example/stile/impl.size").run Tryz.prog W = .ok (313, u) W := fun W => by kernel_rfl
      gi_wp2
      gi_region_with_o ((first | refine ⟨trivial, ?_⟩ | refine ⟨fun _ _ => trivial, ?_⟩ | skip); gi_at_call 313; refine (CallsIn.inRound l (callsIn_wide.2 (hcall _))).mono ?_; rintro e w' ⟨rfl, g⟩; have hc' : w'.cell? ⟨w.heap.size, 0, none⟩ = some (.int .i64 (sizes pre : Nat)) := (Keeps.of_below g 0) _ _ _ (Nat.zero_le _) (by simpa using hc); have hf' : w'.frozen? ⟨w.heap.size, 0, none⟩ = false := frozen_keep g (by simpa using hf) (by simpa using hc))
      all_goals
        obtain ⟨q1, q2, q3, q4⟩ := round_end (Nat.le_refl _) hB.size (.inr rfl) g hc' hf' (.int .i64 ((sizes (pre ++ [x]) : Nat) : Int))
        exact ⟨q1.from _, ⟨q2, q1.from _⟩, ⟨q3, q4⟩, hB.trans q2.1⟩
    · rw [hx]
      have hmx : Tryz.prog.follows .mixedOrders = true := by kernel_rfl
      have hmeth : ∀ W, (method 446 172 u "loop.example/stile/impl.size").run Tryz.prog W = .ok (299, u) W := fun W => by kernel_rfl
      gi_wp2
      gi_region_with_o ((first | refine ⟨trivial, ?_⟩ | refine ⟨fun _ _ => trivial, ?_⟩ | skip); gi_at_call 299; refine (CallsIn.inRound l (callsIn_wide.2 (hcall _))).mono ?_; rintro e w' ⟨rfl, g⟩; have hc' : w'.cell? ⟨w.heap.size, 0, none⟩ = some (.int .i64 (sizes pre : Nat)) := (Keeps.of_below g 0) _ _ _ (Nat.zero_le _) (by simpa using hc); have hf' : w'.frozen? ⟨w.heap.size, 0, none⟩ = false := frozen_keep g (by simpa using hf) (by simpa using hc))
      all_goals
        obtain ⟨q1, q2, q3, q4⟩ := round_end (Nat.le_refl _) hB.size (.inr rfl) g hc' hf' (.int .i64 ((sizes (pre ++ [x]) : Nat) : Int))
        exact ⟨q1.from _, ⟨q2, q1.from _⟩, ⟨q3, q4⟩, hB.trans q2.1⟩
  case done =>
    rintro D ys W hD hys ⟨⟨hc, _⟩, hB⟩ hK
    gi_wp2
    refine ⟨by simp, .inl ⟨_, _, rfl, run_takeDeferred hK, ?_⟩⟩
    refine ⟨_, results_tmp rfl _ _ _, ?_, hB.trans (belowK_b (w := w) (Nat.le_refl _) W D _ _ (by omega) hK rfl rfl)⟩
    show Ending.returned (Value.int .i64 (sizes ys : Nat)) = _
    unfold sizes
    rw [hys]
  case stop =>
    rintro D c pre W _ h _
    exact h.elim
end Go.Proofs.YtgopfaegdlefpaaGreatDoor
