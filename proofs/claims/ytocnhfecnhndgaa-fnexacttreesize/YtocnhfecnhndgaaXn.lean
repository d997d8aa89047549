/- The parts of a net, handed on by a range within the iterator over a ladder. -/
import Derived.Test.YtocnhfecnhndgaaGn
namespace Go.Proofs.Ytocnhfecnhndgaa
open Go.RowKit Go.Shelf
set_option linter.unusedVariables false
attribute [local go_sem] Oper.semAt_some

/-- What a round keeps: all rows of cells but one, and what is no cells from b0 on. -/
def KD (n₀ B b0 : Nat) (W W' : World) : Prop := KC n₀ B W W' ∧ KeepsFrom b0 W W'
theorem KD.trans {n₀ B b0 : Nat} {W W' W'' : World} (h : KD n₀ B b0 W W') (h' : KD n₀ B b0 W' W'') : KD n₀ B b0 W W'' := ⟨h.1.trans h'.1, h.2.trans h'.2⟩
theorem rows4 (w : World) (o0 o1 o2 o3 : Obj) : ((((w.alloc o0).alloc o1).alloc o2).alloc o3).heap[w.heap.size]? = some o0 ∧ ((((w.alloc o0).alloc o1).alloc o2).alloc o3).heap[w.heap.size + 1]? = some o1 ∧ ((((w.alloc o0).alloc o1).alloc o2).alloc o3).heap[w.heap.size + 1 + 1]? = some o2 ∧ ((((w.alloc o0).alloc o1).alloc o2).alloc o3).heap[w.heap.size + 1 + 1 + 1]? = some o3 := by
  have h3 := rows3 w o0 o1 o2
  have hz : (((w.alloc o0).alloc o1).alloc o2).heap.size = w.heap.size + 1 + 1 + 1 := by simp
  refine ⟨(heap_alloc_old _ _ _ (by omega)).trans h3.1, (heap_alloc_old _ _ _ (by omega)).trans h3.2.1, (heap_alloc_old _ _ _ (by omega)).trans h3.2.2, ?_⟩
  rw [← hz]; exact heap_alloc_last _ _
/-- The list that one net makes. -/
theorem rowB_one {R : NetT → List Value → Prop} {W : World} {B : Nat} {c0 c1 c2 c3 : Value} {t : NetT} (hB : B < W.heap.size) (hR : R t [c0, c1, c2, c3]) :
    RowB (W.alloc (.cells #[c0, c1, c2, c3] 48)) B 4 R (.slice (some ⟨W.heap.size, 0, none⟩) 1 1) [t] := by
  refine ⟨some ⟨W.heap.size, 0, none⟩, 1, rfl, by simp, fun j x hj => ?_⟩
  have hj0 : j = 0 := by have := (List.getElem?_eq_some_iff.1 hj).1; simpa using this
  subst hj0
  simp only [List.getElem?_cons_zero, Option.some.injEq] at hj
  subst hj
  refine ⟨W.heap.size, 0, [c0, c1, c2, c3], rfl, by omega, rfl, fun i c hi => ?_, hR⟩
  rw [cell_of_row _ _ _ _ _ _ (heap_alloc_last W _)]
  simpa using hi

set_option maxRecDepth 100000 in
set_option maxHeartbeats 4000000 in
theorem net1_in (w : World) (B l By N b0 b1 : Nat) (hBw : w.heap.size ≤ B) (hBb : B < b1) (h01 : b0 ≤ b1) (hBy : By ≠ B) (J Jx : List (PartW w) → World → Prop) (hJ : Dep b1 J) (hJx : Dep b1 Jx)
    (hY : ∀ pre (x : PartW w) W, J pre W → pre.length < N → YieldAt Fence.wide 0 Try.prog l #[x.1.1] W fun e W' => (e = .returned (.bool true) ∧ KD w.heap.size B b0 W W' ∧ J (pre ++ [x]) W') ∨ (e = .returned (.bool false) ∧ KD w.heap.size B b0 W W' ∧ Jx (pre ++ [x]) W'))
    (m n : Nat) (k op : Int) (a1 : Option Addr) (l1 c1 : Nat) (a2 : Option Addr) (l2 c2 : Nat) (t : NetT) (pre : List (PartW w)) (W : World) (hb : Below w.heap.size w W) (hbW : b1 ≤ W.heap.size) (hyb : YB W By l) (ht : NetIs w 0 m t [.int .i64 k, .int .i64 op, .slice a1 l1 c1, .slice a2 l2 c2]) (hw : wN m t ≤ 1048576) (hJ0 : J pre W) (hN : pre.length + (pNet m t).length ≤ N) :
    CallsIn Fence.wide n Try.prog 57 #[.agg #[.int .i64 k, .int .i64 op, .slice a1 l1 c1, .slice a2 l2 c2], .pointer (some ⟨By, 0, none⟩)] W fun e W' =>
      (e = .returned (.bool true) ∧ (∃ ys, ghosts ys = pNet m t ∧ J (pre ++ ys) W') ∧ KC w.heap.size B W W') ∨ (e = .returned (.bool false) ∧ ∃ q, Jx q W') := by
  have hdd : ∀ k : Nat, (Fence.wide.depth.isSome = true → 1 ≤ k) := fun k h => by cases h
  obtain ⟨U, hU⟩ : ∃ U, (((W.alloc (.cells #[.int .i64 k, .int .i64 op, .slice a1 l1 c1, .slice a2 l2 c2] 48)).alloc (.cells #[.bool false] 4)).alloc (.cells #[.int .i64 k, .int .i64 op, .slice a1 l1 c1, .slice a2 l2 c2] 48)).alloc (.cells #[.slice (some ⟨W.heap.size + 1 + 1, 0, none⟩) 1 1] 46) = U := ⟨_, rfl⟩
  have hk := rows4 W (.cells #[.int .i64 k, .int .i64 op, .slice a1 l1 c1, .slice a2 l2 c2] 48) (.cells #[.bool false] 4) (.cells #[.int .i64 k, .int .i64 op, .slice a1 l1 c1, .slice a2 l2 c2] 48) (.cells #[.slice (some ⟨W.heap.size + 1 + 1, 0, none⟩) 1 1] 46)
  have gU : Below W.heap.size W U := by rw [← hU]; exact ((((Below.refl _ _).alloc (Nat.le_refl _) _).alloc (by simp) _).alloc (by simp <;> omega) _).alloc (by simp <;> omega) _
  have sU : U.heap.size = W.heap.size + 1 + 1 + 1 + 1 := by rw [← hU]; simp
  have hrow : RowB U B 4 (NetIs w 0 m) (.slice (some ⟨W.heap.size + 1 + 1, 0, none⟩) 1 1) [t] := by
    have h := rowB_one (R := NetIs w 0 m) (W := (W.alloc (.cells #[.int .i64 k, .int .i64 op, .slice a1 l1 c1, .slice a2 l2 c2] 48)).alloc (.cells #[.bool false] 4)) (B := B) (t := t) (by simp; omega) ht
    have hz : ((W.alloc (.cells #[.int .i64 k, .int .i64 op, .slice a1 l1 c1, .slice a2 l2 c2] 48)).alloc (.cells #[.bool false] 4)).heap.size = W.heap.size + 1 + 1 := by simp
    rw [hz] at h
    rw [← hU]
    exact h.keep (KC.alloc (n₀ := 0) (Nat.zero_le _) _)
  rw [hU] at hk
  have cx : U.cell? ⟨W.heap.size + 1 + 1 + 1, 0, none⟩ = some (.slice (some ⟨W.heap.size + 1 + 1, 0, none⟩) 1 1) := (cell_of_row _ _ _ _ _ _ hk.2.2.2).trans rfl
  have hbU : Below w.heap.size w U := hb.trans (gU.mono hb.size)
  have eP : [t].flatMap (pNet m) = pNet m t := by simp
  have hseq : SeqN (n - 1) Try.prog 75 #[.pointer (some ⟨W.heap.size + 1 + 1 + 1, 0, none⟩)] (fun x : PartW w => #[x.1.1]) (KC w.heap.size B) (fun _ _ => True) (fun ys => ghosts ys = pNet m t) (pNet m t).length U := fun l' J' Jx' V hV hsz hJ' hJx' hY' h0 => by
    have h := nets1_in w B (W.heap.size + 1 + 1 + 1) l' (pNet m t).length m hBw (fun ys X => J' ys X ∧ V.heap.size ≤ X.heap.size) Jx' (fun pre X Y g h => ⟨hJ' _ _ _ (g.mono h.2) h.1, Nat.le_trans h.2 g.size⟩) (n - 1) (fun pre x X h hl => (hY' pre x X h.1 hl).mono fun e W' hh => by
        rcases hh with ⟨he, hk, hj⟩ | ⟨he, hk, hj⟩
        · exact .inl ⟨he, ⟨hj, Nat.le_trans h.2 hk.1.size⟩, hk⟩
        · exact .inr ⟨he, hj⟩) _ [t] V (hbU.trans (hV.mono hbU.size)) (by have := hV.size; omega) ((Keeps.of_below hV 0) _ _ _ (Nat.zero_le _) cx) (hrow.keep (KC.of_below (n₀ := w.heap.size) hV hbU.size)) (by simpa using hw) ⟨h0, Nat.le_refl _⟩ (by rw [eP]; exact Nat.le_refl _)
    rw [eP] at h
    refine h.mono fun e W' hh => ⟨hh.1, ?_⟩
    rcases hh.2 with ⟨ys, k1, k2⟩ | ⟨q, k1⟩
    · exact .inl ⟨ys, k1, k2.1⟩
    · exact .inr ⟨q, k1⟩
  have hKU : KC w.heap.size B W U := KC.of_below gU hb.size
  have HYU : Hid (YB U By l) := hKU.row hBy hyb
  have HR : Hid (U.heap[W.heap.size + 1]? = some (.cells #[.bool false] 4 (0, 0))) := hk.2.1
  have HJU : Hid (J pre U) := hJ _ _ _ (gU.mono hbW) hJ0
  have HKU : Hid (KC w.heap.size B W U) := hKU
  have HH : Hid (Dep b1 J ∧ Dep b1 Jx) := ⟨hJ, hJx⟩
  have HY : Hid (∀ pre (x : PartW w) W, J pre W → pre.length < N → YieldAt Fence.wide 0 Try.prog l #[x.1.1] W fun e W' => (e = .returned (.bool true) ∧ KD w.heap.size B b0 W W' ∧ J (pre ++ [x]) W') ∨ (e = .returned (.bool false) ∧ KD w.heap.size B b0 W W' ∧ Jx (pre ++ [x]) W')) := hY
  have HS : Hid (SeqN (n - 1) Try.prog 75 #[.pointer (some ⟨W.heap.size + 1 + 1 + 1, 0, none⟩)] (fun x : PartW w => #[x.1.1]) (KC w.heap.size B) (fun _ _ => True) (fun ys => ghosts ys = pNet m t) (pNet m t).length U) := hseq
  have hnU : w.heap.size ≤ U.heap.size := hbU.size
  clear hY hJ hJx hseq hrow cx hk gU hb hyb ht hw hJ0 hKU eP
  refine callsIn_of_wp_marks Try.func57 rfl trivial ?_ rfl
  simp only [Try.ntmps57, List.size_toArray, List.length_cons, List.length_nil, Nat.reduceAdd, Nat.reduceSub, Array.replicate_succ, Array.replicate_zero, List.push_toArray, List.append_toArray, List.nil_append, List.cons_append]
  gi_wp2
  refine ⟨trivial, hdd _, ?_⟩
  refine (callsIn_wide.2 (nets_call _ _ _ _)).mono ?_
  rintro e w' ⟨rfl, rfl⟩
  simp only [World.size_alloc]
  rw [hU]
  gi_wp2
  refine range_n (α := PartW w) (gf := 75) (lb := #[.pointer (some ⟨W.heap.size + 1 + 1 + 1, 0, none⟩)]) rfl (enters_of Try.func75 (by kernel_rfl) rfl) HS.out (fun h k => h.trans k) (fun V r o' h => kc_b (w := U) hnU V _ _ o' (by omega) h rfl rfl) (fun _ _ => trivial) (fun _ _ _ _ => trivial) (Below.refl _ _) (fun _ => rfl)
    (fun xs V => J (pre ++ xs) V ∧ KC w.heap.size B U V)
    (fun c xs V => (c = .ret ∧ V.heap[W.heap.size + 1]? = some (.cells #[.bool false] 4 (0, 0))) ∧ ∃ q, Jx q V)
    (fun s X Y g hs => ⟨HH.out.1 _ _ _ (g.mono (by omega)) hs.1, kc_dep (β := Unit) hnU (Nat.le_refl _) () X Y g hs.2⟩)
    (fun c s X Y g hs => ⟨⟨hs.1.1, (g.block _ (by omega)).trans hs.1.2⟩, by obtain ⟨q, hq⟩ := hs.2; exact ⟨q, HH.out.2 _ _ _ (g.mono (by omega)) hq⟩⟩)
    ⟨(by simpa using HJU.out : J (pre ++ []) U), KC.refl _ _ _⟩
    (fun x => { tmps := #[.agg #[.int .i64 k, .int .i64 op, .slice a1 l1 c1, .slice a2 l2 c2], .pointer (some ⟨By, 0, none⟩), .pointer (some ⟨W.heap.size, 0, none⟩), .pointer (some ⟨W.heap.size + 1, 0, none⟩), x.1.1, .agg #[.int .i64 k, .int .i64 op, .slice a1 l1 c1, .slice a2 l2 c2], .slice (some ⟨W.heap.size + 1 + 1, 0, none⟩) 1 1, .func (.func 75) #[] #[.pointer (some ⟨W.heap.size + 1 + 1 + 1, 0, none⟩)], x.1.1, undef, undef, undef, undef], defers := [] }) ?assign ?body ?done ?stop
  case assign =>
    intro l x W K hK
    gi_wp2
    exact hK
  case body =>
    rintro l' xs x V ⟨hJV, hKV⟩ hlen
    have cy : V.cell? ⟨By, 0, none⟩ = some (.func (.yield l) #[] #[]) := (cell_of_row _ _ _ _ _ _ (hKV.row hBy HYU.out)).trans rfl
    obtain ⟨fn, tmps, assign, body, hy, hRd⟩ := yield_any (n - 1 - 1 - 1) (HY.out (pre ++ xs) x V hJV (by simp; omega))
    have HKV : Hid (KC w.heap.size B U V) := hKV
    clear hJV hKV
    gi_wp2
    refine ⟨hdd _, ?_⟩
    refine hRd.mono ?_
    rintro e V3 (⟨rfl, ⟨kc, kf⟩, hJ3⟩ | ⟨rfl, ⟨kc, kf⟩, hx3⟩)
    · have HP : Hid (KeepsFrom U.heap.size V V3 ∧ KC w.heap.size B V V3 ∧ J (pre ++ (xs ++ [x])) V3 ∧ KC w.heap.size B U V3) := ⟨⟨kf.size, fun k o hk => kf.same k o (by omega)⟩, kc, by simpa [List.append_assoc] using hJ3, HKV.out.trans kc⟩
      clear hy hRd cy kc kf hJ3
      gi_wp2
      exact HP.out
    · have rV : V3.heap[W.heap.size + 1]? = some (.cells #[.bool false] 4 (0, 0)) := (HKV.out.trans kc).row (by omega) HR.out
      have q0 : V3.cell? ⟨W.heap.size + 1, 0, none⟩ = some (.bool false) := (cell_of_row _ _ _ _ _ _ rV).trans rfl
      have q1 : V3.frozen? ⟨W.heap.size + 1, 0, none⟩ = false := by simp [World.frozen?, rV]
      have HP : Hid (KeepsFrom U.heap.size V (V3.setCell ⟨W.heap.size + 1, 0, none⟩ (.bool false)) ∧ True ∧ (Code.ret = Code.ret ∧ (V3.setCell ⟨W.heap.size + 1, 0, none⟩ (.bool false)).heap[W.heap.size + 1]? = some (.cells #[.bool false] 4 (0, 0))) ∧ ∃ q, Jx q (V3.setCell ⟨W.heap.size + 1, 0, none⟩ (.bool false))) :=
        ⟨(KeepsFrom.trans ⟨kf.size, fun k o hk => kf.same k o (by omega)⟩ ((KeepsOthers.setCell _ _ _).from _)), trivial, ⟨rfl, row_put rV _ _⟩, _, HH.out.2 _ _ _ ((Below.refl _ _).setCell (p := ⟨W.heap.size + 1, 0, none⟩) (by simp; omega) _) hx3⟩
      clear hy hRd cy kc kf hx3 rV
      gi_wp2
      obtain ⟨p1, _, ⟨_, p3⟩, p4⟩ := HP.out
      exact ⟨p1, trivial, ⟨rfl, p3⟩, p4⟩
  case done =>
    rintro D ys V hD hys ⟨hJV, hKV⟩ hDV
    have rV : V.heap[W.heap.size + 1]? = some (.cells #[.bool false] 4 (0, 0)) := hKV.row (by omega) HR.out
    have q0 : V.cell? ⟨W.heap.size + 1, 0, none⟩ = some (.bool false) := (cell_of_row _ _ _ _ _ _ rV).trans rfl
    have q1 : V.frozen? ⟨W.heap.size + 1, 0, none⟩ = false := by simp [World.frozen?, rV]
    obtain ⟨V2, hV2⟩ : ∃ V2, V.setCell ⟨W.heap.size + 1, 0, none⟩ (.bool true) = V2 := ⟨_, rfl⟩
    have rD : V2.heap[D]? = some (.deferred (some [])) := by rw [← hV2]; exact row_other hDV _ _ (by omega) _
    have r2 : V2.heap[W.heap.size + 1]? = some (.cells #[.bool true] 4 (0, 0)) := by rw [← hV2]; exact row_put rV _ _
    have r3 : (V2.putObj D (.deferred none)).heap[W.heap.size + 1]? = some (.cells #[.bool true] 4 (0, 0)) := (World.putObj_heap_other (by omega)).trans r2
    have c3 : (V2.putObj D (.deferred none)).cell? ⟨W.heap.size + 1, 0, none⟩ = some (.bool true) := (cell_of_row _ _ _ _ _ _ r3).trans rfl
    have bV : Below W.heap.size V (V2.putObj D (.deferred none)) := by
      have b1 : Below W.heap.size V V2 := by rw [← hV2]; exact (Below.refl _ _).setCell (p := ⟨W.heap.size + 1, 0, none⟩) (by simp) _
      exact b1.trans (below_putObj rD (by omega) _)
    gi_wp2
    refine ⟨by simp, .inl ⟨_, _, rfl, run_takeDeferred rD, ?_⟩⟩
    refine ⟨.bool true, ?_, .inl ⟨rfl, ⟨ys, hys, HH.out.1 _ _ _ (bV.mono hbW) hJV⟩, ?_⟩⟩
    · simp [results, Try.results57, go_sem, c3]
    · have h1 : KC w.heap.size B W V := HKU.out.trans hKV
      exact kc_dep (β := Unit) (by omega) (Nat.le_refl _) () _ _ bV h1
  case stop =>
    rintro D c q V hD ⟨⟨rfl, hcV⟩, hxV⟩ hDV
    have r3 : (V.putObj D (.deferred none)).heap[W.heap.size + 1]? = some (.cells #[.bool false] 4 (0, 0)) := (World.putObj_heap_other (by omega)).trans hcV
    have c3 : (V.putObj D (.deferred none)).cell? ⟨W.heap.size + 1, 0, none⟩ = some (.bool false) := (cell_of_row _ _ _ _ _ _ r3).trans rfl
    have bV : Below W.heap.size V (V.putObj D (.deferred none)) := below_putObj hDV (by omega) _
    gi_wp2
    refine ⟨by simp, .inl ⟨_, _, rfl, run_takeDeferred hDV, ?_⟩⟩
    refine ⟨.bool false, ?_, .inr ⟨rfl, ?_⟩⟩
    · simp [results, Try.results57, go_sem, c3]
    · obtain ⟨q, hq⟩ := hxV
      exact ⟨q, HH.out.2 _ _ _ (bV.mono hbW) hq⟩
end Go.Proofs.Ytocnhfecnhndgaa
