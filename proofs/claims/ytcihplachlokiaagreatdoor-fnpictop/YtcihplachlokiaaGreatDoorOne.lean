/- A list is drawn that can be written, whatever its operands. -/
import Derived.Test.YtcihplachlokiaaGreatDoorOncM
import Derived.Test.YtcihplachlokiaaGreatDoorQkaM
namespace Go.Proofs.YtcihplachlokiaaGreatDoor.Rr
open Go.RowKit Go.Shelf
set_option linter.unusedVariables false
set_option linter.unusedSimpArgs false

def ListG (w : World) (B R p L d : Nat) (e : Ending) (w' : World) : Prop :=
  ∃ (a : Option Addr) (n cap q : Nat) (xs : List InstT), e = .returned (.slice a n cap) ∧ Hid (n = xs.length) ∧ n ≤ L ∧ q ≤ p + d ∧ RG w' w.heap.size R (.slice a n cap) xs ∧ Reader B w' R q ∧ w.grownBy w' (some R)
/-- The list so far. -/
def LG (w : World) (B R : Nat) (W : World) (q m : Nat) (v : Value) (ys : List InstT) : Prop := Reader B W R q ∧ w.grownBy W (some R) ∧ m = ys.length ∧ RG W w.heap.size R v ys
theorem LG.move {w W W' : World} {B R q q' m : Nat} {v : Value} {ys : List InstT} (h : LG w B R W q m v ys) (g : W.grownBy W' (some R)) (hr : Reader B W' R q') : LG w B R W' q' m v ys :=
  ⟨hr, gb_pick h.2.1 g, h.2.2.1, h.2.2.2.move g (fun j hj => by cases hj; exact .inr (.inl rfl))⟩
theorem LG.start {w w1 : World} {B R q : Nat} (h : Reader B w1 R q) (g : w.grownBy w1 (some R)) : LG w B R (w1.alloc (.cells #[] 44)) q 0 (.slice (some ⟨w1.heap.size, 0, none⟩) 0 0) [] := by
  have hR := h.1
  have hB := h.2.1
  refine ⟨h.alloc _, gb_alloc g _, rfl, by simp [Value.ownBlock]; omega, [], .nil, ?_⟩
  exact World.ownsRow_made (base := w.heap.size) (e := 44) (size := 3) w1 #[] 0 g.size (by unfold maxLen; omega) rfl
theorem LG.push {w W : World} {B R q m oc : Nat} {oa : Option Addr} {ys : List InstT} (h : LG w B R W q m (.slice oa m oc) ys) (hBw : B ≤ w.heap.size) {x : InstT} {c : List Value}
    (hE : EG W w.heap.size (fun b => b ≠ R ∧ some b ≠ (Value.slice oa m oc).ownBlock) x c) (o : Obj) :
    ∃ cs, (W.alloc o).ownsRow w.heap.size 44 3 (.slice oa m oc) m cs ∧ ∀ (w5 : World) (g1 cap1 : Nat), w5.ownsRow w.heap.size 44 3 (.slice (some ⟨g1, 0, none⟩) (m + 1) cap1) (m + 1) (cs ++ c) → (W.alloc o).grownBy w5 (Value.slice oa m oc).ownBlock → ((Value.slice oa m oc).ownBlock = some g1 ∨ g1 = (W.alloc o).heap.size) →
      LG w B R w5 q (m + 1) (.slice (some ⟨g1, 0, none⟩) (m + 1) cap1) (ys ++ [x]) := by
  obtain ⟨h1, h2, h3, h4⟩ := h
  have h5 := h4.move (World.grownBy_alloc W o none) (fun j hj => by cases hj)
  have hl := h5.lt
  have hR := h1.1
  have hB := h1.2.1
  have hE2 := hE.move (World.grownBy_alloc W o none) (fun b _ _ _ => by simp) (fun b _ _ b3 => b3)
  obtain ⟨k1, cs, k2, k3⟩ := h5
  refine ⟨cs, by rw [h3]; rw [h3] at k3; exact k3, fun w5 g1 cap1 own5 g5 hat => ?_⟩
  refine ⟨(h1.alloc o).kept g5 (fun j hj => by have := (hl j hj).1; omega), gb_then (gb_alloc h2 o) g5 (fun j hj => .inl (hl j hj).1), by rw [h3]; simp, ?_⟩
  have := RG.push k1 k2 hE2 (by simp; omega) (by rw [← h3]; exact own5) g5 hat
  rw [← h3] at this
  exact this
theorem cell_three (w : World) (x y z : Value) (t : TypeId) : ∀ j u, [x, y, z][j]? = some u → (w.alloc (.cells #[x, y, z] t)).cell? ((⟨w.heap.size, 0, none⟩ : Addr).add j) = some u := by
  intro j u hj
  match j, hj with
  | 0, hj => simp at hj; subst hj; simp [Addr.add]
  | 1, hj => simp at hj; subst hj; simp [Addr.add]
  | 2, hj => simp at hj; subst hj; simp [Addr.add]
  | j + 3, hj => simp at hj
theorem three_row {W : World} {b : Nat} {T : TypeId} {x y z : Value} (k : W.heap[b]? = some (.cells #[x, y, z] T (0, 0))) :
    W.cell? ⟨b, 0, none⟩ = some x ∧ W.cell? ⟨b, 1, none⟩ = some y ∧ W.cell? ⟨b, 2, none⟩ = some z ∧ W.frozen? ⟨b, 0, none⟩ = false ∧ W.frozen? ⟨b, 1, none⟩ = false ∧ W.frozen? ⟨b, 2, none⟩ = false :=
  ⟨(cell_of_row _ _ _ _ _ _ k).trans rfl, (cell_of_row _ _ _ _ _ _ k).trans rfl, (cell_of_row _ _ _ _ _ _ k).trans rfl, by simp [World.frozen?, k], by simp [World.frozen?, k], by simp [World.frozen?, k]⟩
theorem RG.base {W : World} {H H' pb : Nat} {v : Value} {xs : List InstT} (h : RD 0 W H pb v xs) (hH : H' ≤ H) : RG W H' pb v xs := (h.base hH).g

set_option maxRecDepth 10000 in
set_option maxHeartbeats 8000000 in
theorem dlist_r (w : World) (B R p : Nat) (h : Reader B w R p) (hp : p < 9100000) :
    Calls Tryz.prog 12 #[.pointer (some ⟨R, 0, none⟩)] w fun e w' => ListG w B R p 4000 250100 e w' := by
  have hRB := h.1
  have hBw := h.2.1
  have hinfo : (Tryz.prog.info? 44).map (fun i => (i.zero, i.size, i.bytes)) = some (some (.agg #[.int .i64 0, .int .i64 0, .slice none 0 0]), 3, 40) := by kernel_rfl
  obtain ⟨ti, hi, hzz⟩ := Option.map_eq_some_iff.1 hinfo
  simp only [Prod.mk.injEq] at hzz
  obtain ⟨hz0, hz1, hz2⟩ := hzz
  have hinfo2 : (Tryz.prog.info? 72).map (fun i => (i.zero, i.size, i.bytes)) = some (some (.agg #[.int .i64 0, .int .i64 0, .int .i64 0]), 3, 24) := by kernel_rfl
  obtain ⟨di, ei, hzz⟩ := Option.map_eq_some_iff.1 hinfo2
  simp only [Prod.mk.injEq] at hzz
  obtain ⟨ez0, ez1, ez2⟩ := hzz
  clear hinfo hinfo2
  go_enter Tryz.func12, Tryz.ntmps12
  go_wp2_with fail
  refine (pick_r B R p 3 w h (by omega) (by omega) (by omega)).mono ?_
  rintro e w1 ⟨r, hr, rfl, h1, g1⟩
  have HG1 : Hid (w.grownBy w1 (some R)) := g1
  have HR1 : Hid (Reader B w1 R (p + 1)) := h1
  have hs1 := g1.size
  clear g1 h1 h
  by_cases r0 : r = 0
  · subst r0
    go_wp2_with fail
    refine (lany_r w1 B R (p + 1) HR1.out (by omega)).mono ?_
    rintro e w2 ⟨a, n, cap, q, xs, rfl, hn, hn2, hq, hx, h2, g2⟩
    have HF : Hid (ListG w B R p 4000 250100 (.returned (.slice a n cap)) w2) := ⟨a, n, cap, q, xs, rfl, hn, hn2, by omega, RG.base hx hs1, h2, gb_pick HG1.out g2⟩
    clear hn hx h2 g2
    go_wp2
    go_ret
    exact HF.out
  have i1 : ((r : Int) == 0) = false := by simp; omega
  have n1 : ¬ (r : Int) = 0 := by omega
  have HL1 : Hid (LG w B R (w1.alloc (.cells #[] 44)) (p + 1) 0 (.slice (some ⟨w1.heap.size, 0, none⟩) 0 0) []) := LG.start HR1.out HG1.out
  obtain ⟨Z0, hZ0⟩ : ∃ Z, w1.heap.size = Z := ⟨_, rfl⟩
  rw [hZ0] at HL1
  clear HG1 HR1
  go_upto_region 4 with fail
  generalize (w1.alloc (.cells #[] 44)) = W1 at HL1 ⊢
  clear hZ0
  go_wp2_with fail
  refine (pick_r B R (p + 1) 12 W1 HL1.out.1 (by omega) (by omega) (by omega)).mono ?_
  rintro e w2 ⟨t, ht, rfl, h2, g2⟩
  have HL2 : Hid (LG w B R w2 (p + 1 + 1) 0 (.slice (some ⟨Z0, 0, none⟩) 0 0) []) := HL1.out.move g2 h2
  clear g2 h2 HL1
  go_wp2
  go_loopw [3, 4, 5, 6, 7] (fun vv iv _ _ _ wr => ∃ (oa : Option Addr) (m oc q t : Nat) (ys : List InstT), vv = .slice oa m oc ∧ iv = .int .i64 t ∧ m + t ≤ 11 ∧ q + 80 * t ≤ p + 2 + 880 ∧ Hid (LG w B R wr q m (.slice oa m oc) ys)) (fun _ iv _ _ _ _ => (intOf iv).toNat)
  case atStart => exact ⟨_, 0, 0, p + 1 + 1, t, [], rfl, rfl, by omega, by omega, HL2.out⟩
  case round =>
    clear HL2
    obtain ⟨oa, m, oc, q, t, ys, rfl, rfl, hm, hq, HL⟩ := hrel
    by_cases i0 : (0 : Int) < (t : Int)
    · have hlt := HL.out.2.2.2.lt
      have hBr := HL.out.1.2.1
      go_wp2_with fail
      refine (inst_r (LB := 0) B R q wr HL.out.1 (by omega)).mono ?_
      rintro e w5 ⟨⟨c, op, b, ln, bc, zs, rfl, hl, hbc, hf, O⟩, ⟨q5, hq5, h5⟩, g5⟩
      have hs5 := g5.size
      have HL5 : Hid (LG w B R w5 q5 m (.slice oa m oc) ys) := HL.out.move g5 h5
      have HE5 : Hid (EG w5 w.heap.size (fun b => b ≠ R ∧ some b ≠ (Value.slice oa m oc).ownBlock) ⟨c, ⟨op, zs⟩⟩ [.int .i64 c, .int .i64 op, .slice b ln bc]) := by
        have := EG.of (H := w.heap.size) (ok := fun b => b ≠ R ∧ some b ≠ (Value.slice oa m oc).ownBlock) (x := ⟨c, ⟨op, zs⟩⟩) (cap := bc) (by show zs.length ≤ bc; have := hl.out; omega) hf O (by have := HL.out.2.1.size; omega) (fun b hb => ⟨by omega, fun e => by have := (hlt b e.symm).2; omega⟩)
        rw [hl.out]
        exact this
      have HO5 : Hid (Own w5 wr.heap.size b zs ∧ zs.length = ln ∧ ln ≤ bc ∧ ((c ≤ 3 ∨ c = 10) → 1 ≤ ln) ∧ zs.length ≤ 12) := ⟨O, hl.out.symm, hbc.1, hbc.2, Nat.le_trans hf.2.2.1 (by decide)⟩
      have HFn : Hid (Fin1 0 ⟨c, ⟨op, zs⟩⟩) := hf
      have HZ : Hid (w.heap.size ≤ wr.heap.size) := HL.out.2.1.size
      have HLt : Hid (∀ b, (Value.slice oa m oc).ownBlock = some b → w.heap.size ≤ b ∧ b < wr.heap.size) := hlt
      have k6 := heap_alloc_last w5 (.cells #[.int .i64 c, .int .i64 op, .slice b ln bc] 44)
      have HG6 : Hid (w5.grownBy (w5.alloc (.cells #[.int .i64 c, .int .i64 op, .slice b ln bc] 44)) (some R)) := gb_alloc (gb_refl _ _) _
      have HR6 : Hid (Reader B (w5.alloc (.cells #[.int .i64 c, .int .i64 op, .slice b ln bc] 44)) R q5) := h5.alloc _
      obtain ⟨B6, hB6⟩ : ∃ Z, w5.heap.size = Z := ⟨_, rfl⟩
      have hB6R : B6 ≠ R := by have := h5.2.1; omega
      have hs6 : Hid ((w5.alloc (.cells #[.int .i64 c, .int .i64 op, .slice b ln bc] 44)).heap.size = B6 + 1) := (by simp [hB6] : (w5.alloc (.cells #[.int .i64 c, .int .i64 op, .slice b ln bc] 44)).heap.size = B6 + 1)
      have hwB6 : w.heap.size ≤ B6 ∧ wr.heap.size ≤ B6 ∧ B ≤ B6 := by have := HZ.out; omega
      rw [hB6] at k6
      clear hl hbc hf O h5 g5 HL hlt hBr hs5
      go_upto_region 8 with fail
      generalize (w5.alloc (.cells #[.int .i64 c, .int .i64 op, .slice b ln bc] 44)) = W6 at k6 HG6 HR6 hs6 ⊢
      have K6 : Hid (W6.heap[B6]? = some (.cells #[.int .i64 c, .int .i64 op, .slice b ln bc] 44 (0, 0))) := k6
      clear k6
      obtain ⟨x0, x1, x2, y0, y1, y2⟩ := three_row K6.out
      go_wp2_with fail
      refine (has_s c W6).mono ?_
      rintro e w7 ⟨rfl, rfl⟩
      by_cases hh : hasB c = false
      · rw [hh]
        clear hh HO5
        have HL9 : Hid (LG w B R W6 q5 m (.slice oa m oc) ys) := HL5.out.move HG6.out HR6.out
        have HE9 : Hid (EG W6 w.heap.size (fun b => b ≠ R ∧ some b ≠ (Value.slice oa m oc).ownBlock) ⟨c, ⟨op, zs⟩⟩ [.int .i64 c, .int .i64 op, .slice b ln bc]) := HE5.out.move HG6.out (fun b _ _ b3 => by have := b3.1; simp; omega) (fun b _ _ b3 => b3)
        clear HL5 HE5 HG6 HR6
        obtain ⟨cs, own3, hpush⟩ := HL9.out.push hBw HE9.out (.cells #[.int .i64 c, .int .i64 op, .slice (b) ln bc] 44)
        have HPu : Hid (∀ (w5 : World) (g1 cap1 : Nat), w5.ownsRow w.heap.size 44 3 (.slice (some ⟨g1, 0, none⟩) (m + 1) cap1) (m + 1) (cs ++ [.int .i64 c, .int .i64 op, .slice (b) ln bc]) → (W6.alloc (.cells #[.int .i64 c, .int .i64 op, .slice (b) ln bc] 44)).grownBy w5 (Value.slice oa m oc).ownBlock → ((Value.slice oa m oc).ownBlock = some g1 ∨ g1 = (W6.alloc (.cells #[.int .i64 c, .int .i64 op, .slice (b) ln bc] 44)).heap.size) → LG w B R w5 q5 (m + 1) (.slice (some ⟨g1, 0, none⟩) (m + 1) cap1) (ys ++ [⟨c, ⟨op, zs⟩⟩])) := hpush
        have hs9 : w.heap.size ≤ W6.heap.size := HL9.out.2.1.size
        clear hpush HL9 HE9
        go_wp2_with (at_builtin; refine wpList_append_lies _ rfl _ _ 23 rfl w.heap.size 44 ti (.agg #[.int .i64 0, .int .i64 0, .slice none 0 0]) 3 40 Tryz.underlying23 hi hz0 hz1 hz2 rfl (by decide) _ m cs rfl own3 ⟨W6.heap.size, 0, none⟩ 1 1 [.int .i64 c, .int .i64 op, .slice (b) ln bc] rfl rfl (cell_three _ _ _ _ _) ?c2 (by omega) ?c3 ?c4 ?c5 _ rfl ?_)
        case c2 => intro u hu; simp at hu; rcases hu with rfl | rfl | rfl <;> rfl
        case c3 => unfold maxLen; omega
        case c4 => omega
        case c5 => simp; omega
        intro g' cap' wx ownx gx hatx hltx
        have HNx : Hid (LG w B R wx q5 (m + 1) (.slice (some ⟨g', 0, none⟩) (m + 1) cap') (ys ++ [⟨c, ⟨op, zs⟩⟩])) := HPu.out wx g' cap' ownx gx (by simpa using hatx)
        clear ownx gx hatx hltx HPu own3
        go_wp2
        go_roundw
        case rel => exact ⟨_, m + 1, cap', q5, t - 1, _, rfl, by congr 1; omega, by omega, by omega, HNx⟩
        case measure => simp [intOf]; omega
      have hh' : hasB c = true := by simpa using hh
      have hln : 1 ≤ ln := HO5.out.2.2.2.1 (by
        unfold hasB at hh'
        simp only [Bool.or_eq_true, beq_iff_eq] at hh'
        omega)
      rw [hh']
      clear hh hh'
      go_wp2_with fail
      refine (pick_r B R q5 3 W6 HR6.out (by omega) (by omega) (by omega)).mono ?_
      rintro e w8 ⟨r3, hr3, rfl, h8, g8⟩
      have k8 : w8.heap[B6]? = some (.cells #[.int .i64 c, .int .i64 op, .slice b ln bc] 44 (0, 0)) := (g8.block _ (by have := hs6.out; omega) (by simp; omega)).trans K6.out
      have hs8 : B6 < w8.heap.size := by have := g8.size; have := hs6.out; omega
      have HG8 : Hid (w5.grownBy w8 (some R)) := gb_pick HG6.out g8
      have HR8 : Hid (Reader B w8 R (q5 + 1)) := h8
      clear x0 x1 x2 y0 y1 y2 g8 h8 K6 HG6 HR6
      obtain ⟨x0, x1, x2, y0, y1, y2⟩ := three_row k8
      have K8 : Hid (w8.heap[B6]? = some (.cells #[.int .i64 c, .int .i64 op, .slice b ln bc] 44 (0, 0))) := k8
      clear k8
      by_cases r30 : r3 = 0
      rotate_left
      · have j3 : ((r3 : Int) == 0) = false := by simp; omega
        have n3 : ¬ (r3 : Int) = 0 := by omega
        clear HO5 K8
        have HL9 : Hid (LG w B R w8 (q5 + 1) m (.slice oa m oc) ys) := HL5.out.move HG8.out HR8.out
        have HE9 : Hid (EG w8 w.heap.size (fun b => b ≠ R ∧ some b ≠ (Value.slice oa m oc).ownBlock) ⟨c, ⟨op, zs⟩⟩ [.int .i64 c, .int .i64 op, .slice b ln bc]) := HE5.out.move HG8.out (fun b _ _ b3 => by have := b3.1; simp; omega) (fun b _ _ b3 => b3)
        clear HL5 HE5 HG8 HR8
        obtain ⟨cs, own3, hpush⟩ := HL9.out.push hBw HE9.out (.cells #[.int .i64 c, .int .i64 op, .slice (b) ln bc] 44)
        have HPu : Hid (∀ (w5 : World) (g1 cap1 : Nat), w5.ownsRow w.heap.size 44 3 (.slice (some ⟨g1, 0, none⟩) (m + 1) cap1) (m + 1) (cs ++ [.int .i64 c, .int .i64 op, .slice (b) ln bc]) → (w8.alloc (.cells #[.int .i64 c, .int .i64 op, .slice (b) ln bc] 44)).grownBy w5 (Value.slice oa m oc).ownBlock → ((Value.slice oa m oc).ownBlock = some g1 ∨ g1 = (w8.alloc (.cells #[.int .i64 c, .int .i64 op, .slice (b) ln bc] 44)).heap.size) → LG w B R w5 (q5 + 1) (m + 1) (.slice (some ⟨g1, 0, none⟩) (m + 1) cap1) (ys ++ [⟨c, ⟨op, zs⟩⟩])) := hpush
        have hs9 : w.heap.size ≤ w8.heap.size := HL9.out.2.1.size
        clear hpush HL9 HE9
        go_wp2_with (at_builtin; refine wpList_append_lies _ rfl _ _ 23 rfl w.heap.size 44 ti (.agg #[.int .i64 0, .int .i64 0, .slice none 0 0]) 3 40 Tryz.underlying23 hi hz0 hz1 hz2 rfl (by decide) _ m cs rfl own3 ⟨w8.heap.size, 0, none⟩ 1 1 [.int .i64 c, .int .i64 op, .slice (b) ln bc] rfl rfl (cell_three _ _ _ _ _) ?c2 (by omega) ?c3 ?c4 ?c5 _ rfl ?_)
        case c2 => intro u hu; simp at hu; rcases hu with rfl | rfl | rfl <;> rfl
        case c3 => unfold maxLen; omega
        case c4 => omega
        case c5 => simp; omega
        intro g' cap' wx ownx gx hatx hltx
        have HNx : Hid (LG w B R wx (q5 + 1) (m + 1) (.slice (some ⟨g', 0, none⟩) (m + 1) cap') (ys ++ [⟨c, ⟨op, zs⟩⟩])) := HPu.out wx g' cap' ownx gx (by simpa using hatx)
        clear ownx gx hatx hltx HPu own3
        go_wp2
        go_roundw
        case rel => exact ⟨_, m + 1, cap', (q5 + 1), t - 1, _, rfl, by congr 1; omega, by omega, by omega, HNx⟩
        case measure => simp [intOf]; omega
      subst r30
      obtain ⟨bb, bo, rfl, hbb, hops⟩ : ∃ bb bo, b = some ⟨bb, bo, none⟩ ∧ wr.heap.size ≤ bb ∧ Ops w5 bb bo zs := by
        rcases HO5.out.1 with h | ⟨bb, bo, h1, h2, h3⟩
        · have := HO5.out.2.1; rw [h] at this; simp at this; omega
        · exact ⟨bb, bo, h1, h2, h3⟩
      have hne : zs ≠ [] := fun e => by have := HO5.out.2.1; rw [e] at this; simp at this; omega
      have hops8 : Ops w8 bb bo zs := hops.grown HG8.out (by have := HZ.out; simp; omega)
      have hln12 : ln ≤ 12 := by have := HO5.out.2.1; have := HO5.out.2.2.2.2; omega
      have HZs : Hid (zs.length = ln ∧ ln ≤ bc) := ⟨HO5.out.2.1, HO5.out.2.2.1⟩
      have own0 : (w8.alloc (.cells #[] 72)).ownsRow w8.heap.size 72 3 (.slice (some ⟨w8.heap.size, 0, none⟩) 0 0) 0 [] := World.ownsRow_made (base := w8.heap.size) (e := 72) (size := 3) w8 #[] 0 (Nat.le_refl _) (by unfold maxLen; omega) rfl
      have news0 : ∀ j u, (vals zs)[j]? = some u → (w8.alloc (.cells #[] 72)).cell? ((⟨bb, bo, none⟩ : Addr).add j) = some u := vals_ops (hops8.alloc _)
      have hvl : (vals zs).length = ln * 3 := by rw [vals_len, HZs.out.1]
      have hlbc := HZs.out.2
      clear hops hops8 HO5 hne HE5
      go_upto_region 9 with fail
      go_wp2_with (at_builtin; refine wpList_append_lies _ rfl _ _ 40 rfl w8.heap.size 72 di (.agg #[.int .i64 0, .int .i64 0, .int .i64 0]) 3 24 Tryz.underlying40 ei ez0 ez1 ez2 rfl (by decide) _ 0 [] rfl own0 ⟨bb, bo, none⟩ ln bc (vals zs) rfl hvl news0 (vals_one zs) (by omega) ?c3 ?c4 ?c5 _ rfl ?_)
      case c3 => unfold maxLen; omega
      case c4 => omega
      case c5 => simp
      intro ga capa wa owna gra hata hlta
      have hga : w8.heap.size ≤ ga := (owna.lt ga rfl).1
      have hca := own_cap owna
      try simp only [Nat.zero_add] at owna hca
      try simp only [List.nil_append] at owna
      have HGa : Hid (w5.grownBy wa (some R)) := gb_then (gb_alloc HG8.out _) gra (fun j hj => .inl (by simp [Value.ownBlock] at hj; omega))
      have HRa : Hid (Reader B wa R (q5 + 1)) := (HR8.out.alloc _).kept gra (fun j hj => by simp [Value.ownBlock] at hj; omega)
      have ka : wa.heap[B6]? = some (.cells #[.int .i64 c, .int .i64 op, .slice (some ⟨bb, bo, none⟩) ln bc] 44 (0, 0)) := (gra.block _ (by simp; omega) (by simp [Value.ownBlock]; omega)).trans ((Below.heap_alloc _ _ _ (by omega)).trans K8.out)
      have HOa : Hid (wa.ownsRow w8.heap.size 72 3 (.slice (some ⟨ga, 0, none⟩) ln capa) ln (vals zs)) := owna
      have hsa : w8.heap.size ≤ wa.heap.size := by have := gra.size; simp at this; omega
      clear gra hata hlta owna news0 own0 K8 HG8 HR8 x0 x1 x2 y0 y1 y2
      go_wp2_with fail
      refine (pick_r B R (q5 + 1) ln wa HRa.out (by omega) (by omega) (by omega)).mono ?_
      rintro e wb ⟨j, hj, rfl, hb, gb⟩
      have HGb : Hid (w5.grownBy wb (some R)) := gb_pick HGa.out gb
      have HRb : Hid (Reader B wb R (q5 + 1 + 1)) := hb
      have kb : wb.heap[B6]? = some (.cells #[.int .i64 c, .int .i64 op, .slice (some ⟨bb, bo, none⟩) ln bc] 44 (0, 0)) := (gb.block _ (by omega) (by simp; omega)).trans ka
      have HOb : Hid (wb.ownsRow w8.heap.size 72 3 (.slice (some ⟨ga, 0, none⟩) ln capa) ln (vals zs)) := HOa.out.kept gb (.inr (by simp [Value.ownBlock]; omega))
      have hsb := gb.size
      clear gb hb ka HGa HRa HOa
      go_wp2_with fail
      refine (darg_r B R (q5 + 1 + 1) wb HRb.out (by omega)).mono ?_
      rintro e wc ⟨⟨k', n', m', bn', rfl⟩, ⟨q9, hq9, hc⟩, gc⟩
      have HBn : Hid (-3000000000 ≤ n' ∧ n' ≤ 3000000000) := bn'
      clear bn'
      have HGc : Hid (w5.grownBy wc (some R)) := gb_pick HGb.out gc
      have HRc : Hid (Reader B wc R q9) := hc
      have kc : wc.heap[B6]? = some (.cells #[.int .i64 c, .int .i64 op, .slice (some ⟨bb, bo, none⟩) ln bc] 44 (0, 0)) := (gc.block _ (by omega) (by simp; omega)).trans kb
      have ownc := HOb.out.kept gc (.inr (by simp [Value.ownBlock]; omega))
      have hsc := gc.size
      have Pc : Ops wc ga 0 zs := ops_vals (ownc.cells rfl)
      have hltc : ga < wc.heap.size := (ownc.lt ga rfl).2
      have Fc : ∀ j, wc.frozen? ⟨ga, j, none⟩ = false := fun j => ownc.frozenAt j
      have f0 : wc.frozen? ⟨ga, j * 3, none⟩ = false := Fc _
      have f1 : wc.frozen? ⟨ga, j * 3 + 1, none⟩ = false := Fc _
      have f2 : wc.frozen? ⟨ga, j * 3 + 2, none⟩ = false := Fc _
      have hjl : j < ln := by omega
      obtain ⟨⟨z1, z2, z3⟩, hzj⟩ : ∃ x, zs[j]? = some x := ⟨_, List.getElem?_eq_getElem (by have := HZs.out.1; omega)⟩
      obtain ⟨c0, c1, c2⟩ := Pc j _ hzj
      simp only [Nat.zero_add] at c0 c1 c2
      have P5 := Pc.put3 (k := j) (by have := HZs.out.1; omega) k' n' m'
      simp only [Nat.zero_add] at P5
      obtain ⟨W9, HW9⟩ : ∃ W, Hid (W = ((wc.setCell ⟨ga, j * 3, none⟩ (.int .i64 k')).setCell ⟨ga, j * 3 + 1, none⟩ (.int .i64 n')).setCell ⟨ga, j * 3 + 2, none⟩ (.int .i64 m')) := ⟨_, rfl⟩
      have hgB6 : ga ≠ B6 := by omega
      have k9 : W9.heap[B6]? = some (.cells #[.int .i64 c, .int .i64 op, .slice (some ⟨bb, bo, none⟩) ln bc] 44 (0, 0)) := by rw [HW9.out]; exact row_other (row_other (row_other kc _ _ hgB6 _) _ _ hgB6 _) _ _ hgB6 _
      have hs9 : W9.heap.size = wc.heap.size := by rw [HW9.out]; simp
      have HG9 : Hid (w5.grownBy W9 (some R)) := by rw [HW9.out]; exact gb_put (gb_put (gb_put HGc.out (by omega)) (by omega)) (by omega)
      have HR9 : Hid (Reader B W9 R q9) := by rw [HW9.out]; exact ((HRc.out.set _ _ _ (by omega)).set _ _ _ (by omega)).set _ _ _ (by omega)
      have HP9 : Hid (Ops W9 ga 0 (zs.set j (k', n', m'))) := by rw [HW9.out]; exact P5
      clear P5 Pc Fc hc gc kb HGb HRb HOb hzj
      have hgO : ∀ b, (Value.slice oa m oc).ownBlock = some b → b ≠ ga := fun b hb => by have := (HLt.out b hb).2; omega
      go_upto_region 12 with fail
      rw [← HW9.out]
      clear HW9 c0 c1 c2 f0 f1 f2 kc
      obtain ⟨x0, x1, x2, y0, y1, y2⟩ := three_row k9
      have K10 : Hid ((W9.setCell ⟨B6, 2, none⟩ (.slice (some ⟨ga, 0, none⟩) ln capa)).heap[B6]? = some (.cells #[.int .i64 c, .int .i64 op, .slice (some ⟨ga, 0, none⟩) ln capa] 44 (0, 0))) := row_put k9 2 _
      have HG10 : Hid (w5.grownBy (W9.setCell ⟨B6, 2, none⟩ (.slice (some ⟨ga, 0, none⟩) ln capa)) (some R)) := gb_put HG9.out (by omega)
      have HR10 : Hid (Reader B (W9.setCell ⟨B6, 2, none⟩ (.slice (some ⟨ga, 0, none⟩) ln capa)) R q9) := HR9.out.set _ _ _ (by omega)
      have HP10 : Hid (Ops (W9.setCell ⟨B6, 2, none⟩ (.slice (some ⟨ga, 0, none⟩) ln capa)) ga 0 (zs.set j (k', n', m'))) := HP9.out.other B6 2 (by omega) _
      have hs10 : (W9.setCell ⟨B6, 2, none⟩ (.slice (some ⟨ga, 0, none⟩) ln capa)).heap.size = W9.heap.size := by simp
      have hga10 : ga < W9.heap.size := by omega
      go_upto_region 13 with fail
      generalize (W9.setCell ⟨B6, 2, none⟩ (.slice (some ⟨ga, 0, none⟩) ln capa)) = W10 at K10 HG10 HR10 HP10 hs10 ⊢
      have HL9 : Hid (LG w B R W10 q9 m (.slice oa m oc) ys) := HL5.out.move HG10.out HR10.out
      have HE9 : Hid (EG W10 w.heap.size (fun b => b ≠ R ∧ some b ≠ (Value.slice oa m oc).ownBlock) ⟨c, ⟨op, zs.set j (k', n', m')⟩⟩ [.int .i64 c, .int .i64 op, .slice (some ⟨ga, 0, none⟩) ln capa]) := by
        have hz := HZs.out.1
        refine ⟨some ⟨ga, 0, none⟩, capa, ?_, ?_, ?_, .inr ⟨ga, 0, rfl, ⟨by omega, by omega, by omega, fun e => hgO ga e.symm rfl⟩, HP10.out⟩⟩
        · show [Value.int .i64 c, .int .i64 op, .slice (some ⟨ga, 0, none⟩) ln capa] = [Value.int .i64 c, .int .i64 op, .slice (some ⟨ga, 0, none⟩) (zs.set j (k', n', m')).length capa]
          rw [List.length_set, hz]
        · show (zs.set j (k', n', m')).length ≤ capa
          rw [List.length_set, hz]; exact hca
        · refine ⟨HFn.out.1, HFn.out.2.1, ?_, ?_⟩
          · show (zs.set j (k', n', m')).length ≤ 0 + 9
            rw [List.length_set]; exact HFn.out.2.2.1
          · intro x hx
            rcases List.mem_or_eq_of_mem_set hx with h | rfl
            · exact HFn.out.2.2.2 x h
            · exact HBn.out
      clear x0 x1 x2 y0 y1 y2 hs10 hga10 hs9 k9 HG9 HR9 HP9 HP10 HG10 HR10 HL5
      obtain ⟨x0, x1, x2, y0, y1, y2⟩ := three_row K10.out
      obtain ⟨cs, own3, hpush⟩ := HL9.out.push hBw HE9.out (.cells #[.int .i64 c, .int .i64 op, .slice (some ⟨ga, 0, none⟩) ln capa] 44)
      have HPu : Hid (∀ (w5 : World) (g1 cap1 : Nat), w5.ownsRow w.heap.size 44 3 (.slice (some ⟨g1, 0, none⟩) (m + 1) cap1) (m + 1) (cs ++ [.int .i64 c, .int .i64 op, .slice (some ⟨ga, 0, none⟩) ln capa]) → (W10.alloc (.cells #[.int .i64 c, .int .i64 op, .slice (some ⟨ga, 0, none⟩) ln capa] 44)).grownBy w5 (Value.slice oa m oc).ownBlock → ((Value.slice oa m oc).ownBlock = some g1 ∨ g1 = (W10.alloc (.cells #[.int .i64 c, .int .i64 op, .slice (some ⟨ga, 0, none⟩) ln capa] 44)).heap.size) → LG w B R w5 q9 (m + 1) (.slice (some ⟨g1, 0, none⟩) (m + 1) cap1) (ys ++ [⟨c, ⟨op, zs.set j (k', n', m')⟩⟩])) := hpush
      have hs9 : w.heap.size ≤ W10.heap.size := HL9.out.2.1.size
      clear hpush HL9 HE9
      go_wp2_with (at_builtin; refine wpList_append_lies _ rfl _ _ 23 rfl w.heap.size 44 ti (.agg #[.int .i64 0, .int .i64 0, .slice none 0 0]) 3 40 Tryz.underlying23 hi hz0 hz1 hz2 rfl (by decide) _ m cs rfl own3 ⟨W10.heap.size, 0, none⟩ 1 1 [.int .i64 c, .int .i64 op, .slice (some ⟨ga, 0, none⟩) ln capa] rfl rfl (cell_three _ _ _ _ _) ?c2 (by omega) ?c3 ?c4 ?c5 _ rfl ?_)
      case c2 => intro u hu; simp at hu; rcases hu with rfl | rfl | rfl <;> rfl
      case c3 => unfold maxLen; omega
      case c4 => omega
      case c5 => simp; omega
      intro g' cap' wx ownx gx hatx hltx
      have HNx : Hid (LG w B R wx q9 (m + 1) (.slice (some ⟨g', 0, none⟩) (m + 1) cap') (ys ++ [⟨c, ⟨op, zs.set j (k', n', m')⟩⟩])) := HPu.out wx g' cap' ownx gx (by simpa using hatx)
      clear ownx gx hatx hltx HPu own3
      go_wp2
      go_roundw
      case rel => exact ⟨_, m + 1, cap', q9, t - 1, _, rfl, by congr 1; omega, by omega, by omega, HNx⟩
      case measure => simp [intOf]; omega
    · have HF : Hid (ListG w B R p 4000 250100 (.returned (.slice oa m oc)) wr) := ⟨oa, m, oc, q, ys, rfl, HL.out.2.2.1, by omega, by omega, HL.out.2.2.2, HL.out.1, HL.out.2.1⟩
      clear HL
      go_wp2
      go_ret
      exact HF.out
end Go.Proofs.YtcihplachlokiaaGreatDoor.Rr
