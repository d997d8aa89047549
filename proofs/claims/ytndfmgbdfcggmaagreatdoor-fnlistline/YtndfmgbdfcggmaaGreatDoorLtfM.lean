/- An instruction, and two lists, one or nearly, are drawn. -/
import Derived.Test.YtndfmgbdfcggmaaGreatDoorZuM
import Derived.Test.YtndfmgbdfcggmaaGreatDoorYnM
import Derived.Test.YtndfmgbdfcggmaaGreatDoorZc
import Derived.Deep.QuietTactic
import Derived.BigQuiet
import Derived.Lib.QuietBelow
namespace Go.Proofs.YtndfmgbdfcggmaaGreatDoor
open Go.RowKit Go.Shelf
set_option linter.unusedVariables false

theorem eqL_self (xs : List InstT) : eqB xs xs = true := eqB_true.2 rfl
theorem EF.up {LB LB' : Nat} {W : World} {H : Nat} {ok : Nat → Prop} {x : InstT} {c : List Value} (hl : LB ≤ LB') (h : EF LB W H ok x c) : EF LB' W H ok x c := by
  obtain ⟨a, cap, e1, e2, e3, e4⟩ := h
  exact ⟨a, cap, e1, e2, ⟨e3.1, e3.2.1, Nat.le_trans e3.2.2.1 (by omega), e3.2.2.2⟩, e4⟩
theorem RD.up {LB LB' : Nat} {W : World} {H pb : Nat} {v : Value} {xs : List InstT} (hl : LB ≤ LB') (h : RD LB W H pb v xs) : RD LB' W H pb v xs := by
  obtain ⟨h1, cs, h2, h3⟩ := h
  exact ⟨h1, cs, h2.move fun f x c _ hh => ⟨hh.1, EF.up hl hh.2⟩, h3⟩
theorem RD.cap {LB : Nat} {W : World} {H pb : Nat} {a : Option Addr} {n cap : Nat} {xs : List InstT} (h : RD LB W H pb (.slice a n cap) xs) : n ≤ cap := by
  obtain ⟨_, cs, _, h3⟩ := h
  rcases h3.2 with ⟨e, _⟩ | ⟨g, cap', cur, e, _, _, h4, _⟩
  · simp only [Value.slice.injEq] at e; omega
  · simp only [Value.slice.injEq] at e; omega
set_option maxRecDepth 10000 in
set_option maxHeartbeats 8000000 in
/-- A list is drawn, one in sixteen spoilt. -/
theorem lany_r (w : World) (B R p : Nat) (h : Reader B w R p) (hp : p < 200000) :
    Calls Tryz.prog 20 #[.pointer (some ⟨R, 0, none⟩)] w fun e w' => ListR 0 w B R p 4000 250000 e w' := by
  have hRB := h.1
  have hBw := h.2.1
  have HR : Hid (Reader B w R p) := h
  clear h
  go_enter Tryz.func20, Tryz.ntmps20
  go_wp2_with fail
  refine (sure_r (LB := 0) w B R p HR.out (by omega)).mono ?_
  rintro e w3 ⟨b, n, cp, q, xs, rfl, hn, hn2, hq, hx, h3, g3, h8⟩
  have hs3 := g3.size
  have HX : Hid (RD 0 w3 w.heap.size R (.slice b n cp) xs) := hx
  have HR3 : Hid (Reader B w3 R q) := h3
  have HG3 : Hid (w.grownBy w3 (some R)) := g3
  have H8 : Hid (∀ x ∈ xs, x.one.args.length ≤ 8) := h8
  clear hx h3 g3 h8
  go_wp2_with fail
  refine (pick_r B R q 16 w3 HR3.out (by omega) (by omega) (by omega)).mono ?_
  rintro e w4 ⟨t, t1, rfl, h4, g4⟩
  have hs4 := g4.size
  have HX4 : Hid (RD 0 w4 w.heap.size R (.slice b n cp) xs) := HX.out.move g4 (fun j hj => by cases hj; omega)
  have HR4 : Hid (Reader B w4 R (q + 1)) := h4
  have HG4 : Hid (w.grownBy w4 (some R)) := gb_pick HG3.out g4
  clear h4 g4 HX HR3 HG3
  by_cases ht : t = 0
  · subst ht
    have HS : Hid (Calls Tryz.prog 46 #[.pointer (some ⟨R, 0, none⟩), .slice b n cp] w4 fun e w' => ListH 0 w.heap.size w4 B R (q + 1) (2800 + 1) 1500 e w') := lspoil_r (by omega) 2800 (by omega) (by omega) w4 B R (q + 1) w.heap.size HR4.out (by omega) (by omega) b n cp xs hn hn2 HX4.out (fun x hx => by have := H8.out x hx; omega) (by omega)
    go_wp2_with fail
    refine HS.out.mono ?_
    rintro e w5 ⟨b5, n5, cp5, q5, xs5, rfl, hn5, hn52, hq5, hx5, h5, g5⟩
    have HF : Hid (ListR 0 w B R p 4000 250000 (.returned (.slice b5 n5 cp5)) w5) := ⟨b5, n5, cp5, q5, xs5, rfl, hn5, by omega, by omega, hx5, h5, gb_pick HG4.out g5⟩
    clear hn5 hx5 h5 g5 HS
    go_wp2
    go_ret
    exact HF.out
  · have i1 : ((t : Int) == 0) = false := by simp; omega
    have HF : Hid (ListR 0 w B R p 4000 250000 (.returned (.slice b n cp)) w4) := ⟨b, n, cp, q + 1, xs, rfl, hn, by omega, by omega, HX4.out, HR4.out, HG4.out⟩
    clear hn
    go_wp2
    go_ret
    exact HF.out
/-- Two drawn lists. -/
def PairR (w : World) (e : Ending) (w' : World) : Prop :=
  ∃ (a : Option Addr) (n cap : Nat) (xs : List InstT) (a2 : Option Addr) (n2 cap2 : Nat) (ys : List InstT), e = .returned (.tuple #[.slice a n cap, .slice a2 n2 cap2]) ∧ Hid (n = xs.length ∧ InstsIs w' 0 (.slice a n cap) xs) ∧ Hid (n2 = ys.length ∧ InstsIs w' 0 (.slice a2 n2 cap2) ys) ∧ n ≤ cap ∧ n2 ≤ cap2 ∧ n ≤ 8000 ∧ n2 ≤ 8000 ∧ Below w.heap.size w w'
theorem pair_of {w w' : World} {a a2 : Option Addr} {n cap n2 cap2 H H2 R R2 LB LB2 : Nat} {xs ys : List InstT} (hn : n = xs.length) (hn2 : n2 = ys.length) (h1 : RD LB w' H R (.slice a n cap) xs) (h2 : RD LB2 w' H2 R2 (.slice a2 n2 cap2) ys) (l1 : LB ≤ 1000) (l2 : LB2 ≤ 1000) (m1 : n ≤ 8000) (m2 : n2 ≤ 8000) (g : Below w.heap.size w w') : PairR w (.returned (.tuple #[.slice a n cap, .slice a2 n2 cap2])) w' :=
  ⟨a, n, cap, xs, a2, n2, cap2, ys, rfl, ⟨hn, RD.is l1 h1 (by omega)⟩, ⟨hn2, RD.is l2 h2 (by omega)⟩, h1.cap, h2.cap, m1, m2, g⟩
set_option maxRecDepth 10000 in
set_option maxHeartbeats 8000000 in
theorem drawlsame_r {a : Option Addr} {len cap blk off : Nat} {z : Nat → Int} (w : World) (h : Code0 w a len cap blk off z) :
    Calls Tryz.prog 19 #[.slice a len cap] w fun e w' => PairR w e w' := by
  go_enter Tryz.func19, Tryz.ntmps19
  go_wp2_with fail
  refine h.open.mono ?_
  rintro e w1 ⟨rfl, h1, g1⟩
  have hB1 := h1.2.1
  have HR : Hid (Reader (w.heap.size + 1) w1 w.heap.size 0) := h1
  have HG : Hid (Below w.heap.size w w1) := g1
  clear h h1 g1
  go_wp2_with fail
  refine (lany_r w1 _ _ 0 HR.out (by omega)).mono ?_
  rintro e w3 ⟨b, n, cp, q, xs, rfl, hn, hn2, hq, hx, h3, g3⟩
  have hs3 := g3.size
  have HX3 : Hid (RD 0 w3 w1.heap.size w.heap.size (.slice b n cp) xs) := hx
  have HG3 : Hid (Below w.heap.size w w3) := HG.out.grown g3 (by omega) (fun j hj => by cases hj; omega)
  have HR3 : Hid (Reader (w.heap.size + 1) w3 w.heap.size q) := h3
  clear hx h3 g3 HR HG
  go_wp2_with fail
  refine (pick_r _ _ q 2 w3 HR3.out (by omega) (by omega) (by omega)).mono ?_
  rintro e w4 ⟨t, t1, rfl, h4, g4⟩
  have hs4 := g4.size
  have HX4 : Hid (RD 0 w4 w1.heap.size w.heap.size (.slice b n cp) xs) := HX3.out.move g4 (fun j hj => by cases hj; omega)
  have HR4 : Hid (Reader (w.heap.size + 1) w4 w.heap.size (q + 1)) := h4
  have HG4 : Hid (Below w.heap.size w w4) := HG3.out.grown g4 (by omega) (fun j hj => by cases hj; omega)
  clear h4 g4 HX3 HR3 HG3
  by_cases ht : t = 0
  · subst ht
    have HS : Hid (Calls Tryz.prog 46 #[.pointer (some ⟨w.heap.size, 0, none⟩), .slice b n cp] w4 fun e w' => ListH 1 w1.heap.size w4 (w.heap.size + 1) w.heap.size (q + 1) (4000 + 1) 1500 e w') := lspoil_r (by omega) 4000 (by omega) (by omega) w4 _ _ (q + 1) w1.heap.size HR4.out (by omega) (by omega) b n cp xs hn hn2 (RD.up (by omega) HX4.out) (fun x hx => (HX4.out.fin x hx).2.2.1) (by omega)
    go_wp2_with fail
    refine HS.out.mono ?_
    rintro e w5 ⟨b5, n5, cp5, q5, ys, rfl, hn5, hn52, hq5, hx5, h5, g5⟩
    have HF : Hid (PairR w (.returned (.tuple #[.slice b n cp, .slice b5 n5 cp5])) w5) := pair_of hn.out hn5.out (HX4.out.move g5 (fun j hj => by cases hj; omega)) hx5 (by omega) (by omega) (by omega) (by omega) (HG4.out.grown g5 (by omega) (fun j hj => by cases hj; omega))
    clear hn5 hx5 h5 g5 HS
    go_wp2
    go_ret2
    exact HF.out
  · have i1 : ((t : Int) == 0) = false := by simp; omega
    obtain ⟨cs, hcl, hone, hown, hefi⟩ := HX4.out.cells
    have hnl := hn.out
    have own0 : (w4.alloc (.cells #[] 31)).ownsRow w1.heap.size 31 3 (.slice (some ⟨w4.heap.size, 0, none⟩) 0 0) 0 [] := World.ownsRow_made (base := w1.heap.size) (e := 31) (size := 3) w4 #[] 0 (by omega) (by unfold maxLen; omega) rfl
    obtain ⟨g, cpn, w5, hr1, own1, gg1, hg1⟩ := app_list (w4.alloc (.cells #[] 31)) w1.heap.size w4.heap.size 0 0 n cp [] cs b own0 (by rw [hcl, hnl]) hone (by omega) (by simp; omega) (fun h0 => by
      rcases hown.2 with ⟨_, hz⟩ | ⟨g', cap', cur, e', hb, hgg, _⟩
      · omega
      · simp only [Value.slice.injEq] at e'
        obtain ⟨rfl, _, _⟩ := e'
        refine ⟨g', 0, rfl, fun j u hu => ?_⟩
        have := hown.cells (g := g') rfl j u hu
        rw [show (⟨g', 0, none⟩ : Addr).add j = ⟨g', 0 + j, none⟩ from Addr.add_mid g' 0 j] at this
        exact (Keeps.of_below ((Below.refl _ _).alloc (Nat.le_refl _) _) 0) _ _ _ (Nat.zero_le _) this)
    simp only [Nat.zero_add, List.nil_append] at hr1 own1
    have B1 : Below w4.heap.size w4 w5 := ((Below.refl _ _).alloc (Nat.le_refl _) _).grown gg1 (by simp) (fun j hj => by cases hj; omega)
    have hgw : w4.heap.size ≤ g := by
      rcases hg1 with h | h
      · omega
      · simp at h; omega
    have hRD5 : RD 0 w5 w1.heap.size w.heap.size (.slice (some ⟨g, 0, none⟩) n cpn) xs := by
      have := RD.copied hefi B1 (by rw [← hnl]; exact own1) hgw (by omega)
      rw [hnl]; exact this
    have HR1 : Hid (∀ ty, (Builtin.append_ #[23, 23] ty #[.slice (some ⟨w4.heap.size, 0, none⟩) 0 0, .slice b n cp]).run Tryz.prog (w4.alloc (.cells #[] 31)) = .ok (.slice (some ⟨g, 0, none⟩) n cpn) w5) := hr1
    have HF : Hid (PairR w (.returned (.tuple #[.slice b n cp, .slice (some ⟨g, 0, none⟩) n cpn])) w5) := pair_of hnl hnl (HX4.out.move (gb_below B1 : w4.grownBy w5 none) (fun j hj => by cases hj)) hRD5 (by omega) (by omega) (by omega) (by omega) (HG4.out.trans (B1.mono HG4.out.size))
    clear hcl hone hown hefi own0 hr1 own1 gg1 hg1 B1 hgw hRD5 hn hnl
    go_wp2_with (at_builtin; refine wpList_app_run rfl (.tmp 18) (.tmp 19) 23 rfl (.slice (some ⟨w4.heap.size, 0, none⟩) 0 0) (.slice b n cp) rfl rfl (.slice (some ⟨g, 0, none⟩) n cpn) w5 HR1.out ?_)
    go_ret2
    exact HF.out
/-- A drawn instruction. -/
def LineR (w : World) (e : Ending) (w' : World) : Prop :=
  ∃ (c op : Int) (b : Option Addr) (ln bc : Nat) (ys : List Arg), e = .returned (.agg #[.int .i64 c, .int .i64 op, .slice b ln bc]) ∧ Hid (ln = ys.length ∧ ln ≤ bc ∧ InstIs w' 0 ⟨c, ⟨op, ys⟩⟩ [.int .i64 c, .int .i64 op, .slice b ln bc]) ∧ Below w.heap.size w w'
theorem line_end {w W : World} {LB H : Nat} {c op : Int} {b : Option Addr} {ln bc : Nat} {ys : List Arg} (u0 u1 u2 : Value) (hl : ln = ys.length) (hbc : ln ≤ bc) (hLB : LB ≤ 1000) (hf : Fin1 LB ⟨c, ⟨op, ys⟩⟩) (O : Own W H b ys) (hH : w.heap.size < H) (g : Below w.heap.size w W) :
    LineR w (.returned (.agg #[.int .i64 c, .int .i64 op, .slice b ln bc])) (((W.setCell ⟨w.heap.size, 0, none⟩ u0).setCell ⟨w.heap.size, 1, none⟩ u1).setCell ⟨w.heap.size, 2, none⟩ u2) := by
  have O3 := own_set3 (H' := H) u0 u1 u2 O hH (Nat.le_refl _)
  have hE : EF LB (((W.setCell ⟨w.heap.size, 0, none⟩ u0).setCell ⟨w.heap.size, 1, none⟩ u1).setCell ⟨w.heap.size, 2, none⟩ u2) H (fun _ => True) ⟨c, ⟨op, ys⟩⟩ [.int .i64 c, .int .i64 op, .slice b ln bc] := by
    rw [hl]
    exact EF.of (x := ⟨c, ⟨op, ys⟩⟩) (by show ys.length ≤ bc; omega) hf O3 (Nat.le_refl _) (fun _ _ => trivial)
  have g1 : Below w.heap.size w (((W.setCell ⟨w.heap.size, 0, none⟩ u0).setCell ⟨w.heap.size, 1, none⟩ u1).setCell ⟨w.heap.size, 2, none⟩ u2) := ((g.setCell (p := ⟨w.heap.size, 0, none⟩) (Nat.le_refl _) u0).setCell (p := ⟨w.heap.size, 1, none⟩) (Nat.le_refl _) u1).setCell (p := ⟨w.heap.size, 2, none⟩) (Nat.le_refl _) u2
  exact ⟨c, op, b, ln, bc, ys, rfl, ⟨hl, hbc, EF.is hLB hE⟩, g1⟩
set_option maxRecDepth 10000 in
set_option maxHeartbeats 8000000 in
theorem drawlline_r {a : Option Addr} {len cap blk off : Nat} {z : Nat → Int} (w : World) (h : Code0 w a len cap blk off z) :
    Calls Tryz.prog 17 #[.slice a len cap] w fun e w' => LineR w e w' := by
  have hh0 : Code0 (w.alloc (.cells #[.int .i64 0, .int .i64 0, .slice none 0 0] 31)) a len cap blk off z := h.later ((Below.refl _ _).alloc (Nat.le_refl _) _)
  have kA : (w.alloc (.cells #[.int .i64 0, .int .i64 0, .slice none 0 0] 31)).heap[w.heap.size]? = some (.cells #[.int .i64 0, .int .i64 0, .slice none 0 0] 31 (0, 0)) := heap_alloc_last w _
  have HO : Hid (Calls Tryz.prog 21 #[.slice a len cap] (w.alloc (.cells #[.int .i64 0, .int .i64 0, .slice none 0 0] 31)) fun e w' => e = .returned (.pointer (some ⟨w.heap.size + 1, 0, none⟩)) ∧ Reader (w.heap.size + 1 + 1) w' (w.heap.size + 1) 0 ∧ Below (w.heap.size + 1) (w.alloc (.cells #[.int .i64 0, .int .i64 0, .slice none 0 0] 31)) w') := by
    have := hh0.open
    simp only [World.size_alloc] at this
    exact this
  clear h hh0
  go_enter Tryz.func17, Tryz.ntmps17
  go_wp2_with fail
  refine HO.out.mono ?_
  rintro e w1 ⟨rfl, h1, g1⟩
  have hB1 := h1.2.1
  have HR1 : Hid (Reader (w.heap.size + 1 + 1) w1 (w.heap.size + 1) 0) := h1
  have HGA1 : Hid ((w.alloc (.cells #[.int .i64 0, .int .i64 0, .slice none 0 0] 31)).grownBy w1 (some (w.heap.size + 1))) := ⟨g1.os, g1.tape, g1.output, g1.size, fun k hk _ => g1.block k (by simpa using hk)⟩
  have HG1 : Hid (Below w.heap.size w w1) := ((Below.refl _ _).alloc (Nat.le_refl _) _).trans (g1.mono (by omega))
  clear h1 g1 HO
  go_wp2_with fail
  refine (inst_r (LB := 0) _ _ 0 w1 HR1.out (by omega)).mono ?_
  rintro e w2 ⟨⟨c, op, b, ln, bc, ys, rfl, hl, hbc, hf, O⟩, ⟨q, hq, h2⟩, g2⟩
  have hs2 := g2.size
  obtain ⟨W2, HW2⟩ : ∃ W, Hid (W = w2.alloc (.cells #[.int .i64 c, .int .i64 op, .slice b ln bc] 31)) := ⟨_, rfl⟩
  have HS2 : Hid ((storeVar 31 ⟨w2.heap.size, 0, none⟩ (.agg #[.int .i64 c, .int .i64 op, .slice b ln bc])).run Tryz.prog (w2.alloc (.cells #[.int .i64 0, .int .i64 0, .slice none 0 0] 31)) = .ok () W2) := by
    rw [HW2.out]
    exact run_storeVar_new w2 31 _ _ (by kernel_rfl) rfl (all_one [.int .i64 c, .int .i64 op, .slice b ln bc] (by intro d hd; simp at hd; rcases hd with rfl | rfl | rfl <;> rfl))
  have kT : W2.heap[w2.heap.size]? = some (.cells #[.int .i64 c, .int .i64 op, .slice b ln bc] 31 (0, 0)) := by rw [HW2.out]; exact heap_alloc_last w2 _
  have HR2 : Hid (Reader (w.heap.size + 1 + 1) W2 (w.heap.size + 1) q) := by rw [HW2.out]; exact h2.alloc _
  have gW2 : w2.grownBy W2 (some (w.heap.size + 1)) := by rw [HW2.out]; exact World.grownBy_alloc _ _ _
  have HGA2 : Hid ((w.alloc (.cells #[.int .i64 0, .int .i64 0, .slice none 0 0] 31)).grownBy W2 (some (w.heap.size + 1))) := (HGA1.out.trans g2).trans gW2
  have HG2 : Hid (Below w.heap.size w W2) := (HG1.out.grown g2 (by omega) (fun j hj => by cases hj; omega)).grown gW2 (by omega) (fun j hj => by cases hj; omega)
  have O2 : Own W2 w1.heap.size b ys := by rw [HW2.out]; exact O.later ((Below.refl _ _).alloc (Nat.le_refl _) _)
  have HOw : Hid (Own W2 w1.heap.size b ys) := O2
  have hw2 : w2.heap.size < W2.heap.size := (Array.getElem?_eq_some_iff.1 kT).1
  have HFn : Hid (Fin1 0 ⟨c, ⟨op, ys⟩⟩ ∧ ln = ys.length) := ⟨hf, hl.out⟩
  clear h2 g2 gW2 O O2 HGA1 HG1 HR1 HW2 hf hl
  go_wp2_with (first | (refine wpL_store rfl 31 _ _ rfl _ _ rfl _ rfl _ HS2.out ?_) | fail)
  refine (pick_r _ _ q 8 W2 HR2.out (by omega) (by omega) (by omega)).mono ?_
  rintro e w3 ⟨t, t1, rfl, h3, g3⟩
  have hs3 := g3.size
  have HGA3 : Hid ((w.alloc (.cells #[.int .i64 0, .int .i64 0, .slice none 0 0] 31)).grownBy w3 (some (w.heap.size + 1))) := HGA2.out.trans g3
  have HG3 : Hid (Below w.heap.size w w3) := HG2.out.grown g3 (by omega) (fun j hj => by cases hj; omega)
  have O3 : Own w3 w1.heap.size b ys := HOw.out.grown g3 (by omega)
  have hneT : w2.heap.size ≠ w.heap.size := by omega
  have hneT' : w.heap.size ≠ w2.heap.size := by omega
  by_cases ht : t = 0
  · subst ht
    have HR3 : Hid (Reader (w.heap.size + 1 + 1) w3 (w.heap.size + 1) (q + 1)) := h3
    have kT3 : W2.grownBy w3 (some (w.heap.size + 1)) := g3
    clear h3 g3 HS2 HOw HGA2 HG2 HR2
    go_wp2_with fail
    refine (any4_r _ _ (q + 1) w3 HR3.out (by omega)).mono ?_
    rintro e w4 ⟨⟨op4, b4, len4, bc4, zs, rfl, o41, o42, l4, c4, L4, bd4, O4⟩, ⟨q4, hq4, h4⟩, g4⟩
    obtain ⟨⟨k0, k1, k2⟩, j0, j1, j2⟩ := three_at kT (kT3.trans g4) (by simp; omega)
    obtain ⟨⟨m0, m1, m2⟩, f0, f1, f2⟩ := three_at kA (HGA3.out.trans g4) (by simp)
    have HG4 : Hid (Below w.heap.size w w4) := HG3.out.grown g4 (by omega) (fun j hj => by cases hj; omega)
    have HL4 : Hid (len4 = zs.length) := l4
    have n0 : ((w4.setCell ⟨w2.heap.size, 1, none⟩ (.int .i64 op4)).setCell ⟨w2.heap.size, 2, none⟩ (.slice b4 len4 bc4)).cell? ⟨w.heap.size, 0, none⟩ = some (.int .i64 0) := (World.cell?_setCell_other _ _ _ _ (by first | (simp; done) | (simp; omega))).trans ((World.cell?_setCell_other _ _ _ _ (by first | (simp; done) | (simp; omega))).trans m0)
    have n1 : ((w4.setCell ⟨w2.heap.size, 1, none⟩ (.int .i64 op4)).setCell ⟨w2.heap.size, 2, none⟩ (.slice b4 len4 bc4)).cell? ⟨w.heap.size, 1, none⟩ = some (.int .i64 0) := (World.cell?_setCell_other _ _ _ _ (by first | (simp; done) | (simp; omega))).trans ((World.cell?_setCell_other _ _ _ _ (by first | (simp; done) | (simp; omega))).trans m1)
    have n2 : ((w4.setCell ⟨w2.heap.size, 1, none⟩ (.int .i64 op4)).setCell ⟨w2.heap.size, 2, none⟩ (.slice b4 len4 bc4)).cell? ⟨w.heap.size, 2, none⟩ = some (.slice none 0 0) := (World.cell?_setCell_other _ _ _ _ (by first | (simp; done) | (simp; omega))).trans ((World.cell?_setCell_other _ _ _ _ (by first | (simp; done) | (simp; omega))).trans m2)
    obtain ⟨t0, t1', t2⟩ := three_put (.int .i64 c) (.int .i64 op4) (.slice b4 len4 bc4) ⟨n0, n1, n2⟩
    have HF : Hid (LineR w (.returned (.agg #[.int .i64 c, .int .i64 op4, .slice b4 len4 bc4])) (((((w4.setCell ⟨w2.heap.size, 1, none⟩ (.int .i64 op4)).setCell ⟨w2.heap.size, 2, none⟩ (.slice b4 len4 bc4)).setCell ⟨w.heap.size, 0, none⟩ (.int .i64 c)).setCell ⟨w.heap.size, 1, none⟩ (.int .i64 op4)).setCell ⟨w.heap.size, 2, none⟩ (.slice b4 len4 bc4))) :=
      line_end (LB := 0) (H := w3.heap.size) _ _ _ l4 c4 (by omega) ⟨HFn.out.1.1, ⟨o41, o42⟩, by show zs.length ≤ 0 + 9; omega, bd4⟩ (own_set2 _ _ O4 (by omega)) (by omega) ((HG4.out.setCell (p := ⟨w2.heap.size, 1, none⟩) (by show w.heap.size ≤ w2.heap.size; omega) _).setCell (p := ⟨w2.heap.size, 2, none⟩) (by show w.heap.size ≤ w2.heap.size; omega) _)
    clear g4 h4 O4 O3 HG4 HG3 HGA3 kT kA kT3 l4 bd4 n0 n1 n2
    go_wp2
    exact bodyPost_ret (v := .agg #[.int .i64 c, .int .i64 op4, .slice b4 len4 bc4]) (by simp [results, Tryz.results17, go_sem, t0, t1', t2]) rfl HF.out
  · have i1 : ((t : Int) == 0) = false := by simp; omega
    obtain ⟨⟨k0, k1, k2⟩, j0, j1, j2⟩ := three_at kT g3 (by simp; omega)
    obtain ⟨⟨m0, m1, m2⟩, f0, f1, f2⟩ := three_at kA HGA3.out (by simp)
    obtain ⟨t0, t1', t2⟩ := three_put (.int .i64 c) (.int .i64 op) (.slice b ln bc) ⟨m0, m1, m2⟩
    have HF : Hid (LineR w (.returned (.agg #[.int .i64 c, .int .i64 op, .slice b ln bc])) (((w3.setCell ⟨w.heap.size, 0, none⟩ (.int .i64 c)).setCell ⟨w.heap.size, 1, none⟩ (.int .i64 op)).setCell ⟨w.heap.size, 2, none⟩ (.slice b ln bc))) :=
      line_end (LB := 0) (H := w1.heap.size) _ _ _ HFn.out.2 hbc (by omega) HFn.out.1 O3 (by omega) HG3.out
    clear g3 h3 O3 HG3 HGA3 kT kA HS2 HOw HGA2 HG2 HR2
    go_wp2
    exact bodyPost_ret (v := .agg #[.int .i64 c, .int .i64 op, .slice b ln bc]) (by simp [results, Tryz.results17, go_sem, t0, t1', t2]) rfl HF.out
end Go.Proofs.YtndfmgbdfcggmaaGreatDoor
/- The law FnListLine. -/
namespace Go.Proofs.YtndfmgbdfcggmaaGreatDoor
open Go.RowKit Go.Shelf
set_option linter.unusedVariables false

/-- An element of a list that is loaded. -/
theorem inst_load {W : World} {lo : Nat} {a : Option Addr} {n cap : Nat} {xs : List InstT} {i : Nat} {x : InstT} (h : InstsIs W lo (.slice a n cap) xs) (hx : xs[i]? = some x) :
    ∃ (b o : Nat) (c : Option Addr) (ln cc : Nat), a = some ⟨b, o, none⟩ ∧ ln = x.one.args.length ∧ Sl W c x.one.args ∧ (∀ W', Below W.heap.size W W' → (loadVar 31 ⟨b, o + i * 3, none⟩).run Tryz.prog W' = .ok (.agg #[.int .i64 x.code, .int .i64 x.one.op, .slice c ln cc]) W') ∧ (∀ W', Below W.heap.size W W' → W'.cell? ⟨b, o + i * 3, none⟩ = some (.int .i64 x.code) ∧ W'.cell? ⟨b, o + i * 3 + 1, none⟩ = some (.int .i64 x.one.op) ∧ W'.cell? ⟨b, o + i * 3 + 2, none⟩ = some (.slice c ln cc)) := by
  obtain ⟨a', cap', e, hl, hr⟩ := h
  simp only [Value.slice.injEq] at e
  obtain ⟨rfl, rfl, rfl⟩ := e
  obtain ⟨b, o, cs, rfl, _, hcs, hrg, v, rfl, hv⟩ := hr i x hx
  obtain ⟨c, cc, rfl, hl2, hx2⟩ := id hv
  obtain ⟨h1, h2⟩ := sl_of hv
  exact ⟨b, o, c, x.one.args.length, cc, rfl, rfl, h2, fun W' g => run_loadVar_mid W' b (o + i * 3) 31 [.int .i64 x.code, .int .i64 x.one.op, .slice c x.one.args.length cc] _ (fun i c hi => (Keeps.of_below g 0) _ _ _ (Nat.zero_le _) (hrg i c hi)) Tryz.underlying31 rfl (by kernel_rfl), fun W' g => ⟨(Keeps.of_below g 0) _ _ _ (Nat.zero_le _) (hrg 0 _ rfl), (Keeps.of_below g 0) _ _ _ (Nat.zero_le _) (hrg 1 _ rfl), (Keeps.of_below g 0) _ _ _ (Nat.zero_le _) (hrg 2 _ rfl)⟩⟩
/-- What ListParse hands back, as the law's walk takes it. -/
def PQ (xs : List InstT) (ln cd : Int) (W : World) (e : Ending) (w' : World) : Prop := ∃ (a : Option Addr) (m cp : Nat), e = .returned (.tuple #[.slice a m cp, .agg #[.int .i64 ln, .int .i64 cd]]) ∧ Hid (m = xs.length ∧ InstsIs w' 0 (.slice a m cp) xs) ∧ Below W.heap.size W w'
theorem pq_of {s : ByteArray} {xs : List InstT} {ln cd : Int} (hp : parseT s = (xs, ln, cd)) {W : World} {e : Ending} {w' : World} (h : PR s W e w') : PQ xs ln cd W e w' := by
  obtain ⟨ys, l', c', F, a, m, cp, h1, h2, h3, h4, h5, h6⟩ := h
  rw [hp] at h1
  simp only [Prod.mk.injEq] at h1
  obtain ⟨rfl, rfl, rfl⟩ := h1
  have hI := h3.is (lo := 0) (Nat.zero_le _)
  refine ⟨a, m, cp, h2, ⟨?_, hI⟩, h6⟩
  obtain ⟨a', cap', e', _⟩ := hI
  simp only [Value.slice.injEq] at e'
  exact e'.2.1
theorem range_later {W W' : World} {b o : Nat} {l : List Value} (h : W.rangeAt b o l) (g : Below W.heap.size W W') : W'.rangeAt b o l := fun i c hi => (Keeps.of_below g 0) _ _ _ (Nat.zero_le _) (h i c hi)
theorem inst_new (w : World) (c op : Int) (b : Option Addr) (ln bc : Nat) : ∃ W, Hid ((storeVar 31 ⟨w.heap.size, 0, none⟩ (.agg #[.int .i64 c, .int .i64 op, .slice b ln bc])).run Tryz.prog (w.alloc (.cells #[.int .i64 0, .int .i64 0, .slice none 0 0] 31)) = .ok () W) ∧ Hid (W.rangeAt w.heap.size 0 [.int .i64 c, .int .i64 op, .slice b ln bc]) ∧ Below w.heap.size w W ∧ w.heap.size < W.heap.size := by
  refine ⟨w.alloc (.cells #[.int .i64 c, .int .i64 op, .slice b ln bc] 31), ?_, ?_, (Below.refl _ _).alloc (Nat.le_refl _) _, by simp⟩
  · exact run_storeVar_new w 31 _ _ (by kernel_rfl) rfl (all_one [.int .i64 c, .int .i64 op, .slice b ln bc] (by intro d hd; simp at hd; rcases hd with rfl | rfl | rfl <;> rfl))
  · intro i c hi
    rw [Nat.zero_add, cell_of_row _ _ _ _ _ _ (heap_alloc_last w _)]
    simpa using hi
theorem inst_loadn {W : World} {g : Nat} {c op : Int} {b : Option Addr} {ln bc : Nat} (h : W.rangeAt g 0 [.int .i64 c, .int .i64 op, .slice b ln bc]) : (loadVar 31 ⟨g, 0, none⟩).run Tryz.prog W = .ok (.agg #[.int .i64 c, .int .i64 op, .slice b ln bc]) W := run_loadVar_mid W g 0 31 [.int .i64 c, .int .i64 op, .slice b ln bc] _ h Tryz.underlying31 rfl (by kernel_rfl)
/-- One element of a list, as a list. -/
theorem insts_part {W : World} {lo b o n cap : Nat} {xs : List InstT} {i : Nat} {x : InstT} (h : InstsIs W lo (.slice (some ⟨b, o, none⟩) n cap) xs) (hx : xs[i]? = some x) (c' : Nat) : InstsIs W lo (.slice (some ⟨b, o + i * 3, none⟩) 1 c') [x] := by
  obtain ⟨a', cap', e, hl, hr⟩ := h
  simp only [Value.slice.injEq] at e
  obtain ⟨rfl, rfl, rfl⟩ := e
  obtain ⟨b2, o2, cs, e2, h2, hcs, hrg, hI⟩ := hr i x hx
  simp only [Option.some.injEq, Addr.mk.injEq] at e2
  obtain ⟨rfl, rfl, _⟩ := e2
  refine ⟨_, c', rfl, by simp, fun j y hy => ?_⟩
  match j, hy with
  | 0, hy => cases hy; exact ⟨b, o + i * 3, cs, rfl, h2, hcs, by simpa using hrg, hI⟩
  | (j + 1), hy => simp at hy
theorem insts_one {W : World} {g : Nat} {x : InstT} {cs : List Value} (h3 : cs.length = 3) (h : W.rangeAt g 0 cs) (hI : InstIs W 0 x cs) (c' : Nat) : InstsIs W 0 (.slice (some ⟨g, 0, none⟩) 1 c') [x] := by
  refine ⟨_, c', rfl, by simp, fun j y hy => ?_⟩
  match j, hy with
  | 0, hy => cases hy; exact ⟨g, 0, cs, rfl, Nat.zero_le _, h3, by simpa using h, hI⟩
  | (j + 1), hy => simp at hy
theorem parse_empty : parseT ⟨#[]⟩ = ([], 0, 0) := by
  unfold parseT
  rw [if_neg (by decide)]
  show pf [[]] 0 [] = _
  rw [pf, if_pos lwords_nil, pf]
theorem instIs_move {W W' : World} {x : InstT} {cs : List Value} (h : InstIs W 0 x cs) (g : Below W.heap.size W W') : InstIs W' 0 x cs := by
  obtain ⟨v, e, hv⟩ := h
  exact ⟨v, e, argsIs_move (Keeps.of_below g 0) (Nat.le_refl _) hv⟩

set_option maxRecDepth 10000 in
set_option maxHeartbeats 8000000 in
theorem law_lline {a : Option Addr} {len cap blk off : Nat} {zz : Nat → Int} (w : World) (hT : Tabs w) (hL : LT w) (hM : ML w) (hH : EH w) (h : Code0 w a len cap blk off zz) :
    Calls Tryz.prog 5 #[.slice a len cap] w fun e w' => e = .returned (.bool true) ∧ Below w.heap.size w w' := by
  have hl := h.short
  have HTs : Hid (∀ W, Below w.heap.size w W → Tabs W ∧ LT W ∧ ML W ∧ EH W) := fun W g => ⟨hT.later g, hL.later g, hM.later g, hH.later g⟩
  have HCo : Hid (Code0 w a len cap blk off zz) := h
  clear hT hL hM hH h
  go_enter Tryz.func5, Tryz.ntmps5
  go_wp2_with fail
  refine (drawlline_r w HCo.out).mono ?_
  rintro e w1 ⟨c, op, b, ln, bc, ys, rfl, HL1, g1⟩
  obtain ⟨W1, HS1, HR1, gW1, hs1⟩ := inst_new w1 c op b ln bc
  have HG1 : Hid (Below w.heap.size w W1) := g1.trans (gW1.mono g1.size)
  have HI1 : Hid (∀ W, Below W1.heap.size W1 W → InstIs W 0 ⟨c, ⟨op, ys⟩⟩ [.int .i64 c, .int .i64 op, .slice b ln bc]) := fun W g => instIs_move (instIs_move HL1.out.2.2 gW1) g
  have HSl : Hid (∀ W, Below W1.heap.size W1 W → Sl W b ys) := fun W g => by
    obtain ⟨v, e, hv⟩ := HI1.out W g
    simp only [List.cons.injEq, and_true, true_and] at e
    subst e
    exact (sl_of hv).2
  have HRg : Hid (∀ W, Below W1.heap.size W1 W → W.rangeAt w1.heap.size 0 [.int .i64 c, .int .i64 op, .slice b ln bc]) := fun W g => range_later HR1.out g
  have HBw : Hid (∀ W, Below W1.heap.size W1 W → Below w.heap.size w W) := fun W g => HG1.out.trans (g.mono HG1.out.size)
  have Hln : Hid (ln = ys.length) := HL1.out.1
  obtain ⟨L, HLL⟩ : ∃ L, Hid (L = lineT c op ys) := ⟨_, rfl⟩
  obtain ⟨Q, HQ⟩ : ∃ Q, Hid (Q = okI c op ys) := ⟨_, rfl⟩
  have hcmp : (L.toList == L.toList) = true := beq_self_eq_true _
  have HLi : Hid (∀ W, Below W1.heap.size W1 W → Calls Tryz.prog 16 #[.agg #[.int .i64 c, .int .i64 op, .slice b ln bc]] W fun e w' => e = .returned (.string L) ∧ Below W.heap.size W w') := fun W g => by
    rw [HLL.out]; exact line_i c op b ys ln bc Hln.out W (HTs.out W (HBw.out W g)).1 (HTs.out W (HBw.out W g)).2.1 (HSl.out W g)
  have HLs : Hid (∀ W, Below W1.heap.size W1 W → Calls Tryz.prog 18 #[.agg #[.int .i64 c, .int .i64 op, .slice b ln bc]] W fun e w' => e = .returned (.string L) ∧ Below W.heap.size W w') := fun W g => by
    rw [HLL.out]; exact line_s c op b ys ln bc Hln.out W (HSl.out W g)
  have HOs : Hid (∀ W, Below W1.heap.size W1 W → Calls Tryz.prog 9 #[.agg #[.int .i64 c, .int .i64 op, .slice b ln bc]] W fun e w' => e = .returned (.bool Q) ∧ Below W.heap.size W w') := fun W g => by
    rw [HQ.out]; exact ok_s c op b ys ln bc Hln.out W (HSl.out W g)
  have HLd1 : Hid ((loadVar 31 ⟨w1.heap.size, 0, none⟩).run Tryz.prog W1 = .ok (.agg #[.int .i64 c, .int .i64 op, .slice b ln bc]) W1) := inst_loadn HR1.out
  have HLq : Hid ((L.toList == []) = !Q) := by
    show (L.toList == []) = !Q
    rw [HLL.out, HQ.out]
    cases hq : okI c op ys with
    | true =>
      rw [Bool.not_true, beq_eq_false_iff_ne]
      exact lineT_some hq
    | false => rw [lineT_none hq, Lib.toList_data]; rfl
  clear g1 gW1 HL1 HR1
  go_wp2_with (first | (refine wpL_store rfl 31 _ _ rfl _ _ rfl _ rfl _ HS1.out ?_) | (refine wpL_load rfl 31 _ rfl _ _ rfl _ HLd1.out ?_) | fail)
  refine (HLi.out W1 (Below.refl _ _)).mono ?_
  rintro e w2 ⟨rfl, g2⟩
  have HG2 : Hid (Below W1.heap.size W1 w2) := g2
  have HLd2 : Hid ((loadVar 31 ⟨w1.heap.size, 0, none⟩).run Tryz.prog w2 = .ok (.agg #[.int .i64 c, .int .i64 op, .slice b ln bc]) w2) := inst_loadn (HRg.out w2 g2)
  clear g2 HS1 HLd1
  go_wp2_with (first | (refine wpL_load rfl 31 _ rfl _ _ rfl _ HLd2.out ?_) | fail)
  refine (HLs.out w2 HG2.out).mono ?_
  rintro e w3 ⟨rfl, g3⟩
  have HG3 : Hid (Below W1.heap.size W1 w3) := HG2.out.trans (g3.mono HG2.out.size)
  have k0 : w3.cell? ⟨w1.heap.size, 0, none⟩ = some (.int .i64 c) := (HRg.out w3 HG3.out) 0 _ rfl
  have k1 : w3.cell? ⟨w1.heap.size, 1, none⟩ = some (.int .i64 op) := (HRg.out w3 HG3.out) 1 _ rfl
  have k2 : w3.cell? ⟨w1.heap.size, 2, none⟩ = some (.slice b ln bc) := (HRg.out w3 HG3.out) 2 _ rfl
  have hLq := HLq.out
  clear g3 HLd2 HG2
  go_wp2_with fail
  refine (HOs.out w3 HG3.out).mono ?_
  rintro e w4 ⟨rfl, g4⟩
  have HG4 : Hid (Below W1.heap.size W1 w4) := HG3.out.trans (g4.mono HG3.out.size)
  have hq2 : (Q == Q) = true := by simp
  have hq3 : (!(!Q)) = Q := by simp
  have HC4 : Hid (Calls Tryz.prog 19 #[.slice a len cap] w4 fun e w' => PairR w4 e w') := drawlsame_r w4 (HCo.out.later (HBw.out w4 HG4.out))
  clear g4 k0 k1 k2 HG3 HLs HOs HLi HCo
  go_wp2_with fail
  refine HC4.out.mono ?_
  rintro e w5 ⟨a1, n1, c1, xs, a2, n2, c2, zs, rfl, HX1, HX2, hc1, hc2, hn1, hn2, g5⟩
  have HG5 : Hid (Below W1.heap.size W1 w5) := HG4.out.trans (g5.mono HG4.out.size)
  have HIx : Hid (∀ W, Below w5.heap.size w5 W → InstsIs W 0 (.slice a1 n1 c1) xs) := fun W g => instsIs_move (Keeps.of_below g 0) (Nat.le_refl _) HX1.out.2
  have HIz : Hid (∀ W, Below w5.heap.size w5 W → InstsIs W 0 (.slice a2 n2 c2) zs) := fun W g => instsIs_move (Keeps.of_below g 0) (Nat.le_refl _) HX2.out.2
  have Hnx : Hid (n1 = xs.length) := HX1.out.1
  have Hnz : Hid (n2 = zs.length) := HX2.out.1
  have HB5 : Hid (∀ W, Below w5.heap.size w5 W → Below W1.heap.size W1 W) := fun W g => HG5.out.trans (g.mono HG5.out.size)
  clear g5 HC4 HX1 HX2 HG4
  go_wp2
  go_loopg [7] n1 (fun gk kv wr => ∃ k : Nat, k + gk = n1 ∧ kv = .int .i64 k ∧ Hid (Below w5.heap.size w5 wr))
  case atStart => exact ⟨0, by omega, rfl, Below.refl _ _⟩
  case round =>
    obtain ⟨k, hk, rfl, HB⟩ := hrel
    by_cases h1 : k < n1
    · have i1 : (k : Int) < (n1 : Int) := by omega
      have i3 : (0 : Int) ≤ (k : Int) := by omega
      by_cases h2 : k < n2
      · have i2 : (k : Int) < (n2 : Int) := by omega
        obtain ⟨⟨kc, ko, kl⟩, hx⟩ : ∃ x, xs[k]? = some x := ⟨_, List.getElem?_eq_getElem (by have := Hnx.out; omega)⟩
        obtain ⟨⟨jc, jo, jl⟩, hy⟩ : ∃ x, zs[k]? = some x := ⟨_, List.getElem?_eq_getElem (by have := Hnz.out; omega)⟩
        obtain ⟨b', o, cx, lx, ccx, rfl, hlx, hsx, hldx, hclx⟩ := inst_load (HIx.out wr HB.out) hx
        obtain ⟨b2, o2, cy, ly, ccy, rfl, hly, hsy, hldy, hcly⟩ := inst_load (HIz.out wr HB.out) hy
        obtain ⟨LX, HLX⟩ : ∃ L, Hid (L = lineT kc ko kl) := ⟨_, rfl⟩
        obtain ⟨LY, HLY⟩ : ∃ L, Hid (L = lineT jc jo jl) := ⟨_, rfl⟩
        have HTw : Hid (∀ W, Below wr.heap.size wr W → Tabs W ∧ LT W ∧ ML W ∧ EH W) := fun W g => HTs.out W (HBw.out W (HB5.out W (HB.out.trans (g.mono HB.out.size))))
        have HLd : Hid ((loadVar 31 ⟨b', o + k * 3, none⟩).run Tryz.prog wr = .ok (.agg #[.int .i64 kc, .int .i64 ko, .slice cx lx ccx]) wr) := hldx wr (Below.refl _ _)
        have HLx : Hid (Calls Tryz.prog 16 #[.agg #[.int .i64 kc, .int .i64 ko, .slice cx lx ccx]] wr fun e w' => e = .returned (.string LX) ∧ Below wr.heap.size wr w') := by
          rw [HLX.out]; exact line_i kc ko cx kl lx ccx hlx wr (HTw.out wr (Below.refl _ _)).1 (HTw.out wr (Below.refl _ _)).2.1 hsx
        have HLy : Hid (∀ W, Below wr.heap.size wr W → Calls Tryz.prog 16 #[.agg #[.int .i64 jc, .int .i64 jo, .slice cy ly ccy]] W fun e w' => e = .returned (.string LY) ∧ Below W.heap.size W w') := fun W g => by
          rw [HLY.out]; exact line_i jc jo cy jl ly ccy hly W (HTw.out W g).1 (HTw.out W g).2.1 (hsy.later g)
        obtain ⟨Z, HZ⟩ : ∃ Z : Bool, Hid (Z = eqB [(⟨kc, ko, kl⟩ : InstT)] [⟨jc, jo, jl⟩]) := ⟨_, rfl⟩
        have HSm : Hid (∀ W, Below wr.heap.size wr W → Calls Tryz.prog 11 #[.slice (some ⟨b', o + k * 3, none⟩) 1 (c1 - k), .slice (some ⟨b2, o2 + k * 3, none⟩) 1 (c2 - k)] W fun e w' => e = .returned (.bool Z) ∧ Below W.heap.size W w') := fun W g => by
          have gg := HB.out.trans (g.mono HB.out.size)
          rw [HZ.out]
          exact i_listsame _ _ _ _ W 0 0 (insts_part (HIx.out W gg) hx _) (insts_part (HIz.out W gg) hy _)
        have HCy : Hid (∀ W', Below wr.heap.size wr W' → W'.cell? ⟨b2, o2 + k * 3, none⟩ = some (.int .i64 jc) ∧ W'.cell? ⟨b2, o2 + k * 3 + 1, none⟩ = some (.int .i64 jo) ∧ W'.cell? ⟨b2, o2 + k * 3 + 2, none⟩ = some (.slice cy ly ccy)) := hcly
        have HRy : Hid (∀ W', Below wr.heap.size wr W' → (loadVar 31 ⟨b2, o2 + k * 3, none⟩).run Tryz.prog W' = .ok (.agg #[.int .i64 jc, .int .i64 jo, .slice cy ly ccy]) W') := hldy
        have HLZ : Hid (okI kc ko kl = true → (LX.toList == LY.toList) = Z) := fun hok => by
          rw [HLX.out, HLY.out, HZ.out]
          by_cases he : (⟨kc, ko, kl⟩ : InstT) = ⟨jc, jo, jl⟩
          · rw [he, eqL_self]
            simp only [InstT.mk.injEq, ElemT.mk.injEq] at he
            rw [he.1, he.2.1, he.2.2]
            exact beq_self_eq_true _
          · rw [eqB_false (a := [(⟨kc, ko, kl⟩ : InstT)]) (b := [⟨jc, jo, jl⟩]) (fun h => he (List.cons.inj h).1), beq_eq_false_iff_ne]
            exact fun h => he (lineB_inj (x := ⟨kc, ko, kl⟩) (y := ⟨jc, jo, jl⟩) hok (ba_eq h))
        clear hx hy hlx hly hsx hsy hldx hldy hclx hcly
        go_wp2_with (first | (refine wpL_load rfl 31 _ rfl _ _ rfl _ HLd.out ?_) | fail)
        refine HLx.out.mono ?_
        rintro e w6 ⟨rfl, g6⟩
        have HG6 : Hid (Below wr.heap.size wr w6) := g6
        have cL : ∀ d os, Calls Tryz.prog 16 #[.agg #[.int .i64 jc, .int .i64 jo, .slice cy ly ccy]] (Sort.grow (redrawn w6 d) os) fun e w'' => e = .returned (.string LY) ∧ ∃ p : Regrown, w'' = Sort.grow (redrawn w6 p.d) p.os :=
          fun d os => Calls.regrown_of (HLy.out _ (HG6.out.trans ((below_regrown w6 d os).mono HG6.out.size)))
        have cS : ∀ d os, Calls Tryz.prog 11 #[.slice (some ⟨b', o + k * 3, none⟩) 1 (c1 - k), .slice (some ⟨b2, o2 + k * 3, none⟩) 1 (c2 - k)] (Sort.grow (redrawn w6 d) os) fun e w'' => e = .returned (.bool Z) ∧ ∃ p : Regrown, w'' = Sort.grow (redrawn w6 p.d) p.os :=
          fun d os => Calls.regrown_of (HSm.out _ (HG6.out.trans ((below_regrown w6 d os).mono HG6.out.size)))
        have k0 : ∀ d os, (Sort.grow (redrawn w6 d) os).cell? ⟨b2, o2 + k * 3, none⟩ = some (.int .i64 jc) := fun d os => (HCy.out _ (HG6.out.trans ((below_regrown w6 d os).mono HG6.out.size))).1
        have k1 : ∀ d os, (Sort.grow (redrawn w6 d) os).cell? ⟨b2, o2 + k * 3 + 1, none⟩ = some (.int .i64 jo) := fun d os => (HCy.out _ (HG6.out.trans ((below_regrown w6 d os).mono HG6.out.size))).2.1
        have k2 : ∀ d os, (Sort.grow (redrawn w6 d) os).cell? ⟨b2, o2 + k * 3 + 2, none⟩ = some (.slice cy ly ccy) := fun d os => (HCy.out _ (HG6.out.trans ((below_regrown w6 d os).mono HG6.out.size))).2.2
        have s1 : (k : Int) + 1 ≤ (c1 : Int) := by omega
        have s2 : (k : Int) + 1 ≤ (c2 : Int) := by omega
        have s3 : k ≤ c1 := by omega
        have s4 : k ≤ c2 := by omega
        have HQk : Hid (okI kc ko kl = false → LX = ⟨#[]⟩) := fun hq => by rw [HLX.out]; exact lineT_none hq
        have HQs : Hid (okI kc ko kl = true → (LX.toList == []) = false) := fun hq => by rw [beq_eq_false_iff_ne, HLX.out]; exact lineT_some hq
        clear g6 HLx HLy HSm HCy HLd
        cases hok : okI kc ko kl with
        | true =>
          have hLX := HQs.out hok
          have hLZ := HLZ.out hok
          clear hok HQs HQk HLZ
          go_upto_region 12 with fail
          refine wp_region_quiet_below (by kernel_rfl) (by kernel_rfl) ?_
          repeat go_big_quiet_step (first | with_reducible exact cL _ _ | with_reducible exact cS _ _)
          refine wpQuiet_nil ?_
          intro w7 hw'
          have g7 : Below w6.heap.size w6 w7 := by
            obtain ⟨⟨dq, osq⟩, rfl⟩ := hw'
            exact below_regrown w6 dq osq
          have HF : Hid (Below w5.heap.size w5 w7) := HB.out.trans ((HG6.out.trans (g7.mono HG6.out.size)).mono HB.out.size)
          clear hw' g7 cL cS k0 k1 k2
          go_wp2
          go_roundg (gk - 1)
          case measure => omega
          case rel => exact ⟨k + 1, by omega, by simp, HF⟩
        | false =>
          have hLX := HQk.out hok
          clear hok HQs HQk HLZ HLX
          subst hLX
          go_upto_region 12 with fail
          refine wp_region_quiet_below (by kernel_rfl) (by kernel_rfl) ?_
          repeat go_big_quiet_step (first | fail)
          refine wpQuiet_nil ?_
          intro w7 hw'
          have g7 : Below w6.heap.size w6 w7 := by
            obtain ⟨⟨dq, osq⟩, rfl⟩ := hw'
            exact below_regrown w6 dq osq
          have HF : Hid (Below w5.heap.size w5 w7) := HB.out.trans ((HG6.out.trans (g7.mono HG6.out.size)).mono HB.out.size)
          clear hw' g7 cL cS k0 k1 k2
          go_wp2
          go_roundg (gk - 1)
          case measure => omega
          case rel => exact ⟨k + 1, by omega, by simp, HF⟩
      · have i2 : ¬ ((k : Int) < (n2 : Int)) := by omega
        have HGr : Hid (Below W1.heap.size W1 wr) := HB5.out wr HB.out
        have HTr : Hid (Tabs wr ∧ LT wr ∧ ML wr ∧ EH wr) := HTs.out wr (HBw.out wr HGr.out)
        have hLs : L.size ≤ 400 := by rw [HLL.out]; have := lineT_max c op ys; omega
        cases hq : okI c op ys with
        | true =>
          have hQ : Q = true := HQ.out.trans hq
          have HP : Hid (Calls Tryz.prog 10 #[.string L] wr fun e w' => PQ [⟨c, ⟨op, ys⟩⟩] 0 0 wr e w') := (parse_i L wr (by omega) HTr.out.1 HTr.out.2.1 HTr.out.2.2.1 HTr.out.2.2.2).mono fun e w' h => pq_of (by rw [HLL.out]; exact parse_line (x := ⟨c, ⟨op, ys⟩⟩) hq) h
          have hL0 : (L.toList == []) = false := by rw [HLq.out, hQ]; rfl
          clear hq hQ HQ hLq HLq hq2 hq3
          go_wp2_with fail
          refine HP.out.mono ?_
          rintro e w7 ⟨a7, m7, cp7, rfl, HI7, g7⟩
          obtain ⟨W7, HW7⟩ : ∃ W, Hid (W = w7.alloc (.cells #[.int .i64 0, .int .i64 0] 33)) := ⟨_, rfl⟩
          have gW7 : Below w7.heap.size w7 W7 := by rw [HW7.out]; exact (Below.refl _ _).alloc (Nat.le_refl _) _
          have HR7 : Hid (W7.rangeAt w7.heap.size 0 [.int .i64 0, .int .i64 0]) := fun i v hi => by
            rw [HW7.out, Nat.zero_add, cell_of_row _ _ _ _ _ _ (heap_alloc_last w7 _)]
            simpa using hi
          have HG7 : Hid (Below W1.heap.size W1 W7) := HGr.out.trans ((g7.trans (gW7.mono g7.size)).mono HGr.out.size)
          have cB1 : W7.cell? ⟨w7.heap.size, 1, none⟩ = some (.int .i64 0) := HR7.out 1 _ rfl
          have q0 : W7.cell? ⟨w1.heap.size, 0, none⟩ = some (.int .i64 c) := (HRg.out W7 HG7.out) 0 _ rfl
          have q1 : W7.cell? ⟨w1.heap.size, 1, none⟩ = some (.int .i64 op) := (HRg.out W7 HG7.out) 1 _ rfl
          have q2 : W7.cell? ⟨w1.heap.size, 2, none⟩ = some (.slice b ln bc) := (HRg.out W7 HG7.out) 2 _ rfl
          have hm7 : m7 = 1 := HI7.out.1
          subst hm7
          have gA : Below W7.heap.size W7 (W7.alloc (.cells #[.int .i64 c, .int .i64 op, .slice b ln bc] 31)) := (Below.refl _ _).alloc (Nat.le_refl _) _
          have HSm : Hid (Calls Tryz.prog 11 #[.slice a7 1 cp7, .slice (some ⟨W7.heap.size, 0, none⟩) 1 1] (W7.alloc (.cells #[.int .i64 c, .int .i64 op, .slice b ln bc] 31)) fun e w' => e = .returned (.bool true) ∧ Below (W7.alloc (.cells #[.int .i64 c, .int .i64 op, .slice b ln bc] 31)).heap.size (W7.alloc (.cells #[.int .i64 c, .int .i64 op, .slice b ln bc] 31)) w') := by
            have h1 : InstsIs (W7.alloc (.cells #[.int .i64 c, .int .i64 op, .slice b ln bc] 31)) 0 (.slice a7 1 cp7) [⟨c, ⟨op, ys⟩⟩] := instsIs_move (Keeps.of_below (gW7.trans (gA.mono gW7.size)) 0) (Nat.le_refl _) HI7.out.2
            have h2 : InstsIs (W7.alloc (.cells #[.int .i64 c, .int .i64 op, .slice b ln bc] 31)) 0 (.slice (some ⟨W7.heap.size, 0, none⟩) 1 1) [⟨c, ⟨op, ys⟩⟩] := insts_one (cs := [.int .i64 c, .int .i64 op, .slice b ln bc]) rfl (fun i v hi => by
              rw [Nat.zero_add, cell_of_row _ _ _ _ _ _ (heap_alloc_last W7 _)]
              simpa using hi) (HI1.out _ (HG7.out.trans (gA.mono HG7.out.size))) 1
            have hq := i_listsame _ _ _ _ _ 0 0 h1 h2
            rw [eqL_self] at hq
            exact hq
          have HFa : Hid (∀ W, Below (W7.alloc (.cells #[.int .i64 c, .int .i64 op, .slice b ln bc] 31)).heap.size (W7.alloc (.cells #[.int .i64 c, .int .i64 op, .slice b ln bc] 31)) W → Below w.heap.size w W) := fun W g => HBw.out W ((HG7.out.trans (gA.mono HG7.out.size)).trans (g.mono (HG7.out.trans (gA.mono HG7.out.size)).size))
          clear g7 gW7 gA HI7 HP HR7
          go_upto_region 15 with fail
          rw [← HW7.out]
          clear HW7
          go_wp2_with fail
          refine HSm.out.mono ?_
          rintro e w8 ⟨rfl, g8⟩
          have HF : Hid (Below w.heap.size w w8) := HFa.out w8 g8
          clear g8 HSm cB1 q0 q1 q2
          go_wp2
          go_ret
          exact ⟨rfl, HF.out⟩
        | false =>
          have hL0 : L = ⟨#[]⟩ := by rw [HLL.out]; exact lineT_none hq
          have HP : Hid (Calls Tryz.prog 10 #[.string L] wr fun e w' => PQ [] 0 0 wr e w') := (parse_i L wr (by omega) HTr.out.1 HTr.out.2.1 HTr.out.2.2.1 HTr.out.2.2.2).mono fun e w' h => pq_of (by rw [hL0]; exact parse_empty) h
          clear hq HQ hLq HLq hq2 hq3 HLL hcmp hLs
          subst hL0
          go_wp2_with fail
          refine HP.out.mono ?_
          rintro e w7 ⟨a7, m7, cp7, rfl, HI7, g7⟩
          have gW7 : Below w7.heap.size w7 (w7.alloc (.cells #[.int .i64 0, .int .i64 0] 33)) := (Below.refl _ _).alloc (Nat.le_refl _) _
          have HF : Hid (Below w.heap.size w (w7.alloc (.cells #[.int .i64 0, .int .i64 0] 33))) := HBw.out _ (HGr.out.trans ((g7.trans (gW7.mono g7.size)).mono HGr.out.size))
          clear g7 gW7 HI7 HP
          go_wp2
          go_ret
          exact ⟨rfl, HF.out⟩
    · have i1 : ¬ ((k : Int) < (n1 : Int)) := by omega
      have HGr : Hid (Below W1.heap.size W1 wr) := HB5.out wr HB.out
      have HTr : Hid (Tabs wr ∧ LT wr ∧ ML wr ∧ EH wr) := HTs.out wr (HBw.out wr HGr.out)
      have hLs : L.size ≤ 400 := by rw [HLL.out]; have := lineT_max c op ys; omega
      cases hq : okI c op ys with
      | true =>
        have hQ : Q = true := HQ.out.trans hq
        have HP : Hid (Calls Tryz.prog 10 #[.string L] wr fun e w' => PQ [⟨c, ⟨op, ys⟩⟩] 0 0 wr e w') := (parse_i L wr (by omega) HTr.out.1 HTr.out.2.1 HTr.out.2.2.1 HTr.out.2.2.2).mono fun e w' h => pq_of (by rw [HLL.out]; exact parse_line (x := ⟨c, ⟨op, ys⟩⟩) hq) h
        have hL0 : (L.toList == []) = false := by rw [HLq.out, hQ]; rfl
        clear hq hQ HQ hLq HLq hq2 hq3
        go_wp2_with fail
        refine HP.out.mono ?_
        rintro e w7 ⟨a7, m7, cp7, rfl, HI7, g7⟩
        obtain ⟨W7, HW7⟩ : ∃ W, Hid (W = w7.alloc (.cells #[.int .i64 0, .int .i64 0] 33)) := ⟨_, rfl⟩
        have gW7 : Below w7.heap.size w7 W7 := by rw [HW7.out]; exact (Below.refl _ _).alloc (Nat.le_refl _) _
        have HR7 : Hid (W7.rangeAt w7.heap.size 0 [.int .i64 0, .int .i64 0]) := fun i v hi => by
          rw [HW7.out, Nat.zero_add, cell_of_row _ _ _ _ _ _ (heap_alloc_last w7 _)]
          simpa using hi
        have HG7 : Hid (Below W1.heap.size W1 W7) := HGr.out.trans ((g7.trans (gW7.mono g7.size)).mono HGr.out.size)
        have cB1 : W7.cell? ⟨w7.heap.size, 1, none⟩ = some (.int .i64 0) := HR7.out 1 _ rfl
        have q0 : W7.cell? ⟨w1.heap.size, 0, none⟩ = some (.int .i64 c) := (HRg.out W7 HG7.out) 0 _ rfl
        have q1 : W7.cell? ⟨w1.heap.size, 1, none⟩ = some (.int .i64 op) := (HRg.out W7 HG7.out) 1 _ rfl
        have q2 : W7.cell? ⟨w1.heap.size, 2, none⟩ = some (.slice b ln bc) := (HRg.out W7 HG7.out) 2 _ rfl
        have hm7 : m7 = 1 := HI7.out.1
        subst hm7
        have gA : Below W7.heap.size W7 (W7.alloc (.cells #[.int .i64 c, .int .i64 op, .slice b ln bc] 31)) := (Below.refl _ _).alloc (Nat.le_refl _) _
        have HSm : Hid (Calls Tryz.prog 11 #[.slice a7 1 cp7, .slice (some ⟨W7.heap.size, 0, none⟩) 1 1] (W7.alloc (.cells #[.int .i64 c, .int .i64 op, .slice b ln bc] 31)) fun e w' => e = .returned (.bool true) ∧ Below (W7.alloc (.cells #[.int .i64 c, .int .i64 op, .slice b ln bc] 31)).heap.size (W7.alloc (.cells #[.int .i64 c, .int .i64 op, .slice b ln bc] 31)) w') := by
          have h1 : InstsIs (W7.alloc (.cells #[.int .i64 c, .int .i64 op, .slice b ln bc] 31)) 0 (.slice a7 1 cp7) [⟨c, ⟨op, ys⟩⟩] := instsIs_move (Keeps.of_below (gW7.trans (gA.mono gW7.size)) 0) (Nat.le_refl _) HI7.out.2
          have h2 : InstsIs (W7.alloc (.cells #[.int .i64 c, .int .i64 op, .slice b ln bc] 31)) 0 (.slice (some ⟨W7.heap.size, 0, none⟩) 1 1) [⟨c, ⟨op, ys⟩⟩] := insts_one (cs := [.int .i64 c, .int .i64 op, .slice b ln bc]) rfl (fun i v hi => by
            rw [Nat.zero_add, cell_of_row _ _ _ _ _ _ (heap_alloc_last W7 _)]
            simpa using hi) (HI1.out _ (HG7.out.trans (gA.mono HG7.out.size))) 1
          have hq := i_listsame _ _ _ _ _ 0 0 h1 h2
          rw [eqL_self] at hq
          exact hq
        have HFa : Hid (∀ W, Below (W7.alloc (.cells #[.int .i64 c, .int .i64 op, .slice b ln bc] 31)).heap.size (W7.alloc (.cells #[.int .i64 c, .int .i64 op, .slice b ln bc] 31)) W → Below w.heap.size w W) := fun W g => HBw.out W ((HG7.out.trans (gA.mono HG7.out.size)).trans (g.mono (HG7.out.trans (gA.mono HG7.out.size)).size))
        clear g7 gW7 gA HI7 HP HR7
        go_upto_region 15 with fail
        rw [← HW7.out]
        clear HW7
        go_wp2_with fail
        refine HSm.out.mono ?_
        rintro e w8 ⟨rfl, g8⟩
        have HF : Hid (Below w.heap.size w w8) := HFa.out w8 g8
        clear g8 HSm cB1 q0 q1 q2
        go_wp2
        go_ret
        exact ⟨rfl, HF.out⟩
      | false =>
        have hL0 : L = ⟨#[]⟩ := by rw [HLL.out]; exact lineT_none hq
        have HP : Hid (Calls Tryz.prog 10 #[.string L] wr fun e w' => PQ [] 0 0 wr e w') := (parse_i L wr (by omega) HTr.out.1 HTr.out.2.1 HTr.out.2.2.1 HTr.out.2.2.2).mono fun e w' h => pq_of (by rw [hL0]; exact parse_empty) h
        clear hq HQ hLq HLq hq2 hq3 HLL hcmp hLs
        subst hL0
        go_wp2_with fail
        refine HP.out.mono ?_
        rintro e w7 ⟨a7, m7, cp7, rfl, HI7, g7⟩
        have gW7 : Below w7.heap.size w7 (w7.alloc (.cells #[.int .i64 0, .int .i64 0] 33)) := (Below.refl _ _).alloc (Nat.le_refl _) _
        have HF : Hid (Below w.heap.size w (w7.alloc (.cells #[.int .i64 0, .int .i64 0] 33))) := HBw.out _ (HGr.out.trans ((g7.trans (gW7.mono g7.size)).mono HGr.out.size))
        clear g7 gW7 HI7 HP
        go_wp2
        go_ret
        exact ⟨rfl, HF.out⟩
theorem walk_lline (a : Option Addr) (len cap : Nat) (zs : List Int) (w : World) (h : IsRow .u8 w a len cap zs) (p : PT w) (l : LT w) (k : KT w) (t : WT w) (m : ML w) (hh : EH w) :
    Calls Tryz.prog 5 #[.slice a len cap] w fun e w' => e = .returned (.bool true) ∧ Below w.heap.size w w' := by
  by_cases hl : len ≤ 1048576
  · obtain ⟨blk, off, z, hc⟩ := h.code hl
    exact law_lline w ⟨k, p, t⟩ l m hh hc
  · have hcap : len ≤ maxLen := by
      rcases h with ⟨_, rfl, _⟩ | ⟨_, _, h1, h2, _⟩
      · omega
      · omega
    unfold maxLen at hcap
    have i1 : (1048576 : Int) < (len : Int) := by omega
    go_enter Tryz.func5, Tryz.ntmps5
    go_wp2
    go_ret
    exact ⟨rfl, Below.refl _ _⟩
end Go.Proofs.YtndfmgbdfcggmaaGreatDoor
