/- ActTest of the specification: real numbers. -/
import Derived.Test.YtjnddfpieogpiaaGreatDoorYeM
namespace Go.Proofs.YtjnddfpieogpiaaGreatDoor
open Go.RowKit Go.Shelf Rr Ee
set_option linter.unusedVariables false

def FNr (a : Option Addr) (len : Nat) (cap : Nat) (c : Array Value) (w : World) (k : Int) (n : Int) (m : Int) (k1 : Int) (n1 : Int) (m1 : Int) (gA : Nat) (gB : Nat) (op : Int) (y5 y84 y85 y86 y87 y88 y89 y90 y91 y92 y93 y94 y95 : Value) : Act := ⟨#[.agg c, .agg #[.int .i64 op, .slice a len cap], .pointer (some ⟨w.heap.size, 0, none⟩), .pointer (some ⟨w.heap.size + 1, 0, none⟩), .pointer (some ⟨w.heap.size + 1 + 1, 0, none⟩), y5, .pointer (some ⟨gA, 0, none⟩), .pointer (some ⟨gB, 0, none⟩), undef, undef, .agg #[.int .i64 op, .slice a len cap], .agg #[.int .i64 k, .int .i64 n, .int .i64 m], .agg #[.int .i64 op, .slice a len cap], .agg #[.int .i64 k1, .int .i64 n1, .int .i64 m1], .bool false, .pointer (some ⟨w.heap.size + 1, 0, none⟩), .int .i64 op, .bool false, undef, undef, undef, undef, .bool false, .pointer (some ⟨w.heap.size + 1, 0, none⟩), .int .i64 op, .bool false, undef, undef, undef, undef, undef, .bool false, .pointer (some ⟨w.heap.size + 1, 0, none⟩), .int .i64 op, .bool false, .bool false, .pointer (some ⟨w.heap.size + 1, 0, none⟩), .int .i64 op, .bool false, .bool false, undef, undef, undef, undef, undef, undef, undef, undef, undef, undef, undef, undef, undef, undef, undef, undef, undef, undef, undef, undef, undef, undef, undef, undef, undef, undef, undef, undef, undef, undef, undef, undef, undef, .bool true, .pointer (some ⟨w.heap.size + 1, 0, none⟩), .int .i64 op, .bool true, .bool true, .pointer (some ⟨w.heap.size + 1, 0, none⟩), .int .i64 op, .bool true, .bool true, .agg #[.int .i64 k, .int .i64 n, .int .i64 m], .bool true, y84, y85, y86, y87, y88, y89, y90, y91, y92, y93, y94, y95, undef, undef, undef, undef, undef, undef, undef, undef, undef, undef, undef, undef, undef], []⟩

set_option maxRecDepth 10000 in
set_option maxHeartbeats 4000000 in
theorem st_cr (op k n m k1 n1 m1 : Int) (h5 : 5 ≤ op) (h10 : op ≤ 10) (hk : k = 10 ∨ k = 12 ∨ k = 13) (a : Option Addr) (len cap : Nat) (c : Array Value) (hc : MemOk c) (w : World)
    (HA0 : Hid (∀ W, Below w.heap.size w W → Calls Tryz.prog 40 #[.agg #[.int .i64 op, .slice a len cap], .int .i64 0] W fun e w' => e = .returned (.agg #[.int .i64 k, .int .i64 n, .int .i64 m]) ∧ Below W.heap.size W w'))
    (HA1 : Hid (∀ W, Below w.heap.size w W → Calls Tryz.prog 40 #[.agg #[.int .i64 op, .slice a len cap], .int .i64 1] W fun e w' => e = .returned (.agg #[.int .i64 k1, .int .i64 n1, .int .i64 m1]) ∧ Below W.heap.size W w')) :
    Calls Tryz.prog 14 #[.agg c, .agg #[.int .i64 op, .slice a len cap]] w fun e w' => e = .returned (.tuple #[.agg c, .bool (cmpB c (op - 4) k n m k1 n1 m1)]) ∧ Below w.heap.size w w' := by
  have HC : Hid (MemOk c) := hc
  have hz := zero_mem.1
  obtain ⟨Z, HZ⟩ : ∃ Z, Hid (Z = memZero) := ⟨_, rfl⟩
  rw [← HZ.out] at hz
  have HZs : Hid (Z.size = 136) := (by rw [HZ.out, memZero_size] : Z.size = 136)
  have HI : Hid ((Tryz.prog.info? 37).map (·.size) = some c.size) := by rw [HC.out.size]; exact zero_mem.2
  have e1 : (op == 1) = false := by simp; omega
  have e2 : (op == 2) = false := by simp; omega
  have e3 : (op == 3) = false := by simp; omega
  have e4 : (op == 4) = false := by simp; omega
  have HIs : Hid (∀ W, Calls Tryz.prog 42 #[.agg #[.int .i64 k, .int .i64 n, .int .i64 m]] W fun e w' => e = .returned (.bool true) ∧ Below W.heap.size W w') := fun W => by have h := isreal_s k n m W; rw [decide_eq_true hk] at h; exact h
  obtain ⟨r, Hr⟩ : ∃ r, Hid (r = rc (op - 4) (mrl c k n m) (mrl c k1 n1 m1)) := ⟨_, rfl⟩
  rw [show cmpB c (op - 4) k n m k1 n1 m1 = r from by rw [Hr.out]; unfold cmpB; rw [if_pos hk]]
  have HM0 : Hid (∀ W, Calls Tryz.prog 44 #[.agg c, .agg #[.int .i64 k, .int .i64 n, .int .i64 m]] W fun e w' => ∃ v, e = .returned v ∧ ∃ x, v = .float .f64 x ∧ Same x (mrl c k n m) ∧ Below W.heap.size W w') := fun W => real_s' c HC.out k n m W
  have HM1 : Hid (∀ W, Calls Tryz.prog 44 #[.agg c, .agg #[.int .i64 k1, .int .i64 n1, .int .i64 m1]] W fun e w' => ∃ v, e = .returned v ∧ ∃ x, v = .float .f64 x ∧ Same x (mrl c k1 n1 m1) ∧ Below W.heap.size W w') := fun W => real_s' c HC.out k1 n1 m1 W
  have HCmp : Hid (∀ x y, Same x (mrl c k n m) → Same y (mrl c k1 n1 m1) → ∀ W, Calls Tryz.prog 43 #[.int .i64 (op - 4), .float .f64 x, .float .f64 y] W fun e w' => e = .returned (.bool r) ∧ Below W.heap.size W w') := fun x y hx hy W => by rw [Hr.out, ← rc_same (op - 4) hx hy]; exact (spec_rcmp (op - 4) x y W).mono fun e w' h => ⟨h.1, by rw [h.2]; exact Below.refl _ _⟩
  clear Hr hk
  have r3 := rows3 w (.cells c 37) (.cells #[.int .i64 op, .slice a len cap] 47) (.cells Z 37)
  have bl : Below w.heap.size w (((w.alloc (.cells c 37)).alloc (.cells #[.int .i64 op, .slice a len cap] 47)).alloc (.cells Z 37)) := (((Below.refl _ _).alloc (Nat.le_refl _) _).alloc (by simp) _).alloc (by simp <;> omega) _
  have sz : (((w.alloc (.cells c 37)).alloc (.cells #[.int .i64 op, .slice a len cap] 47)).alloc (.cells Z 37)).heap.size = w.heap.size + 1 + 1 + 1 := by simp
  have HR3 : Hid ((((w.alloc (.cells c 37)).alloc (.cells #[.int .i64 op, .slice a len cap] 47)).alloc (.cells Z 37)).heap[w.heap.size]? = some (.cells c 37 (0, 0)) ∧ (((w.alloc (.cells c 37)).alloc (.cells #[.int .i64 op, .slice a len cap] 47)).alloc (.cells Z 37)).heap[w.heap.size + 1]? = some (.cells #[.int .i64 op, .slice a len cap] 47 (0, 0)) ∧ (((w.alloc (.cells c 37)).alloc (.cells #[.int .i64 op, .slice a len cap] 47)).alloc (.cells Z 37)).heap[w.heap.size + 1 + 1]? = some (.cells Z 37 (0, 0)) ∧ Below w.heap.size w (((w.alloc (.cells c 37)).alloc (.cells #[.int .i64 op, .slice a len cap] 47)).alloc (.cells Z 37)) ∧ (((w.alloc (.cells c 37)).alloc (.cells #[.int .i64 op, .slice a len cap] 47)).alloc (.cells Z 37)).heap.size = w.heap.size + 1 + 1 + 1) := ⟨r3.1, r3.2.1, r3.2.2, bl, sz⟩
  clear hc r3 bl sz
  go_enter Tryz.func14, Tryz.ntmps14
  go_wp2_with fail
  refine (HA0.out _ HR3.out.2.2.2.1).mono ?_
  rintro e w1 ⟨rfl, g1⟩
  have HR1 : Hid (w1.heap[w.heap.size]? = some (.cells c 37 (0, 0)) ∧ w1.heap[w.heap.size + 1]? = some (.cells #[.int .i64 op, .slice a len cap] 47 (0, 0)) ∧ w1.heap[w.heap.size + 1 + 1]? = some (.cells Z 37 (0, 0)) ∧ Below w.heap.size w w1 ∧ w.heap.size + 1 + 1 < w1.heap.size) := by
    have hs := HR3.out.2.2.2.2
    have hz := g1.size
    exact ⟨(g1.block _ (by omega)).trans HR3.out.1, (g1.block _ (by omega)).trans HR3.out.2.1, (g1.block _ (by omega)).trans HR3.out.2.2.1, HR3.out.2.2.2.1.trans (g1.mono HR3.out.2.2.2.1.size), by omega⟩
  have y0 : w1.cell? ⟨w.heap.size + 1, 0, none⟩ = some (.int .i64 op) := (cell_of_row _ _ _ _ _ _ HR1.out.2.1).trans rfl
  have y1 : w1.cell? ⟨w.heap.size + 1, 1, none⟩ = some (.slice a len cap) := (cell_of_row _ _ _ _ _ _ HR1.out.2.1).trans rfl
  have l1 : w.heap.size + 1 < w1.heap.size := by have := HR1.out.2.2.2.2; omega
  clear g1 HR3
  go_wp2_with fail
  refine (HA1.out _ (HR1.out.2.2.2.1.alloc HR1.out.2.2.2.1.size _)).mono ?_
  rintro e w2 ⟨rfl, g2⟩
  obtain ⟨gA, HgA⟩ : ∃ gA, Hid (gA = w1.heap.size) := ⟨_, rfl⟩
  rw [← HgA.out]
  have HR2 : Hid (w2.heap[w.heap.size]? = some (.cells c 37 (0, 0)) ∧ w2.heap[w.heap.size + 1]? = some (.cells #[.int .i64 op, .slice a len cap] 47 (0, 0)) ∧ w2.heap[w.heap.size + 1 + 1]? = some (.cells Z 37 (0, 0)) ∧ w2.heap[gA]? = some (.cells #[.int .i64 k, .int .i64 n, .int .i64 m] 54 (0, 0)) ∧ Below w.heap.size w w2 ∧ w.heap.size + 1 + 1 < gA ∧ gA < w2.heap.size) := by
    obtain ⟨q1, q2, q3, q4, q5⟩ := HR1.out
    have hg := HgA.out
    have hz := g2.size
    have hzz : (w1.alloc (.cells #[.int .i64 k, .int .i64 n, .int .i64 m] 54)).heap.size = w1.heap.size + 1 := by simp
    have al := (Below.refl w1.heap.size w1).alloc (Nat.le_refl _) (.cells #[.int .i64 k, .int .i64 n, .int .i64 m] 54)
    have bb := q4.alloc q4.size (.cells #[.int .i64 k, .int .i64 n, .int .i64 m] 54)
    refine ⟨(g2.block _ (by omega)).trans ((al.block _ (by omega)).trans q1), (g2.block _ (by omega)).trans ((al.block _ (by omega)).trans q2), (g2.block _ (by omega)).trans ((al.block _ (by omega)).trans q3), (g2.block _ (by omega)).trans (by rw [hg]; exact heap_alloc_last _ _), bb.trans (g2.mono bb.size), by omega, by omega⟩
  clear y0 y1 l1 g2 HR1 HgA
  have y0 : w2.cell? ⟨w.heap.size + 1, 0, none⟩ = some (.int .i64 op) := (cell_of_row _ _ _ _ _ _ HR2.out.2.1).trans rfl
  have l1 : w.heap.size + 1 < w2.heap.size := by have := HR2.out.2.2.2.2.2; omega
  have yA : w2.cell? ⟨gA, 0, none⟩ = some (.int .i64 k) := (cell_of_row _ _ _ _ _ _ HR2.out.2.2.2.1).trans rfl
  have yA1 : w2.cell? ⟨gA, 1, none⟩ = some (.int .i64 n) := (cell_of_row _ _ _ _ _ _ HR2.out.2.2.2.1).trans rfl
  have yA2 : w2.cell? ⟨gA, 2, none⟩ = some (.int .i64 m) := (cell_of_row _ _ _ _ _ _ HR2.out.2.2.2.1).trans rfl
  have lA : gA < w2.heap.size := HR2.out.2.2.2.2.2.2
  obtain ⟨gB, HgB⟩ : ∃ gB, Hid (gB = w2.heap.size) := ⟨_, rfl⟩
  have HR4 : Hid ((w2.alloc (.cells #[.int .i64 k1, .int .i64 n1, .int .i64 m1] 54)).heap[w.heap.size]? = some (.cells c 37 (0, 0)) ∧ (w2.alloc (.cells #[.int .i64 k1, .int .i64 n1, .int .i64 m1] 54)).heap[w.heap.size + 1]? = some (.cells #[.int .i64 op, .slice a len cap] 47 (0, 0)) ∧ (w2.alloc (.cells #[.int .i64 k1, .int .i64 n1, .int .i64 m1] 54)).heap[gA]? = some (.cells #[.int .i64 k, .int .i64 n, .int .i64 m] 54 (0, 0)) ∧ (w2.alloc (.cells #[.int .i64 k1, .int .i64 n1, .int .i64 m1] 54)).heap[gB]? = some (.cells #[.int .i64 k1, .int .i64 n1, .int .i64 m1] 54 (0, 0)) ∧ (w2.alloc (.cells #[.int .i64 k1, .int .i64 n1, .int .i64 m1] 54)).heap[w.heap.size + 1 + 1]? = some (.cells Z 37 (0, 0)) ∧ Below w.heap.size w (w2.alloc (.cells #[.int .i64 k1, .int .i64 n1, .int .i64 m1] 54)) ∧ w.heap.size + 1 + 1 < gA ∧ gA < gB) := by
    obtain ⟨q1, q2, q3, q5, q4, q6, q7⟩ := HR2.out
    have hg := HgB.out
    have al := (Below.refl w2.heap.size w2).alloc (Nat.le_refl _) (.cells #[.int .i64 k1, .int .i64 n1, .int .i64 m1] 54)
    exact ⟨(al.block _ (by omega)).trans q1, (al.block _ (by omega)).trans q2, (al.block _ (by omega)).trans q5, by rw [hg]; exact heap_alloc_last _ _, (al.block _ (by omega)).trans q3, q4.alloc q4.size _, q6, by omega⟩
  clear HR2
  go_wp2_with fail
  rw [← HgB.out]
  refine (HIs.out _).mono ?_
  rintro e w0 ⟨rfl, g0⟩
  obtain ⟨h1, h2, hA, hB, h3, bl, la, lb⟩ := HR4.out
  have hla : Hid (w.heap.size + 1 + 1 < gA ∧ gA < gB) := ⟨la, lb⟩
  have hw := (Array.getElem?_eq_some_iff.1 hB).1
  have h1 := (g0.block _ (by omega)).trans h1
  have h2 := (g0.block _ (by omega)).trans h2
  have hA := (g0.block _ (by omega)).trans hA
  have hB := (g0.block _ (by omega)).trans hB
  have h3 := (g0.block _ (by omega)).trans h3
  have bl := bl.trans (g0.mono bl.size)
  clear la lb HR4 hw g0 HgB y0 l1 yA yA1 yA2 lA
  go_upto_region 17 with fail
  obtain ⟨S, HS⟩ : ∃ S : World → Prop, Hid (∀ W, S W ↔ (W.heap[w.heap.size]? = some (.cells c 37 (0, 0)) ∧ W.heap[w.heap.size + 1]? = some (.cells #[.int .i64 op, .slice a len cap] 47 (0, 0)) ∧ W.heap[gA]? = some (.cells #[.int .i64 k, .int .i64 n, .int .i64 m] 54 (0, 0)) ∧ W.heap[gB]? = some (.cells #[.int .i64 k1, .int .i64 n1, .int .i64 m1] 54 (0, 0)) ∧ (∃ D : Array Value, D.size = 136 ∧ W.heap[w.heap.size + 1 + 1]? = some (.cells D 37 (0, 0))) ∧ Below w.heap.size w W)) := ⟨_, fun W => Iff.rfl⟩
  have hSc : Hid (∀ W W', S W → Below W.heap.size W W' → S W') := fun W W' h g => by
    obtain ⟨q1, q2, qA, qB, ⟨D, hD, q3⟩, q4⟩ := (HS.out W).1 h
    have l3 := (Array.getElem?_eq_some_iff.1 q3).1
    have lA := (Array.getElem?_eq_some_iff.1 qA).1
    have lB := (Array.getElem?_eq_some_iff.1 qB).1
    exact (HS.out W').2 ⟨(g.block _ (by omega)).trans q1, (g.block _ (by omega)).trans q2, (g.block _ lA).trans qA, (g.block _ lB).trans qB, ⟨D, hD, (g.block _ (by omega)).trans q3⟩, q4.trans (g.mono q4.size)⟩
  refine region_cut (R := fun a' W => W.heap[w.heap.size + 1 + 1]? = some (.cells c 37 (0, 0)) ∧ Below w.heap.size w W ∧ ∃ x y, a' = (FNr a len cap c w k n m k1 n1 m1 gA gB op (.bool r) (.agg c) (.pointer (some ⟨w.heap.size + 1, 0, none⟩)) (.int .i64 op) (.int .i64 (op - 5)) (.int .i64 (op - 4)) (.agg c) (.agg #[.int .i64 k, .int .i64 n, .int .i64 m]) (.float .f64 x) (.agg c) (.agg #[.int .i64 k1, .int .i64 n1, .int .i64 m1]) (.float .f64 y) (.bool r))) ?_ ?_
  · have S0 : S w0.drew := (HS.out _).2 ⟨h1, h2, hA, hB, ⟨Z, HZs.out, h3⟩, bl.drew⟩
    refine wp_region_held_drew (S := S) (by kernel_rfl) S0 (fun S0 => ?_)
    show wpAnyH _ _ _ _ _ 14 #[false, false, false, false, false, false, false, false, false, false, false, false, false, false] _ _
    refine tk_load' (i := 0) rfl (by kernel_rfl) (by kernel_rfl) (by kernel_rfl) (fun _ _ _ _ h => nomatch h.1) rfl 37 _ rfl _ _ rfl (.agg c) (fun W hW => load_all ((HS.out W).1 hW).1 _ _ Tryz.underlying37 rfl HI.out) S0 #[true, false, false, false, false, false, false, false, false, false, false, false, false, false] rfl (FNr a len cap c w k n m k1 n1 m1 gA gB op (.bool false) (.agg c) undef undef undef undef undef undef undef undef undef undef undef) rfl ?_
    refine tk_val' (i := 1) rfl (by kernel_rfl) (by kernel_rfl) (by kernel_rfl) (fun _ _ _ _ h => nomatch h.1) rfl (.pointer (some ⟨w.heap.size + 1, 0, none⟩)) (fun W _ => by ((try unfold FNr); go_simp)) S0 #[true, true, false, false, false, false, false, false, false, false, false, false, false, false] rfl (FNr a len cap c w k n m k1 n1 m1 gA gB op (.bool false) (.agg c) (.pointer (some ⟨w.heap.size + 1, 0, none⟩)) undef undef undef undef undef undef undef undef undef undef) rfl ?_
    refine tk_val' (i := 2) rfl (by kernel_rfl) (by kernel_rfl) (by kernel_rfl) (fun _ _ _ _ h => nomatch h.1) rfl (.int .i64 op) (fun W hW => by have hc : W.cell? ⟨w.heap.size + 1, 0, none⟩ = some (.int .i64 op) := (cell_of_row _ _ _ _ _ _ ((HS.out W).1 hW).2.1).trans rfl; ((try unfold FNr); go_simp)) S0 #[true, true, true, false, false, false, false, false, false, false, false, false, false, false] rfl (FNr a len cap c w k n m k1 n1 m1 gA gB op (.bool false) (.agg c) (.pointer (some ⟨w.heap.size + 1, 0, none⟩)) (.int .i64 op) undef undef undef undef undef undef undef undef undef) rfl ?_
    refine tk_val' (i := 3) rfl (by kernel_rfl) (by kernel_rfl) (by kernel_rfl) (fun _ _ _ _ h => nomatch h.1) rfl (.int .i64 (op - 5)) (fun W _ => by ((try unfold FNr); go_simp) <;> first | (rw [IntKind.wrap_i64]; omega) | omega) S0 #[true, true, true, true, false, false, false, false, false, false, false, false, false, false] rfl (FNr a len cap c w k n m k1 n1 m1 gA gB op (.bool false) (.agg c) (.pointer (some ⟨w.heap.size + 1, 0, none⟩)) (.int .i64 op) (.int .i64 (op - 5)) undef undef undef undef undef undef undef undef) rfl ?_
    refine tk_val' (i := 4) rfl (by kernel_rfl) (by kernel_rfl) (by kernel_rfl) (fun _ _ _ _ h => nomatch h.1) rfl (.int .i64 (op - 4)) (fun W _ => by ((try unfold FNr); go_simp) <;> first | (rw [IntKind.wrap_i64]; omega) | omega) S0 #[true, true, true, true, true, false, false, false, false, false, false, false, false, false] rfl (FNr a len cap c w k n m k1 n1 m1 gA gB op (.bool false) (.agg c) (.pointer (some ⟨w.heap.size + 1, 0, none⟩)) (.int .i64 op) (.int .i64 (op - 5)) (.int .i64 (op - 4)) undef undef undef undef undef undef undef) rfl ?_
    refine tk_load' (i := 5) rfl (by kernel_rfl) (by kernel_rfl) (by kernel_rfl) (fun _ _ _ _ h => nomatch h.1) rfl 37 _ rfl _ _ rfl (.agg c) (fun W hW => load_all ((HS.out W).1 hW).1 _ _ Tryz.underlying37 rfl HI.out) S0 #[true, true, true, true, true, true, false, false, false, false, false, false, false, false] rfl (FNr a len cap c w k n m k1 n1 m1 gA gB op (.bool false) (.agg c) (.pointer (some ⟨w.heap.size + 1, 0, none⟩)) (.int .i64 op) (.int .i64 (op - 5)) (.int .i64 (op - 4)) (.agg c) undef undef undef undef undef undef) rfl ?_
    refine tk_load' (i := 6) rfl (by kernel_rfl) (by kernel_rfl) (by kernel_rfl) (fun _ _ _ _ h => nomatch h.1) rfl 54 _ rfl _ _ rfl (.agg #[.int .i64 k, .int .i64 n, .int .i64 m]) (fun W hW => load_all ((HS.out W).1 hW).2.2.1 _ _ Tryz.underlying54 rfl da_size) S0 #[true, true, true, true, true, true, true, false, false, false, false, false, false, false] rfl (FNr a len cap c w k n m k1 n1 m1 gA gB op (.bool false) (.agg c) (.pointer (some ⟨w.heap.size + 1, 0, none⟩)) (.int .i64 op) (.int .i64 (op - 5)) (.int .i64 (op - 4)) (.agg c) (.agg #[.int .i64 k, .int .i64 n, .int .i64 m]) undef undef undef undef undef) rfl ?_
    refine tk_load' (i := 8) rfl (by kernel_rfl) (by kernel_rfl) (by kernel_rfl) (fun _ _ _ _ h => nomatch h.1) rfl 37 _ rfl _ _ rfl (.agg c) (fun W hW => load_all ((HS.out W).1 hW).1 _ _ Tryz.underlying37 rfl HI.out) S0 #[true, true, true, true, true, true, true, false, true, false, false, false, false, false] rfl (FNr a len cap c w k n m k1 n1 m1 gA gB op (.bool false) (.agg c) (.pointer (some ⟨w.heap.size + 1, 0, none⟩)) (.int .i64 op) (.int .i64 (op - 5)) (.int .i64 (op - 4)) (.agg c) (.agg #[.int .i64 k, .int .i64 n, .int .i64 m]) undef (.agg c) undef undef undef) rfl ?_
    refine tk_load' (i := 9) rfl (by kernel_rfl) (by kernel_rfl) (by kernel_rfl) (fun _ _ _ _ h => nomatch h.1) rfl 54 _ rfl _ _ rfl (.agg #[.int .i64 k1, .int .i64 n1, .int .i64 m1]) (fun W hW => load_all ((HS.out W).1 hW).2.2.2.1 _ _ Tryz.underlying54 rfl da_size) S0 #[true, true, true, true, true, true, true, false, true, true, false, false, false, false] rfl (FNr a len cap c w k n m k1 n1 m1 gA gB op (.bool false) (.agg c) (.pointer (some ⟨w.heap.size + 1, 0, none⟩)) (.int .i64 op) (.int .i64 (op - 5)) (.int .i64 (op - 4)) (.agg c) (.agg #[.int .i64 k, .int .i64 n, .int .i64 m]) undef (.agg c) (.agg #[.int .i64 k1, .int .i64 n1, .int .i64 m1]) undef undef) rfl ?_
    refine wpAnyH_all (rs := [7]) (by kernel_rfl) (by simp) (fun i hi => ?_)
    obtain rfl := List.mem_singleton.1 hi
    refine up_fcallV rfl rfl Tryz.func44 (by kernel_rfl) (by kernel_rfl) rfl [.agg c, .agg #[.int .i64 k, .int .i64 n, .int .i64 m]] rfl #[true, true, true, true, true, true, true, true, true, true, false, false, false, false] rfl (fun v => (FNr a len cap c w k n m k1 n1 m1 gA gB op (.bool false) (.agg c) (.pointer (some ⟨w.heap.size + 1, 0, none⟩)) (.int .i64 op) (.int .i64 (op - 5)) (.int .i64 (op - 4)) (.agg c) (.agg #[.int .i64 k, .int .i64 n, .int .i64 m]) v (.agg c) (.agg #[.int .i64 k1, .int .i64 n1, .int .i64 m1]) undef undef)) (fun v => rfl) _ (HM0.out _) ?_
    rintro _ w3 ⟨x, rfl, hx, gw3⟩
    have Sw3 := hSc.out _ _ S0 gw3
    refine ⟨Sw3, ?_⟩
    refine wpAnyH_all (rs := [10]) (by kernel_rfl) (by simp) (fun i hi => ?_)
    obtain rfl := List.mem_singleton.1 hi
    refine up_fcallV rfl rfl Tryz.func44 (by kernel_rfl) (by kernel_rfl) rfl [.agg c, .agg #[.int .i64 k1, .int .i64 n1, .int .i64 m1]] rfl #[true, true, true, true, true, true, true, true, true, true, true, false, false, false] rfl (fun v => (FNr a len cap c w k n m k1 n1 m1 gA gB op (.bool false) (.agg c) (.pointer (some ⟨w.heap.size + 1, 0, none⟩)) (.int .i64 op) (.int .i64 (op - 5)) (.int .i64 (op - 4)) (.agg c) (.agg #[.int .i64 k, .int .i64 n, .int .i64 m]) (.float .f64 x) (.agg c) (.agg #[.int .i64 k1, .int .i64 n1, .int .i64 m1]) v undef)) (fun v => rfl) _ (HM1.out _) ?_
    rintro _ w4 ⟨y, rfl, hy, gw4⟩
    have Sw4 := hSc.out _ _ Sw3 gw4
    refine ⟨Sw4, ?_⟩
    refine wpAnyH_all (rs := [11]) (by kernel_rfl) (by simp) (fun i hi => ?_)
    obtain rfl := List.mem_singleton.1 hi
    refine up_fcall' rfl rfl Tryz.func43 (by kernel_rfl) (by kernel_rfl) rfl [.int .i64 (op - 4), .float .f64 x, .float .f64 y] rfl #[true, true, true, true, true, true, true, true, true, true, true, true, false, false] rfl (.bool r) (FNr a len cap c w k n m k1 n1 m1 gA gB op (.bool false) (.agg c) (.pointer (some ⟨w.heap.size + 1, 0, none⟩)) (.int .i64 op) (.int .i64 (op - 5)) (.int .i64 (op - 4)) (.agg c) (.agg #[.int .i64 k, .int .i64 n, .int .i64 m]) (.float .f64 x) (.agg c) (.agg #[.int .i64 k1, .int .i64 n1, .int .i64 m1]) (.float .f64 y) (.bool r)) rfl _ (HCmp.out x y hx hy _) ?_
    intro w6 gw6
    have Sw6 := hSc.out _ _ Sw4 gw6
    refine ⟨Sw6, ?_⟩
    refine wpAnyH_all (rs := [12]) (by kernel_rfl) (by simp) (fun i hi => ?_)
    obtain rfl := List.mem_singleton.1 hi
    obtain ⟨p1, p2, pA, pB, ⟨D, hD, p3⟩, p4⟩ := (HS.out _).1 Sw6
    have S5 : S (w6.setRow (w.heap.size + 1 + 1) c) := (HS.out _).2 ⟨row_beside p1 _ (by omega) _, row_beside p2 _ (by omega) _, row_beside pA _ (by have := hla.out; omega) _, row_beside pB _ (by have := hla.out; omega) _, ⟨c, HC.out.size, row_set p3 _⟩, below_setRow p4 (by omega) _⟩
    refine up_store' rfl rfl 37 _ _ rfl _ _ rfl _ rfl _ (store_all p3 _ _ (hD.trans HC.out.size.symm) HI.out HC.out.one) S5 #[true, true, true, true, true, true, true, true, true, true, true, true, true, false] rfl (FNr a len cap c w k n m k1 n1 m1 gA gB op (.bool false) (.agg c) (.pointer (some ⟨w.heap.size + 1, 0, none⟩)) (.int .i64 op) (.int .i64 (op - 5)) (.int .i64 (op - 4)) (.agg c) (.agg #[.int .i64 k, .int .i64 n, .int .i64 m]) (.float .f64 x) (.agg c) (.agg #[.int .i64 k1, .int .i64 n1, .int .i64 m1]) (.float .f64 y) (.bool r)) rfl ?_
    refine tk_val' (i := 13) rfl (by kernel_rfl) (by kernel_rfl) (by kernel_rfl) (fun _ _ _ _ h => nomatch h.1) rfl (.bool r) (fun W _ => by ((try unfold FNr); go_simp)) S5 #[true, true, true, true, true, true, true, true, true, true, true, true, true, true] rfl (FNr a len cap c w k n m k1 n1 m1 gA gB op (.bool r) (.agg c) (.pointer (some ⟨w.heap.size + 1, 0, none⟩)) (.int .i64 op) (.int .i64 (op - 5)) (.int .i64 (op - 4)) (.agg c) (.agg #[.int .i64 k, .int .i64 n, .int .i64 m]) (.float .f64 x) (.agg c) (.agg #[.int .i64 k1, .int .i64 n1, .int .i64 m1]) (.float .f64 y) (.bool r)) rfl ?_
    exact wpAnyH_done (by kernel_rfl) ⟨rfl, row_set p3 _, below_setRow p4 (by omega) _, x, y, rfl⟩ _
  clear h1 h2 hA hB h3 bl HS hSc
  rintro _ w5 ⟨k5, b5, x, y, rfl⟩
  unfold FNr
  have HL : Hid ((loadVar 37 ⟨w.heap.size + 1 + 1, 0, none⟩).run Tryz.prog w5 = .ok (.agg c) w5) := load_all k5 _ _ Tryz.underlying37 rfl HI.out
  have HB : Hid (Below w.heap.size w w5) := b5
  clear k5 b5 hz
  go_wp2_with (first | exact ret_rowV rfl rfl rfl HL.out rfl ⟨rfl, HB.out⟩ | fail)

end Go.Proofs.YtjnddfpieogpiaaGreatDoor
