/- The program's memWithWord at whole and real numbers; at every word. -/
import Derived.Test.YtjnddfpieogpiaaGreatDoorHo
namespace Go.Proofs.YtjnddfpieogpiaaGreatDoor
open Go.RowKit Go.Shelf
set_option linter.unusedVariables false
section
variable {P : Program} {ops : Array Oper} {Q : Exit → Act → World → Prop} {S : World → Prop} {md : Region.Mode}
theorem upH_val {i : Nat} {o : Oper} {fuel : Nat} {listed : Array Bool} {a : Act} {w : World} (ho : ops[i]? = some o) (hw : Region.wanted o (yielded ops a.tmps) = true) (v : Value) (w' : World)
    (hrun : (execOp a.eval o).run P w = .ok (.value v) w') (hS : S w') (l' : Array Bool) (hl : listed.setIfInBounds i true = l') (a' : Act) (ha : a.put o.dst v = a') (h : wpAnyH P md ops Q S fuel l' a' w') :
    wpOp P ops Q i (fun a' w' => S w' ∧ wpAnyH P md ops Q S fuel (listed.setIfInBounds i true) a' w') a w := by
  subst hl ha
  exact up_value ho hw v w' hrun hS h
end
theorem storeH_9 {W : World} {b i : Nat} {z : Int} {x : Value} (hx : W.cell? ⟨b, i, none⟩ = some x) (hf : W.frozen? ⟨b, i, none⟩ = false) : (storeVar 32 ⟨b, i, none⟩ (.int .i16 z)).run Tryz.prog W = .ok () (W.setCell ⟨b, i, none⟩ (.int .i16 z)) := by go_simp
theorem stH_float (P : Program) (w : World) (a : Addr) (m : Mode) (k : FloatKind) (x : Nat) : (store a (.float k x) m).run P w = stored P w a (.float k x) m := run_store P w a _ m rfl
theorem storeH_10 {W : World} {b i : Nat} {z : Nat} {x : Value} (hx : W.cell? ⟨b, i, none⟩ = some x) (hf : W.frozen? ⟨b, i, none⟩ = false) : (storeVar 34 ⟨b, i, none⟩ (.float .f64 z)).run Tryz.prog W = .ok () (W.setCell ⟨b, i, none⟩ (.float .f64 z)) := by have hh := stH_float; go_simp

set_option maxRecDepth 10000 in
set_option maxHeartbeats 4000000 in
theorem withword_9 {r : Prds} {T : World → Prop} (hr : PrdsOk r T) (c : Array Value) (hc : MemOk c) (s : ByteArray) (hs : s.size ≤ 1048576) (w : World) (hT : T w) (nm v : ByteArray) (fb : Bool) (hcut : r.cut s = (nm, v, fb)) (k : Int) (n : Nat) (q : Int) (hrd : r.rd nm = (k, (n : Int), q)) (hk : k = 9) (hn : n < 32) (QQ : Array Value → Prop) (HQQ : Hid (∀ D, PTo r (pre1 r c nm v) nm v D → QQ D)) :
    Calls Tryz.prog 29 #[.agg c, .string s] w fun e w' => ∃ D, e = .returned (.agg D) ∧ QQ D ∧ Below w.heap.size w w' := by
  have HKN : Hid (k = 9 ∧ n < 32) := ⟨hk, hn⟩
  clear hk hn
  have HR : Hid (PrdsOk r T) := hr
  have HTw : Hid (T w) := hT
  have HC : Hid (MemOk c) := hc
  have hz := zero_mem.1
  obtain ⟨Z, HZ⟩ : ∃ Z, Hid (Z = memZero) := ⟨_, rfl⟩
  rw [← HZ.out] at hz
  have HZs : Hid (Z.size = 136) := (by rw [HZ.out, memZero_size] : Z.size = 136)
  have HCut : Hid (∀ W, T W → Calls Tryz.prog 82 #[.string s, .string ⟨#[61]⟩] W fun e w' => e = .returned (.tuple #[.string (r.cut s).1, .string (r.cut s).2.1, .bool (r.cut s).2.2]) ∧ Below W.heap.size W w') := hr.cut s hs
  have HSZ : Hid ((r.cut s).1.size ≤ 1048576 ∧ (r.cut s).2.1.size ≤ 1048576) := (by have := hr.cutz s; omega : (r.cut s).1.size ≤ 1048576 ∧ (r.cut s).2.1.size ≤ 1048576)
  rw [hcut] at HCut HSZ
  obtain ⟨W0, HW0⟩ : ∃ W0, Hid (W0 = (w.alloc (.cells c 37)).alloc (.cells Z 37)) := ⟨_, rfl⟩
  have HH1 : Hid (W0.heap[w.heap.size]? = some (.cells c 37 (0, 0))) := (by rw [HW0.out]; exact (rows2 w _ _).1 : W0.heap[w.heap.size]? = some (.cells c 37 (0, 0)))
  have HH2 : Hid (W0.heap[w.heap.size + 1]? = some (.cells Z 37 (0, 0))) := (by rw [HW0.out]; exact (rows2 w _ _).2 : W0.heap[w.heap.size + 1]? = some (.cells Z 37 (0, 0)))
  have HH3 : Hid (W0.heap.size = w.heap.size + 2) := (by rw [HW0.out]; simp : W0.heap.size = w.heap.size + 2)
  have HbW : Hid (Below w.heap.size w W0) := (by rw [HW0.out]; exact ((Below.refl _ _).alloc (Nat.le_refl _) _).alloc (by simp) _ : Below w.heap.size w W0)
  have HDV : Hid (∀ W, T W → Calls Tryz.prog 84 #[.string nm] W fun e w' => e = .returned (.tuple #[.agg #[.int .i64 k, .int .i64 (n : Int), .int .i64 q], .bool (r.rb nm)]) ∧ Below W.heap.size W w') := by have := hr.dev nm HSZ.out.1; rw [hrd] at this; exact this
  have HRD : Hid (r.rd nm = (k, (n : Int), q)) := hrd
  clear hr hT hc hcut hrd
  go_enter Tryz.func29, Tryz.ntmps29
  go_wp2_with fail
  rw [← HW0.out]
  refine (HCut.out W0 (HR.out.later _ _ HTw.out HbW.out)).mono ?_
  rintro e w1 ⟨rfl, g1⟩
  clear HCut HW0 hz
  have HA1 : Hid (w1.heap[w.heap.size]? = some (.cells c 37 (0, 0))) := (g1.block _ (by rw [HH3.out]; omega)).trans HH1.out
  have HA2 : Hid (w1.heap[w.heap.size + 1]? = some (.cells Z 37 (0, 0))) := (g1.block _ (by rw [HH3.out]; omega)).trans HH2.out
  have HAB : Hid (Below w.heap.size w w1) := HbW.out.trans (g1.mono (by rw [HH3.out]; omega))
  have HAS : Hid (w.heap.size + 2 ≤ w1.heap.size) := (by have := g1.size; have := HH3.out; omega : w.heap.size + 2 ≤ w1.heap.size)
  have HTA : Hid (T w1) := HR.out.later _ _ HTw.out HAB.out
  have HP1 : Hid (MemOk (pre1 r c nm v)) := memOk_pre1 r HC.out nm v
  clear g1 HH1 HH2 HH3 HbW
  go_upto_block 0 with fail
  go_cut [6] from 19 to 31 (fun u wc => u = .string v ∧ Hid (wc.heap[w.heap.size]? = some (.cells (pre1 r c nm v) 37 (0, 0))) ∧ Hid (wc.heap[w.heap.size + 1]? = some (.cells Z 37 (0, 0))) ∧ Hid (Below w.heap.size w wc) ∧ Hid (w.heap.size + 2 ≤ wc.heap.size))
  case first =>
    by_cases e1 : nm.data.toList = [116, 105, 109, 101]
    · have f1 : (nm.toList == [116, 105, 109, 101]) = true := by rw [toList_eq]; simp [e1]
      have hp : pre1 r c nm v = c.setIfInBounds 133 (.int .u32 (IntKind.u32.wrap (r.num v))) := by unfold pre1; rw [if_pos e1]
      clear e1
      go_wp2_with fail
      refine (HR.out.num v HSZ.out.2 w1 HTA.out).mono ?_
      rintro e w2 ⟨rfl, g2⟩
      have k1 := (g2.block _ (by have := HAS.out; omega)).trans HA1.out
      have k2 := (g2.block _ (by have := HAS.out; omega)).trans HA2.out
      have kB := HAB.out.trans (g2.mono HAB.out.size)
      have r1 : w2.cell? ⟨w.heap.size, 133, none⟩ = some (c[133]'(by rw [HC.out.size]; omega)) := by rw [cell_of_row _ _ _ _ _ _ k1]; exact Array.getElem?_eq_getElem (by rw [HC.out.size]; omega)
      have q1 : w2.frozen? ⟨w.heap.size, 133, none⟩ = false := by simp [World.frozen?, k1]
      have HY1 : Hid ((w2.setCell ⟨w.heap.size, 133, none⟩ (.int .u32 (IntKind.u32.wrap (r.num v)))).heap[w.heap.size]? = some (.cells (pre1 r c nm v) 37 (0, 0))) := (by rw [hp]; exact row_put k1 _ _ : (w2.setCell ⟨w.heap.size, 133, none⟩ (.int .u32 (IntKind.u32.wrap (r.num v)))).heap[w.heap.size]? = some (.cells (pre1 r c nm v) 37 (0, 0)))
      have HY2 : Hid ((w2.setCell ⟨w.heap.size, 133, none⟩ (.int .u32 (IntKind.u32.wrap (r.num v)))).heap[w.heap.size + 1]? = some (.cells Z 37 (0, 0))) := row_other k2 _ _ (by omega) _
      have HYB : Hid (Below w.heap.size w (w2.setCell ⟨w.heap.size, 133, none⟩ (.int .u32 (IntKind.u32.wrap (r.num v))))) := kB.setCell (p := ⟨w.heap.size, 133, none⟩) (by simp) _
      have HYS : Hid (w.heap.size + 2 ≤ (w2.setCell ⟨w.heap.size, 133, none⟩ (.int .u32 (IntKind.u32.wrap (r.num v)))).heap.size) := (by have := (Array.getElem?_eq_some_iff.1 HY2.out).1; omega : w.heap.size + 2 ≤ (w2.setCell ⟨w.heap.size, 133, none⟩ (.int .u32 (IntKind.u32.wrap (r.num v)))).heap.size)
      clear g2 k1 k2 kB hp HP1
      go_wp2_with fail
      go_meet
      exact ⟨rfl, HY1, HY2, HYB, HYS⟩
    have f1 : (nm.toList == [116, 105, 109, 101]) = false := by rw [toList_eq]; simp [e1]
    by_cases e2 : nm.data.toList = [114, 97, 110]
    · have f2 : (nm.toList == [114, 97, 110]) = true := by rw [toList_eq]; simp [e2]
      have hp : pre1 r c nm v = c.setIfInBounds 134 (.bool true) := by unfold pre1; rw [if_neg e1, if_pos e2]
      have r1 : w1.cell? ⟨w.heap.size, 134, none⟩ = some (c[134]'(by rw [HC.out.size]; omega)) := by rw [cell_of_row _ _ _ _ _ _ HA1.out]; exact Array.getElem?_eq_getElem (by rw [HC.out.size]; omega)
      have q1 : w1.frozen? ⟨w.heap.size, 134, none⟩ = false := by have := HA1.out; simp [World.frozen?, this]
      have HY1 : Hid ((w1.setCell ⟨w.heap.size, 134, none⟩ (.bool true)).heap[w.heap.size]? = some (.cells (pre1 r c nm v) 37 (0, 0))) := (by rw [hp]; exact row_put HA1.out _ _ : (w1.setCell ⟨w.heap.size, 134, none⟩ (.bool true)).heap[w.heap.size]? = some (.cells (pre1 r c nm v) 37 (0, 0)))
      have HY2 : Hid ((w1.setCell ⟨w.heap.size, 134, none⟩ (.bool true)).heap[w.heap.size + 1]? = some (.cells Z 37 (0, 0))) := row_other HA2.out _ _ (by omega) _
      have HYB : Hid (Below w.heap.size w (w1.setCell ⟨w.heap.size, 134, none⟩ (.bool true))) := HAB.out.setCell (p := ⟨w.heap.size, 134, none⟩) (by simp) _
      have HYS : Hid (w.heap.size + 2 ≤ (w1.setCell ⟨w.heap.size, 134, none⟩ (.bool true)).heap.size) := (by have := (Array.getElem?_eq_some_iff.1 HY2.out).1; omega : w.heap.size + 2 ≤ (w1.setCell ⟨w.heap.size, 134, none⟩ (.bool true)).heap.size)
      clear e1 e2 hp HP1
      go_wp2_with fail
      go_meet
      exact ⟨rfl, HY1, HY2, HYB, HYS⟩
    have f2 : (nm.toList == [114, 97, 110]) = false := by rw [toList_eq]; simp [e2]
    by_cases e3 : nm.data.toList = [102, 97, 117, 108, 116]
    · have f3 : (nm.toList == [102, 97, 117, 108, 116]) = true := by rw [toList_eq]; simp [e3]
      have hp : pre1 r c nm v = c.setIfInBounds 135 (.bool true) := by unfold pre1; rw [if_neg e1, if_neg e2, if_pos e3]
      have r1 : w1.cell? ⟨w.heap.size, 135, none⟩ = some (c[135]'(by rw [HC.out.size]; omega)) := by rw [cell_of_row _ _ _ _ _ _ HA1.out]; exact Array.getElem?_eq_getElem (by rw [HC.out.size]; omega)
      have q1 : w1.frozen? ⟨w.heap.size, 135, none⟩ = false := by have := HA1.out; simp [World.frozen?, this]
      have HY1 : Hid ((w1.setCell ⟨w.heap.size, 135, none⟩ (.bool true)).heap[w.heap.size]? = some (.cells (pre1 r c nm v) 37 (0, 0))) := (by rw [hp]; exact row_put HA1.out _ _ : (w1.setCell ⟨w.heap.size, 135, none⟩ (.bool true)).heap[w.heap.size]? = some (.cells (pre1 r c nm v) 37 (0, 0)))
      have HY2 : Hid ((w1.setCell ⟨w.heap.size, 135, none⟩ (.bool true)).heap[w.heap.size + 1]? = some (.cells Z 37 (0, 0))) := row_other HA2.out _ _ (by omega) _
      have HYB : Hid (Below w.heap.size w (w1.setCell ⟨w.heap.size, 135, none⟩ (.bool true))) := HAB.out.setCell (p := ⟨w.heap.size, 135, none⟩) (by simp) _
      have HYS : Hid (w.heap.size + 2 ≤ (w1.setCell ⟨w.heap.size, 135, none⟩ (.bool true)).heap.size) := (by have := (Array.getElem?_eq_some_iff.1 HY2.out).1; omega : w.heap.size + 2 ≤ (w1.setCell ⟨w.heap.size, 135, none⟩ (.bool true)).heap.size)
      clear e1 e2 e3 hp HP1
      go_wp2_with fail
      go_meet
      exact ⟨rfl, HY1, HY2, HYB, HYS⟩
    have f3 : (nm.toList == [102, 97, 117, 108, 116]) = false := by rw [toList_eq]; simp [e3]
    have hp : pre1 r c nm v = c := by unfold pre1; rw [if_neg e1, if_neg e2, if_neg e3]
    have HY1 : Hid (w1.heap[w.heap.size]? = some (.cells (pre1 r c nm v) 37 (0, 0))) := (by rw [hp]; exact HA1.out : w1.heap[w.heap.size]? = some (.cells (pre1 r c nm v) 37 (0, 0)))
    clear e1 e2 e3 hp HP1
    go_wp2_with fail
    go_meet
    exact ⟨rfl, HY1, HA2, HAB, HAS⟩
  case rest =>
    obtain ⟨rfl, HY1, HY2, HYB, HYS⟩ := hcut
    obtain ⟨P, HPP⟩ : ∃ P, Hid (P = pre1 r c nm v) := ⟨_, rfl⟩
    have HPM : Hid (MemOk P) := (by rw [HPP.out]; exact HP1.out : MemOk P)
    have HX1 : Hid (wc.heap[w.heap.size]? = some (.cells P 37 (0, 0))) := (by rw [HPP.out]; exact HY1.out : wc.heap[w.heap.size]? = some (.cells P 37 (0, 0)))
    have HTc : Hid (T wc) := HR.out.later _ _ HTw.out HYB.out
    have HPOST : Hid (∀ D, PTo r P nm v D → QQ D) := fun D h => by have := HQQ.out D; rw [HPP.out] at h; exact this h
    clear HY1 HP1 HA1 HA2 HAB HAS HTA HC
    go_wp2_with fail
    refine (HDV.out wc HTc.out).mono ?_
    rintro e w2 ⟨rfl, g2⟩
    have HB1 : Hid (w2.heap[w.heap.size]? = some (.cells P 37 (0, 0))) := (g2.block _ (by have := HYS.out; omega)).trans HX1.out
    have HB2 : Hid (w2.heap[w.heap.size + 1]? = some (.cells Z 37 (0, 0))) := (g2.block _ (by have := HYS.out; omega)).trans HY2.out
    have HBB : Hid (Below w.heap.size w w2) := HYB.out.trans (g2.mono HYB.out.size)
    have HBS : Hid (w.heap.size + 2 ≤ w2.heap.size) := (by have := g2.size; have := HYS.out; omega : w.heap.size + 2 ≤ w2.heap.size)
    have hzd := zero_da.1
    clear g2 HX1 HY2 HYB HYS HTc
    go_wp2_with fail
    have HC1 : Hid ((w2.alloc (.cells #[.int .i64 k, .int .i64 (n : Int), .int .i64 q] 54)).heap[w.heap.size]? = some (.cells P 37 (0, 0))) := (((Below.refl w2.heap.size w2).alloc (Nat.le_refl _) _).block _ (by have := HBS.out; omega)).trans HB1.out
    have HC2 : Hid ((w2.alloc (.cells #[.int .i64 k, .int .i64 (n : Int), .int .i64 q] 54)).heap[w.heap.size + 1]? = some (.cells Z 37 (0, 0))) := (((Below.refl w2.heap.size w2).alloc (Nat.le_refl _) _).block _ (by have := HBS.out; omega)).trans HB2.out
    have HCD : Hid ((w2.alloc (.cells #[.int .i64 k, .int .i64 (n : Int), .int .i64 q] 54)).heap[w2.heap.size]? = some (.cells #[.int .i64 k, .int .i64 (n : Int), .int .i64 q] 54 (0, 0))) := heap_alloc_last _ _
    have HCB : Hid (Below w.heap.size w (w2.alloc (.cells #[.int .i64 k, .int .i64 (n : Int), .int .i64 q] 54))) := HBB.out.alloc (by have := HBS.out; omega) _
    have HGD : Hid (w.heap.size + 2 ≤ w2.heap.size) := HBS.out
    generalize (w2.alloc (.cells #[.int .i64 k, .int .i64 (n : Int), .int .i64 q] 54)) = X at HC1 HC2 HCD HCB ⊢
    generalize w2.heap.size = gd at HCD HGD ⊢
    clear HB1 HB2 HBB HBS hzd
    have HST : Hid (∀ V V' : World, (V.heap[w.heap.size]? = some (.cells P 37 (0, 0)) ∧ V.heap[w.heap.size + 1]? = some (.cells Z 37 (0, 0)) ∧ V.heap[gd]? = some (.cells #[.int .i64 k, .int .i64 (n : Int), .int .i64 q] 54 (0, 0)) ∧ Below w.heap.size w V) → Below V.heap.size V V' → (V'.heap[w.heap.size]? = some (.cells P 37 (0, 0)) ∧ V'.heap[w.heap.size + 1]? = some (.cells Z 37 (0, 0)) ∧ V'.heap[gd]? = some (.cells #[.int .i64 k, .int .i64 (n : Int), .int .i64 q] 54 (0, 0)) ∧ Below w.heap.size w V')) := fun V V' h g => by
      obtain ⟨a1, a2, a3, a4⟩ := h
      have l1 := (Array.getElem?_eq_some_iff.1 a3).1
      have l2 := HGD.out
      exact ⟨(g.block _ (by omega)).trans a1, (g.block _ (by omega)).trans a2, (g.block _ l1).trans a3, a4.trans (g.mono a4.size)⟩
    have HX : Hid (X.heap[w.heap.size]? = some (.cells P 37 (0, 0)) ∧ X.heap[w.heap.size + 1]? = some (.cells Z 37 (0, 0)) ∧ X.heap[gd]? = some (.cells #[.int .i64 k, .int .i64 (n : Int), .int .i64 q] 54 (0, 0)) ∧ Below w.heap.size w X) := ⟨HC1.out, HC2.out, HCD.out, HCB.out⟩
    clear HC1 HC2 HCD HCB
    refine (HR.out.h33 v HSZ.out.2 X (HR.out.later _ _ HTw.out HX.out.2.2.2)).mono ?_
    rintro e w3 ⟨rfl, g3⟩
    have HX3 : Hid (w3.heap[w.heap.size]? = some (.cells P 37 (0, 0)) ∧ w3.heap[w.heap.size + 1]? = some (.cells Z 37 (0, 0)) ∧ w3.heap[gd]? = some (.cells #[.int .i64 k, .int .i64 (n : Int), .int .i64 q] 54 (0, 0)) ∧ Below w.heap.size w w3) := HST.out _ _ HX.out g3
    clear g3 HX
    go_wp2_with fail
    refine (HR.out.h43 v HSZ.out.2 w3 (HR.out.later _ _ HTw.out HX3.out.2.2.2)).mono ?_
    rintro e w4 ⟨rfl, g4⟩
    have HX4 : Hid (w4.heap[w.heap.size]? = some (.cells P 37 (0, 0)) ∧ w4.heap[w.heap.size + 1]? = some (.cells Z 37 (0, 0)) ∧ w4.heap[gd]? = some (.cells #[.int .i64 k, .int .i64 (n : Int), .int .i64 q] 54 (0, 0)) ∧ Below w.heap.size w w4) := HST.out _ _ HX3.out g4
    clear g4 HX3
    go_wp2_with fail
    refine (HR.out.trim v HSZ.out.2 w4 (HR.out.later _ _ HTw.out HX4.out.2.2.2)).mono ?_
    rintro e w5 ⟨rfl, g5⟩
    have HX5 : Hid (w5.heap[w.heap.size]? = some (.cells P 37 (0, 0)) ∧ w5.heap[w.heap.size + 1]? = some (.cells Z 37 (0, 0)) ∧ w5.heap[gd]? = some (.cells #[.int .i64 k, .int .i64 (n : Int), .int .i64 q] 54 (0, 0)) ∧ Below w.heap.size w w5) := HST.out _ _ HX4.out g5
    clear g5 HX4
    go_wp2_with fail
    refine (HR.out.num (r.trim v) (by have := HR.out.trimz v; have := HSZ.out.2; omega) w5 (HR.out.later _ _ HTw.out HX5.out.2.2.2)).mono ?_
    rintro e w6 ⟨rfl, g6⟩
    have HX6 : Hid (w6.heap[w.heap.size]? = some (.cells P 37 (0, 0)) ∧ w6.heap[w.heap.size + 1]? = some (.cells Z 37 (0, 0)) ∧ w6.heap[gd]? = some (.cells #[.int .i64 k, .int .i64 (n : Int), .int .i64 q] 54 (0, 0)) ∧ Below w.heap.size w w6) := HST.out _ _ HX5.out g6
    clear g6 HX5
    have rK : w6.cell? ⟨gd, 0, none⟩ = some (.int .i64 k) := (cell_of_row _ _ _ _ _ _ HX6.out.2.2.1).trans rfl
    have rN : w6.cell? ⟨gd, 1, none⟩ = some (.int .i64 (n : Int)) := (cell_of_row _ _ _ _ _ _ HX6.out.2.2.1).trans rfl
    have rQ : w6.cell? ⟨gd, 2, none⟩ = some (.int .i64 q) := (cell_of_row _ _ _ _ _ _ HX6.out.2.2.1).trans rfl
    have hk := HKN.out.1
    have hn := HKN.out.2
    have e7 : (k == 7) = false := by rw [hk]; rfl
    have e8 : (k == 8) = false := by rw [hk]; rfl
    have e9 : (k == 9) = true := by rw [hk]; rfl
    clear hk hn
    go_upto_region 19 with fail
    clear rK rN rQ e7 e8 e9
    obtain ⟨S, HS⟩ : ∃ S : World → Prop, Hid (∀ W, S W ↔ ((∃ E, E.size = 136 ∧ W.heap[w.heap.size]? = some (.cells E 37 (0, 0))) ∧ W.heap[w.heap.size + 1]? = some (.cells Z 37 (0, 0)) ∧ W.heap[gd]? = some (.cells #[.int .i64 k, .int .i64 (n : Int), .int .i64 q] 54 (0, 0)) ∧ Below w.heap.size w W)) := ⟨_, fun W => Iff.rfl⟩
    have hSP : Hid (∀ W, (W.heap[w.heap.size]? = some (.cells P 37 (0, 0)) ∧ W.heap[w.heap.size + 1]? = some (.cells Z 37 (0, 0)) ∧ W.heap[gd]? = some (.cells #[.int .i64 k, .int .i64 (n : Int), .int .i64 q] 54 (0, 0)) ∧ Below w.heap.size w W) → S W) := fun W h => (HS.out W).2 ⟨⟨P, HPM.out.size, h.1⟩, h.2.1, h.2.2.1, h.2.2.2⟩
    refine region_cut (R := fun a' W => ∃ C, PTo r P nm v C ∧ MemOk C ∧ W.heap[w.heap.size]? = some (.cells C 37 (0, 0)) ∧ W.heap[w.heap.size + 1]? = some (.cells Z 37 (0, 0)) ∧ Below w.heap.size w W ∧ a' = ⟨#[.agg c, .string s, .pointer (some ⟨w.heap.size, 0, none⟩), undef, .pointer (some ⟨w.heap.size + 1, 0, none⟩), .string nm, .string v, .bool fb, .pointer (some ⟨gd, 0, none⟩), .bool (r.rb nm), .bool (r.has33 v), .bool (r.has43 v), .int .u16 (IntKind.u16.wrap (r.num (r.trim v))), .tuple #[.string nm, .string v, .bool fb], .string s, .tuple #[.string nm, .string v, .bool fb], .string nm, .string v, .bool fb, u19, u20, u21, u22, u23, u24, u25, u26, u27, u28, u29, u30, u31, .tuple #[.agg #[.int .i64 k, .int .i64 (n : Int), .int .i64 q], .bool (r.rb nm)], .string nm, .tuple #[.agg #[.int .i64 k, .int .i64 (n : Int), .int .i64 q], .bool (r.rb nm)], .agg #[.int .i64 k, .int .i64 (n : Int), .int .i64 q], .bool (r.rb nm), .string v, .bool (r.has33 v), .string v, .bool (r.has43 v), .string v, .string (r.trim v), .int .i64 (r.num (r.trim v)), .int .u16 (IntKind.u16.wrap (r.num (r.trim v))), .pointer (some ⟨gd, 0, none⟩), .int .i64 k, undef, undef, undef, .bool false, .bool false, undef, undef, undef, undef, undef, undef, undef, .bool false, .bool false, undef, undef, undef, undef, undef, undef, undef, undef, .bool true, .bool true, .pointer (some ⟨gd, 1, none⟩), .int .i64 (n : Int), .string v, .int .i64 (r.num v), .int .i16 (IntKind.i16.wrap (r.num v)), .pointer (some ⟨w.heap.size, 85, none⟩), .pointer (some ⟨w.heap.size, 85 + n, none⟩), undef, undef, undef, undef, undef, undef, undef, undef, undef, undef, undef, undef], []⟩) ?_ ?_
    · have hX : (w6.drew.heap[w.heap.size]? = some (.cells P 37 (0, 0)) ∧ w6.drew.heap[w.heap.size + 1]? = some (.cells Z 37 (0, 0)) ∧ w6.drew.heap[gd]? = some (.cells #[.int .i64 k, .int .i64 (n : Int), .int .i64 q] 54 (0, 0)) ∧ Below w.heap.size w w6.drew) := ⟨HX6.out.1, HX6.out.2.1, HX6.out.2.2.1, HX6.out.2.2.2.drew⟩
      have S0 : S w6.drew := hSP.out _ hX
      refine heldH_start (S := S) (by kernel_rfl) S0 8 rfl #[false, false, false, false, false, false, false, false] rfl (fun S0 => ?_)
      generalize w6.drew = Y at S0 hX ⊢
      refine tkH_val (i := 0) rfl (by kernel_rfl) (by kernel_rfl) (by kernel_rfl) (fun _ _ _ _ h => nomatch h.1) rfl (.pointer (some ⟨gd, 1, none⟩)) (fun W _ => by go_simp) S0 #[true, false, false, false, false, false, false, false] rfl ⟨#[.agg c, .string s, .pointer (some ⟨w.heap.size, 0, none⟩), undef, .pointer (some ⟨w.heap.size + 1, 0, none⟩), .string nm, .string v, .bool fb, .pointer (some ⟨gd, 0, none⟩), .bool (r.rb nm), .bool (r.has33 v), .bool (r.has43 v), .int .u16 (IntKind.u16.wrap (r.num (r.trim v))), .tuple #[.string nm, .string v, .bool fb], .string s, .tuple #[.string nm, .string v, .bool fb], .string nm, .string v, .bool fb, u19, u20, u21, u22, u23, u24, u25, u26, u27, u28, u29, u30, u31, .tuple #[.agg #[.int .i64 k, .int .i64 (n : Int), .int .i64 q], .bool (r.rb nm)], .string nm, .tuple #[.agg #[.int .i64 k, .int .i64 (n : Int), .int .i64 q], .bool (r.rb nm)], .agg #[.int .i64 k, .int .i64 (n : Int), .int .i64 q], .bool (r.rb nm), .string v, .bool (r.has33 v), .string v, .bool (r.has43 v), .string v, .string (r.trim v), .int .i64 (r.num (r.trim v)), .int .u16 (IntKind.u16.wrap (r.num (r.trim v))), .pointer (some ⟨gd, 0, none⟩), .int .i64 k, undef, undef, undef, .bool false, .bool false, undef, undef, undef, undef, undef, undef, undef, .bool false, .bool false, undef, undef, undef, undef, undef, undef, undef, undef, .bool true, .bool true, .pointer (some ⟨gd, 1, none⟩), undef, undef, undef, undef, undef, undef, undef, undef, undef, undef, undef, undef, undef, undef, undef, undef, undef, undef], []⟩ rfl ?_
      refine tkH_val (i := 1) rfl (by kernel_rfl) (by kernel_rfl) (by kernel_rfl) (fun _ _ _ _ h => nomatch h.1) rfl (.int .i64 (n : Int)) (fun W hW => by have hc : W.cell? ⟨gd, 1, none⟩ = some (.int .i64 (n : Int)) := (cell_of_row _ _ _ _ _ _ ((HS.out W).1 hW).2.2.1).trans rfl; go_simp) S0 #[true, true, false, false, false, false, false, false] rfl ⟨#[.agg c, .string s, .pointer (some ⟨w.heap.size, 0, none⟩), undef, .pointer (some ⟨w.heap.size + 1, 0, none⟩), .string nm, .string v, .bool fb, .pointer (some ⟨gd, 0, none⟩), .bool (r.rb nm), .bool (r.has33 v), .bool (r.has43 v), .int .u16 (IntKind.u16.wrap (r.num (r.trim v))), .tuple #[.string nm, .string v, .bool fb], .string s, .tuple #[.string nm, .string v, .bool fb], .string nm, .string v, .bool fb, u19, u20, u21, u22, u23, u24, u25, u26, u27, u28, u29, u30, u31, .tuple #[.agg #[.int .i64 k, .int .i64 (n : Int), .int .i64 q], .bool (r.rb nm)], .string nm, .tuple #[.agg #[.int .i64 k, .int .i64 (n : Int), .int .i64 q], .bool (r.rb nm)], .agg #[.int .i64 k, .int .i64 (n : Int), .int .i64 q], .bool (r.rb nm), .string v, .bool (r.has33 v), .string v, .bool (r.has43 v), .string v, .string (r.trim v), .int .i64 (r.num (r.trim v)), .int .u16 (IntKind.u16.wrap (r.num (r.trim v))), .pointer (some ⟨gd, 0, none⟩), .int .i64 k, undef, undef, undef, .bool false, .bool false, undef, undef, undef, undef, undef, undef, undef, .bool false, .bool false, undef, undef, undef, undef, undef, undef, undef, undef, .bool true, .bool true, .pointer (some ⟨gd, 1, none⟩), .int .i64 (n : Int), undef, undef, undef, undef, undef, undef, undef, undef, undef, undef, undef, undef, undef, undef, undef, undef, undef], []⟩ rfl ?_
      refine tkH_val (i := 2) rfl (by kernel_rfl) (by kernel_rfl) (by kernel_rfl) (fun _ _ _ _ h => nomatch h.1) rfl (.string v) (fun W _ => by go_simp) S0 #[true, true, true, false, false, false, false, false] rfl ⟨#[.agg c, .string s, .pointer (some ⟨w.heap.size, 0, none⟩), undef, .pointer (some ⟨w.heap.size + 1, 0, none⟩), .string nm, .string v, .bool fb, .pointer (some ⟨gd, 0, none⟩), .bool (r.rb nm), .bool (r.has33 v), .bool (r.has43 v), .int .u16 (IntKind.u16.wrap (r.num (r.trim v))), .tuple #[.string nm, .string v, .bool fb], .string s, .tuple #[.string nm, .string v, .bool fb], .string nm, .string v, .bool fb, u19, u20, u21, u22, u23, u24, u25, u26, u27, u28, u29, u30, u31, .tuple #[.agg #[.int .i64 k, .int .i64 (n : Int), .int .i64 q], .bool (r.rb nm)], .string nm, .tuple #[.agg #[.int .i64 k, .int .i64 (n : Int), .int .i64 q], .bool (r.rb nm)], .agg #[.int .i64 k, .int .i64 (n : Int), .int .i64 q], .bool (r.rb nm), .string v, .bool (r.has33 v), .string v, .bool (r.has43 v), .string v, .string (r.trim v), .int .i64 (r.num (r.trim v)), .int .u16 (IntKind.u16.wrap (r.num (r.trim v))), .pointer (some ⟨gd, 0, none⟩), .int .i64 k, undef, undef, undef, .bool false, .bool false, undef, undef, undef, undef, undef, undef, undef, .bool false, .bool false, undef, undef, undef, undef, undef, undef, undef, undef, .bool true, .bool true, .pointer (some ⟨gd, 1, none⟩), .int .i64 (n : Int), .string v, undef, undef, undef, undef, undef, undef, undef, undef, undef, undef, undef, undef, undef, undef, undef, undef], []⟩ rfl ?_
      refine tkH_val (i := 5) rfl (by kernel_rfl) (by kernel_rfl) (by kernel_rfl) (fun _ _ _ _ h => nomatch h.1) rfl (.pointer (some ⟨w.heap.size, 85, none⟩)) (fun W _ => by go_simp) S0 #[true, true, true, false, false, true, false, false] rfl ⟨#[.agg c, .string s, .pointer (some ⟨w.heap.size, 0, none⟩), undef, .pointer (some ⟨w.heap.size + 1, 0, none⟩), .string nm, .string v, .bool fb, .pointer (some ⟨gd, 0, none⟩), .bool (r.rb nm), .bool (r.has33 v), .bool (r.has43 v), .int .u16 (IntKind.u16.wrap (r.num (r.trim v))), .tuple #[.string nm, .string v, .bool fb], .string s, .tuple #[.string nm, .string v, .bool fb], .string nm, .string v, .bool fb, u19, u20, u21, u22, u23, u24, u25, u26, u27, u28, u29, u30, u31, .tuple #[.agg #[.int .i64 k, .int .i64 (n : Int), .int .i64 q], .bool (r.rb nm)], .string nm, .tuple #[.agg #[.int .i64 k, .int .i64 (n : Int), .int .i64 q], .bool (r.rb nm)], .agg #[.int .i64 k, .int .i64 (n : Int), .int .i64 q], .bool (r.rb nm), .string v, .bool (r.has33 v), .string v, .bool (r.has43 v), .string v, .string (r.trim v), .int .i64 (r.num (r.trim v)), .int .u16 (IntKind.u16.wrap (r.num (r.trim v))), .pointer (some ⟨gd, 0, none⟩), .int .i64 k, undef, undef, undef, .bool false, .bool false, undef, undef, undef, undef, undef, undef, undef, .bool false, .bool false, undef, undef, undef, undef, undef, undef, undef, undef, .bool true, .bool true, .pointer (some ⟨gd, 1, none⟩), .int .i64 (n : Int), .string v, undef, undef, .pointer (some ⟨w.heap.size, 85, none⟩), undef, undef, undef, undef, undef, undef, undef, undef, undef, undef, undef, undef, undef], []⟩ rfl ?_
      · skip
        refine wpAnyH_all (rs := [3]) (by kernel_rfl) (by simp) (fun i hi => ?_)
        obtain rfl := List.mem_singleton.1 hi
        refine up_fcall' rfl rfl Tryz.func83 (by kernel_rfl) (by kernel_rfl) rfl [.string v] rfl #[true, true, true, true, false, true, false, false] rfl (.int .i64 (r.num v)) ⟨#[.agg c, .string s, .pointer (some ⟨w.heap.size, 0, none⟩), undef, .pointer (some ⟨w.heap.size + 1, 0, none⟩), .string nm, .string v, .bool fb, .pointer (some ⟨gd, 0, none⟩), .bool (r.rb nm), .bool (r.has33 v), .bool (r.has43 v), .int .u16 (IntKind.u16.wrap (r.num (r.trim v))), .tuple #[.string nm, .string v, .bool fb], .string s, .tuple #[.string nm, .string v, .bool fb], .string nm, .string v, .bool fb, u19, u20, u21, u22, u23, u24, u25, u26, u27, u28, u29, u30, u31, .tuple #[.agg #[.int .i64 k, .int .i64 (n : Int), .int .i64 q], .bool (r.rb nm)], .string nm, .tuple #[.agg #[.int .i64 k, .int .i64 (n : Int), .int .i64 q], .bool (r.rb nm)], .agg #[.int .i64 k, .int .i64 (n : Int), .int .i64 q], .bool (r.rb nm), .string v, .bool (r.has33 v), .string v, .bool (r.has43 v), .string v, .string (r.trim v), .int .i64 (r.num (r.trim v)), .int .u16 (IntKind.u16.wrap (r.num (r.trim v))), .pointer (some ⟨gd, 0, none⟩), .int .i64 k, undef, undef, undef, .bool false, .bool false, undef, undef, undef, undef, undef, undef, undef, .bool false, .bool false, undef, undef, undef, undef, undef, undef, undef, undef, .bool true, .bool true, .pointer (some ⟨gd, 1, none⟩), .int .i64 (n : Int), .string v, .int .i64 (r.num v), undef, .pointer (some ⟨w.heap.size, 85, none⟩), undef, undef, undef, undef, undef, undef, undef, undef, undef, undef, undef, undef, undef], []⟩ rfl _ (HR.out.num v HSZ.out.2 Y (HR.out.later _ _ HTw.out hX.2.2.2)) ?_
        intro w7 g7
        have hX7 := HST.out _ _ hX g7
        have S7 : S w7 := hSP.out _ hX7
        refine ⟨S7, ?_⟩
        refine tkH_val (i := 4) rfl (by kernel_rfl) (by kernel_rfl) (by kernel_rfl) (fun _ _ _ _ h => nomatch h.1) rfl (.int .i16 (IntKind.i16.wrap (r.num v))) (fun W _ => by go_simp) S7 #[true, true, true, true, true, true, false, false] rfl ⟨#[.agg c, .string s, .pointer (some ⟨w.heap.size, 0, none⟩), undef, .pointer (some ⟨w.heap.size + 1, 0, none⟩), .string nm, .string v, .bool fb, .pointer (some ⟨gd, 0, none⟩), .bool (r.rb nm), .bool (r.has33 v), .bool (r.has43 v), .int .u16 (IntKind.u16.wrap (r.num (r.trim v))), .tuple #[.string nm, .string v, .bool fb], .string s, .tuple #[.string nm, .string v, .bool fb], .string nm, .string v, .bool fb, u19, u20, u21, u22, u23, u24, u25, u26, u27, u28, u29, u30, u31, .tuple #[.agg #[.int .i64 k, .int .i64 (n : Int), .int .i64 q], .bool (r.rb nm)], .string nm, .tuple #[.agg #[.int .i64 k, .int .i64 (n : Int), .int .i64 q], .bool (r.rb nm)], .agg #[.int .i64 k, .int .i64 (n : Int), .int .i64 q], .bool (r.rb nm), .string v, .bool (r.has33 v), .string v, .bool (r.has43 v), .string v, .string (r.trim v), .int .i64 (r.num (r.trim v)), .int .u16 (IntKind.u16.wrap (r.num (r.trim v))), .pointer (some ⟨gd, 0, none⟩), .int .i64 k, undef, undef, undef, .bool false, .bool false, undef, undef, undef, undef, undef, undef, undef, .bool false, .bool false, undef, undef, undef, undef, undef, undef, undef, undef, .bool true, .bool true, .pointer (some ⟨gd, 1, none⟩), .int .i64 (n : Int), .string v, .int .i64 (r.num v), .int .i16 (IntKind.i16.wrap (r.num v)), .pointer (some ⟨w.heap.size, 85, none⟩), undef, undef, undef, undef, undef, undef, undef, undef, undef, undef, undef, undef, undef], []⟩ rfl ?_
        refine wpAnyH_all (rs := [6]) (by kernel_rfl) (by simp) (fun i hi => ?_)
        obtain rfl := List.mem_singleton.1 hi
        refine upH_val rfl rfl (.pointer (some ⟨w.heap.size, 85 + n, none⟩)) w7 (by have i0 : (0 : Int) ≤ (n : Int) := (by omega); have i9 : (n : Int) < 32 := (by have := HKN.out.2; omega); go_simp) S7 #[true, true, true, true, true, true, true, false] rfl ⟨#[.agg c, .string s, .pointer (some ⟨w.heap.size, 0, none⟩), undef, .pointer (some ⟨w.heap.size + 1, 0, none⟩), .string nm, .string v, .bool fb, .pointer (some ⟨gd, 0, none⟩), .bool (r.rb nm), .bool (r.has33 v), .bool (r.has43 v), .int .u16 (IntKind.u16.wrap (r.num (r.trim v))), .tuple #[.string nm, .string v, .bool fb], .string s, .tuple #[.string nm, .string v, .bool fb], .string nm, .string v, .bool fb, u19, u20, u21, u22, u23, u24, u25, u26, u27, u28, u29, u30, u31, .tuple #[.agg #[.int .i64 k, .int .i64 (n : Int), .int .i64 q], .bool (r.rb nm)], .string nm, .tuple #[.agg #[.int .i64 k, .int .i64 (n : Int), .int .i64 q], .bool (r.rb nm)], .agg #[.int .i64 k, .int .i64 (n : Int), .int .i64 q], .bool (r.rb nm), .string v, .bool (r.has33 v), .string v, .bool (r.has43 v), .string v, .string (r.trim v), .int .i64 (r.num (r.trim v)), .int .u16 (IntKind.u16.wrap (r.num (r.trim v))), .pointer (some ⟨gd, 0, none⟩), .int .i64 k, undef, undef, undef, .bool false, .bool false, undef, undef, undef, undef, undef, undef, undef, .bool false, .bool false, undef, undef, undef, undef, undef, undef, undef, undef, .bool true, .bool true, .pointer (some ⟨gd, 1, none⟩), .int .i64 (n : Int), .string v, .int .i64 (r.num v), .int .i16 (IntKind.i16.wrap (r.num v)), .pointer (some ⟨w.heap.size, 85, none⟩), .pointer (some ⟨w.heap.size, 85 + n, none⟩), undef, undef, undef, undef, undef, undef, undef, undef, undef, undef, undef, undef], []⟩ rfl ?_
        refine wpAnyH_all (rs := [7]) (by kernel_rfl) (by simp) (fun i hi => ?_)
        obtain rfl := List.mem_singleton.1 hi
        have hn := HKN.out.2
        obtain ⟨x0, hx0⟩ : ∃ x, w7.cell? ⟨w.heap.size, 85 + n, none⟩ = some x := by rw [cell_of_row _ _ _ _ _ _ hX7.1]; exact ⟨_, Array.getElem?_eq_getElem (by have := HPM.out.size; omega)⟩
        have z0 : w7.frozen? ⟨w.heap.size, 85 + n, none⟩ = false := by have hh := hX7.1; simp [World.frozen?, hh]
        have row0 : (w7.setCell ⟨w.heap.size, 85 + n, none⟩ (.int .i16 (IntKind.i16.wrap (r.num v)))).heap[w.heap.size]? = some (.cells (P.setIfInBounds (85 + n) (.int .i16 (IntKind.i16.wrap (r.num v)))) 37 (0, 0)) := row_put hX7.1 _ _
        have row1 : (w7.setCell ⟨w.heap.size, 85 + n, none⟩ (.int .i16 (IntKind.i16.wrap (r.num v)))).heap[w.heap.size + 1]? = some (.cells Z 37 (0, 0)) := row_other hX7.2.1 _ _ (by omega) _
        have rowd : (w7.setCell ⟨w.heap.size, 85 + n, none⟩ (.int .i16 (IntKind.i16.wrap (r.num v)))).heap[gd]? = some (.cells #[.int .i64 k, .int .i64 (n : Int), .int .i64 q] 54 (0, 0)) := row_other hX7.2.2.1 _ _ (by have := HGD.out; omega) _
        have rowB : Below w.heap.size w (w7.setCell ⟨w.heap.size, 85 + n, none⟩ (.int .i16 (IntKind.i16.wrap (r.num v)))) := hX7.2.2.2.setCell (p := ⟨w.heap.size, 85 + n, none⟩) (by simp) _
        have S8 : S (w7.setCell ⟨w.heap.size, 85 + n, none⟩ (.int .i16 (IntKind.i16.wrap (r.num v)))) := (HS.out _).2 ⟨⟨_, by simpa using HPM.out.size, row0⟩, row1, rowd, rowB⟩
        have hst : (storeVar 32 ⟨w.heap.size, 85 + n, none⟩ (.int .i16 (IntKind.i16.wrap (r.num v)))).run Tryz.prog w7 = .ok () (w7.setCell ⟨w.heap.size, 85 + n, none⟩ (.int .i16 (IntKind.i16.wrap (r.num v)))) := storeH_9 hx0 z0
        refine up_store' rfl rfl 32 _ _ rfl _ _ rfl _ rfl _ hst S8 #[true, true, true, true, true, true, true, true] rfl ⟨#[.agg c, .string s, .pointer (some ⟨w.heap.size, 0, none⟩), undef, .pointer (some ⟨w.heap.size + 1, 0, none⟩), .string nm, .string v, .bool fb, .pointer (some ⟨gd, 0, none⟩), .bool (r.rb nm), .bool (r.has33 v), .bool (r.has43 v), .int .u16 (IntKind.u16.wrap (r.num (r.trim v))), .tuple #[.string nm, .string v, .bool fb], .string s, .tuple #[.string nm, .string v, .bool fb], .string nm, .string v, .bool fb, u19, u20, u21, u22, u23, u24, u25, u26, u27, u28, u29, u30, u31, .tuple #[.agg #[.int .i64 k, .int .i64 (n : Int), .int .i64 q], .bool (r.rb nm)], .string nm, .tuple #[.agg #[.int .i64 k, .int .i64 (n : Int), .int .i64 q], .bool (r.rb nm)], .agg #[.int .i64 k, .int .i64 (n : Int), .int .i64 q], .bool (r.rb nm), .string v, .bool (r.has33 v), .string v, .bool (r.has43 v), .string v, .string (r.trim v), .int .i64 (r.num (r.trim v)), .int .u16 (IntKind.u16.wrap (r.num (r.trim v))), .pointer (some ⟨gd, 0, none⟩), .int .i64 k, undef, undef, undef, .bool false, .bool false, undef, undef, undef, undef, undef, undef, undef, .bool false, .bool false, undef, undef, undef, undef, undef, undef, undef, undef, .bool true, .bool true, .pointer (some ⟨gd, 1, none⟩), .int .i64 (n : Int), .string v, .int .i64 (r.num v), .int .i16 (IntKind.i16.wrap (r.num v)), .pointer (some ⟨w.heap.size, 85, none⟩), .pointer (some ⟨w.heap.size, 85 + n, none⟩), undef, undef, undef, undef, undef, undef, undef, undef, undef, undef, undef, undef], []⟩ rfl ?_
        exact wpAnyH_done (by kernel_rfl) ⟨rfl, _, (by unfold PTo; rw [HRD.out]; simp only [Int.toNat_natCast]; rw [if_neg (by have := HKN.out.1; omega), if_neg (by have := HKN.out.1; omega), if_pos HKN.out.1]; trivial : PTo r P nm v (P.setIfInBounds (85 + n) (.int .i16 (IntKind.i16.wrap (r.num v))))), hh_set HPM.out _ (hh_i16 _ (by have := HKN.out.2; rw [kd_h]; repeat (first | rw [if_neg (by omega)] | rw [if_pos (by omega)]))), row0, row1, rowB, rfl⟩ _
    · rintro a' W ⟨C, hTO, hCM, k1, k3, kB, rfl⟩
      have HTO : Hid (PTo r P nm v C) := hTO
      have HCM : Hid (MemOk C) := hCM
      have HR1 : Hid (W.heap[w.heap.size]? = some (.cells C 37 (0, 0))) := k1
      have HR3 : Hid (W.heap[w.heap.size + 1]? = some (.cells Z 37 (0, 0))) := k3
      have HB0 : Hid (Below w.heap.size w W) := kB
      clear hTO hCM k1 k3 kB HS hSP HX6 HST HR HTw HDV HQQ HRD
      have HI : Hid ((Tryz.prog.info? 37).map (·.size) = some C.size) := (by rw [HCM.out.size]; exact zero_mem.2 : (Tryz.prog.info? 37).map (·.size) = some C.size)
      have HLD : Hid ((loadVar 37 ⟨w.heap.size, 0, none⟩).run Tryz.prog W = .ok (.agg C) W) := load_all HR1.out _ _ Tryz.underlying37 rfl HI.out
      have HSD : Hid ((storeVar 37 ⟨w.heap.size + 1, 0, none⟩ (.agg C)).run Tryz.prog W = .ok () (W.setRow (w.heap.size + 1) C)) := store_all HR3.out _ _ (HZs.out.trans HCM.out.size.symm) HI.out HCM.out.one
      have HB : Hid (Below w.heap.size w (W.setRow (w.heap.size + 1) C)) := below_setRow HB0.out (by omega) _
      go_wp2_with (first | (refine wpL_load rfl 37 _ rfl _ _ rfl _ HLD.out ?_) | (refine wpL_store rfl 37 _ _ rfl _ _ rfl _ rfl _ HSD.out ?_) | exact ret_row rfl rfl (row_set HR3.out _) Tryz.underlying37 rfl HI.out rfl ⟨C, rfl, HPOST.out C HTO.out, HB.out⟩ | fail)

set_option maxRecDepth 10000 in
set_option maxHeartbeats 4000000 in
theorem withword_10 {r : Prds} {T : World → Prop} (hr : PrdsOk r T) (c : Array Value) (hc : MemOk c) (s : ByteArray) (hs : s.size ≤ 1048576) (w : World) (hT : T w) (nm v : ByteArray) (fb : Bool) (hcut : r.cut s = (nm, v, fb)) (k : Int) (n : Nat) (q : Int) (hrd : r.rd nm = (k, (n : Int), q)) (hk : k = 10) (hn : n < 16) (QQ : Array Value → Prop) (HQQ : Hid (∀ D, PTo r (pre1 r c nm v) nm v D → QQ D)) :
    Calls Tryz.prog 29 #[.agg c, .string s] w fun e w' => ∃ D, e = .returned (.agg D) ∧ QQ D ∧ Below w.heap.size w w' := by
  have HKN : Hid (k = 10 ∧ n < 16) := ⟨hk, hn⟩
  clear hk hn
  have HR : Hid (PrdsOk r T) := hr
  have HTw : Hid (T w) := hT
  have HC : Hid (MemOk c) := hc
  have hz := zero_mem.1
  obtain ⟨Z, HZ⟩ : ∃ Z, Hid (Z = memZero) := ⟨_, rfl⟩
  rw [← HZ.out] at hz
  have HZs : Hid (Z.size = 136) := (by rw [HZ.out, memZero_size] : Z.size = 136)
  have HCut : Hid (∀ W, T W → Calls Tryz.prog 82 #[.string s, .string ⟨#[61]⟩] W fun e w' => e = .returned (.tuple #[.string (r.cut s).1, .string (r.cut s).2.1, .bool (r.cut s).2.2]) ∧ Below W.heap.size W w') := hr.cut s hs
  have HSZ : Hid ((r.cut s).1.size ≤ 1048576 ∧ (r.cut s).2.1.size ≤ 1048576) := (by have := hr.cutz s; omega : (r.cut s).1.size ≤ 1048576 ∧ (r.cut s).2.1.size ≤ 1048576)
  rw [hcut] at HCut HSZ
  obtain ⟨W0, HW0⟩ : ∃ W0, Hid (W0 = (w.alloc (.cells c 37)).alloc (.cells Z 37)) := ⟨_, rfl⟩
  have HH1 : Hid (W0.heap[w.heap.size]? = some (.cells c 37 (0, 0))) := (by rw [HW0.out]; exact (rows2 w _ _).1 : W0.heap[w.heap.size]? = some (.cells c 37 (0, 0)))
  have HH2 : Hid (W0.heap[w.heap.size + 1]? = some (.cells Z 37 (0, 0))) := (by rw [HW0.out]; exact (rows2 w _ _).2 : W0.heap[w.heap.size + 1]? = some (.cells Z 37 (0, 0)))
  have HH3 : Hid (W0.heap.size = w.heap.size + 2) := (by rw [HW0.out]; simp : W0.heap.size = w.heap.size + 2)
  have HbW : Hid (Below w.heap.size w W0) := (by rw [HW0.out]; exact ((Below.refl _ _).alloc (Nat.le_refl _) _).alloc (by simp) _ : Below w.heap.size w W0)
  have HDV : Hid (∀ W, T W → Calls Tryz.prog 84 #[.string nm] W fun e w' => e = .returned (.tuple #[.agg #[.int .i64 k, .int .i64 (n : Int), .int .i64 q], .bool (r.rb nm)]) ∧ Below W.heap.size W w') := by have := hr.dev nm HSZ.out.1; rw [hrd] at this; exact this
  have HRD : Hid (r.rd nm = (k, (n : Int), q)) := hrd
  clear hr hT hc hcut hrd
  go_enter Tryz.func29, Tryz.ntmps29
  go_wp2_with fail
  rw [← HW0.out]
  refine (HCut.out W0 (HR.out.later _ _ HTw.out HbW.out)).mono ?_
  rintro e w1 ⟨rfl, g1⟩
  clear HCut HW0 hz
  have HA1 : Hid (w1.heap[w.heap.size]? = some (.cells c 37 (0, 0))) := (g1.block _ (by rw [HH3.out]; omega)).trans HH1.out
  have HA2 : Hid (w1.heap[w.heap.size + 1]? = some (.cells Z 37 (0, 0))) := (g1.block _ (by rw [HH3.out]; omega)).trans HH2.out
  have HAB : Hid (Below w.heap.size w w1) := HbW.out.trans (g1.mono (by rw [HH3.out]; omega))
  have HAS : Hid (w.heap.size + 2 ≤ w1.heap.size) := (by have := g1.size; have := HH3.out; omega : w.heap.size + 2 ≤ w1.heap.size)
  have HTA : Hid (T w1) := HR.out.later _ _ HTw.out HAB.out
  have HP1 : Hid (MemOk (pre1 r c nm v)) := memOk_pre1 r HC.out nm v
  clear g1 HH1 HH2 HH3 HbW
  go_upto_block 0 with fail
  go_cut [6] from 19 to 31 (fun u wc => u = .string v ∧ Hid (wc.heap[w.heap.size]? = some (.cells (pre1 r c nm v) 37 (0, 0))) ∧ Hid (wc.heap[w.heap.size + 1]? = some (.cells Z 37 (0, 0))) ∧ Hid (Below w.heap.size w wc) ∧ Hid (w.heap.size + 2 ≤ wc.heap.size))
  case first =>
    by_cases e1 : nm.data.toList = [116, 105, 109, 101]
    · have f1 : (nm.toList == [116, 105, 109, 101]) = true := by rw [toList_eq]; simp [e1]
      have hp : pre1 r c nm v = c.setIfInBounds 133 (.int .u32 (IntKind.u32.wrap (r.num v))) := by unfold pre1; rw [if_pos e1]
      clear e1
      go_wp2_with fail
      refine (HR.out.num v HSZ.out.2 w1 HTA.out).mono ?_
      rintro e w2 ⟨rfl, g2⟩
      have k1 := (g2.block _ (by have := HAS.out; omega)).trans HA1.out
      have k2 := (g2.block _ (by have := HAS.out; omega)).trans HA2.out
      have kB := HAB.out.trans (g2.mono HAB.out.size)
      have r1 : w2.cell? ⟨w.heap.size, 133, none⟩ = some (c[133]'(by rw [HC.out.size]; omega)) := by rw [cell_of_row _ _ _ _ _ _ k1]; exact Array.getElem?_eq_getElem (by rw [HC.out.size]; omega)
      have q1 : w2.frozen? ⟨w.heap.size, 133, none⟩ = false := by simp [World.frozen?, k1]
      have HY1 : Hid ((w2.setCell ⟨w.heap.size, 133, none⟩ (.int .u32 (IntKind.u32.wrap (r.num v)))).heap[w.heap.size]? = some (.cells (pre1 r c nm v) 37 (0, 0))) := (by rw [hp]; exact row_put k1 _ _ : (w2.setCell ⟨w.heap.size, 133, none⟩ (.int .u32 (IntKind.u32.wrap (r.num v)))).heap[w.heap.size]? = some (.cells (pre1 r c nm v) 37 (0, 0)))
      have HY2 : Hid ((w2.setCell ⟨w.heap.size, 133, none⟩ (.int .u32 (IntKind.u32.wrap (r.num v)))).heap[w.heap.size + 1]? = some (.cells Z 37 (0, 0))) := row_other k2 _ _ (by omega) _
      have HYB : Hid (Below w.heap.size w (w2.setCell ⟨w.heap.size, 133, none⟩ (.int .u32 (IntKind.u32.wrap (r.num v))))) := kB.setCell (p := ⟨w.heap.size, 133, none⟩) (by simp) _
      have HYS : Hid (w.heap.size + 2 ≤ (w2.setCell ⟨w.heap.size, 133, none⟩ (.int .u32 (IntKind.u32.wrap (r.num v)))).heap.size) := (by have := (Array.getElem?_eq_some_iff.1 HY2.out).1; omega : w.heap.size + 2 ≤ (w2.setCell ⟨w.heap.size, 133, none⟩ (.int .u32 (IntKind.u32.wrap (r.num v)))).heap.size)
      clear g2 k1 k2 kB hp HP1
      go_wp2_with fail
      go_meet
      exact ⟨rfl, HY1, HY2, HYB, HYS⟩
    have f1 : (nm.toList == [116, 105, 109, 101]) = false := by rw [toList_eq]; simp [e1]
    by_cases e2 : nm.data.toList = [114, 97, 110]
    · have f2 : (nm.toList == [114, 97, 110]) = true := by rw [toList_eq]; simp [e2]
      have hp : pre1 r c nm v = c.setIfInBounds 134 (.bool true) := by unfold pre1; rw [if_neg e1, if_pos e2]
      have r1 : w1.cell? ⟨w.heap.size, 134, none⟩ = some (c[134]'(by rw [HC.out.size]; omega)) := by rw [cell_of_row _ _ _ _ _ _ HA1.out]; exact Array.getElem?_eq_getElem (by rw [HC.out.size]; omega)
      have q1 : w1.frozen? ⟨w.heap.size, 134, none⟩ = false := by have := HA1.out; simp [World.frozen?, this]
      have HY1 : Hid ((w1.setCell ⟨w.heap.size, 134, none⟩ (.bool true)).heap[w.heap.size]? = some (.cells (pre1 r c nm v) 37 (0, 0))) := (by rw [hp]; exact row_put HA1.out _ _ : (w1.setCell ⟨w.heap.size, 134, none⟩ (.bool true)).heap[w.heap.size]? = some (.cells (pre1 r c nm v) 37 (0, 0)))
      have HY2 : Hid ((w1.setCell ⟨w.heap.size, 134, none⟩ (.bool true)).heap[w.heap.size + 1]? = some (.cells Z 37 (0, 0))) := row_other HA2.out _ _ (by omega) _
      have HYB : Hid (Below w.heap.size w (w1.setCell ⟨w.heap.size, 134, none⟩ (.bool true))) := HAB.out.setCell (p := ⟨w.heap.size, 134, none⟩) (by simp) _
      have HYS : Hid (w.heap.size + 2 ≤ (w1.setCell ⟨w.heap.size, 134, none⟩ (.bool true)).heap.size) := (by have := (Array.getElem?_eq_some_iff.1 HY2.out).1; omega : w.heap.size + 2 ≤ (w1.setCell ⟨w.heap.size, 134, none⟩ (.bool true)).heap.size)
      clear e1 e2 hp HP1
      go_wp2_with fail
      go_meet
      exact ⟨rfl, HY1, HY2, HYB, HYS⟩
    have f2 : (nm.toList == [114, 97, 110]) = false := by rw [toList_eq]; simp [e2]
    by_cases e3 : nm.data.toList = [102, 97, 117, 108, 116]
    · have f3 : (nm.toList == [102, 97, 117, 108, 116]) = true := by rw [toList_eq]; simp [e3]
      have hp : pre1 r c nm v = c.setIfInBounds 135 (.bool true) := by unfold pre1; rw [if_neg e1, if_neg e2, if_pos e3]
      have r1 : w1.cell? ⟨w.heap.size, 135, none⟩ = some (c[135]'(by rw [HC.out.size]; omega)) := by rw [cell_of_row _ _ _ _ _ _ HA1.out]; exact Array.getElem?_eq_getElem (by rw [HC.out.size]; omega)
      have q1 : w1.frozen? ⟨w.heap.size, 135, none⟩ = false := by have := HA1.out; simp [World.frozen?, this]
      have HY1 : Hid ((w1.setCell ⟨w.heap.size, 135, none⟩ (.bool true)).heap[w.heap.size]? = some (.cells (pre1 r c nm v) 37 (0, 0))) := (by rw [hp]; exact row_put HA1.out _ _ : (w1.setCell ⟨w.heap.size, 135, none⟩ (.bool true)).heap[w.heap.size]? = some (.cells (pre1 r c nm v) 37 (0, 0)))
      have HY2 : Hid ((w1.setCell ⟨w.heap.size, 135, none⟩ (.bool true)).heap[w.heap.size + 1]? = some (.cells Z 37 (0, 0))) := row_other HA2.out _ _ (by omega) _
      have HYB : Hid (Below w.heap.size w (w1.setCell ⟨w.heap.size, 135, none⟩ (.bool true))) := HAB.out.setCell (p := ⟨w.heap.size, 135, none⟩) (by simp) _
      have HYS : Hid (w.heap.size + 2 ≤ (w1.setCell ⟨w.heap.size, 135, none⟩ (.bool true)).heap.size) := (by have := (Array.getElem?_eq_some_iff.1 HY2.out).1; omega : w.heap.size + 2 ≤ (w1.setCell ⟨w.heap.size, 135, none⟩ (.bool true)).heap.size)
      clear e1 e2 e3 hp HP1
      go_wp2_with fail
      go_meet
      exact ⟨rfl, HY1, HY2, HYB, HYS⟩
    have f3 : (nm.toList == [102, 97, 117, 108, 116]) = false := by rw [toList_eq]; simp [e3]
    have hp : pre1 r c nm v = c := by unfold pre1; rw [if_neg e1, if_neg e2, if_neg e3]
    have HY1 : Hid (w1.heap[w.heap.size]? = some (.cells (pre1 r c nm v) 37 (0, 0))) := (by rw [hp]; exact HA1.out : w1.heap[w.heap.size]? = some (.cells (pre1 r c nm v) 37 (0, 0)))
    clear e1 e2 e3 hp HP1
    go_wp2_with fail
    go_meet
    exact ⟨rfl, HY1, HA2, HAB, HAS⟩
  case rest =>
    obtain ⟨rfl, HY1, HY2, HYB, HYS⟩ := hcut
    obtain ⟨P, HPP⟩ : ∃ P, Hid (P = pre1 r c nm v) := ⟨_, rfl⟩
    have HPM : Hid (MemOk P) := (by rw [HPP.out]; exact HP1.out : MemOk P)
    have HX1 : Hid (wc.heap[w.heap.size]? = some (.cells P 37 (0, 0))) := (by rw [HPP.out]; exact HY1.out : wc.heap[w.heap.size]? = some (.cells P 37 (0, 0)))
    have HTc : Hid (T wc) := HR.out.later _ _ HTw.out HYB.out
    have HPOST : Hid (∀ D, PTo r P nm v D → QQ D) := fun D h => by have := HQQ.out D; rw [HPP.out] at h; exact this h
    clear HY1 HP1 HA1 HA2 HAB HAS HTA HC
    go_wp2_with fail
    refine (HDV.out wc HTc.out).mono ?_
    rintro e w2 ⟨rfl, g2⟩
    have HB1 : Hid (w2.heap[w.heap.size]? = some (.cells P 37 (0, 0))) := (g2.block _ (by have := HYS.out; omega)).trans HX1.out
    have HB2 : Hid (w2.heap[w.heap.size + 1]? = some (.cells Z 37 (0, 0))) := (g2.block _ (by have := HYS.out; omega)).trans HY2.out
    have HBB : Hid (Below w.heap.size w w2) := HYB.out.trans (g2.mono HYB.out.size)
    have HBS : Hid (w.heap.size + 2 ≤ w2.heap.size) := (by have := g2.size; have := HYS.out; omega : w.heap.size + 2 ≤ w2.heap.size)
    have hzd := zero_da.1
    clear g2 HX1 HY2 HYB HYS HTc
    go_wp2_with fail
    have HC1 : Hid ((w2.alloc (.cells #[.int .i64 k, .int .i64 (n : Int), .int .i64 q] 54)).heap[w.heap.size]? = some (.cells P 37 (0, 0))) := (((Below.refl w2.heap.size w2).alloc (Nat.le_refl _) _).block _ (by have := HBS.out; omega)).trans HB1.out
    have HC2 : Hid ((w2.alloc (.cells #[.int .i64 k, .int .i64 (n : Int), .int .i64 q] 54)).heap[w.heap.size + 1]? = some (.cells Z 37 (0, 0))) := (((Below.refl w2.heap.size w2).alloc (Nat.le_refl _) _).block _ (by have := HBS.out; omega)).trans HB2.out
    have HCD : Hid ((w2.alloc (.cells #[.int .i64 k, .int .i64 (n : Int), .int .i64 q] 54)).heap[w2.heap.size]? = some (.cells #[.int .i64 k, .int .i64 (n : Int), .int .i64 q] 54 (0, 0))) := heap_alloc_last _ _
    have HCB : Hid (Below w.heap.size w (w2.alloc (.cells #[.int .i64 k, .int .i64 (n : Int), .int .i64 q] 54))) := HBB.out.alloc (by have := HBS.out; omega) _
    have HGD : Hid (w.heap.size + 2 ≤ w2.heap.size) := HBS.out
    generalize (w2.alloc (.cells #[.int .i64 k, .int .i64 (n : Int), .int .i64 q] 54)) = X at HC1 HC2 HCD HCB ⊢
    generalize w2.heap.size = gd at HCD HGD ⊢
    clear HB1 HB2 HBB HBS hzd
    have HST : Hid (∀ V V' : World, (V.heap[w.heap.size]? = some (.cells P 37 (0, 0)) ∧ V.heap[w.heap.size + 1]? = some (.cells Z 37 (0, 0)) ∧ V.heap[gd]? = some (.cells #[.int .i64 k, .int .i64 (n : Int), .int .i64 q] 54 (0, 0)) ∧ Below w.heap.size w V) → Below V.heap.size V V' → (V'.heap[w.heap.size]? = some (.cells P 37 (0, 0)) ∧ V'.heap[w.heap.size + 1]? = some (.cells Z 37 (0, 0)) ∧ V'.heap[gd]? = some (.cells #[.int .i64 k, .int .i64 (n : Int), .int .i64 q] 54 (0, 0)) ∧ Below w.heap.size w V')) := fun V V' h g => by
      obtain ⟨a1, a2, a3, a4⟩ := h
      have l1 := (Array.getElem?_eq_some_iff.1 a3).1
      have l2 := HGD.out
      exact ⟨(g.block _ (by omega)).trans a1, (g.block _ (by omega)).trans a2, (g.block _ l1).trans a3, a4.trans (g.mono a4.size)⟩
    have HX : Hid (X.heap[w.heap.size]? = some (.cells P 37 (0, 0)) ∧ X.heap[w.heap.size + 1]? = some (.cells Z 37 (0, 0)) ∧ X.heap[gd]? = some (.cells #[.int .i64 k, .int .i64 (n : Int), .int .i64 q] 54 (0, 0)) ∧ Below w.heap.size w X) := ⟨HC1.out, HC2.out, HCD.out, HCB.out⟩
    clear HC1 HC2 HCD HCB
    refine (HR.out.h33 v HSZ.out.2 X (HR.out.later _ _ HTw.out HX.out.2.2.2)).mono ?_
    rintro e w3 ⟨rfl, g3⟩
    have HX3 : Hid (w3.heap[w.heap.size]? = some (.cells P 37 (0, 0)) ∧ w3.heap[w.heap.size + 1]? = some (.cells Z 37 (0, 0)) ∧ w3.heap[gd]? = some (.cells #[.int .i64 k, .int .i64 (n : Int), .int .i64 q] 54 (0, 0)) ∧ Below w.heap.size w w3) := HST.out _ _ HX.out g3
    clear g3 HX
    go_wp2_with fail
    refine (HR.out.h43 v HSZ.out.2 w3 (HR.out.later _ _ HTw.out HX3.out.2.2.2)).mono ?_
    rintro e w4 ⟨rfl, g4⟩
    have HX4 : Hid (w4.heap[w.heap.size]? = some (.cells P 37 (0, 0)) ∧ w4.heap[w.heap.size + 1]? = some (.cells Z 37 (0, 0)) ∧ w4.heap[gd]? = some (.cells #[.int .i64 k, .int .i64 (n : Int), .int .i64 q] 54 (0, 0)) ∧ Below w.heap.size w w4) := HST.out _ _ HX3.out g4
    clear g4 HX3
    go_wp2_with fail
    refine (HR.out.trim v HSZ.out.2 w4 (HR.out.later _ _ HTw.out HX4.out.2.2.2)).mono ?_
    rintro e w5 ⟨rfl, g5⟩
    have HX5 : Hid (w5.heap[w.heap.size]? = some (.cells P 37 (0, 0)) ∧ w5.heap[w.heap.size + 1]? = some (.cells Z 37 (0, 0)) ∧ w5.heap[gd]? = some (.cells #[.int .i64 k, .int .i64 (n : Int), .int .i64 q] 54 (0, 0)) ∧ Below w.heap.size w w5) := HST.out _ _ HX4.out g5
    clear g5 HX4
    go_wp2_with fail
    refine (HR.out.num (r.trim v) (by have := HR.out.trimz v; have := HSZ.out.2; omega) w5 (HR.out.later _ _ HTw.out HX5.out.2.2.2)).mono ?_
    rintro e w6 ⟨rfl, g6⟩
    have HX6 : Hid (w6.heap[w.heap.size]? = some (.cells P 37 (0, 0)) ∧ w6.heap[w.heap.size + 1]? = some (.cells Z 37 (0, 0)) ∧ w6.heap[gd]? = some (.cells #[.int .i64 k, .int .i64 (n : Int), .int .i64 q] 54 (0, 0)) ∧ Below w.heap.size w w6) := HST.out _ _ HX5.out g6
    clear g6 HX5
    have rK : w6.cell? ⟨gd, 0, none⟩ = some (.int .i64 k) := (cell_of_row _ _ _ _ _ _ HX6.out.2.2.1).trans rfl
    have rN : w6.cell? ⟨gd, 1, none⟩ = some (.int .i64 (n : Int)) := (cell_of_row _ _ _ _ _ _ HX6.out.2.2.1).trans rfl
    have rQ : w6.cell? ⟨gd, 2, none⟩ = some (.int .i64 q) := (cell_of_row _ _ _ _ _ _ HX6.out.2.2.1).trans rfl
    have hk := HKN.out.1
    have hn := HKN.out.2
    have e7 : (k == 7) = false := by rw [hk]; rfl
    have e8 : (k == 8) = false := by rw [hk]; rfl
    have e9 : (k == 9) = false := by rw [hk]; rfl
    have e10 : (k == 10) = true := by rw [hk]; rfl
    clear hk hn
    go_upto_region 21 with fail
    clear rK rN rQ e7 e8 e9 e10
    obtain ⟨S, HS⟩ : ∃ S : World → Prop, Hid (∀ W, S W ↔ ((∃ E, E.size = 136 ∧ W.heap[w.heap.size]? = some (.cells E 37 (0, 0))) ∧ W.heap[w.heap.size + 1]? = some (.cells Z 37 (0, 0)) ∧ W.heap[gd]? = some (.cells #[.int .i64 k, .int .i64 (n : Int), .int .i64 q] 54 (0, 0)) ∧ Below w.heap.size w W)) := ⟨_, fun W => Iff.rfl⟩
    have hSP : Hid (∀ W, (W.heap[w.heap.size]? = some (.cells P 37 (0, 0)) ∧ W.heap[w.heap.size + 1]? = some (.cells Z 37 (0, 0)) ∧ W.heap[gd]? = some (.cells #[.int .i64 k, .int .i64 (n : Int), .int .i64 q] 54 (0, 0)) ∧ Below w.heap.size w W) → S W) := fun W h => (HS.out W).2 ⟨⟨P, HPM.out.size, h.1⟩, h.2.1, h.2.2.1, h.2.2.2⟩
    refine region_cut (R := fun a' W => ∃ C, PTo r P nm v C ∧ MemOk C ∧ W.heap[w.heap.size]? = some (.cells C 37 (0, 0)) ∧ W.heap[w.heap.size + 1]? = some (.cells Z 37 (0, 0)) ∧ Below w.heap.size w W ∧ ∃ x b, a' = ⟨#[.agg c, .string s, .pointer (some ⟨w.heap.size, 0, none⟩), undef, .pointer (some ⟨w.heap.size + 1, 0, none⟩), .string nm, .string v, .bool fb, .pointer (some ⟨gd, 0, none⟩), .bool (r.rb nm), .bool (r.has33 v), .bool (r.has43 v), .int .u16 (IntKind.u16.wrap (r.num (r.trim v))), .tuple #[.string nm, .string v, .bool fb], .string s, .tuple #[.string nm, .string v, .bool fb], .string nm, .string v, .bool fb, u19, u20, u21, u22, u23, u24, u25, u26, u27, u28, u29, u30, u31, .tuple #[.agg #[.int .i64 k, .int .i64 (n : Int), .int .i64 q], .bool (r.rb nm)], .string nm, .tuple #[.agg #[.int .i64 k, .int .i64 (n : Int), .int .i64 q], .bool (r.rb nm)], .agg #[.int .i64 k, .int .i64 (n : Int), .int .i64 q], .bool (r.rb nm), .string v, .bool (r.has33 v), .string v, .bool (r.has43 v), .string v, .string (r.trim v), .int .i64 (r.num (r.trim v)), .int .u16 (IntKind.u16.wrap (r.num (r.trim v))), .pointer (some ⟨gd, 0, none⟩), .int .i64 k, undef, undef, undef, .bool false, .bool false, undef, undef, undef, undef, undef, undef, undef, .bool false, .bool false, undef, undef, undef, undef, undef, undef, undef, undef, .bool false, .bool false, undef, undef, undef, undef, undef, undef, undef, .bool true, .bool true, .tuple #[.float .f64 x, .bool b], .pointer (some ⟨gd, 1, none⟩), .int .i64 (n : Int), .string v, .tuple #[.float .f64 x, .bool b], .float .f64 x, .bool b, .pointer (some ⟨w.heap.size, 117, none⟩), .pointer (some ⟨w.heap.size, 117 + n, none⟩), undef], []⟩) ?_ ?_
    · have hX : (w6.drew.heap[w.heap.size]? = some (.cells P 37 (0, 0)) ∧ w6.drew.heap[w.heap.size + 1]? = some (.cells Z 37 (0, 0)) ∧ w6.drew.heap[gd]? = some (.cells #[.int .i64 k, .int .i64 (n : Int), .int .i64 q] 54 (0, 0)) ∧ Below w.heap.size w w6.drew) := ⟨HX6.out.1, HX6.out.2.1, HX6.out.2.2.1, HX6.out.2.2.2.drew⟩
      have S0 : S w6.drew := hSP.out _ hX
      refine heldH_start (S := S) (by kernel_rfl) S0 10 rfl #[false, false, false, false, false, false, false, false, false, false] rfl (fun S0 => ?_)
      generalize w6.drew = Y at S0 hX ⊢
      refine tkH_val (i := 0) rfl (by kernel_rfl) (by kernel_rfl) (by kernel_rfl) (fun _ _ _ _ h => nomatch h.1) rfl (.pointer (some ⟨gd, 1, none⟩)) (fun W _ => by go_simp) S0 #[true, false, false, false, false, false, false, false, false, false] rfl ⟨#[.agg c, .string s, .pointer (some ⟨w.heap.size, 0, none⟩), undef, .pointer (some ⟨w.heap.size + 1, 0, none⟩), .string nm, .string v, .bool fb, .pointer (some ⟨gd, 0, none⟩), .bool (r.rb nm), .bool (r.has33 v), .bool (r.has43 v), .int .u16 (IntKind.u16.wrap (r.num (r.trim v))), .tuple #[.string nm, .string v, .bool fb], .string s, .tuple #[.string nm, .string v, .bool fb], .string nm, .string v, .bool fb, u19, u20, u21, u22, u23, u24, u25, u26, u27, u28, u29, u30, u31, .tuple #[.agg #[.int .i64 k, .int .i64 (n : Int), .int .i64 q], .bool (r.rb nm)], .string nm, .tuple #[.agg #[.int .i64 k, .int .i64 (n : Int), .int .i64 q], .bool (r.rb nm)], .agg #[.int .i64 k, .int .i64 (n : Int), .int .i64 q], .bool (r.rb nm), .string v, .bool (r.has33 v), .string v, .bool (r.has43 v), .string v, .string (r.trim v), .int .i64 (r.num (r.trim v)), .int .u16 (IntKind.u16.wrap (r.num (r.trim v))), .pointer (some ⟨gd, 0, none⟩), .int .i64 k, undef, undef, undef, .bool false, .bool false, undef, undef, undef, undef, undef, undef, undef, .bool false, .bool false, undef, undef, undef, undef, undef, undef, undef, undef, .bool false, .bool false, undef, undef, undef, undef, undef, undef, undef, .bool true, .bool true, undef, .pointer (some ⟨gd, 1, none⟩), undef, undef, undef, undef, undef, undef, undef, undef], []⟩ rfl ?_
      refine tkH_val (i := 1) rfl (by kernel_rfl) (by kernel_rfl) (by kernel_rfl) (fun _ _ _ _ h => nomatch h.1) rfl (.int .i64 (n : Int)) (fun W hW => by have hc : W.cell? ⟨gd, 1, none⟩ = some (.int .i64 (n : Int)) := (cell_of_row _ _ _ _ _ _ ((HS.out W).1 hW).2.2.1).trans rfl; go_simp) S0 #[true, true, false, false, false, false, false, false, false, false] rfl ⟨#[.agg c, .string s, .pointer (some ⟨w.heap.size, 0, none⟩), undef, .pointer (some ⟨w.heap.size + 1, 0, none⟩), .string nm, .string v, .bool fb, .pointer (some ⟨gd, 0, none⟩), .bool (r.rb nm), .bool (r.has33 v), .bool (r.has43 v), .int .u16 (IntKind.u16.wrap (r.num (r.trim v))), .tuple #[.string nm, .string v, .bool fb], .string s, .tuple #[.string nm, .string v, .bool fb], .string nm, .string v, .bool fb, u19, u20, u21, u22, u23, u24, u25, u26, u27, u28, u29, u30, u31, .tuple #[.agg #[.int .i64 k, .int .i64 (n : Int), .int .i64 q], .bool (r.rb nm)], .string nm, .tuple #[.agg #[.int .i64 k, .int .i64 (n : Int), .int .i64 q], .bool (r.rb nm)], .agg #[.int .i64 k, .int .i64 (n : Int), .int .i64 q], .bool (r.rb nm), .string v, .bool (r.has33 v), .string v, .bool (r.has43 v), .string v, .string (r.trim v), .int .i64 (r.num (r.trim v)), .int .u16 (IntKind.u16.wrap (r.num (r.trim v))), .pointer (some ⟨gd, 0, none⟩), .int .i64 k, undef, undef, undef, .bool false, .bool false, undef, undef, undef, undef, undef, undef, undef, .bool false, .bool false, undef, undef, undef, undef, undef, undef, undef, undef, .bool false, .bool false, undef, undef, undef, undef, undef, undef, undef, .bool true, .bool true, undef, .pointer (some ⟨gd, 1, none⟩), .int .i64 (n : Int), undef, undef, undef, undef, undef, undef, undef], []⟩ rfl ?_
      refine tkH_val (i := 2) rfl (by kernel_rfl) (by kernel_rfl) (by kernel_rfl) (fun _ _ _ _ h => nomatch h.1) rfl (.string v) (fun W _ => by go_simp) S0 #[true, true, true, false, false, false, false, false, false, false] rfl ⟨#[.agg c, .string s, .pointer (some ⟨w.heap.size, 0, none⟩), undef, .pointer (some ⟨w.heap.size + 1, 0, none⟩), .string nm, .string v, .bool fb, .pointer (some ⟨gd, 0, none⟩), .bool (r.rb nm), .bool (r.has33 v), .bool (r.has43 v), .int .u16 (IntKind.u16.wrap (r.num (r.trim v))), .tuple #[.string nm, .string v, .bool fb], .string s, .tuple #[.string nm, .string v, .bool fb], .string nm, .string v, .bool fb, u19, u20, u21, u22, u23, u24, u25, u26, u27, u28, u29, u30, u31, .tuple #[.agg #[.int .i64 k, .int .i64 (n : Int), .int .i64 q], .bool (r.rb nm)], .string nm, .tuple #[.agg #[.int .i64 k, .int .i64 (n : Int), .int .i64 q], .bool (r.rb nm)], .agg #[.int .i64 k, .int .i64 (n : Int), .int .i64 q], .bool (r.rb nm), .string v, .bool (r.has33 v), .string v, .bool (r.has43 v), .string v, .string (r.trim v), .int .i64 (r.num (r.trim v)), .int .u16 (IntKind.u16.wrap (r.num (r.trim v))), .pointer (some ⟨gd, 0, none⟩), .int .i64 k, undef, undef, undef, .bool false, .bool false, undef, undef, undef, undef, undef, undef, undef, .bool false, .bool false, undef, undef, undef, undef, undef, undef, undef, undef, .bool false, .bool false, undef, undef, undef, undef, undef, undef, undef, .bool true, .bool true, undef, .pointer (some ⟨gd, 1, none⟩), .int .i64 (n : Int), .string v, undef, undef, undef, undef, undef, undef], []⟩ rfl ?_
      refine tkH_val (i := 7) rfl (by kernel_rfl) (by kernel_rfl) (by kernel_rfl) (fun _ _ _ _ h => nomatch h.1) rfl (.pointer (some ⟨w.heap.size, 117, none⟩)) (fun W _ => by go_simp) S0 #[true, true, true, false, false, false, false, true, false, false] rfl ⟨#[.agg c, .string s, .pointer (some ⟨w.heap.size, 0, none⟩), undef, .pointer (some ⟨w.heap.size + 1, 0, none⟩), .string nm, .string v, .bool fb, .pointer (some ⟨gd, 0, none⟩), .bool (r.rb nm), .bool (r.has33 v), .bool (r.has43 v), .int .u16 (IntKind.u16.wrap (r.num (r.trim v))), .tuple #[.string nm, .string v, .bool fb], .string s, .tuple #[.string nm, .string v, .bool fb], .string nm, .string v, .bool fb, u19, u20, u21, u22, u23, u24, u25, u26, u27, u28, u29, u30, u31, .tuple #[.agg #[.int .i64 k, .int .i64 (n : Int), .int .i64 q], .bool (r.rb nm)], .string nm, .tuple #[.agg #[.int .i64 k, .int .i64 (n : Int), .int .i64 q], .bool (r.rb nm)], .agg #[.int .i64 k, .int .i64 (n : Int), .int .i64 q], .bool (r.rb nm), .string v, .bool (r.has33 v), .string v, .bool (r.has43 v), .string v, .string (r.trim v), .int .i64 (r.num (r.trim v)), .int .u16 (IntKind.u16.wrap (r.num (r.trim v))), .pointer (some ⟨gd, 0, none⟩), .int .i64 k, undef, undef, undef, .bool false, .bool false, undef, undef, undef, undef, undef, undef, undef, .bool false, .bool false, undef, undef, undef, undef, undef, undef, undef, undef, .bool false, .bool false, undef, undef, undef, undef, undef, undef, undef, .bool true, .bool true, undef, .pointer (some ⟨gd, 1, none⟩), .int .i64 (n : Int), .string v, undef, undef, undef, .pointer (some ⟨w.heap.size, 117, none⟩), undef, undef], []⟩ rfl ?_
      · skip
        refine wpAnyH_all (rs := [3]) (by kernel_rfl) (by simp) (fun i hi => ?_)
        obtain rfl := List.mem_singleton.1 hi
        refine up_fcallV rfl rfl Tryz.func87 (by kernel_rfl) (by kernel_rfl) rfl [.string v] rfl #[true, true, true, true, false, false, false, true, false, false] rfl (fun u => ⟨#[.agg c, .string s, .pointer (some ⟨w.heap.size, 0, none⟩), undef, .pointer (some ⟨w.heap.size + 1, 0, none⟩), .string nm, .string v, .bool fb, .pointer (some ⟨gd, 0, none⟩), .bool (r.rb nm), .bool (r.has33 v), .bool (r.has43 v), .int .u16 (IntKind.u16.wrap (r.num (r.trim v))), .tuple #[.string nm, .string v, .bool fb], .string s, .tuple #[.string nm, .string v, .bool fb], .string nm, .string v, .bool fb, u19, u20, u21, u22, u23, u24, u25, u26, u27, u28, u29, u30, u31, .tuple #[.agg #[.int .i64 k, .int .i64 (n : Int), .int .i64 q], .bool (r.rb nm)], .string nm, .tuple #[.agg #[.int .i64 k, .int .i64 (n : Int), .int .i64 q], .bool (r.rb nm)], .agg #[.int .i64 k, .int .i64 (n : Int), .int .i64 q], .bool (r.rb nm), .string v, .bool (r.has33 v), .string v, .bool (r.has43 v), .string v, .string (r.trim v), .int .i64 (r.num (r.trim v)), .int .u16 (IntKind.u16.wrap (r.num (r.trim v))), .pointer (some ⟨gd, 0, none⟩), .int .i64 k, undef, undef, undef, .bool false, .bool false, undef, undef, undef, undef, undef, undef, undef, .bool false, .bool false, undef, undef, undef, undef, undef, undef, undef, undef, .bool false, .bool false, undef, undef, undef, undef, undef, undef, undef, .bool true, .bool true, undef, .pointer (some ⟨gd, 1, none⟩), .int .i64 (n : Int), .string v, u, undef, undef, .pointer (some ⟨w.heap.size, 117, none⟩), undef, undef], []⟩) (fun u => rfl) (fun u W' => ∃ x b, u = .tuple #[.float .f64 x, .bool b] ∧ r.RP v x b ∧ Below Y.heap.size Y W') ((HR.out.real v HSZ.out.2 Y (HR.out.later _ _ HTw.out hX.2.2.2)).mono fun e w' ⟨x, b, h1, h2, h3⟩ => ⟨_, h1, x, b, rfl, h2, h3⟩) ?_
        rintro u w7 ⟨x, b, rfl, hRP, g7⟩
        have hX7 := HST.out _ _ hX g7
        have S7 : S w7 := hSP.out _ hX7
        refine ⟨S7, ?_⟩
        refine tkH_val (i := 4) rfl (by kernel_rfl) (by kernel_rfl) (by kernel_rfl) (fun _ _ _ _ h => nomatch h.1) rfl (.tuple #[.float .f64 x, .bool b]) (fun W _ => by go_simp) S7 #[true, true, true, true, true, false, false, true, false, false] rfl ⟨#[.agg c, .string s, .pointer (some ⟨w.heap.size, 0, none⟩), undef, .pointer (some ⟨w.heap.size + 1, 0, none⟩), .string nm, .string v, .bool fb, .pointer (some ⟨gd, 0, none⟩), .bool (r.rb nm), .bool (r.has33 v), .bool (r.has43 v), .int .u16 (IntKind.u16.wrap (r.num (r.trim v))), .tuple #[.string nm, .string v, .bool fb], .string s, .tuple #[.string nm, .string v, .bool fb], .string nm, .string v, .bool fb, u19, u20, u21, u22, u23, u24, u25, u26, u27, u28, u29, u30, u31, .tuple #[.agg #[.int .i64 k, .int .i64 (n : Int), .int .i64 q], .bool (r.rb nm)], .string nm, .tuple #[.agg #[.int .i64 k, .int .i64 (n : Int), .int .i64 q], .bool (r.rb nm)], .agg #[.int .i64 k, .int .i64 (n : Int), .int .i64 q], .bool (r.rb nm), .string v, .bool (r.has33 v), .string v, .bool (r.has43 v), .string v, .string (r.trim v), .int .i64 (r.num (r.trim v)), .int .u16 (IntKind.u16.wrap (r.num (r.trim v))), .pointer (some ⟨gd, 0, none⟩), .int .i64 k, undef, undef, undef, .bool false, .bool false, undef, undef, undef, undef, undef, undef, undef, .bool false, .bool false, undef, undef, undef, undef, undef, undef, undef, undef, .bool false, .bool false, undef, undef, undef, undef, undef, undef, undef, .bool true, .bool true, .tuple #[.float .f64 x, .bool b], .pointer (some ⟨gd, 1, none⟩), .int .i64 (n : Int), .string v, .tuple #[.float .f64 x, .bool b], undef, undef, .pointer (some ⟨w.heap.size, 117, none⟩), undef, undef], []⟩ rfl ?_
        refine tkH_val (i := 5) rfl (by kernel_rfl) (by kernel_rfl) (by kernel_rfl) (fun _ _ _ _ h => nomatch h.1) rfl (.float .f64 x) (fun W _ => by go_simp) S7 #[true, true, true, true, true, true, false, true, false, false] rfl ⟨#[.agg c, .string s, .pointer (some ⟨w.heap.size, 0, none⟩), undef, .pointer (some ⟨w.heap.size + 1, 0, none⟩), .string nm, .string v, .bool fb, .pointer (some ⟨gd, 0, none⟩), .bool (r.rb nm), .bool (r.has33 v), .bool (r.has43 v), .int .u16 (IntKind.u16.wrap (r.num (r.trim v))), .tuple #[.string nm, .string v, .bool fb], .string s, .tuple #[.string nm, .string v, .bool fb], .string nm, .string v, .bool fb, u19, u20, u21, u22, u23, u24, u25, u26, u27, u28, u29, u30, u31, .tuple #[.agg #[.int .i64 k, .int .i64 (n : Int), .int .i64 q], .bool (r.rb nm)], .string nm, .tuple #[.agg #[.int .i64 k, .int .i64 (n : Int), .int .i64 q], .bool (r.rb nm)], .agg #[.int .i64 k, .int .i64 (n : Int), .int .i64 q], .bool (r.rb nm), .string v, .bool (r.has33 v), .string v, .bool (r.has43 v), .string v, .string (r.trim v), .int .i64 (r.num (r.trim v)), .int .u16 (IntKind.u16.wrap (r.num (r.trim v))), .pointer (some ⟨gd, 0, none⟩), .int .i64 k, undef, undef, undef, .bool false, .bool false, undef, undef, undef, undef, undef, undef, undef, .bool false, .bool false, undef, undef, undef, undef, undef, undef, undef, undef, .bool false, .bool false, undef, undef, undef, undef, undef, undef, undef, .bool true, .bool true, .tuple #[.float .f64 x, .bool b], .pointer (some ⟨gd, 1, none⟩), .int .i64 (n : Int), .string v, .tuple #[.float .f64 x, .bool b], .float .f64 x, undef, .pointer (some ⟨w.heap.size, 117, none⟩), undef, undef], []⟩ rfl ?_
        refine tkH_val (i := 6) rfl (by kernel_rfl) (by kernel_rfl) (by kernel_rfl) (fun _ _ _ _ h => nomatch h.1) rfl (.bool b) (fun W _ => by go_simp) S7 #[true, true, true, true, true, true, true, true, false, false] rfl ⟨#[.agg c, .string s, .pointer (some ⟨w.heap.size, 0, none⟩), undef, .pointer (some ⟨w.heap.size + 1, 0, none⟩), .string nm, .string v, .bool fb, .pointer (some ⟨gd, 0, none⟩), .bool (r.rb nm), .bool (r.has33 v), .bool (r.has43 v), .int .u16 (IntKind.u16.wrap (r.num (r.trim v))), .tuple #[.string nm, .string v, .bool fb], .string s, .tuple #[.string nm, .string v, .bool fb], .string nm, .string v, .bool fb, u19, u20, u21, u22, u23, u24, u25, u26, u27, u28, u29, u30, u31, .tuple #[.agg #[.int .i64 k, .int .i64 (n : Int), .int .i64 q], .bool (r.rb nm)], .string nm, .tuple #[.agg #[.int .i64 k, .int .i64 (n : Int), .int .i64 q], .bool (r.rb nm)], .agg #[.int .i64 k, .int .i64 (n : Int), .int .i64 q], .bool (r.rb nm), .string v, .bool (r.has33 v), .string v, .bool (r.has43 v), .string v, .string (r.trim v), .int .i64 (r.num (r.trim v)), .int .u16 (IntKind.u16.wrap (r.num (r.trim v))), .pointer (some ⟨gd, 0, none⟩), .int .i64 k, undef, undef, undef, .bool false, .bool false, undef, undef, undef, undef, undef, undef, undef, .bool false, .bool false, undef, undef, undef, undef, undef, undef, undef, undef, .bool false, .bool false, undef, undef, undef, undef, undef, undef, undef, .bool true, .bool true, .tuple #[.float .f64 x, .bool b], .pointer (some ⟨gd, 1, none⟩), .int .i64 (n : Int), .string v, .tuple #[.float .f64 x, .bool b], .float .f64 x, .bool b, .pointer (some ⟨w.heap.size, 117, none⟩), undef, undef], []⟩ rfl ?_
        refine wpAnyH_all (rs := [8]) (by kernel_rfl) (by simp) (fun i hi => ?_)
        obtain rfl := List.mem_singleton.1 hi
        refine upH_val rfl rfl (.pointer (some ⟨w.heap.size, 117 + n, none⟩)) w7 (by have i0 : (0 : Int) ≤ (n : Int) := (by omega); have i9 : (n : Int) < 16 := (by have := HKN.out.2; omega); go_simp) S7 #[true, true, true, true, true, true, true, true, true, false] rfl ⟨#[.agg c, .string s, .pointer (some ⟨w.heap.size, 0, none⟩), undef, .pointer (some ⟨w.heap.size + 1, 0, none⟩), .string nm, .string v, .bool fb, .pointer (some ⟨gd, 0, none⟩), .bool (r.rb nm), .bool (r.has33 v), .bool (r.has43 v), .int .u16 (IntKind.u16.wrap (r.num (r.trim v))), .tuple #[.string nm, .string v, .bool fb], .string s, .tuple #[.string nm, .string v, .bool fb], .string nm, .string v, .bool fb, u19, u20, u21, u22, u23, u24, u25, u26, u27, u28, u29, u30, u31, .tuple #[.agg #[.int .i64 k, .int .i64 (n : Int), .int .i64 q], .bool (r.rb nm)], .string nm, .tuple #[.agg #[.int .i64 k, .int .i64 (n : Int), .int .i64 q], .bool (r.rb nm)], .agg #[.int .i64 k, .int .i64 (n : Int), .int .i64 q], .bool (r.rb nm), .string v, .bool (r.has33 v), .string v, .bool (r.has43 v), .string v, .string (r.trim v), .int .i64 (r.num (r.trim v)), .int .u16 (IntKind.u16.wrap (r.num (r.trim v))), .pointer (some ⟨gd, 0, none⟩), .int .i64 k, undef, undef, undef, .bool false, .bool false, undef, undef, undef, undef, undef, undef, undef, .bool false, .bool false, undef, undef, undef, undef, undef, undef, undef, undef, .bool false, .bool false, undef, undef, undef, undef, undef, undef, undef, .bool true, .bool true, .tuple #[.float .f64 x, .bool b], .pointer (some ⟨gd, 1, none⟩), .int .i64 (n : Int), .string v, .tuple #[.float .f64 x, .bool b], .float .f64 x, .bool b, .pointer (some ⟨w.heap.size, 117, none⟩), .pointer (some ⟨w.heap.size, 117 + n, none⟩), undef], []⟩ rfl ?_
        refine wpAnyH_all (rs := [9]) (by kernel_rfl) (by simp) (fun i hi => ?_)
        obtain rfl := List.mem_singleton.1 hi
        have hn := HKN.out.2
        obtain ⟨x0, hx0⟩ : ∃ x, w7.cell? ⟨w.heap.size, 117 + n, none⟩ = some x := by rw [cell_of_row _ _ _ _ _ _ hX7.1]; exact ⟨_, Array.getElem?_eq_getElem (by have := HPM.out.size; omega)⟩
        have z0 : w7.frozen? ⟨w.heap.size, 117 + n, none⟩ = false := by have hh := hX7.1; simp [World.frozen?, hh]
        have row0 : (w7.setCell ⟨w.heap.size, 117 + n, none⟩ (.float .f64 x)).heap[w.heap.size]? = some (.cells (P.setIfInBounds (117 + n) (.float .f64 x)) 37 (0, 0)) := row_put hX7.1 _ _
        have row1 : (w7.setCell ⟨w.heap.size, 117 + n, none⟩ (.float .f64 x)).heap[w.heap.size + 1]? = some (.cells Z 37 (0, 0)) := row_other hX7.2.1 _ _ (by omega) _
        have rowd : (w7.setCell ⟨w.heap.size, 117 + n, none⟩ (.float .f64 x)).heap[gd]? = some (.cells #[.int .i64 k, .int .i64 (n : Int), .int .i64 q] 54 (0, 0)) := row_other hX7.2.2.1 _ _ (by have := HGD.out; omega) _
        have rowB : Below w.heap.size w (w7.setCell ⟨w.heap.size, 117 + n, none⟩ (.float .f64 x)) := hX7.2.2.2.setCell (p := ⟨w.heap.size, 117 + n, none⟩) (by simp) _
        have S8 : S (w7.setCell ⟨w.heap.size, 117 + n, none⟩ (.float .f64 x)) := (HS.out _).2 ⟨⟨_, by simpa using HPM.out.size, row0⟩, row1, rowd, rowB⟩
        have hst : (storeVar 34 ⟨w.heap.size, 117 + n, none⟩ (.float .f64 x)).run Tryz.prog w7 = .ok () (w7.setCell ⟨w.heap.size, 117 + n, none⟩ (.float .f64 x)) := storeH_10 hx0 z0
        refine up_store' rfl rfl 34 _ _ rfl _ _ rfl _ rfl _ hst S8 #[true, true, true, true, true, true, true, true, true, true] rfl ⟨#[.agg c, .string s, .pointer (some ⟨w.heap.size, 0, none⟩), undef, .pointer (some ⟨w.heap.size + 1, 0, none⟩), .string nm, .string v, .bool fb, .pointer (some ⟨gd, 0, none⟩), .bool (r.rb nm), .bool (r.has33 v), .bool (r.has43 v), .int .u16 (IntKind.u16.wrap (r.num (r.trim v))), .tuple #[.string nm, .string v, .bool fb], .string s, .tuple #[.string nm, .string v, .bool fb], .string nm, .string v, .bool fb, u19, u20, u21, u22, u23, u24, u25, u26, u27, u28, u29, u30, u31, .tuple #[.agg #[.int .i64 k, .int .i64 (n : Int), .int .i64 q], .bool (r.rb nm)], .string nm, .tuple #[.agg #[.int .i64 k, .int .i64 (n : Int), .int .i64 q], .bool (r.rb nm)], .agg #[.int .i64 k, .int .i64 (n : Int), .int .i64 q], .bool (r.rb nm), .string v, .bool (r.has33 v), .string v, .bool (r.has43 v), .string v, .string (r.trim v), .int .i64 (r.num (r.trim v)), .int .u16 (IntKind.u16.wrap (r.num (r.trim v))), .pointer (some ⟨gd, 0, none⟩), .int .i64 k, undef, undef, undef, .bool false, .bool false, undef, undef, undef, undef, undef, undef, undef, .bool false, .bool false, undef, undef, undef, undef, undef, undef, undef, undef, .bool false, .bool false, undef, undef, undef, undef, undef, undef, undef, .bool true, .bool true, .tuple #[.float .f64 x, .bool b], .pointer (some ⟨gd, 1, none⟩), .int .i64 (n : Int), .string v, .tuple #[.float .f64 x, .bool b], .float .f64 x, .bool b, .pointer (some ⟨w.heap.size, 117, none⟩), .pointer (some ⟨w.heap.size, 117 + n, none⟩), undef], []⟩ rfl ?_
        exact wpAnyH_done (by kernel_rfl) ⟨rfl, _, (by unfold PTo; rw [HRD.out]; simp only [Int.toNat_natCast]; rw [if_neg (by have := HKN.out.1; omega), if_neg (by have := HKN.out.1; omega), if_neg (by have := HKN.out.1; omega), if_pos HKN.out.1]; exact ⟨x, b, hRP, rfl⟩ : PTo r P nm v (P.setIfInBounds (117 + n) (.float .f64 x))), hh_set HPM.out _ (by rw [show kd (117 + n) = 99 from (by have := HKN.out.2; rw [kd_h]; repeat (first | rw [if_neg (by omega)] | rw [if_pos (by omega)]))]; simp [CellIs, Value.oneCell']; exact HR.out.has _ _ _ hRP), row0, row1, rowB, x, b, rfl⟩ _
    · rintro a' W ⟨C, hTO, hCM, k1, k3, kB, x, b, rfl⟩
      have HTO : Hid (PTo r P nm v C) := hTO
      have HCM : Hid (MemOk C) := hCM
      have HR1 : Hid (W.heap[w.heap.size]? = some (.cells C 37 (0, 0))) := k1
      have HR3 : Hid (W.heap[w.heap.size + 1]? = some (.cells Z 37 (0, 0))) := k3
      have HB0 : Hid (Below w.heap.size w W) := kB
      clear hTO hCM k1 k3 kB HS hSP HX6 HST HR HTw HDV HQQ HRD
      have HI : Hid ((Tryz.prog.info? 37).map (·.size) = some C.size) := (by rw [HCM.out.size]; exact zero_mem.2 : (Tryz.prog.info? 37).map (·.size) = some C.size)
      have HLD : Hid ((loadVar 37 ⟨w.heap.size, 0, none⟩).run Tryz.prog W = .ok (.agg C) W) := load_all HR1.out _ _ Tryz.underlying37 rfl HI.out
      have HSD : Hid ((storeVar 37 ⟨w.heap.size + 1, 0, none⟩ (.agg C)).run Tryz.prog W = .ok () (W.setRow (w.heap.size + 1) C)) := store_all HR3.out _ _ (HZs.out.trans HCM.out.size.symm) HI.out HCM.out.one
      have HB : Hid (Below w.heap.size w (W.setRow (w.heap.size + 1) C)) := below_setRow HB0.out (by omega) _
      go_wp2_with (first | (refine wpL_load rfl 37 _ rfl _ _ rfl _ HLD.out ?_) | (refine wpL_store rfl 37 _ _ rfl _ _ rfl _ rfl _ HSD.out ?_) | exact ret_row rfl rfl (row_set HR3.out _) Tryz.underlying37 rfl HI.out rfl ⟨C, rfl, HPOST.out C HTO.out, HB.out⟩ | fail)

theorem PTo.ok {r : Prds} {T : World → Prop} (hr : PrdsOk r T) {P : Array Value} (hP : MemOk P) {nm v : ByteArray} {C : Array Value} (h : PTo r P nm v C) : MemOk C := by
  obtain ⟨b7, b8, b9, b10⟩ := hr.bd nm
  unfold PTo at h
  split at h
  · rename_i hk
    have := b7 hk
    rw [h]
    refine hh_set (hh_set hP _ (hh_bool _ ?_)) _ (hh_u16 _ ?_)
    · rw [kd_h]; repeat (first | rw [if_neg (by omega)] | rw [if_pos (by omega)])
    · rw [kd_h]; repeat (first | rw [if_neg (by omega)] | rw [if_pos (by omega)])
  split at h
  · rename_i _ hk
    have := b8 hk
    rw [h]
    refine hh_set (hh_set (hh_set hP _ (hh_bool _ ?_)) _ (hh_bool _ ?_)) _ (hh_u16 _ ?_)
    · rw [kd_h]; repeat (first | rw [if_neg (by omega)] | rw [if_pos (by omega)])
    · rw [kd_h]; repeat (first | rw [if_neg (by omega)] | rw [if_pos (by omega)])
    · rw [kd_h]; repeat (first | rw [if_neg (by omega)] | rw [if_pos (by omega)])
  split at h
  · rename_i _ _ hk
    have := b9 hk
    rw [h]
    refine hh_set hP _ (hh_i16 _ ?_)
    rw [kd_h]; repeat (first | rw [if_neg (by omega)] | rw [if_pos (by omega)])
  split at h
  · rename_i _ _ _ hk
    have := b10 hk
    obtain ⟨x, b, hx, rfl⟩ := h
    refine hh_set hP _ ?_
    have e : kd (117 + (r.rd nm).2.1.toNat) = 99 := by rw [kd_h]; repeat (first | rw [if_neg (by omega)] | rw [if_pos (by omega)])
    rw [e]
    simp [CellIs, Value.oneCell']
    exact hr.has _ _ _ hx
  · rw [h]; exact memOk_putx hP _ _

/-- What a word puts, by the program. -/
def PWTo (r : Prds) (c : Array Value) (s : ByteArray) (C : Array Value) : Prop := PTo r (pre1 r c (r.cut s).1 (r.cut s).2.1) (r.cut s).1 (r.cut s).2.1 C
theorem withword_i {r : Prds} {T : World → Prop} (hr : PrdsOk r T) (c : Array Value) (hc : MemOk c) (s : ByteArray) (hs : s.size ≤ 1048576) (w : World) (hT : T w) :
    Calls Tryz.prog 29 #[.agg c, .string s] w fun e w' => ∃ C, e = .returned (.agg C) ∧ (PWTo r c s C ∧ MemOk C) ∧ Below w.heap.size w w' := by
  obtain ⟨nm, v, fb, hcut⟩ : ∃ nm v fb, r.cut s = (nm, v, fb) := ⟨_, _, _, rfl⟩
  obtain ⟨b7, b8, b9, b10⟩ := hr.bd nm
  have HQ : ∀ D, PTo r (pre1 r c nm v) nm v D → PWTo r c s D ∧ MemOk D := fun D h => ⟨by unfold PWTo; rw [hcut]; exact h, h.ok hr (memOk_pre1 r hc _ _)⟩
  have hrd : 0 ≤ (r.rd nm).2.1 → r.rd nm = ((r.rd nm).1, (((r.rd nm).2.1.toNat : Nat) : Int), (r.rd nm).2.2) := fun h => by rw [Int.toNat_of_nonneg h]
  by_cases k7 : (r.rd nm).1 = 7
  · exact withword_7 hr c hc s hs w hT nm v fb hcut _ _ _ (hrd (b7 k7).1) k7 (by have := b7 k7; omega) _ HQ
  by_cases k8 : (r.rd nm).1 = 8
  · exact withword_8 hr c hc s hs w hT nm v fb hcut _ _ _ (hrd (b8 k8).1) k8 (by have := b8 k8; omega) _ HQ
  by_cases k9 : (r.rd nm).1 = 9
  · exact withword_9 hr c hc s hs w hT nm v fb hcut _ _ _ (hrd (b9 k9).1) k9 (by have := b9 k9; omega) _ HQ
  by_cases k10 : (r.rd nm).1 = 10
  · exact withword_10 hr c hc s hs w hT nm v fb hcut _ _ _ (hrd (b10 k10).1) k10 (by have := b10 k10; omega) _ HQ
  exact withword_bit hr c hc s hs w hT nm v fb hcut (r.rd nm).1 (r.rd nm).2.1 (r.rd nm).2.2 rfl ⟨k7, k8, k9, k10⟩ _ HQ
end Go.Proofs.YtjnddfpieogpiaaGreatDoor
