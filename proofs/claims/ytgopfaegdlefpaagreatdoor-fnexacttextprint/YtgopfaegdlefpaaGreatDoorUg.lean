/- The specification's word on a whole ladder. -/
import Derived.Test.YtgopfaegdlefpaaGreatDoorUf
namespace Go.Proofs.YtgopfaegdlefpaaGreatDoor
open Go.RowKit
set_option linter.unusedVariables false

theorem szP_lenT (m : Nat) (xs : List ArmT) : szP (xs.flatMap (pArm m true)) = szP (xs.flatMap (pArm m false)) := by
  rw [szP_flat, szP_flat]
  congr 1
  exact List.map_congr_left fun x _ => szP_flag m true x

set_option maxRecDepth 10000 in
set_option maxHeartbeats 4000000 in
/-- TreeCheck of the specification. -/
theorem scheck (ct cl : Int → List ArgT → Bool) (m : Nat) (v : Value) (xs : List ArmT) (w : World) (lo : Nat) (hv : ArmsIs w lo m v xs) (hw : xs.length + (xs.map (wA m)).sum ≤ 1048576)
    (HC : ∀ W, Below w.heap.size w W → ∀ op v xs, ArgsIs W lo v xs → Calls Tryz.prog 119 #[.agg #[.int .i64 op, v]] W fun e w' => e = .returned (.bool (ct op xs)) ∧ Below W.heap.size W w')
    (HL : ∀ W, Below w.heap.size w W → ∀ op v xs, ArgsIs W lo v xs → Calls Tryz.prog 77 #[.agg #[.int .i64 op, v]] W fun e w' => e = .returned (.bool (cl op xs)) ∧ Below W.heap.size W w') :
    Calls Tryz.prog 11 #[v] w fun e w' => e = .returned (.agg #[.int .i64 (treeC ct cl m xs).1, .int .i64 (treeC ct cl m xs).2]) ∧ Below w.heap.size w w' := by
  have HSz : Hid (∀ W, Below w.heap.size w W → Calls Tryz.prog 33 #[v] W fun r w' => r = .returned (.int .i64 (szP (xs.flatMap (pArm m false)) : Nat)) ∧ Below W.heap.size W w') := fun W g => ss_arms m v xs W lo (armsIs_move (Keeps.of_below g lo) (Nat.le_refl _) (Nat.le_refl _) hv) hw
  have hsz : szP (xs.flatMap (pArm m false)) ≤ 2 * 1048576 := by have := szArms_le m xs; omega
  have HA : Hid (∀ x cs, ∀ (W : World), Below w.heap.size w W → ArmIs w lo m x cs → Calls Tryz.prog 34 #[.agg cs.toArray, .bool true] W fun r w' => r = .returned (.int .i64 (firstC ct cl (pArm m true x))) ∧ Below W.heap.size W w') := fun x cs W g h =>
    sa_arm ct cl m true x cs W lo (ArmIs.move (Keeps.of_below g lo) (Nat.le_refl _) _ _ (Nat.le_refl _) _ _ h) (fun W' g' => HC W' (g.trans (g'.mono g.size))) (fun W' g' => HL W' (g.trans (g'.mono g.size)))
  clear HC HL
  obtain ⟨a, cap, rfl, hl, hx⟩ := hv
  have HX : Hid (∀ j x, xs[j]? = some x → ∃ b o cs, a = some ⟨b, o, none⟩ ∧ lo ≤ b ∧ cs.length = 6 ∧ w.rangeAt b (o + j * 6) cs ∧ (ArmIs w lo m) x cs) := hx
  obtain ⟨len, HLn⟩ : ∃ len, Hid (len = xs.length) := ⟨_, rfl⟩
  obtain ⟨sz, HSZ⟩ : ∃ sz, Hid (sz = szP (xs.flatMap (pArm m false))) := ⟨_, rfl⟩
  rw [← HSZ.out] at HSz hsz
  rw [← HLn.out] at hl HSz ⊢
  clear hx hw
  obtain ⟨R, HR⟩ : ∃ R, Hid (R = treeC ct cl m xs) := ⟨_, rfl⟩
  rw [← HR.out]
  have b0 : Below w.heap.size w (w.alloc (.cells #[.int .i64 0, .int .i64 0] 27)) := (Below.refl _ _).alloc (Nat.le_refl _) _
  have hk0 := heap_alloc_last w (.cells #[.int .i64 0, .int .i64 0] 27)
  have fin : ∀ (W : World) (x y : Int), Below w.heap.size w W → W.heap[w.heap.size]? = some (.cells #[.int .i64 0, .int .i64 0] 27 (0, 0)) →
      Below w.heap.size w ((W.setCell ⟨w.heap.size, 0, none⟩ (.int .i64 x)).setCell ⟨w.heap.size, 1, none⟩ (.int .i64 y)) ∧
      ((W.setCell ⟨w.heap.size, 0, none⟩ (.int .i64 x)).setCell ⟨w.heap.size, 1, none⟩ (.int .i64 y)).cell? ⟨w.heap.size, 0, none⟩ = some (.int .i64 x) ∧
      ((W.setCell ⟨w.heap.size, 0, none⟩ (.int .i64 x)).setCell ⟨w.heap.size, 1, none⟩ (.int .i64 y)).cell? ⟨w.heap.size, 1, none⟩ = some (.int .i64 y) ∧
      W.cell? ⟨w.heap.size, 0, none⟩ = some (.int .i64 0) ∧ W.cell? ⟨w.heap.size, 1, none⟩ = some (.int .i64 0) ∧ W.frozen? ⟨w.heap.size, 0, none⟩ = false ∧ W.frozen? ⟨w.heap.size, 1, none⟩ = false ∧
      (W.setCell ⟨w.heap.size, 0, none⟩ (.int .i64 x)).cell? ⟨w.heap.size, 1, none⟩ = some (.int .i64 0) ∧ (W.setCell ⟨w.heap.size, 0, none⟩ (.int .i64 x)).frozen? ⟨w.heap.size, 1, none⟩ = false := by
    intro W x y hb hk
    have d0 : W.cell? ⟨w.heap.size, 0, none⟩ = some (.int .i64 0) := (cell_of_row _ _ _ _ _ _ hk).trans rfl
    have d1 : W.cell? ⟨w.heap.size, 1, none⟩ = some (.int .i64 0) := (cell_of_row _ _ _ _ _ _ hk).trans rfl
    have d2 : (W.setCell ⟨w.heap.size, 0, none⟩ (.int .i64 x)).cell? ⟨w.heap.size, 1, none⟩ = some (.int .i64 0) := by rw [World.cell?_setCell_other _ _ _ _ (by simp)]; exact d1
    refine ⟨(hb.setCell (p := ⟨w.heap.size, 0, none⟩) (Nat.le_refl _) _).setCell (p := ⟨w.heap.size, 1, none⟩) (Nat.le_refl _) _, ?_, World.cell?_setCell_same' _ _ _ (by rw [d2]; rfl), d0, d1, by simp [World.frozen?, hk], by simp [World.frozen?, hk], d2, by rw [World.frozen?_setCell]; simp [World.frozen?, hk]⟩
    rw [World.cell?_setCell_other _ _ _ _ (by simp)]
    exact World.cell?_setCell_same' _ _ _ (by rw [d0]; rfl)
  have HFin := (show Hid _ from fin)
  have K0 : Hid ((w.alloc (.cells #[.int .i64 0, .int .i64 0] 27)).heap[w.heap.size]? = some (.cells #[.int .i64 0, .int .i64 0] 27 (0, 0)) ∧ w.heap.size < (w.alloc (.cells #[.int .i64 0, .int .i64 0] 27)).heap.size) := ⟨hk0, by simp⟩
  clear hk0 fin
  by_cases h40 : 40 < len
  · have g40 : (len : Int) > 40 := by omega
    have g40' : (40 : Int) < (len : Int) := by omega
    obtain ⟨f0, f1, f2, f3, f4, f5, f6, f7, f8⟩ := HFin.out _ 1 0 b0 K0.out.1
    have hR : R = (1, 0) := by rw [HR.out]; unfold treeC manyT; rw [← HLn.out]; simp [h40]
    clear K0 h40
    go_enter Tryz.func11, Tryz.ntmps11
    go_wp2
    exact bodyPost_ret (v := .agg #[.int .i64 1, .int .i64 0]) (by simp [results, Tryz.results11, go_sem]) rfl ⟨by rw [hR], (Below.refl _ _).alloc (Nat.le_refl _) _⟩
  · have g40 : ¬ ((len : Int) > 40) := by omega
    have g40' : ¬ ((40 : Int) < (len : Int)) := by omega
    go_enter Tryz.func11, Tryz.ntmps11
    go_wp2_with fail
    refine (HSz.out _ b0).mono ?_
    rintro e w1 ⟨rfl, g1⟩
    have k1 := (g1.block _ K0.out.2).trans K0.out.1
    have b1 := b0.trans (g1.mono b0.size)
    clear g1 b0 K0
    by_cases h400 : 400 < sz
    · have g4 : (sz : Int) > 400 := by omega
      have g4' : (400 : Int) < (sz : Int) := by omega
      obtain ⟨f0, f1, f2, f3, f4, f5, f6, f7, f8⟩ := HFin.out _ 1 0 b1 k1
      have hR : R = (1, 0) := by rw [HR.out]; unfold treeC manyT; rw [← HSZ.out]; simp [h400]
      clear k1 h400
      go_wp2
      exact bodyPost_ret (v := .agg #[.int .i64 1, .int .i64 0]) (by simp [results, Tryz.results11, go_sem, f1, f2]) rfl ⟨by rw [hR], f0⟩
    · have g4 : ¬ ((sz : Int) > 400) := by omega
      have g4' : ¬ ((400 : Int) < (sz : Int)) := by omega
      have HRR : Hid (R = firstR (fun x => firstC ct cl (pArm m true x)) 0 xs) := (by rw [HR.out]; unfold treeC manyT; rw [← HSZ.out, ← HLn.out]; simp [h400, h40] : R = firstR (fun x => firstC ct cl (pArm m true x)) 0 xs)
      have HB1 : Hid (Below w.heap.size w w1 ∧ w1.heap[w.heap.size]? = some (.cells #[.int .i64 0, .int .i64 0] 27 (0, 0))) := ⟨b1, k1⟩
      clear h400 h40 k1 b1
      go_wp2
      go_loopg [3] len (fun g i wr => ∃ n : Nat, n + g = len ∧ i = .int .i64 n ∧ Hid (∀ y ∈ xs.take n, firstC ct cl (pArm m true y) = 0) ∧ Below w.heap.size w wr ∧ wr.heap[w.heap.size]? = some (.cells #[.int .i64 0, .int .i64 0] 27 (0, 0)))
      case atStart => exact ⟨0, by omega, rfl, fun e he => by simp at he, HB1.out.1, HB1.out.2⟩
      case round =>
        obtain ⟨n, hn, rfl, HS, hb, hk⟩ := hrel
        by_cases hlt : n < len
        · have i2 : (n : Int) < (len : Int) := by omega
          have i3 : (0 : Int) ≤ (n : Int) := by omega
          obtain ⟨x, hxn⟩ : ∃ x, xs[n]? = some x := ⟨_, List.getElem?_eq_getElem (by have := HLn.out; omega)⟩
          obtain ⟨b, o, cs, rfl, hlo, hcs, hrg, hRR⟩ := HX.out n x hxn
          have HLd : Hid ((loadVar 60 ⟨b, o + n * 6, none⟩).run Tryz.prog wr = .ok (.agg cs.toArray) wr) := run_loadVar_mid wr b (o + n * 6) 60 cs _ (fun i c hi => (Keeps.of_below hb 0) _ _ _ (Nat.zero_le _) (hrg i c hi)) Tryz.underlying60 rfl (by rw [hcs]; kernel_rfl)
          have HCx : Hid (Calls Tryz.prog 34 #[.agg cs.toArray, .bool true] wr fun r w' => r = .returned (.int .i64 (firstC ct cl (pArm m true x))) ∧ Below wr.heap.size wr w') := HA.out x cs wr hb hRR
          obtain ⟨q, Hq⟩ : ∃ q, Hid (q = firstC ct cl (pArm m true x)) := ⟨_, rfl⟩
          rw [← Hq.out] at HCx
          have hq := (firstC_range ct cl (pArm m true x)).1
          rw [← Hq.out] at hq
          have HKk : Hid (Below w.heap.size w wr ∧ wr.heap[w.heap.size]? = some (.cells #[.int .i64 0, .int .i64 0] 27 (0, 0))) := ⟨hb, hk⟩
          have HD : Hid (xs[n]? = some x) := hxn
          clear hb hrg hcs hRR hlo hk hxn
          go_wp2_with (first | (refine wpL_load rfl 60 _ rfl _ _ rfl _ HLd.out ?_) | fail)
          refine HCx.out.mono ?_
          rintro r w2 ⟨rfl, g2⟩
          have b2 : Below w.heap.size w w2 := HKk.out.1.trans (g2.mono HKk.out.1.size)
          have k2 := (g2.block _ (Array.getElem?_eq_some_iff.1 HKk.out.2).1).trans HKk.out.2
          clear g2 HCx HLd
          by_cases hz : q = 0
          · have z : ¬ (q > 0) := by omega
            have HZ : Hid (q = 0) := hz
            have z' : ¬ ((0 : Int) < q) := by omega
            clear hz hq
            have HK2 : Hid (w2.heap[w.heap.size]? = some (.cells #[.int .i64 0, .int .i64 0] 27 (0, 0))) := k2
            clear k2
            go_wp2
            go_roundg (gk - 1)
            case measure => omega
            case rel => exact ⟨n + 1, by omega, by simp, take_go (f := fun y => firstC ct cl (pArm m true y)) HD.out HS.out (by show firstC ct cl (pArm m true x) = 0; rw [← Hq.out]; exact HZ.out), b2, HK2.out⟩
          · have z : q > 0 := by omega
            have z' : (0 : Int) < q := by omega
            have hR : R = (q, (n : Int)) := by rw [HRR.out, firstR_hit (fun y => firstC ct cl (pArm m true y)) xs n x HD.out HS.out (by show firstC ct cl (pArm m true x) ≠ 0; rw [← Hq.out]; exact hz), Hq.out]
            have HRx : Hid (R = (q, (n : Int))) := hR
            obtain ⟨f0, f1, f2, f3, f4, f5, f6, f7, f8⟩ := HFin.out _ q n b2 k2
            clear hz hq hR k2
            go_wp2
            exact bodyPost_ret (v := .agg #[.int .i64 q, .int .i64 n]) (by simp [results, Tryz.results11, go_sem, f1, f2]) rfl ⟨by rw [HRx.out], f0⟩
        · have i2 : ¬ ((n : Int) < (len : Int)) := by omega
          have hR : R = (0, 0) := by rw [HRR.out]; exact firstR_none _ _ (fun y hy => HS.out y (by rw [List.take_of_length_le (by have := HLn.out; omega)]; exact hy))
          have HRx : Hid (R = (0, 0)) := hR
          obtain ⟨f0, f1, f2, f3, f4, f5, f6, f7, f8⟩ := HFin.out _ 0 0 hb hk
          clear hR hk
          go_wp2
          exact bodyPost_ret (v := .agg #[.int .i64 0, .int .i64 0]) (by simp [results, Tryz.results11, go_sem, f1, f2]) rfl ⟨by rw [HRx.out], f0⟩
end Go.Proofs.YtgopfaegdlefpaaGreatDoor
