/- Steps of regions that draw; l5Same: real numbers that are one. -/
import Derived.Test.YtjnddfpieogpiaaGreatDoorTt6M
import Derived.Test.YtjnddfpieogpiaaGreatDoorQbM
import Derived.Test.YtjnddfpieogpiaaGreatDoorMmM
import Derived.Deep.Cut
import Derived.Test.YtjnddfpieogpiaaGreatDoorAM
import Derived.Lib.QuietBelow
namespace Go.Proofs.YtjnddfpieogpiaaGreatDoor.Rr
open Go.RowKit
set_option linter.unusedVariables false

section
variable {P : Program} {ops : Array Oper} {Q : Exit → Act → World → Prop} {S : World → Prop} {md : Region.Mode}
theorem tk_val' {i : Nat} {oi : Oper} {fuel : Nat} {listed : Array Bool} {a : Act} {w : World} (hi : ops[i]? = some oi)
    (hs : Region.noSelect ops = true) (hf : Region.free md ops listed i = true) (hr : (Region.ready md ops listed).contains i = true)
    (hQ : ∀ (v : Value) c a w, Q (.panic c) (a.put oi.dst v) w → Q (.panic c) a w) (hw : Region.wanted oi (yielded ops a.tmps) = true) (v : Value) (hrun : ∀ w, S w → (execOp a.eval oi).run P w = .ok (.value v) w) (hS : S w)
    (l' : Array Bool) (hl : listed.setIfInBounds i true = l') (a' : Act) (ha : a.put oi.dst v = a')
    (h : wpAnyH P md ops Q S fuel l' a' w) : wpAnyH P md ops Q S (fuel + 1) listed a w := by
  subst hl ha
  exact wpAnyH_take hi hs hf hr (hQ v) (.inl ⟨hw, hrun⟩) hS h
theorem up_val' {i : Nat} {o : Oper} {fuel : Nat} {listed : Array Bool} {a : Act} {w : World} (ho : ops[i]? = some o) (hw : Region.wanted o (yielded ops a.tmps) = true) (v : Value) (w' : World)
    (hrun : (execOp a.eval o).run P w = .ok (.value v) w') (hS : S w') (l' : Array Bool) (hl : listed.setIfInBounds i true = l') (a' : Act) (ha : a.put o.dst v = a') (h : wpAnyH P md ops Q S fuel l' a' w') :
    wpOp P ops Q i (fun a' w' => S w' ∧ wpAnyH P md ops Q S fuel (listed.setIfInBounds i true) a' w') a w := by
  subst hl ha
  exact up_value ho hw v w' hrun hS h
end

/-- A guarded load of whatever type, its run given. -/
theorem wpL_loadW {P : Program} {ops : Array Oper} {rest : List Oper} {o : Oper} {a : Act} {w : World} {Q : Exit → Act → World → Prop} (hw : Region.wanted o (yielded ops a.tmps) = true) (ty : TypeId) (x : Operand) (ho : o.op = .load ty x)
    (g f : Nat) (hx : a.eval x = .pointer (some ⟨g, f, none⟩)) (v : Value) (hrun : (loadVar ty ⟨g, f, none⟩).run P w = .ok v w)
    (h : wpList P ops Q rest (a.put o.dst v) w) : wpList P ops Q (o :: rest) a w :=
  BigFrame.wpList_want hw fun _ hK => by
    unfold Oper.wp execOp
    simp only [ho, hx, Instr.loadAt, Instr.sureAddr, Sem.run_bind, Sem.run_pure, Result.andThen_ok, hrun]
    exact hK _ _ h


end Go.Proofs.YtjnddfpieogpiaaGreatDoor.Rr
/- MemSame of a memory with itself. -/
namespace Go.Proofs.YtjnddfpieogpiaaGreatDoor.Rr
open Go.RowKit
set_option linter.unusedVariables false

theorem tobits (n : Nat) (w : World) : (callFunc 112 #[.float .f64 n]).run Tryz.prog w = .ok (.value (.int .u64 (n : Int))) w :=
  (run_callFunc_extern Tryz.func112 (by kernel_rfl) (by kernel_rfl) (by kernel_rfl) (e := Extern.MathFloatBits.float64bits) (by kernel_rfl) _ w).trans rfl
attribute [go_sem] tobits

/-- What tells a real number apart. -/
def exactOf (v : Value) : Value := match v with | .float _ x => if Fm.isN x then .int .u64 9221120237041090561 else .int .u64 (x : Int) | v => v

theorem info_R : (Tryz.prog.info? 35).map (·.size) = some 16 := by kernel_rfl
theorem info_E : (Tryz.prog.info? 90).map (·.size) = some 16 := by kernel_rfl

theorem idx_R {X : Array Value} {n : Nat} {v : Value} (h : n < 16) (hx : X[n]? = some v) (w : World) : (Instr.index 35 (.agg X) (.int .i64 (n : Int))).run Tryz.prog w = .ok v w := by
  obtain ⟨i2, hi2, hs2⟩ := some_info (t := 34) (n := 1) (by kernel_rfl)
  have hp := part_cell (P := Tryz.prog) (t := 34) (cs := X) (off := n) Tryz.underlying34 rfl hx w
  have hc : (0 : Int) ≤ (n : Int) ∧ (n : Int) < ((16 : Nat) : Int) := by omega
  unfold Instr.index
  simp only [asIntOf, Sem.run_bind, Sem.run_pure, Result.andThen_ok, run_underlying Tryz.underlying35]
  rw [if_pos hc]
  simp only [sizeOf, typeInfo, Sem.run_bind, run_program, Result.andThen_ok, hi2, Sem.run_pure, hs2, Int.toNat_natCast, Nat.mul_one]
  exact hp
theorem exact_nan {x : Nat} (h : Fm.isN x) : exactOf (.float .f64 x) = .int .u64 9221120237041090561 := if_pos h
theorem exact_num {x : Nat} (h : ¬ Fm.isN x) : exactOf (.float .f64 x) = .int .u64 (x : Int) := if_neg h

set_option maxRecDepth 10000 in
set_option maxHeartbeats 1000000 in
theorem exact_i (X : Array Value) (hX : X.size = 16) (hx : ∀ k, k < 16 → ∃ x : Nat, X[k]? = some (.float .f64 x)) (w : World) :
    Calls Tryz.prog 60 #[.agg X] w fun e w' => e = .returned (.agg (X.map exactOf)) ∧ Below w.heap.size w w' := by
  have HX : Hid (X.size = 16) := hX
  have HF : Hid (∀ k, k < 16 → ∃ x : Nat, X[k]? = some (.float .f64 x)) := hx
  have HL : Hid (∀ W : World, W.heap[w.heap.size]? = some (.cells X 35 (0, 0)) → (loadVar 35 ⟨w.heap.size, 0, none⟩).run Tryz.prog W = .ok (.agg X) W) := fun W h => load_all h _ _ Tryz.underlying35 rfl (by rw [HX.out]; exact info_R)
  obtain ⟨E, HE⟩ : ∃ E, Hid (E = X.map exactOf) := ⟨_, rfl⟩
  rw [← HE.out]
  clear hX hx
  go_enter Tryz.func60, Tryz.ntmps60
  go_wp2_with (first | (refine wpL_load rfl 35 _ rfl _ _ rfl _ (HL.out _ (rows3 w _ _ _).1) ?_) | fail)
  go_loopg [4, 5, 7] 16 (fun g _ _ i wr => ∃ (n : Nat) (D D2 : Array Value), n + g = 16 ∧ i = .int .i64 n ∧ Below w.heap.size w wr ∧ D2.size = 16 ∧ wr.heap[w.heap.size + 1]? = some (.cells D2 90 (0, 0)) ∧ D.size = 16 ∧ wr.heap[w.heap.size + 1 + 1]? = some (.cells D 90 (0, 0)) ∧ ∀ j, j < n → D[j]? = E[j]?)
  case atStart => exact ⟨0, _, _, by omega, rfl, (((Below.refl _ _).alloc (Nat.le_refl _) _).alloc (by simp) _).alloc (by simp <;> omega) _, rfl, (rows3 w _ _ _).2.1, rfl, (rows3 w _ _ _).2.2, fun j hj => by omega⟩
  case round =>
    obtain ⟨n, D, D2, hn, rfl, hb, hD2, h1, hD, h2, hd⟩ := hrel
    by_cases hlt : n < 16
    · have i1 : (n : Int) < 16 := by omega
      have i3 : (0 : Int) ≤ (n : Int) := by omega
      obtain ⟨x, hx⟩ := HF.out n hlt
      have hidx := idx_R hlt hx wr
      have e1 := Fm.self_ne x
      obtain ⟨d0, c0⟩ : ∃ d0, wr.cell? ⟨w.heap.size + 1 + 1, n, none⟩ = some d0 := by rw [cell_of_row _ _ _ _ _ _ h2]; exact ⟨_, Array.getElem?_eq_getElem (by omega)⟩
      have f0 : wr.frozen? ⟨w.heap.size + 1 + 1, n, none⟩ = false := by simp [World.frozen?, h2]
      have HB : Hid (Below w.heap.size w wr) := hb
      have H1 : Hid (wr.heap[w.heap.size + 1]? = some (.cells D2 90 (0, 0))) := h1
      have H2 : Hid (wr.heap[w.heap.size + 1 + 1]? = some (.cells D 90 (0, 0))) := h2
      have HD : Hid (∀ j, j < n → D[j]? = E[j]?) := hd
      have HXN : Hid (E[n]? = some (exactOf (.float .f64 x))) := (by rw [HE.out, Array.getElem?_map, hx]; rfl : E[n]? = some (exactOf (.float .f64 x)))
      have HDs : Hid (D.size = 16) := hD
      have HD2 : Hid (D2.size = 16) := hD2
      clear hb h1 h2 hd hx hD hD2
      by_cases hN : Fm.isN x
      · rw [decide_eq_true hN] at e1
        rw [exact_nan hN] at HXN
        clear hN
        go_wp2_with fail
        refine (impl_nan _).mono ?_
        rintro e w1 ⟨rfl, hw1⟩
        subst hw1
        go_wp2
        go_roundg (gk - 1)
        case measure => omega
        case rel =>
          refine ⟨n + 1, _, _, by omega, by simp, HB.out.setCell (by simp <;> omega) _, HD2.out, row_other H1.out _ _ (by omega) _, by simpa using HDs.out, row_put H2.out _ _, fun j hj => ?_⟩
          by_cases hjn : j = n
          · subst hjn
            rw [Array.getElem?_setIfInBounds_self_of_lt (by rw [HDs.out]; omega)]
            exact HXN.out.symm
          · rw [Array.getElem?_setIfInBounds_ne (by omega)]
            exact HD.out j (by omega)
      · rw [decide_eq_false hN] at e1
        rw [exact_num hN] at HXN
        clear hN
        go_wp2
        go_roundg (gk - 1)
        case measure => omega
        case rel =>
          refine ⟨n + 1, _, _, by omega, by simp, HB.out.setCell (by simp <;> omega) _, HD2.out, row_other H1.out _ _ (by omega) _, by simpa using HDs.out, row_put H2.out _ _, fun j hj => ?_⟩
          by_cases hjn : j = n
          · subst hjn
            rw [Array.getElem?_setIfInBounds_self_of_lt (by rw [HDs.out]; omega)]
            exact HXN.out.symm
          · rw [Array.getElem?_setIfInBounds_ne (by omega)]
            exact HD.out j (by omega)
    · have i1 : ¬ ((n : Int) < 16) := by omega
      have hDE : D = E := by
        apply Array.ext_getElem?
        intro j
        by_cases hj : j < n
        · exact hd j hj
        · have := HX.out
          rw [Array.getElem?_eq_none (by omega), Array.getElem?_eq_none (by rw [HE.out, Array.size_map]; omega)]
      subst hDE
      have HO : Hid (D.all (·.oneCell') = true) := by
        show D.all (·.oneCell') = true
        rw [HE.out, Array.all_eq_true_iff_forall_mem]
        intro v hv
        obtain ⟨u, hu, rfl⟩ := Array.mem_map.1 hv
        obtain ⟨k, hk, rfl⟩ := Array.mem_iff_getElem.1 hu
        obtain ⟨x, hx⟩ := HF.out k (by have := HX.out; omega)
        rw [Array.getElem?_eq_getElem hk] at hx
        rw [Option.some.inj hx]
        by_cases hN : Fm.isN x
        · rw [exact_nan hN]; rfl
        · rw [exact_num hN]; rfl
      have HIE : Hid ((Tryz.prog.info? 90).map (·.size) = some D.size) := by rw [hD]; exact info_E
      have H1 : Hid (wr.heap[w.heap.size + 1]? = some (.cells D2 90 (0, 0))) := h1
      have H2 : Hid (wr.heap[w.heap.size + 1 + 1]? = some (.cells D 90 (0, 0))) := h2
      have HB : Hid (Below w.heap.size w (wr.setRow (w.heap.size + 1) D)) := below_setRow hb (by omega) _
      have HDD : Hid (D2.size = D.size) := hD2.trans hD.symm
      clear h1 h2 hb hd hD hD2
      go_wp2_with (first | (refine wpL_load rfl 90 _ rfl _ _ rfl _ (load_all H2.out _ _ Tryz.underlying90 rfl HIE.out) ?_) | (refine wpL_store rfl 90 _ _ rfl _ _ rfl _ rfl _ (store_all H1.out _ _ HDD.out HIE.out HO.out) ?_) | exact ret_row rfl rfl (row_set H1.out _) Tryz.underlying90 rfl HIE.out rfl ⟨rfl, HB.out⟩ | fail)
end Go.Proofs.YtjnddfpieogpiaaGreatDoor.Rr
/- MemSame of the program, both ways. -/
namespace Go.Proofs.YtjnddfpieogpiaaGreatDoor.Rr
open Go.RowKit
set_option linter.unusedVariables false

theorem zero_reals : (∀ w, (zeroValue 35).run Tryz.prog w = .ok (.agg #[.float .f64 0, .float .f64 0, .float .f64 0, .float .f64 0, .float .f64 0, .float .f64 0, .float .f64 0, .float .f64 0, .float .f64 0, .float .f64 0, .float .f64 0, .float .f64 0, .float .f64 0, .float .f64 0, .float .f64 0, .float .f64 0]) w) ∧ (Tryz.prog.info? 35).map (·.size) = some 16 := zero_of_info (by kernel_rfl)

/-- What makes two memories one. -/
def MS (c d : Array Value) : Prop := (∀ j, j < 16 → ((c.extract 117 133).map exactOf)[j]? = ((d.extract 117 133).map exactOf)[j]?) ∧ AgreeOn (noReal c) (noReal d) 0 136

theorem exact_int (x : Nat) : ∃ n : Int, exactOf (.float .f64 x) = .int .u64 n := by
  by_cases hN : Fm.isN x
  · exact ⟨_, exact_nan hN⟩
  · exact ⟨_, exact_num hN⟩

theorem eqD_exact {X Y : Array Value} (hx : ∀ k, k < 16 → ∃ x : Nat, X[k]? = some (.float .f64 x)) (hy : ∀ k, k < 16 → ∃ x : Nat, Y[k]? = some (.float .f64 x)) : EqD Tryz.prog 10000 90 (.agg (X.map exactOf)) (.agg (Y.map exactOf)) (∀ j, j < 16 → (X.map exactOf)[j]? = (Y.map exactOf)[j]?) := by
  obtain ⟨i2, hi2, hs2⟩ := some_info (t := 24) (n := 1) (by kernel_rfl)
  refine eqD_array (d := 9999) Tryz.underlying90 hi2 fun j hj => ?_
  obtain ⟨x, hxj⟩ := hx j hj
  obtain ⟨y, hyj⟩ := hy j hj
  obtain ⟨n, hn⟩ := exact_int x
  obtain ⟨m, hm⟩ := exact_int y
  have he : (X.map exactOf)[j]? = some (.int .u64 n) := by rw [Array.getElem?_map, hxj, ← hn]; rfl
  have hf : (Y.map exactOf)[j]? = some (.int .u64 m) := by rw [Array.getElem?_map, hyj, ← hm]; rfl
  rw [cells_u64, Nat.mul_one]
  refine ⟨_, _, part_cell Tryz.underlying24 rfl he, part_cell Tryz.underlying24 rfl hf, (eqD_int (d := 9998) Tryz.underlying24).iff ?_⟩
  rw [he, hf]
  exact ⟨fun h => by rw [h], fun h => Option.some.inj h⟩

set_option maxRecDepth 10000 in
set_option maxHeartbeats 2000000 in
theorem same_i (c d : Array Value) (hc : MemOk c) (hd : MemOk d) (b : Bool) (hb : b = true ↔ MS c d) (w : World) :
    Calls Tryz.prog 18 #[.agg c, .agg d] w fun e w' => e = .returned (.bool b) ∧ Below w.heap.size w w' := by
  have HC : Hid (MemOk c) := hc
  have HDM : Hid (MemOk d) := hd
  obtain ⟨X, HX⟩ : ∃ X, Hid (X = c.extract 117 133) := ⟨_, rfl⟩
  have HXs : Hid (X.size = 16) := (by rw [HX.out]; exact hc.esize 117 133 (by omega) : X.size = 16)
  have HXf : Hid (∀ k, k < 16 → ∃ x : Nat, X[k]? = some (.float .f64 x)) := fun k hk => by rw [HX.out]; exact mem_r hc k hk
  obtain ⟨Y, HY⟩ : ∃ Y, Hid (Y = d.extract 117 133) := ⟨_, rfl⟩
  have HYs : Hid (Y.size = 16) := (by rw [HY.out]; exact hd.esize 117 133 (by omega) : Y.size = 16)
  have HYf : Hid (∀ k, k < 16 → ∃ x : Nat, Y[k]? = some (.float .f64 x)) := fun k hk => by rw [HY.out]; exact mem_r hd k hk
  obtain ⟨r1, hr1, hr1'⟩ := eqD_exact HXf.out HYf.out
  obtain ⟨r2, hr2, hr2'⟩ := eqD_mem hc hd
  have hbb : b = (r1 && r2) := by
    rw [Bool.eq_iff_iff, hb, Bool.and_eq_true, hr1', hr2', HX.out, HY.out]; exact Iff.rfl
  obtain ⟨E, HE⟩ : ∃ E, Hid (E = X.map exactOf) := ⟨_, rfl⟩
  obtain ⟨F, HF⟩ : ∃ F, Hid (F = Y.map exactOf) := ⟨_, rfl⟩
  rw [← HE.out, ← HF.out] at hr1
  have HEE : Hid (∀ W, (Op.equalIn 10000 90 (.agg E) (.agg F)).run Tryz.prog W = .ok r1 W) := hr1
  have HEx : Hid (∀ W, Calls Tryz.prog 60 #[.agg X] W fun e w' => e = .returned (.agg E) ∧ Below W.heap.size W w') := fun W => by rw [HE.out]; exact exact_i X HXs.out HXf.out W
  have HFx : Hid (∀ W, Calls Tryz.prog 60 #[.agg Y] W fun e w' => e = .returned (.agg F) ∧ Below W.heap.size W w') := fun W => by rw [HF.out]; exact exact_i Y HYs.out HYf.out W
  obtain ⟨C, HCC⟩ : ∃ C, Hid (C = noReal c) := ⟨_, rfl⟩
  obtain ⟨D, HD⟩ : ∃ D, Hid (D = noReal d) := ⟨_, rfl⟩
  have HCs : Hid (C.size = 136) := (by rw [HCC.out, noReal_size]; exact hc.size : C.size = 136)
  have HDs : Hid (D.size = 136) := (by rw [HD.out, noReal_size]; exact hd.size : D.size = 136)
  rw [← HCC.out, ← HD.out] at hr2
  have HDE : Hid (∀ W, (Op.equalIn 10000 37 (.agg C) (.agg D)).run Tryz.prog W = .ok r2 W) := hr2
  have HI : Hid ((Tryz.prog.info? 37).map (·.size) = some c.size) := by rw [HC.out.size]; exact zero_mem.2
  have HIC : Hid ((Tryz.prog.info? 37).map (·.size) = some C.size) := by rw [HCs.out]; exact zero_mem.2
  have HID : Hid ((Tryz.prog.info? 37).map (·.size) = some D.size) := by rw [HDs.out]; exact zero_mem.2
  have hzr := zero_reals.1
  obtain ⟨ZR, HZR⟩ : ∃ Z : Array Value, Hid (Z = #[.float .f64 0, .float .f64 0, .float .f64 0, .float .f64 0, .float .f64 0, .float .f64 0, .float .f64 0, .float .f64 0, .float .f64 0, .float .f64 0, .float .f64 0, .float .f64 0, .float .f64 0, .float .f64 0, .float .f64 0, .float .f64 0]) := ⟨_, rfl⟩
  rw [← HZR.out] at hzr
  have HPC : Hid (putAt c 117 ZR.toList = C) := (by rw [HZR.out, HCC.out]; rfl : putAt c 117 ZR.toList = C)
  have HPA : Hid (putAt d 117 ZR.toList = D) := (by rw [HZR.out, HD.out]; rfl : putAt d 117 ZR.toList = D)
  have HZs : Hid (ZR.size = 16 ∧ ZR.all (·.oneCell') = true) := (by rw [HZR.out]; exact ⟨rfl, by simp [Value.oneCell']⟩ : ZR.size = 16 ∧ ZR.all (·.oneCell') = true)
  have HBB : Hid (b = (r1 && r2)) := hbb
  clear hc hd hb hr1 hr2 hr1' hr2' hbb
  go_enter Tryz.func18, Tryz.ntmps18
  go_upto_region 1 with fail
  have r := rows2 w (.cells c 37) (.cells d 37)
  have bl : Below w.heap.size w ((w.alloc (.cells c 37)).alloc (.cells d 37)) := ((Below.refl _ _).alloc (Nat.le_refl _) _).alloc (by simp) _
  obtain ⟨h1, h2⟩ := r
  generalize ((w.alloc (.cells c 37)).alloc (.cells d 37)) = w0 at h1 h2 bl ⊢
  obtain ⟨S, HS⟩ : ∃ S : World → Prop, Hid (∀ W, S W ↔ (W.heap[w.heap.size]? = some (.cells c 37 (0, 0)) ∧ W.heap[w.heap.size + 1]? = some (.cells d 37 (0, 0)) ∧ Below w.heap.size w W)) := ⟨_, fun W => Iff.rfl⟩
  have hSc : Hid (∀ W W', S W → Below W.heap.size W W' → S W') := fun W W' h g => by
    obtain ⟨q1, q2, q3⟩ := (HS.out W).1 h
    have l3 := (Array.getElem?_eq_some_iff.1 q2).1
    exact (HS.out W').2 ⟨(g.block _ (by omega)).trans q1, (g.block _ (by omega)).trans q2, q3.trans (g.mono q3.size)⟩
  refine region_cut (R := fun a' W => S W ∧ a' = ⟨#[.agg c, .agg d, .pointer (some ⟨w.heap.size, 0, none⟩), .pointer (some ⟨w.heap.size + 1, 0, none⟩), .bool false, .bool r1, .pointer (some ⟨w.heap.size, 117, none⟩), .agg X, .agg E, .pointer (some ⟨w.heap.size + 1, 117, none⟩), .agg Y, .agg F, .bool r1, undef, undef, undef, undef, undef, undef, undef, undef, undef, undef], []⟩) ?_ ?_
  · have S0 : S w0.drew := (HS.out _).2 ⟨h1, h2, bl.drew⟩
    refine wp_region_held_drew (S := S) (by kernel_rfl) S0 (fun S0 => ?_)
    show wpAnyH _ _ _ _ _ 8 #[false, false, false, false, false, false, false, false] _ _
    refine tk_val' (i := 0) rfl (by kernel_rfl) (by kernel_rfl) (by kernel_rfl) (fun _ _ _ _ h => nomatch h.1) rfl (.pointer (some ⟨w.heap.size, 117, none⟩)) (fun W _ => by go_simp) S0 #[true, false, false, false, false, false, false, false] rfl ⟨#[.agg c, .agg d, .pointer (some ⟨w.heap.size, 0, none⟩), .pointer (some ⟨w.heap.size + 1, 0, none⟩), .bool false, undef, .pointer (some ⟨w.heap.size, 117, none⟩), undef, undef, undef, undef, undef, undef, undef, undef, undef, undef, undef, undef, undef, undef, undef, undef], []⟩ rfl ?_
    refine tk_load' (i := 1) rfl (by kernel_rfl) (by kernel_rfl) (by kernel_rfl) (fun _ _ _ _ h => nomatch h.1) rfl 35 _ rfl _ _ rfl (.agg X) (fun W hW => by rw [HX.out]; exact load_sub ((HS.out W).1 hW).1 _ _ 117 16 (by rw [HC.out.size]; omega) Tryz.underlying35 rfl info_R) S0 #[true, true, false, false, false, false, false, false] rfl ⟨#[.agg c, .agg d, .pointer (some ⟨w.heap.size, 0, none⟩), .pointer (some ⟨w.heap.size + 1, 0, none⟩), .bool false, undef, .pointer (some ⟨w.heap.size, 117, none⟩), .agg X, undef, undef, undef, undef, undef, undef, undef, undef, undef, undef, undef, undef, undef, undef, undef], []⟩ rfl ?_
    refine tk_val' (i := 3) rfl (by kernel_rfl) (by kernel_rfl) (by kernel_rfl) (fun _ _ _ _ h => nomatch h.1) rfl (.pointer (some ⟨w.heap.size + 1, 117, none⟩)) (fun W _ => by go_simp) S0 #[true, true, false, true, false, false, false, false] rfl ⟨#[.agg c, .agg d, .pointer (some ⟨w.heap.size, 0, none⟩), .pointer (some ⟨w.heap.size + 1, 0, none⟩), .bool false, undef, .pointer (some ⟨w.heap.size, 117, none⟩), .agg X, undef, .pointer (some ⟨w.heap.size + 1, 117, none⟩), undef, undef, undef, undef, undef, undef, undef, undef, undef, undef, undef, undef, undef], []⟩ rfl ?_
    refine tk_load' (i := 4) rfl (by kernel_rfl) (by kernel_rfl) (by kernel_rfl) (fun _ _ _ _ h => nomatch h.1) rfl 35 _ rfl _ _ rfl (.agg Y) (fun W hW => by rw [HY.out]; exact load_sub ((HS.out W).1 hW).2.1 _ _ 117 16 (by rw [HDM.out.size]; omega) Tryz.underlying35 rfl info_R) S0 #[true, true, false, true, true, false, false, false] rfl ⟨#[.agg c, .agg d, .pointer (some ⟨w.heap.size, 0, none⟩), .pointer (some ⟨w.heap.size + 1, 0, none⟩), .bool false, undef, .pointer (some ⟨w.heap.size, 117, none⟩), .agg X, undef, .pointer (some ⟨w.heap.size + 1, 117, none⟩), .agg Y, undef, undef, undef, undef, undef, undef, undef, undef, undef, undef, undef, undef], []⟩ rfl ?_
    refine wpAnyH_all (rs := [2]) (by kernel_rfl) (by simp) (fun i hi => ?_)
    obtain rfl := List.mem_singleton.1 hi
    refine up_fcall' rfl rfl Tryz.func60 (by kernel_rfl) (by kernel_rfl) rfl [.agg X] rfl #[true, true, true, true, true, false, false, false] rfl (.agg E) ⟨#[.agg c, .agg d, .pointer (some ⟨w.heap.size, 0, none⟩), .pointer (some ⟨w.heap.size + 1, 0, none⟩), .bool false, undef, .pointer (some ⟨w.heap.size, 117, none⟩), .agg X, .agg E, .pointer (some ⟨w.heap.size + 1, 117, none⟩), .agg Y, undef, undef, undef, undef, undef, undef, undef, undef, undef, undef, undef, undef], []⟩ rfl _ (HEx.out _) ?_
    intro w1 gw1
    have Sw1 := hSc.out _ _ S0 gw1
    refine ⟨Sw1, ?_⟩
    refine wpAnyH_all (rs := [5]) (by kernel_rfl) (by simp) (fun i hi => ?_)
    obtain rfl := List.mem_singleton.1 hi
    refine up_fcall' rfl rfl Tryz.func60 (by kernel_rfl) (by kernel_rfl) rfl [.agg Y] rfl #[true, true, true, true, true, true, false, false] rfl (.agg F) ⟨#[.agg c, .agg d, .pointer (some ⟨w.heap.size, 0, none⟩), .pointer (some ⟨w.heap.size + 1, 0, none⟩), .bool false, undef, .pointer (some ⟨w.heap.size, 117, none⟩), .agg X, .agg E, .pointer (some ⟨w.heap.size + 1, 117, none⟩), .agg Y, .agg F, undef, undef, undef, undef, undef, undef, undef, undef, undef, undef, undef], []⟩ rfl _ (HFx.out _) ?_
    intro w2 gw2
    have Sw2 := hSc.out _ _ Sw1 gw2
    refine ⟨Sw2, ?_⟩
    refine tk_val' (i := 6) rfl (by kernel_rfl) (by kernel_rfl) (by kernel_rfl) (fun _ _ _ _ h => nomatch h.1) rfl (.bool r1) (fun W _ => by have hE := HEE.out; go_simp) Sw2 #[true, true, true, true, true, true, true, false] rfl ⟨#[.agg c, .agg d, .pointer (some ⟨w.heap.size, 0, none⟩), .pointer (some ⟨w.heap.size + 1, 0, none⟩), .bool false, undef, .pointer (some ⟨w.heap.size, 117, none⟩), .agg X, .agg E, .pointer (some ⟨w.heap.size + 1, 117, none⟩), .agg Y, .agg F, .bool r1, undef, undef, undef, undef, undef, undef, undef, undef, undef, undef], []⟩ rfl ?_
    refine tk_val' (i := 7) rfl (by kernel_rfl) (by kernel_rfl) (by kernel_rfl) (fun _ _ _ _ h => nomatch h.1) rfl (.bool r1) (fun W _ => by go_simp) Sw2 #[true, true, true, true, true, true, true, true] rfl ⟨#[.agg c, .agg d, .pointer (some ⟨w.heap.size, 0, none⟩), .pointer (some ⟨w.heap.size + 1, 0, none⟩), .bool false, .bool r1, .pointer (some ⟨w.heap.size, 117, none⟩), .agg X, .agg E, .pointer (some ⟨w.heap.size + 1, 117, none⟩), .agg Y, .agg F, .bool r1, undef, undef, undef, undef, undef, undef, undef, undef, undef, undef], []⟩ rfl ?_
    exact wpAnyH_done (by kernel_rfl) ⟨rfl, Sw2, rfl⟩ _
  clear h1 h2 bl
  rintro _ w3 ⟨S3, rfl⟩
  obtain ⟨h1, h2, bl⟩ := (HS.out _).1 S3
  obtain ⟨u1, HU1⟩ : ∃ u, Hid (u = w3.setRow w.heap.size C) := ⟨_, rfl⟩
  obtain ⟨u2, HU2⟩ : ∃ u, Hid (u = u1.setRow (w.heap.size + 1) D) := ⟨_, rfl⟩
  have HS1 : Hid ((storeVar 35 ⟨w.heap.size, 117, none⟩ (.agg ZR)).run Tryz.prog w3 = .ok () u1) := by
    rw [HU1.out, ← HPC.out]; exact store_sub h1 _ 117 _ (by rw [HZs.out.1, HC.out.size]; omega) (by rw [HZs.out.1]; exact info_R) HZs.out.2
  have k2 : u1.heap[w.heap.size + 1]? = some (.cells d 37 (0, 0)) := by rw [HU1.out]; exact row_beside h2 _ (by omega) _
  have HS2 : Hid ((storeVar 35 ⟨w.heap.size + 1, 117, none⟩ (.agg ZR)).run Tryz.prog u1 = .ok () u2) := by
    rw [HU2.out, ← HPA.out]; exact store_sub k2 _ 117 _ (by rw [HZs.out.1, HDM.out.size]; omega) (by rw [HZs.out.1]; exact info_R) HZs.out.2
  have j1 : u2.heap[w.heap.size]? = some (.cells C 37 (0, 0)) := by rw [HU2.out, HU1.out]; exact row_beside (row_set h1 _) _ (by omega) _
  have j2 : u2.heap[w.heap.size + 1]? = some (.cells D 37 (0, 0)) := by rw [HU2.out]; exact row_set k2 _
  have HL1 : Hid ((loadVar 37 ⟨w.heap.size, 0, none⟩).run Tryz.prog u2 = .ok (.agg C) u2) := load_all j1 _ _ Tryz.underlying37 rfl HIC.out
  have HL2 : Hid ((loadVar 37 ⟨w.heap.size + 1, 0, none⟩).run Tryz.prog u2 = .ok (.agg D) u2) := load_all j2 _ _ Tryz.underlying37 rfl HID.out
  have HB : Hid (Below w.heap.size w u2) := (by rw [HU2.out, HU1.out]; exact below_setRow (below_setRow bl (Nat.le_refl _) _) (by omega) _ : Below w.heap.size w u2)
  have hDE := HDE.out
  clear h1 h2 bl k2 j1 j2 HU1 HU2 S3 HS hSc HEE HEx HFx HX HY
  cases r1 with
  | true =>
    go_wp2_with (first | (refine wpL_store rfl 35 _ _ rfl _ _ rfl _ rfl _ HS1.out ?_) | (refine wpL_store rfl 35 _ _ rfl _ _ rfl _ rfl _ HS2.out ?_) | (refine wpL_loadW rfl 37 _ rfl _ _ rfl _ HL1.out ?_) | (refine wpL_loadW rfl 37 _ rfl _ _ rfl _ HL2.out ?_) | fail)
    go_ret
    exact ⟨by rw [HBB.out]; rfl, HB.out⟩
  | false =>
    go_wp2_with (first | (refine wpL_store rfl 35 _ _ rfl _ _ rfl _ rfl _ HS1.out ?_) | (refine wpL_store rfl 35 _ _ rfl _ _ rfl _ rfl _ HS2.out ?_) | fail)
    go_ret
    exact ⟨by rw [HBB.out]; rfl, HB.out⟩
end Go.Proofs.YtjnddfpieogpiaaGreatDoor.Rr
