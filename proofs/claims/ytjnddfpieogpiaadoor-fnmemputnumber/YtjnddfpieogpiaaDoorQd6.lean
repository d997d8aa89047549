/- MemSame of a memory with itself. -/
import Derived.Test.YtjnddfpieogpiaaDoorQc
import Derived.Test.YtjnddfpieogpiaaDoorK
import Derived.Test.YtjnddfpieogpiaaDoorSc6
import Derived.Lib.QuietBelow
namespace Go.Proofs.YtjnddfpieogpiaaDoor
open Go.RowKit
set_option linter.unusedVariables false

theorem tobits (n : Nat) (w : World) : (callFunc 31 #[.float .f64 n]).run Tryd.prog w = .ok (.value (.int .u64 (n : Int))) w :=
  (run_callFunc_extern Tryd.func31 (by kernel_rfl) (by kernel_rfl) (by kernel_rfl) (e := Extern.MathFloatBits.float64bits) (by kernel_rfl) _ w).trans rfl
attribute [go_sem] tobits

/-- What tells a real number apart. -/
def exactOf (v : Value) : Value := match v with | .float _ x => if Fm.isN x then .int .u64 9221120237041090561 else .int .u64 (x : Int) | v => v

theorem info_R : (Tryd.prog.info? 35).map (·.size) = some 16 := by kernel_rfl
theorem info_E : (Tryd.prog.info? 61).map (·.size) = some 16 := by kernel_rfl

theorem idx_R {X : Array Value} {n : Nat} {v : Value} (h : n < 16) (hx : X[n]? = some v) (w : World) : (Instr.index 35 (.agg X) (.int .i64 (n : Int))).run Tryd.prog w = .ok v w := by
  obtain ⟨i2, hi2, hs2⟩ := some_info (t := 34) (n := 1) (by kernel_rfl)
  have hp := part_cell (P := Tryd.prog) (t := 34) (cs := X) (off := n) Tryd.underlying34 rfl hx w
  have hc : (0 : Int) ≤ (n : Int) ∧ (n : Int) < ((16 : Nat) : Int) := by omega
  unfold Instr.index
  simp only [asIntOf, Sem.run_bind, Sem.run_pure, Result.andThen_ok, run_underlying Tryd.underlying35]
  rw [if_pos hc]
  simp only [sizeOf, typeInfo, Sem.run_bind, run_program, Result.andThen_ok, hi2, Sem.run_pure, hs2, Int.toNat_natCast, Nat.mul_one]
  exact hp
theorem exact_nan {x : Nat} (h : Fm.isN x) : exactOf (.float .f64 x) = .int .u64 9221120237041090561 := if_pos h
theorem exact_num {x : Nat} (h : ¬ Fm.isN x) : exactOf (.float .f64 x) = .int .u64 (x : Int) := if_neg h

set_option maxRecDepth 10000 in
set_option maxHeartbeats 1000000 in
theorem exact_i (X : Array Value) (hX : X.size = 16) (hx : ∀ k, k < 16 → ∃ x : Nat, X[k]? = some (.float .f64 x)) (w : World) :
    Calls Tryd.prog 21 #[.agg X] w fun e w' => e = .returned (.agg (X.map exactOf)) ∧ Below w.heap.size w w' := by
  have HX : Hid (X.size = 16) := hX
  have HF : Hid (∀ k, k < 16 → ∃ x : Nat, X[k]? = some (.float .f64 x)) := hx
  have HL : Hid (∀ W : World, W.heap[w.heap.size]? = some (.cells X 35 (0, 0)) → (loadVar 35 ⟨w.heap.size, 0, none⟩).run Tryd.prog W = .ok (.agg X) W) := fun W h => load_all h _ _ Tryd.underlying35 rfl (by rw [HX.out]; exact info_R)
  obtain ⟨E, HE⟩ : ∃ E, Hid (E = X.map exactOf) := ⟨_, rfl⟩
  rw [← HE.out]
  clear hX hx
  go_enter Tryd.func21, Tryd.ntmps21
  go_wp2_with (first | (refine wpL_load rfl 35 _ rfl _ _ rfl _ (HL.out _ (rows3 w _ _ _).1) ?_) | fail)
  go_loopg [4, 5, 7] 16 (fun g _ _ i wr => ∃ (n : Nat) (D D2 : Array Value), n + g = 16 ∧ i = .int .i64 n ∧ Below w.heap.size w wr ∧ D2.size = 16 ∧ wr.heap[w.heap.size + 1]? = some (.cells D2 61 (0, 0)) ∧ D.size = 16 ∧ wr.heap[w.heap.size + 1 + 1]? = some (.cells D 61 (0, 0)) ∧ ∀ j, j < n → D[j]? = E[j]?)
  case atStart => exact ⟨0, _, _, by omega, rfl, (((Below.refl _ _).alloc (Nat.le_refl _) _).alloc (by simp) _).alloc (by simp <;> omega) _, rfl, (rows3 w _ _ _).2.1, rfl, (rows3 w _ _ _).2.2, fun j hj => by omega⟩
  case round =>
    obtain ⟨n, D, D2, hn, rfl, hb, hD2, h1, hD, h2, hd⟩ := hrel
    by_cases hlt : n < 16
    · have i1 : (n : Int) < 16 := by omega
      have i3 : (0 : Int) ≤ (n : Int) := by omega
      obtain ⟨x, hx⟩ := HF.out n hlt
      have hidx := idx_R hlt hx wr
      have e1 := Fm.self_ne x
      obtain ⟨d0, c0⟩ : ∃ d0, wr.cell? ⟨w.heap.size + 1 + 1, n, none⟩ = some d0 := by rw [cell_of_row _ _ _ _ _ _ h2]; exact ⟨_, Array.getElem?_eq_getElem (by omega)⟩
      have f0 : wr.frozen? ⟨w.heap.size + 1 + 1, n, none⟩ = false := by simp [World.frozen?, h2]
      have HB : Hid (Below w.heap.size w wr) := hb
      have H1 : Hid (wr.heap[w.heap.size + 1]? = some (.cells D2 61 (0, 0))) := h1
      have H2 : Hid (wr.heap[w.heap.size + 1 + 1]? = some (.cells D 61 (0, 0))) := h2
      have HD : Hid (∀ j, j < n → D[j]? = E[j]?) := hd
      have HXN : Hid (E[n]? = some (exactOf (.float .f64 x))) := (by rw [HE.out, Array.getElem?_map, hx]; rfl : E[n]? = some (exactOf (.float .f64 x)))
      have HDs : Hid (D.size = 16) := hD
      have HD2 : Hid (D2.size = 16) := hD2
      clear hb h1 h2 hd hx hD hD2
      by_cases hN : Fm.isN x
      · rw [decide_eq_true hN] at e1
        rw [exact_nan hN] at HXN
        clear hN
        go_wp2_with fail
        refine (impl_nan _).mono ?_
        rintro e w1 ⟨rfl, hw1⟩
        subst hw1
        go_wp2
        go_roundg (gk - 1)
        case measure => omega
        case rel =>
          refine ⟨n + 1, _, _, by omega, by simp, HB.out.setCell (by simp <;> omega) _, HD2.out, row_other H1.out _ _ (by omega) _, by simpa using HDs.out, row_put H2.out _ _, fun j hj => ?_⟩
          by_cases hjn : j = n
          · subst hjn
            rw [Array.getElem?_setIfInBounds_self_of_lt (by rw [HDs.out]; omega)]
            exact HXN.out.symm
          · rw [Array.getElem?_setIfInBounds_ne (by omega)]
            exact HD.out j (by omega)
      · rw [decide_eq_false hN] at e1
        rw [exact_num hN] at HXN
        clear hN
        go_wp2
        go_roundg (gk - 1)
        case measure => omega
        case rel =>
          refine ⟨n + 1, _, _, by omega, by simp, HB.out.setCell (by simp <;> omega) _, HD2.out, row_other H1.out _ _ (by omega) _, by simpa using HDs.out, row_put H2.out _ _, fun j hj => ?_⟩
          by_cases hjn : j = n
          · subst hjn
            rw [Array.getElem?_setIfInBounds_self_of_lt (by rw [HDs.out]; omega)]
            exact HXN.out.symm
          · rw [Array.getElem?_setIfInBounds_ne (by omega)]
            exact HD.out j (by omega)
    · have i1 : ¬ ((n : Int) < 16) := by omega
      have hDE : D = E := by
        apply Array.ext_getElem?
        intro j
        by_cases hj : j < n
        · exact hd j hj
        · have := HX.out
          rw [Array.getElem?_eq_none (by omega), Array.getElem?_eq_none (by rw [HE.out, Array.size_map]; omega)]
      subst hDE
      have HO : Hid (D.all (·.oneCell') = true) := by
        show D.all (·.oneCell') = true
        rw [HE.out, Array.all_eq_true_iff_forall_mem]
        intro v hv
        obtain ⟨u, hu, rfl⟩ := Array.mem_map.1 hv
        obtain ⟨k, hk, rfl⟩ := Array.mem_iff_getElem.1 hu
        obtain ⟨x, hx⟩ := HF.out k (by have := HX.out; omega)
        rw [Array.getElem?_eq_getElem hk] at hx
        rw [Option.some.inj hx]
        by_cases hN : Fm.isN x
        · rw [exact_nan hN]; rfl
        · rw [exact_num hN]; rfl
      have HIE : Hid ((Tryd.prog.info? 61).map (·.size) = some D.size) := by rw [hD]; exact info_E
      have H1 : Hid (wr.heap[w.heap.size + 1]? = some (.cells D2 61 (0, 0))) := h1
      have H2 : Hid (wr.heap[w.heap.size + 1 + 1]? = some (.cells D 61 (0, 0))) := h2
      have HB : Hid (Below w.heap.size w (wr.setRow (w.heap.size + 1) D)) := below_setRow hb (by omega) _
      have HDD : Hid (D2.size = D.size) := hD2.trans hD.symm
      clear h1 h2 hb hd hD hD2
      go_wp2_with (first | (refine wpL_load rfl 61 _ rfl _ _ rfl _ (load_all H2.out _ _ Tryd.underlying61 rfl HIE.out) ?_) | (refine wpL_store rfl 61 _ _ rfl _ _ rfl _ rfl _ (store_all H1.out _ _ HDD.out HIE.out HO.out) ?_) | exact ret_row rfl rfl (row_set H1.out _) Tryd.underlying61 rfl HIE.out rfl ⟨rfl, HB.out⟩ | fail)
end Go.Proofs.YtjnddfpieogpiaaDoor
