/- SureCheck of the program: what sureWalk throws is caught. -/
import Derived.Test.YthjbgjfihfkpcaaDoorBd
import Derived.Recover
import Derived.Stop.Asserts
namespace Go.Proofs.YthjbgjfihfkpcaaDoor
open Go.RowKit
set_option linter.unusedVariables false

def CheckR (xs : List InstT) (w : World) (e : Ending) (w' : World) : Prop := e = .returned (.agg #[.int .i64 (checkT xs).1, .int .i64 (checkT xs).2]) ∧ Below w.heap.size w w'

theorem scatch_idle (p : Addr) (w : World) :
    CallsD Tryd.prog 13 #[.pointer (some p)] .returning w fun e u' w' => e = .returned (.tuple #[]) ∧ u' = .returning ∧ w' = w := by
  refine callsD_of_wpS Tryd.func13 rfl fun c₀ cs hu => ?_
  apply wpS_seq
  apply wpS_region
  simp [wpOpsS, go_sem, recoverD, hu, Tryd.ntmps13, Exit.thenS]
  apply wpS_seq
  apply wpS_region
  simp [wpOpsS, go_sem, Exit.thenS]
  refine wpS_cond (t := false) (by simp [Act.eval, Array.replicate]) ?_
  simp only [Bool.false_eq_true, if_false]
  refine wpS_of_wp (wp_skip ?_)
  cases c₀
  simp_all [bodyPostS, results, Tryd.results13]
set_option maxRecDepth 100000 in
theorem scatch_thrown (g : Nat) (c a x y : Int) (w : World) (h : w.heap[g]? = some (.cells #[.int .i64 x, .int .i64 y] 28 (0, 0))) :
    CallsD Tryd.prog 13 #[.pointer (some ⟨g, 0, none⟩)] (.panicking [{ v := .iface 28 (.agg #[.int .i64 c, .int .i64 a]), recovered := false }]) w fun e u' w' => e = .returned (.tuple #[]) ∧ u' = .panicking [{ v := .iface 28 (.agg #[.int .i64 c, .int .i64 a]), recovered := true }] ∧ w' = (w.setCell ⟨g, 0, none⟩ (.int .i64 c)).setCell ⟨g, 1, none⟩ (.int .i64 a) := by
  have h2 := row_put h 0 (.int .i64 c)
  have k0 : w.cell? ⟨g, 0, none⟩ = some (.int .i64 x) := (cell_of_row _ _ _ _ _ _ h).trans rfl
  have k1 : (w.setCell ⟨g, 0, none⟩ (.int .i64 c)).cell? ⟨g, 1, none⟩ = some (.int .i64 y) := (cell_of_row _ _ _ _ _ _ h2).trans rfl
  have f0 : w.frozen? ⟨g, 0, none⟩ = false := (there_row h 0 2 (by simp) 0 (by omega)).2
  have f1 : (w.setCell ⟨g, 0, none⟩ (.int .i64 c)).frozen? ⟨g, 1, none⟩ = false := (there_row h2 0 2 (by simp) 1 (by omega)).2
  refine callsD_of_wpS Tryd.func13 rfl fun c₀ cs hu => ?_
  apply wpS_seq
  apply wpS_region
  simp [wpOpsS, go_sem, recoverD, hu, Tryd.ntmps13, Exit.thenS]
  apply wpS_seq
  apply wpS_region
  simp [wpOpsS, go_sem, Exit.thenS]
  refine wpS_cond (t := true) (by simp [Act.eval, Array.replicate]) ?_
  simp only [if_true]
  have hta : ∀ (t : TypeId) (x : Value) (W : World), (Instr.typeAssert (.iface 28 x) t 28 false).run Tryd.prog W = .ok x W := fun t x W => by kernel_rfl
  apply wpS_region
  simp [wpOpsS, go_sem, hta, k0, k1, f0, f1, bodyPostS, results, Tryd.results13]

set_option maxRecDepth 100000 in
set_option maxHeartbeats 2000000 in
theorem check_i (v : Value) (xs : List InstT) (w : World) (lo : Nat) (hv : InstsIs w lo v xs) (hbig : xs.length ≤ 1048576) (hT : KT w) (hL : LT w) :
    Calls Tryd.prog 7 #[v] w fun e w' => CheckR xs w e w' := by
  have hmf : ∀ (fn : Fn) (first cap : Array Value) (w : World), (Instr.makeFunc fn first cap).run Tryd.prog w = .ok (.func fn first cap) w := fun _ _ _ _ => rfl
  have g0 : Below w.heap.size w (w.alloc (.cells #[.int .i64 0, .int .i64 0] 28)) := (Below.refl _ _).alloc (Nat.le_refl _) _
  have HW : Hid (Calls Tryd.prog 14 #[v] (w.alloc (.cells #[.int .i64 0, .int .i64 0] 28)) fun e w' => WalkR xs (w.alloc (.cells #[.int .i64 0, .int .i64 0] 28)) e w') := by
    have hv1 := instsIs_move (Keeps.of_below g0 lo) (Nat.le_refl _) hv
    by_cases hk : xs.length ≤ 1000
    · exact walk_i v xs _ lo hv1 hk (hT.later g0) (hL.later g0)
    · exact walk_many v xs _ lo hv1 hbig (by omega)
  have HG : Hid (Below w.heap.size w (w.alloc (.cells #[.int .i64 0, .int .i64 0] 28)) ∧ (w.alloc (.cells #[.int .i64 0, .int .i64 0] 28)).heap[w.heap.size]? = some (.cells #[.int .i64 0, .int .i64 0] 28 (0, 0))) := ⟨g0, heap_alloc_last w _⟩
  have hz : (w.alloc (.cells #[.int .i64 0, .int .i64 0] 28)).heap.size = w.heap.size + 1 := by simp
  clear g0 hv hT hL
  go_enter_defers Tryd.func7, Tryd.ntmps7
  go_wp2_with fail
  refine HW.out.mono ?_
  rintro e w1 (⟨hC, rfl, g1⟩ | ⟨c, a, hc, hC, rfl, g1⟩)
  · have k0 : w1.heap[w.heap.size]? = some (.cells #[.int .i64 0, .int .i64 0] 28 (0, 0)) := (g1.block _ (by omega)).trans HG.out.2
    have b1 : Below w.heap.size w w1 := HG.out.1.trans (g1.mono (by omega))
    have HST : Hid ((storeVar 28 ⟨w.heap.size, 0, none⟩ (.agg #[.int .i64 0, .int .i64 0])).run Tryd.prog w1 = .ok () (w1.setRow w.heap.size #[.int .i64 0, .int .i64 0])) := store_all k0 28 _ rfl (by kernel_rfl) (all_one [.int .i64 0, .int .i64 0] (by intro d hd; simp at hd; rcases hd with rfl | rfl <;> rfl))
    have K3 : Hid ((w1.setRow w.heap.size #[.int .i64 0, .int .i64 0]).heap[w.heap.size]? = some (.cells #[.int .i64 0, .int .i64 0] 28 (0, 0))) := row_set k0 _
    have HF : Hid (CheckR xs w (.returned (.agg #[.int .i64 0, .int .i64 0])) (w1.setRow w.heap.size #[.int .i64 0, .int .i64 0])) := ⟨by rw [hC], below_setRow b1 (Nat.le_refl _) _⟩
    clear k0 b1 g1 hC HG hz HW
    go_wp2_with (first | (refine wpL_store rfl 28 _ _ rfl _ _ rfl _ rfl _ HST.out ?_) | fail)
    refine leaves_cons (f := 13) (args := #[.pointer (some ⟨w.heap.size, 0, none⟩)]) (by simp) (by simp [go_sem]) ?_
    refine (scatch_idle _ _).mono ?_
    rintro e u' w4 ⟨rfl, rfl, rfl⟩
    exact ⟨_, results_cell_row rfl _ _ _ _ _ _ _ rfl K3.out Tryd.underlying28 rfl (by kernel_rfl), HF.out⟩
  · have k0 : w1.heap[w.heap.size]? = some (.cells #[.int .i64 0, .int .i64 0] 28 (0, 0)) := (g1.block _ (by omega)).trans HG.out.2
    have b1 : Below w.heap.size w w1 := HG.out.1.trans (g1.mono (by omega))
    have K0 : Hid (w1.heap[w.heap.size]? = some (.cells #[.int .i64 0, .int .i64 0] 28 (0, 0))) := k0
    have K3 : Hid (((w1.setCell ⟨w.heap.size, 0, none⟩ (.int .i64 c)).setCell ⟨w.heap.size, 1, none⟩ (.int .i64 a)).heap[w.heap.size]? = some (.cells #[.int .i64 c, .int .i64 a] 28 (0, 0))) := row_put (row_put k0 0 (.int .i64 c)) 1 (.int .i64 a)
    have HF : Hid (CheckR xs w (.returned (.agg #[.int .i64 c, .int .i64 a])) ((w1.setCell ⟨w.heap.size, 0, none⟩ (.int .i64 c)).setCell ⟨w.heap.size, 1, none⟩ (.int .i64 a))) := ⟨by rw [hC], (b1.setCell (p := ⟨w.heap.size, 0, none⟩) (Nat.le_refl _) _).setCell (p := ⟨w.heap.size, 1, none⟩) (Nat.le_refl _) _⟩
    clear k0 b1 g1 hC HG hz HW
    go_wp2
    refine leaves_cons (f := 13) (args := #[.pointer (some ⟨w.heap.size, 0, none⟩)]) (by simp) (by simp [go_sem]) ?_
    refine (scatch_thrown _ _ _ _ _ _ K0.out).mono ?_
    rintro e u' w4 ⟨rfl, rfl, rfl⟩
    exact ⟨_, results_cell_row rfl _ _ _ _ _ _ _ rfl K3.out Tryd.underlying28 rfl (by kernel_rfl), HF.out⟩
end Go.Proofs.YthjbgjfihfkpcaaDoor
