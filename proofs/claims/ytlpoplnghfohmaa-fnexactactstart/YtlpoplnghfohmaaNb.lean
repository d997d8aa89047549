/- ActStart: a sample handed over; the program's and the specification's. -/
import Derived.Test.YtlpoplnghfohmaaNa
namespace Go.Proofs.Ytlpoplnghfohmaa
open Go.RowKit
set_option linter.unusedVariables false

theorem info4 : (Try.prog.info? 52).map (·.size) = some 4 := by kernel_rfl
theorem infoS : (Try.prog.info? 57).map (·.size) = some 6 := by kernel_rfl
theorem infoLS : (Try.prog.info? 54).map (·.size) = some 6 := by kernel_rfl
theorem zero_samp : (∀ w, (zeroValue 57).run Try.prog w = .ok (.agg #[.int .u32 0, .int .u16 0, .float .f64 0, .float .f64 0, .float .f64 0, .float .f64 0]) w) ∧ (Try.prog.info? 57).map (·.size) = some 6 := zero_of_info (by kernel_rfl)

set_option maxRecDepth 10000 in
set_option maxHeartbeats 1000000 in
theorem to_four (c : Array Value) (hc : c.size = 4) (ho : c.all (·.oneCell') = true) (hk : ∀ k, k < 4 → ∃ x, c[k]? = some (.float .f64 x)) (w : World) : Calls Try.prog 22 #[.agg c] w fun e w' => e = .returned (.agg c) ∧ Below w.heap.size w w' := by
  have HC : Hid (c.size = 4) := hc
  have HK : Hid (∀ k, k < 4 → ∃ x, c[k]? = some (.float .f64 x)) := hk
  have HO : Hid (c.all (·.oneCell') = true) := ho
  clear hk hc ho
  go_enter Try.func22, Try.ntmps22
  go_wp2
  go_loopg [4] 4 (fun g i wr => ∃ n : Nat, n + g = 4 ∧ i = .int .i64 n ∧ Below w.heap.size w wr ∧ wr.heap[w.heap.size]? = some (.cells c 52 (0, 0)) ∧
    ∃ C D : Array Value, wr.heap[w.heap.size + 1]? = some (.cells D 52 (0, 0)) ∧ D.size = 4 ∧ wr.heap[w.heap.size + 1 + 1]? = some (.cells C 52 (0, 0)) ∧ C.size = 4 ∧ ∀ j, j < n → C[j]? = c[j]?)
  case atStart =>
    refine ⟨0, by omega, rfl, (((Below.refl _ _).alloc (Nat.le_refl _) _).alloc (by simp) _).alloc (by simp <;> omega) _, (rows3 w _ _ _).1, _, _, (rows3 w _ _ _).2.1, rfl, (rows3 w _ _ _).2.2, rfl, fun j hj => by omega⟩
  case round =>
    obtain ⟨n, hn, rfl, hb, h1, C, D, h2, hD, h3, hC, hcs⟩ := hrel
    by_cases hlt : n < 4
    · have i1 : (n : Int) < 4 := by omega
      have i3 : (0 : Int) ≤ (n : Int) := by omega
      obtain ⟨x, k0⟩ := HK.out n hlt
      have r0 : wr.cell? ⟨w.heap.size, n, none⟩ = some (.float .f64 x) := by rw [cell_of_row _ _ _ _ _ _ h1]; exact k0
      have Bl : w.heap.size + 1 + 1 < wr.heap.size := (Array.getElem?_eq_some_iff.1 h3).1
      have h1' := h1
      have h2' := h2
      have h3' := h3
      have b4 := hb
      have c0 : wr.cell? ⟨w.heap.size + 1 + 1, n, none⟩ = some (C[n]'(by omega)) := by rw [cell_of_row _ _ _ _ _ _ h3']; exact Array.getElem?_eq_getElem (by omega)
      have f0 : wr.frozen? ⟨w.heap.size + 1 + 1, n, none⟩ = false := by simp [World.frozen?, h3']
      have st0 : (store ⟨w.heap.size + 1 + 1, n, none⟩ (.float .f64 x)).run Try.prog wr = .ok () (wr.setCell ⟨w.heap.size + 1 + 1, n, none⟩ (.float .f64 x)) := by rw [run_store _ _ _ _ _ rfl, c0]; simp [f0]
      go_wp2
      go_roundg (gk - 1)
      case measure => omega
      case rel =>
        refine ⟨n + 1, by omega, by simp, (b4.setCell (p := ⟨w.heap.size + 1 + 1, n, none⟩) (by simp <;> omega) _), (row_other h1' _ _ (by omega) _), _, _, (row_other h2' _ _ (by omega) _), hD, (row_put h3' _ _), by simpa using hC, ?_⟩
        intro j hj
        by_cases j0 : j = n
        · subst j0
          rw [Array.getElem?_setIfInBounds_self_of_lt (by simpa using by omega)]
          exact k0.symm
        rw [Array.getElem?_setIfInBounds_ne (by omega)]
        exact hcs j (by omega)
    · have i1 : ¬ ((n : Int) < 4) := by omega
      obtain rfl : C = c := by
        apply Array.ext_getElem?
        intro j
        by_cases hj : j < n
        · exact hcs j hj
        · have := HC.out
          rw [Array.getElem?_eq_none (by omega), Array.getElem?_eq_none (by omega)]
      clear hcs
      have HD : Hid (D.size = 4) := hD
      clear hD hC
      have h1s : (Try.prog.info? 52).map (·.size) = some 4 := by kernel_rfl
      go_wp2_with (first | (refine wpL_load rfl 52 _ rfl _ _ rfl _ (load_all h3 _ _ Try.underlying52 rfl (by rw [HC.out]; exact h1s)) ?_) | (refine wpL_store rfl 52 _ _ rfl _ _ rfl _ rfl _ (store_all h2 _ _ (by rw [HC.out, HD.out]) (by rw [HC.out]; exact h1s) HO.out) ?_) | fail)
      exact ret_row rfl rfl (row_set h2 _) Try.underlying52 rfl (by rw [HC.out]; exact h1s) rfl ⟨rfl, below_setRow hb (by omega) _⟩



theorem four_get (f0 f1 f2 f3 : Nat) : ∀ k, k < 4 → ∃ x, (#[.float .f64 f0, .float .f64 f1, .float .f64 f2, .float .f64 f3] : Array Value)[k]? = some (.float .f64 x) := fun k hk => by
  rcases (by omega : k = 0 ∨ k = 1 ∨ k = 2 ∨ k = 3) with rfl | rfl | rfl | rfl
  all_goals exact ⟨_, rfl⟩

set_option maxRecDepth 10000 in
set_option maxHeartbeats 1000000 in
theorem to_samp (x d : Int) (f0 f1 f2 f3 : Nat) (w : World) : Calls Try.prog 11 #[.agg #[.int .u32 x, .int .u16 d, .float .f64 f0, .float .f64 f1, .float .f64 f2, .float .f64 f3]] w fun e w' => e = .returned (.agg #[.int .u32 x, .int .u16 d, .float .f64 f0, .float .f64 f1, .float .f64 f2, .float .f64 f3]) ∧ Below w.heap.size w w' := by
  obtain ⟨X, HX⟩ : ∃ X : Array Value, Hid (X = #[.float .f64 f0, .float .f64 f1, .float .f64 f2, .float .f64 f3]) := ⟨_, rfl⟩
  have HF : Hid (∀ W, Calls Try.prog 22 #[.agg X] W fun e w' => e = .returned (.agg X) ∧ Below W.heap.size W w') := fun W => by
    rw [HX.out]; exact to_four _ rfl (by simp [Value.oneCell']) (four_get f0 f1 f2 f3) W
  have HL : Hid (∀ W : World, W.heap[w.heap.size]? = some (.cells #[.int .u32 x, .int .u16 d, .float .f64 f0, .float .f64 f1, .float .f64 f2, .float .f64 f3] 54 (0, 0)) → (loadVar 52 ⟨w.heap.size, 2, none⟩).run Try.prog W = .ok (.agg X) W) := fun W h => by
    rw [HX.out]; exact load_sub h _ _ 2 4 (by simp) Try.underlying52 rfl info4
  have hz := zero_samp.1
  go_enter Try.func11, Try.ntmps11
  go_wp2_with (first | (refine wpL_load rfl 52 _ rfl _ _ rfl _ (HL.out _ (rows3 w _ _ _).1) ?_) | fail)
  refine (HF.out _).mono ?_
  rintro e w1 ⟨rfl, g1⟩
  have h2 := (g1.block _ (by simp <;> omega)).trans (rows3 w _ _ _).2.1
  have h3 := (g1.block _ (by simp <;> omega)).trans (rows3 w _ _ _).2.2
  have b1 : Below w.heap.size w w1 := ((((Below.refl _ _).alloc (Nat.le_refl _) _).alloc (by simp) _).alloc (by simp <;> omega) _).trans (g1.mono (by simp <;> omega))
  obtain ⟨u, HU⟩ : ∃ u, Hid (u = w1.setRow (w.heap.size + 1 + 1) #[.int .u32 x, .int .u16 d, .float .f64 f0, .float .f64 f1, .float .f64 f2, .float .f64 f3]) := ⟨_, rfl⟩
  have HS : Hid ((storeVar 52 ⟨w.heap.size + 1 + 1, 2, none⟩ (.agg X)).run Try.prog w1 = .ok () u) := by
    rw [HU.out, HX.out]
    exact store_sub h3 _ 2 _ (by simp) info4 (by simp [Value.oneCell'])
  have k2 : u.heap[w.heap.size + 1]? = some (.cells #[.int .u32 0, .int .u16 0, .float .f64 0, .float .f64 0, .float .f64 0, .float .f64 0] 57 (0, 0)) := by rw [HU.out]; exact row_beside h2 _ (by omega) _
  have k3 : u.heap[w.heap.size + 1 + 1]? = some (.cells #[.int .u32 x, .int .u16 d, .float .f64 f0, .float .f64 f1, .float .f64 f2, .float .f64 f3] 57 (0, 0)) := by rw [HU.out]; exact row_set h3 _
  have bu : Below w.heap.size w u := by rw [HU.out]; exact below_setRow b1 (by omega) _
  have HLD : Hid ((loadVar 57 ⟨w.heap.size + 1 + 1, 0, none⟩).run Try.prog u = .ok (.agg #[.int .u32 x, .int .u16 d, .float .f64 f0, .float .f64 f1, .float .f64 f2, .float .f64 f3]) u) := load_all k3 _ _ Try.underlying57 rfl infoS
  have HSD : Hid ((storeVar 57 ⟨w.heap.size + 1, 0, none⟩ (.agg #[.int .u32 x, .int .u16 d, .float .f64 f0, .float .f64 f1, .float .f64 f2, .float .f64 f3])).run Try.prog u = .ok () (u.setRow (w.heap.size + 1) #[.int .u32 x, .int .u16 d, .float .f64 f0, .float .f64 f1, .float .f64 f2, .float .f64 f3])) := store_all k2 _ _ rfl infoS (by simp [Value.oneCell'])
  have HK : Hid (u.heap[w.heap.size + 1]? = some (.cells #[.int .u32 0, .int .u16 0, .float .f64 0, .float .f64 0, .float .f64 0, .float .f64 0] 57 (0, 0))) := k2
  have HB : Hid (Below w.heap.size w (u.setRow (w.heap.size + 1) #[.int .u32 x, .int .u16 d, .float .f64 f0, .float .f64 f1, .float .f64 f2, .float .f64 f3])) := below_setRow bu (by omega) _
  clear g1 h2 h3 b1 HU k2 k3 bu hz
  go_wp2_with (first | (refine wpL_store rfl 52 _ _ rfl _ _ rfl _ rfl _ HS.out ?_) | (refine wpL_load rfl 57 _ rfl _ _ rfl _ HLD.out ?_) | (refine wpL_store rfl 57 _ _ rfl _ _ rfl _ rfl _ HSD.out ?_) | exact ret_row rfl rfl (row_set HK.out _) Try.underlying57 rfl infoS rfl ⟨rfl, HB.out⟩ | fail)

/-- The memory at a scan's beginning. -/
def begun (c : Array Value) (x t : Int) (f0 f1 f2 f3 : Nat) : Array Value :=
  ((((((c.setIfInBounds 0 (.int .u32 x)).setIfInBounds 133 (.int .u32 t)).setIfInBounds 135 (.bool false)).setIfInBounds 129 (.float .f64 f0)).setIfInBounds 130 (.float .f64 f1)).setIfInBounds 131 (.float .f64 f2)).setIfInBounds 132 (.float .f64 f3)
theorem nb_u32 {n : Int} (h : 0 ≤ n ∧ n < 4294967296) {i : Nat} (hi : kd i = 32) : CellIs (kd i) (.int .u32 n) := by
  rw [hi]; simp [CellIs, Value.oneCell']; exact h
theorem nb_f64 {f : Nat} (h : FloatKind.has .f64 f) {i : Nat} (hi : kd i = 99) : CellIs (kd i) (.float .f64 f) := by
  rw [hi]; simp [CellIs, Value.oneCell']; exact h
theorem memOk_begun {c : Array Value} (hc : MemOk c) {x t : Int} {f0 f1 f2 f3 : Nat} (hx : 0 ≤ x ∧ x < 4294967296) (ht : 0 ≤ t ∧ t < 4294967296)
    (h0 : FloatKind.has .f64 f0) (h1 : FloatKind.has .f64 f1) (h2 : FloatKind.has .f64 f2) (h3 : FloatKind.has .f64 f3) : MemOk (begun c x t f0 f1 f2 f3) :=
  na_set (na_set (na_set (na_set (na_set (na_set (na_set hc 0 (nb_u32 hx rfl)) 133 (nb_u32 ht rfl)) 135 (na_bool false rfl)) 129 (nb_f64 h0 rfl)) 130 (nb_f64 h1 rfl)) 131 (nb_f64 h2 rfl)) 132 (nb_f64 h3 rfl)
end Go.Proofs.Ytlpoplnghfohmaa
