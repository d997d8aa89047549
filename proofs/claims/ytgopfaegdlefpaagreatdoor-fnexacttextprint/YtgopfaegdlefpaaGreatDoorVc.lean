/- The writer writes a contact or coil. -/
import Derived.Test.YtgopfaegdlefpaaGreatDoorVb
namespace Go.Proofs.YtgopfaegdlefpaaGreatDoor
open Go.RowKit
set_option linter.unusedVariables false

set_option maxRecDepth 10000 in
set_option maxHeartbeats 8000000 in
theorem elem_w (A : List ByteArray) (B : Nat) (op : Int) (av : Value) (hav : av.oneCell' = true) (s : ByteArray) (L : List ByteArray) (v : Value) (W : World) (h : WrS A W B v L) (hL : L.length ≤ 1000000)
    (HT : Hid (∀ W', Below W.heap.size W W' → Calls Tryz.prog 114 #[.agg #[.int .i64 op, av]] W' fun e w' => e = .returned (.string s) ∧ Below W'.heap.size W' w')) :
    Calls Tryz.prog 69 #[.pointer (some ⟨B, 0, none⟩), .agg #[.int .i64 op, av]] W fun e W' => e = .returned (.tuple #[]) ∧ ∃ v', WrS A W' B v' (L ++ [s]) ∧ WK B v v' W W' := by
  have HW : Hid (WrS A W B v L ∧ L.length ≤ 1000000) := ⟨h, hL⟩
  have hlt := h.lt
  have hown := h.own
  obtain ⟨hA, hr, ho⟩ := h
  have g0 : Below W.heap.size W (W.alloc (.cells #[.int .i64 op, av] 54)).drew := ((Below.refl _ _).alloc (Nat.le_refl _) _).drew
  have e0 : (W.alloc (.cells #[.int .i64 op, av] 54)).drew.heap[W.heap.size]? = some (.cells #[.int .i64 op, av] 54 (0, 0)) := heap_alloc_last W _
  have z0 : (W.alloc (.cells #[.int .i64 op, av] 54)).drew.heap.size = W.heap.size + 1 := by simp
  have r0 : (W.alloc (.cells #[.int .i64 op, av] 54)).drew.heap[B]? = some (.cells (wrA A v) 64 (0, 0)) := (g0.block _ hlt).trans hr
  have S0 : (fun W' => (∃ x, W'.heap[B]? = some (.cells (wrA A x) 64 (0, 0))) ∧ W'.heap[W.heap.size]? = some (.cells #[.int .i64 op, av] 54 (0, 0))) (W.alloc (.cells #[.int .i64 op, av] 54)).drew := ⟨⟨v, r0⟩, e0⟩
  have HN : Hid (∀ (w1 : World), Below (W.alloc (.cells #[.int .i64 op, av] 54)).drew.heap.size (W.alloc (.cells #[.int .i64 op, av] 54)).drew w1 → (fun W' => (∃ x, W'.heap[B]? = some (.cells (wrA A x) 64 (0, 0))) ∧ W'.heap[W.heap.size]? = some (.cells #[.int .i64 op, av] 54 (0, 0))) w1 ∧ True ∧ w1.heap[B]? = some (.cells (wrA A v) 64 (0, 0)) ∧ (Below W.heap.size W w1 ∧ w1.heap[B]? = some (.cells (wrA A v) 64 (0, 0)) ∧ w1.heap[W.heap.size]? = some (.cells #[.int .i64 op, av] 54 (0, 0)) ∧ W.heap.size + 1 ≤ w1.heap.size)) := fun w1 g => by
    have hb := (g.block _ (by rw [z0]; omega)).trans r0
    have he := (g.block _ (by rw [z0]; omega)).trans e0
    exact ⟨⟨⟨v, hb⟩, he⟩, trivial, hb, g0.trans (g.mono g0.size), hb, he, by have := g.size; omega⟩
  have HX : Hid (∀ (w1 : World), (Below W.heap.size W w1 ∧ w1.heap[B]? = some (.cells (wrA A v) 64 (0, 0)) ∧ w1.heap[W.heap.size]? = some (.cells #[.int .i64 op, av] 54 (0, 0)) ∧ W.heap.size + 1 ≤ w1.heap.size) → (fun W' => (∃ x, W'.heap[B]? = some (.cells (wrA A x) 64 (0, 0))) ∧ W'.heap[W.heap.size]? = some (.cells #[.int .i64 op, av] 54 (0, 0))) (w1.alloc (.cells #[.string s] 9)) ∧ Below W.heap.size W (w1.alloc (.cells #[.string s] 9)) ∧ (w1.alloc (.cells #[.string s] 9)).cell? ⟨w1.heap.size, 0, none⟩ = some (.string s) ∧ (w1.alloc (.cells #[.string s] 9)).heap[B]? = some (.cells (wrA A v) 64 (0, 0))) := fun w1 hg => by
    have g : Below w1.heap.size w1 (w1.alloc (.cells #[.string s] 9)) := (Below.refl _ _).alloc (Nat.le_refl _) _
    have hb := (g.block _ (Array.getElem?_eq_some_iff.1 hg.2.1).1).trans hg.2.1
    have he := (g.block _ (Array.getElem?_eq_some_iff.1 hg.2.2.1).1).trans hg.2.2.1
    exact ⟨⟨⟨v, hb⟩, he⟩, hg.1.trans (g.mono hg.1.size), (cell_of_row _ _ _ _ _ _ (heap_alloc_last w1 _)).trans rfl, hb⟩
  have HT0 := HT
  have HY : Hid (∀ (w4 : World) (g4 cap4 : Nat), w4.heap[B]? = some (.cells (wrA A v) 64 (0, 0)) → WK B v (.slice (some ⟨g4, 0, none⟩) (L.length + 1) cap4) W (w4.setCell ⟨B, 10, none⟩ (.slice (some ⟨g4, 0, none⟩) (L.length + 1) cap4)) → WrS A (w4.setCell ⟨B, 10, none⟩ (.slice (some ⟨g4, 0, none⟩) (L.length + 1) cap4)) B (.slice (some ⟨g4, 0, none⟩) (L.length + 1) cap4) (L ++ [s]) → w4.heap[W.heap.size]? = some (.cells #[.int .i64 op, av] 54 (0, 0)) → (fun W' => (∃ x, W'.heap[B]? = some (.cells (wrA A x) 64 (0, 0))) ∧ W'.heap[W.heap.size]? = some (.cells #[.int .i64 op, av] 54 (0, 0))) w4 ∧ (fun W' => (∃ x, W'.heap[B]? = some (.cells (wrA A x) 64 (0, 0))) ∧ W'.heap[W.heap.size]? = some (.cells #[.int .i64 op, av] 54 (0, 0))) (w4.setCell ⟨B, 10, none⟩ (.slice (some ⟨g4, 0, none⟩) (L.length + 1) cap4))) := fun w4 g4 cap4 hb hk hs he =>
    ⟨⟨⟨v, hb⟩, he⟩, ⟨⟨_, hs.2.1⟩, row_other he _ _ (by omega) _⟩⟩
  clear ho hL
  go_enter Tryz.func69, Tryz.ntmps69
  go_upto_region 1 with fail
  refine region_cut (R := fun a' W' => ∃ g4 cap4 z, a' = ⟨#[.pointer (some ⟨B, 0, none⟩), .agg #[.int .i64 op, av], undef, .pointer (some ⟨W.heap.size, 0, none⟩), .pointer (some ⟨B, 0, none⟩), .pointer (some ⟨B, 0, none⟩), .pointer (some ⟨B, 0, none⟩), .pointer (some ⟨B, 10, none⟩), v, .agg #[.int .i64 op, av], .string s, .slice (some ⟨z, 0, none⟩) 1 1, .slice (some ⟨g4, 0, none⟩) (L.length + 1) cap4, .pointer (some ⟨B, 0, none⟩), .pointer (some ⟨B, 10, none⟩)], []⟩ ∧ WrS A W' B (.slice (some ⟨g4, 0, none⟩) (L.length + 1) cap4) (L ++ [s]) ∧ WK B v (.slice (some ⟨g4, 0, none⟩) (L.length + 1) cap4) W W') ?_ ?_
  · refine wp_region_held_drew (S := fun W' => (∃ x, W'.heap[B]? = some (.cells (wrA A x) 64 (0, 0))) ∧ W'.heap[W.heap.size]? = some (.cells #[.int .i64 op, av] 54 (0, 0))) (by kernel_rfl) S0 (fun S0 => ?_)
    show wpAnyH _ _ _ _ _ 12 #[false, false, false, false, false, false, false, false, false, false, false, false] _ _
    refine tk_val' (i := 0) rfl (by kernel_rfl) (by kernel_rfl) (by kernel_rfl) (fun _ _ _ _ h => nomatch h.1) rfl (.pointer (some ⟨B, 0, none⟩)) (fun W _ => by go_simp) S0 #[true, false, false, false, false, false, false, false, false, false, false, false] rfl ⟨#[.pointer (some ⟨B, 0, none⟩), .agg #[.int .i64 op, av], undef, .pointer (some ⟨W.heap.size, 0, none⟩), .pointer (some ⟨B, 0, none⟩), undef, undef, undef, undef, undef, undef, undef, undef, undef, undef], []⟩ rfl ?_
    refine tk_val' (i := 1) rfl (by kernel_rfl) (by kernel_rfl) (by kernel_rfl) (fun _ _ _ _ h => nomatch h.1) rfl (.pointer (some ⟨B, 0, none⟩)) (fun W _ => by go_simp) S0 #[true, true, false, false, false, false, false, false, false, false, false, false] rfl ⟨#[.pointer (some ⟨B, 0, none⟩), .agg #[.int .i64 op, av], undef, .pointer (some ⟨W.heap.size, 0, none⟩), .pointer (some ⟨B, 0, none⟩), .pointer (some ⟨B, 0, none⟩), undef, undef, undef, undef, undef, undef, undef, undef, undef], []⟩ rfl ?_
    refine tk_val' (i := 2) rfl (by kernel_rfl) (by kernel_rfl) (by kernel_rfl) (fun _ _ _ _ h => nomatch h.1) rfl (.pointer (some ⟨B, 0, none⟩)) (fun W _ => by go_simp) S0 #[true, true, true, false, false, false, false, false, false, false, false, false] rfl ⟨#[.pointer (some ⟨B, 0, none⟩), .agg #[.int .i64 op, av], undef, .pointer (some ⟨W.heap.size, 0, none⟩), .pointer (some ⟨B, 0, none⟩), .pointer (some ⟨B, 0, none⟩), .pointer (some ⟨B, 0, none⟩), undef, undef, undef, undef, undef, undef, undef, undef], []⟩ rfl ?_
    refine tk_val' (i := 3) rfl (by kernel_rfl) (by kernel_rfl) (by kernel_rfl) (fun _ _ _ _ h => nomatch h.1) rfl (.pointer (some ⟨B, 10, none⟩)) (fun W _ => by go_simp) S0 #[true, true, true, true, false, false, false, false, false, false, false, false] rfl ⟨#[.pointer (some ⟨B, 0, none⟩), .agg #[.int .i64 op, av], undef, .pointer (some ⟨W.heap.size, 0, none⟩), .pointer (some ⟨B, 0, none⟩), .pointer (some ⟨B, 0, none⟩), .pointer (some ⟨B, 0, none⟩), .pointer (some ⟨B, 10, none⟩), undef, undef, undef, undef, undef, undef, undef], []⟩ rfl ?_
    refine tk_val' (i := 5) rfl (by kernel_rfl) (by kernel_rfl) (by kernel_rfl) (fun _ _ _ _ h => nomatch h.1) rfl (.agg #[.int .i64 op, av]) (fun W1 hW => by have h0 : W1.cell? ⟨W.heap.size, 0, none⟩ = some (.int .i64 op) := (cell_of_row _ _ _ _ _ _ hW.2).trans rfl; have h1 : W1.cell? ⟨W.heap.size, 1, none⟩ = some av := (cell_of_row _ _ _ _ _ _ hW.2).trans rfl; go_simp) S0 #[true, true, true, true, false, true, false, false, false, false, false, false] rfl ⟨#[.pointer (some ⟨B, 0, none⟩), .agg #[.int .i64 op, av], undef, .pointer (some ⟨W.heap.size, 0, none⟩), .pointer (some ⟨B, 0, none⟩), .pointer (some ⟨B, 0, none⟩), .pointer (some ⟨B, 0, none⟩), .pointer (some ⟨B, 10, none⟩), undef, .agg #[.int .i64 op, av], undef, undef, undef, undef, undef], []⟩ rfl ?_
    refine wpAnyH_all (rs := [4, 6]) (by kernel_rfl) (by simp) (fun i hi => ?_)
    simp only [List.mem_cons, List.not_mem_nil, or_false] at hi
    rcases hi with rfl | rfl
    · skip
      refine up_val' rfl rfl (v) ((W.alloc (.cells #[.int .i64 op, av] 54)).drew) (by have hc : ((W.alloc (.cells #[.int .i64 op, av] 54)).drew).cell? ⟨B, 10, none⟩ = some v := (cell_of_row _ _ _ _ _ _ r0).trans (wrA_last A v hA); go_simp) S0 #[true, true, true, true, true, true, false, false, false, false, false, false] rfl ⟨#[.pointer (some ⟨B, 0, none⟩), .agg #[.int .i64 op, av], undef, .pointer (some ⟨W.heap.size, 0, none⟩), .pointer (some ⟨B, 0, none⟩), .pointer (some ⟨B, 0, none⟩), .pointer (some ⟨B, 0, none⟩), .pointer (some ⟨B, 10, none⟩), v, .agg #[.int .i64 op, av], undef, undef, undef, undef, undef], []⟩ rfl ?_
      refine wpAnyH_all (rs := [6]) (by kernel_rfl) (by simp) (fun i hi => ?_)
      obtain rfl := List.mem_singleton.1 hi
      refine up_fcall' rfl rfl Tryz.func114 (by kernel_rfl) (by kernel_rfl) rfl [.agg #[.int .i64 op, av]] rfl #[true, true, true, true, true, true, true, false, false, false, false, false] rfl (.string s) ⟨#[.pointer (some ⟨B, 0, none⟩), .agg #[.int .i64 op, av], undef, .pointer (some ⟨W.heap.size, 0, none⟩), .pointer (some ⟨B, 0, none⟩), .pointer (some ⟨B, 0, none⟩), .pointer (some ⟨B, 0, none⟩), .pointer (some ⟨B, 10, none⟩), v, .agg #[.int .i64 op, av], .string s, undef, undef, undef, undef], []⟩ rfl _ (HT.out _ g0) ?_
      intro w1 gw1
      obtain ⟨S1, WW1, r1, gA⟩ := HN.out w1 gw1
      refine ⟨S1, ?_⟩
      refine wpAnyH_all (rs := [7]) (by kernel_rfl) (by simp) (fun i hi => ?_)
      obtain rfl := List.mem_singleton.1 hi
      obtain ⟨SX, gX, cX, rX⟩ := HX.out w1 gA
      refine up_val' rfl rfl (.slice (some ⟨w1.heap.size, 0, none⟩) 1 1) (w1.alloc (.cells #[.string s] 9)) (by go_simp) SX #[true, true, true, true, true, true, true, true, false, false, false, false] rfl ⟨#[.pointer (some ⟨B, 0, none⟩), .agg #[.int .i64 op, av], undef, .pointer (some ⟨W.heap.size, 0, none⟩), .pointer (some ⟨B, 0, none⟩), .pointer (some ⟨B, 0, none⟩), .pointer (some ⟨B, 0, none⟩), .pointer (some ⟨B, 10, none⟩), v, .agg #[.int .i64 op, av], .string s, .slice (some ⟨w1.heap.size, 0, none⟩) 1 1, undef, undef, undef], []⟩ rfl ?_
      refine wpAnyH_all (rs := [8]) (by kernel_rfl) (by simp) (fun i hi => ?_)
      obtain rfl := List.mem_singleton.1 hi
      refine wpOp_step rfl fun K' hK => ?_
      refine app_any (s := s) HW.out.1 HW.out.2 _ gX w1.heap.size cX (by rfl) (.tmp 8) (.tmp 11) (by rfl) (by rfl) (by rfl) ?_
      rintro g4 cap4 w4 ⟨d10, f10, r4, S4, K4, N4⟩
      obtain ⟨S5, S6⟩ := HY.out w4 g4 cap4 r4 K4 S4 ((N4 W.heap.size (Array.getElem?_eq_some_iff.1 SX.2).1 (by omega) (fun e => by have := (hown _ e).2; omega)).trans SX.2)
      refine hK _ _ ⟨S5, ?_⟩
      show wpAnyH _ _ _ _ _ _ #[true, true, true, true, true, true, true, true, true, false, false, false] ⟨#[.pointer (some ⟨B, 0, none⟩), .agg #[.int .i64 op, av], undef, .pointer (some ⟨W.heap.size, 0, none⟩), .pointer (some ⟨B, 0, none⟩), .pointer (some ⟨B, 0, none⟩), .pointer (some ⟨B, 0, none⟩), .pointer (some ⟨B, 10, none⟩), v, .agg #[.int .i64 op, av], .string s, .slice (some ⟨w1.heap.size, 0, none⟩) 1 1, .slice (some ⟨g4, 0, none⟩) (L.length + 1) cap4, undef, undef], []⟩ _
      refine tk_val' (i := 9) rfl (by kernel_rfl) (by kernel_rfl) (by kernel_rfl) (fun _ _ _ _ h => nomatch h.1) rfl (.pointer (some ⟨B, 0, none⟩)) (fun W _ => by go_simp) S5 #[true, true, true, true, true, true, true, true, true, true, false, false] rfl ⟨#[.pointer (some ⟨B, 0, none⟩), .agg #[.int .i64 op, av], undef, .pointer (some ⟨W.heap.size, 0, none⟩), .pointer (some ⟨B, 0, none⟩), .pointer (some ⟨B, 0, none⟩), .pointer (some ⟨B, 0, none⟩), .pointer (some ⟨B, 10, none⟩), v, .agg #[.int .i64 op, av], .string s, .slice (some ⟨w1.heap.size, 0, none⟩) 1 1, .slice (some ⟨g4, 0, none⟩) (L.length + 1) cap4, .pointer (some ⟨B, 0, none⟩), undef], []⟩ rfl ?_
      refine tk_val' (i := 10) rfl (by kernel_rfl) (by kernel_rfl) (by kernel_rfl) (fun _ _ _ _ h => nomatch h.1) rfl (.pointer (some ⟨B, 10, none⟩)) (fun W _ => by go_simp) S5 #[true, true, true, true, true, true, true, true, true, true, true, false] rfl ⟨#[.pointer (some ⟨B, 0, none⟩), .agg #[.int .i64 op, av], undef, .pointer (some ⟨W.heap.size, 0, none⟩), .pointer (some ⟨B, 0, none⟩), .pointer (some ⟨B, 0, none⟩), .pointer (some ⟨B, 0, none⟩), .pointer (some ⟨B, 10, none⟩), v, .agg #[.int .i64 op, av], .string s, .slice (some ⟨w1.heap.size, 0, none⟩) 1 1, .slice (some ⟨g4, 0, none⟩) (L.length + 1) cap4, .pointer (some ⟨B, 0, none⟩), .pointer (some ⟨B, 10, none⟩)], []⟩ rfl ?_
      refine wpAnyH_all (rs := [11]) (by kernel_rfl) (by simp) (fun i hi => ?_)
      obtain rfl := List.mem_singleton.1 hi
      refine up_store' rfl rfl 62 _ _ rfl B 10 rfl (.slice (some ⟨g4, 0, none⟩) (L.length + 1) cap4) rfl _ (st_one _ _ _ _ d10 f10 rfl) S6 #[true, true, true, true, true, true, true, true, true, true, true, true] rfl ⟨#[.pointer (some ⟨B, 0, none⟩), .agg #[.int .i64 op, av], undef, .pointer (some ⟨W.heap.size, 0, none⟩), .pointer (some ⟨B, 0, none⟩), .pointer (some ⟨B, 0, none⟩), .pointer (some ⟨B, 0, none⟩), .pointer (some ⟨B, 10, none⟩), v, .agg #[.int .i64 op, av], .string s, .slice (some ⟨w1.heap.size, 0, none⟩) 1 1, .slice (some ⟨g4, 0, none⟩) (L.length + 1) cap4, .pointer (some ⟨B, 0, none⟩), .pointer (some ⟨B, 10, none⟩)], []⟩ rfl ?_
      exact wpAnyH_done (by kernel_rfl) ⟨rfl, g4, cap4, w1.heap.size, rfl, S4, K4⟩ _
    · skip
      refine up_fcall' rfl rfl Tryz.func114 (by kernel_rfl) (by kernel_rfl) rfl [.agg #[.int .i64 op, av]] rfl #[true, true, true, true, false, true, true, false, false, false, false, false] rfl (.string s) ⟨#[.pointer (some ⟨B, 0, none⟩), .agg #[.int .i64 op, av], undef, .pointer (some ⟨W.heap.size, 0, none⟩), .pointer (some ⟨B, 0, none⟩), .pointer (some ⟨B, 0, none⟩), .pointer (some ⟨B, 0, none⟩), .pointer (some ⟨B, 10, none⟩), undef, .agg #[.int .i64 op, av], .string s, undef, undef, undef, undef], []⟩ rfl _ (HT.out _ g0) ?_
      intro w1 gw1
      obtain ⟨S1, WW1, r1, gA⟩ := HN.out w1 gw1
      refine ⟨S1, ?_⟩
      refine wpAnyH_all (rs := [4, 7]) (by kernel_rfl) (by simp) (fun i hi => ?_)
      simp only [List.mem_cons, List.not_mem_nil, or_false] at hi
      rcases hi with rfl | rfl
      · skip
        refine up_val' rfl rfl (v) (w1) (by have hc : (w1).cell? ⟨B, 10, none⟩ = some v := (cell_of_row _ _ _ _ _ _ r1).trans (wrA_last A v hA); go_simp) S1 #[true, true, true, true, true, true, true, false, false, false, false, false] rfl ⟨#[.pointer (some ⟨B, 0, none⟩), .agg #[.int .i64 op, av], undef, .pointer (some ⟨W.heap.size, 0, none⟩), .pointer (some ⟨B, 0, none⟩), .pointer (some ⟨B, 0, none⟩), .pointer (some ⟨B, 0, none⟩), .pointer (some ⟨B, 10, none⟩), v, .agg #[.int .i64 op, av], .string s, undef, undef, undef, undef], []⟩ rfl ?_
        refine wpAnyH_all (rs := [7]) (by kernel_rfl) (by simp) (fun i hi => ?_)
        obtain rfl := List.mem_singleton.1 hi
        obtain ⟨SX, gX, cX, rX⟩ := HX.out w1 gA
        refine up_val' rfl rfl (.slice (some ⟨w1.heap.size, 0, none⟩) 1 1) (w1.alloc (.cells #[.string s] 9)) (by go_simp) SX #[true, true, true, true, true, true, true, true, false, false, false, false] rfl ⟨#[.pointer (some ⟨B, 0, none⟩), .agg #[.int .i64 op, av], undef, .pointer (some ⟨W.heap.size, 0, none⟩), .pointer (some ⟨B, 0, none⟩), .pointer (some ⟨B, 0, none⟩), .pointer (some ⟨B, 0, none⟩), .pointer (some ⟨B, 10, none⟩), v, .agg #[.int .i64 op, av], .string s, .slice (some ⟨w1.heap.size, 0, none⟩) 1 1, undef, undef, undef], []⟩ rfl ?_
        refine wpAnyH_all (rs := [8]) (by kernel_rfl) (by simp) (fun i hi => ?_)
        obtain rfl := List.mem_singleton.1 hi
        refine wpOp_step rfl fun K' hK => ?_
        refine app_any (s := s) HW.out.1 HW.out.2 _ gX w1.heap.size cX (by rfl) (.tmp 8) (.tmp 11) (by rfl) (by rfl) (by rfl) ?_
        rintro g4 cap4 w4 ⟨d10, f10, r4, S4, K4, N4⟩
        obtain ⟨S5, S6⟩ := HY.out w4 g4 cap4 r4 K4 S4 ((N4 W.heap.size (Array.getElem?_eq_some_iff.1 SX.2).1 (by omega) (fun e => by have := (hown _ e).2; omega)).trans SX.2)
        refine hK _ _ ⟨S5, ?_⟩
        show wpAnyH _ _ _ _ _ _ #[true, true, true, true, true, true, true, true, true, false, false, false] ⟨#[.pointer (some ⟨B, 0, none⟩), .agg #[.int .i64 op, av], undef, .pointer (some ⟨W.heap.size, 0, none⟩), .pointer (some ⟨B, 0, none⟩), .pointer (some ⟨B, 0, none⟩), .pointer (some ⟨B, 0, none⟩), .pointer (some ⟨B, 10, none⟩), v, .agg #[.int .i64 op, av], .string s, .slice (some ⟨w1.heap.size, 0, none⟩) 1 1, .slice (some ⟨g4, 0, none⟩) (L.length + 1) cap4, undef, undef], []⟩ _
        refine tk_val' (i := 9) rfl (by kernel_rfl) (by kernel_rfl) (by kernel_rfl) (fun _ _ _ _ h => nomatch h.1) rfl (.pointer (some ⟨B, 0, none⟩)) (fun W _ => by go_simp) S5 #[true, true, true, true, true, true, true, true, true, true, false, false] rfl ⟨#[.pointer (some ⟨B, 0, none⟩), .agg #[.int .i64 op, av], undef, .pointer (some ⟨W.heap.size, 0, none⟩), .pointer (some ⟨B, 0, none⟩), .pointer (some ⟨B, 0, none⟩), .pointer (some ⟨B, 0, none⟩), .pointer (some ⟨B, 10, none⟩), v, .agg #[.int .i64 op, av], .string s, .slice (some ⟨w1.heap.size, 0, none⟩) 1 1, .slice (some ⟨g4, 0, none⟩) (L.length + 1) cap4, .pointer (some ⟨B, 0, none⟩), undef], []⟩ rfl ?_
        refine tk_val' (i := 10) rfl (by kernel_rfl) (by kernel_rfl) (by kernel_rfl) (fun _ _ _ _ h => nomatch h.1) rfl (.pointer (some ⟨B, 10, none⟩)) (fun W _ => by go_simp) S5 #[true, true, true, true, true, true, true, true, true, true, true, false] rfl ⟨#[.pointer (some ⟨B, 0, none⟩), .agg #[.int .i64 op, av], undef, .pointer (some ⟨W.heap.size, 0, none⟩), .pointer (some ⟨B, 0, none⟩), .pointer (some ⟨B, 0, none⟩), .pointer (some ⟨B, 0, none⟩), .pointer (some ⟨B, 10, none⟩), v, .agg #[.int .i64 op, av], .string s, .slice (some ⟨w1.heap.size, 0, none⟩) 1 1, .slice (some ⟨g4, 0, none⟩) (L.length + 1) cap4, .pointer (some ⟨B, 0, none⟩), .pointer (some ⟨B, 10, none⟩)], []⟩ rfl ?_
        refine wpAnyH_all (rs := [11]) (by kernel_rfl) (by simp) (fun i hi => ?_)
        obtain rfl := List.mem_singleton.1 hi
        refine up_store' rfl rfl 62 _ _ rfl B 10 rfl (.slice (some ⟨g4, 0, none⟩) (L.length + 1) cap4) rfl _ (st_one _ _ _ _ d10 f10 rfl) S6 #[true, true, true, true, true, true, true, true, true, true, true, true] rfl ⟨#[.pointer (some ⟨B, 0, none⟩), .agg #[.int .i64 op, av], undef, .pointer (some ⟨W.heap.size, 0, none⟩), .pointer (some ⟨B, 0, none⟩), .pointer (some ⟨B, 0, none⟩), .pointer (some ⟨B, 0, none⟩), .pointer (some ⟨B, 10, none⟩), v, .agg #[.int .i64 op, av], .string s, .slice (some ⟨w1.heap.size, 0, none⟩) 1 1, .slice (some ⟨g4, 0, none⟩) (L.length + 1) cap4, .pointer (some ⟨B, 0, none⟩), .pointer (some ⟨B, 10, none⟩)], []⟩ rfl ?_
        exact wpAnyH_done (by kernel_rfl) ⟨rfl, g4, cap4, w1.heap.size, rfl, S4, K4⟩ _
      · skip
        obtain ⟨SX, gX, cX, rX⟩ := HX.out w1 gA
        refine up_val' rfl rfl (.slice (some ⟨w1.heap.size, 0, none⟩) 1 1) (w1.alloc (.cells #[.string s] 9)) (by go_simp) SX #[true, true, true, true, false, true, true, true, false, false, false, false] rfl ⟨#[.pointer (some ⟨B, 0, none⟩), .agg #[.int .i64 op, av], undef, .pointer (some ⟨W.heap.size, 0, none⟩), .pointer (some ⟨B, 0, none⟩), .pointer (some ⟨B, 0, none⟩), .pointer (some ⟨B, 0, none⟩), .pointer (some ⟨B, 10, none⟩), undef, .agg #[.int .i64 op, av], .string s, .slice (some ⟨w1.heap.size, 0, none⟩) 1 1, undef, undef, undef], []⟩ rfl ?_
        refine wpAnyH_all (rs := [4]) (by kernel_rfl) (by simp) (fun i hi => ?_)
        obtain rfl := List.mem_singleton.1 hi
        refine up_val' rfl rfl (v) (w1.alloc (.cells #[.string s] 9)) (by have hc : (w1.alloc (.cells #[.string s] 9)).cell? ⟨B, 10, none⟩ = some v := (cell_of_row _ _ _ _ _ _ rX).trans (wrA_last A v hA); go_simp) SX #[true, true, true, true, true, true, true, true, false, false, false, false] rfl ⟨#[.pointer (some ⟨B, 0, none⟩), .agg #[.int .i64 op, av], undef, .pointer (some ⟨W.heap.size, 0, none⟩), .pointer (some ⟨B, 0, none⟩), .pointer (some ⟨B, 0, none⟩), .pointer (some ⟨B, 0, none⟩), .pointer (some ⟨B, 10, none⟩), v, .agg #[.int .i64 op, av], .string s, .slice (some ⟨w1.heap.size, 0, none⟩) 1 1, undef, undef, undef], []⟩ rfl ?_
        refine wpAnyH_all (rs := [8]) (by kernel_rfl) (by simp) (fun i hi => ?_)
        obtain rfl := List.mem_singleton.1 hi
        refine wpOp_step rfl fun K' hK => ?_
        refine app_any (s := s) HW.out.1 HW.out.2 _ gX w1.heap.size cX (by rfl) (.tmp 8) (.tmp 11) (by rfl) (by rfl) (by rfl) ?_
        rintro g4 cap4 w4 ⟨d10, f10, r4, S4, K4, N4⟩
        obtain ⟨S5, S6⟩ := HY.out w4 g4 cap4 r4 K4 S4 ((N4 W.heap.size (Array.getElem?_eq_some_iff.1 SX.2).1 (by omega) (fun e => by have := (hown _ e).2; omega)).trans SX.2)
        refine hK _ _ ⟨S5, ?_⟩
        show wpAnyH _ _ _ _ _ _ #[true, true, true, true, true, true, true, true, true, false, false, false] ⟨#[.pointer (some ⟨B, 0, none⟩), .agg #[.int .i64 op, av], undef, .pointer (some ⟨W.heap.size, 0, none⟩), .pointer (some ⟨B, 0, none⟩), .pointer (some ⟨B, 0, none⟩), .pointer (some ⟨B, 0, none⟩), .pointer (some ⟨B, 10, none⟩), v, .agg #[.int .i64 op, av], .string s, .slice (some ⟨w1.heap.size, 0, none⟩) 1 1, .slice (some ⟨g4, 0, none⟩) (L.length + 1) cap4, undef, undef], []⟩ _
        refine tk_val' (i := 9) rfl (by kernel_rfl) (by kernel_rfl) (by kernel_rfl) (fun _ _ _ _ h => nomatch h.1) rfl (.pointer (some ⟨B, 0, none⟩)) (fun W _ => by go_simp) S5 #[true, true, true, true, true, true, true, true, true, true, false, false] rfl ⟨#[.pointer (some ⟨B, 0, none⟩), .agg #[.int .i64 op, av], undef, .pointer (some ⟨W.heap.size, 0, none⟩), .pointer (some ⟨B, 0, none⟩), .pointer (some ⟨B, 0, none⟩), .pointer (some ⟨B, 0, none⟩), .pointer (some ⟨B, 10, none⟩), v, .agg #[.int .i64 op, av], .string s, .slice (some ⟨w1.heap.size, 0, none⟩) 1 1, .slice (some ⟨g4, 0, none⟩) (L.length + 1) cap4, .pointer (some ⟨B, 0, none⟩), undef], []⟩ rfl ?_
        refine tk_val' (i := 10) rfl (by kernel_rfl) (by kernel_rfl) (by kernel_rfl) (fun _ _ _ _ h => nomatch h.1) rfl (.pointer (some ⟨B, 10, none⟩)) (fun W _ => by go_simp) S5 #[true, true, true, true, true, true, true, true, true, true, true, false] rfl ⟨#[.pointer (some ⟨B, 0, none⟩), .agg #[.int .i64 op, av], undef, .pointer (some ⟨W.heap.size, 0, none⟩), .pointer (some ⟨B, 0, none⟩), .pointer (some ⟨B, 0, none⟩), .pointer (some ⟨B, 0, none⟩), .pointer (some ⟨B, 10, none⟩), v, .agg #[.int .i64 op, av], .string s, .slice (some ⟨w1.heap.size, 0, none⟩) 1 1, .slice (some ⟨g4, 0, none⟩) (L.length + 1) cap4, .pointer (some ⟨B, 0, none⟩), .pointer (some ⟨B, 10, none⟩)], []⟩ rfl ?_
        refine wpAnyH_all (rs := [11]) (by kernel_rfl) (by simp) (fun i hi => ?_)
        obtain rfl := List.mem_singleton.1 hi
        refine up_store' rfl rfl 62 _ _ rfl B 10 rfl (.slice (some ⟨g4, 0, none⟩) (L.length + 1) cap4) rfl _ (st_one _ _ _ _ d10 f10 rfl) S6 #[true, true, true, true, true, true, true, true, true, true, true, true] rfl ⟨#[.pointer (some ⟨B, 0, none⟩), .agg #[.int .i64 op, av], undef, .pointer (some ⟨W.heap.size, 0, none⟩), .pointer (some ⟨B, 0, none⟩), .pointer (some ⟨B, 0, none⟩), .pointer (some ⟨B, 0, none⟩), .pointer (some ⟨B, 10, none⟩), v, .agg #[.int .i64 op, av], .string s, .slice (some ⟨w1.heap.size, 0, none⟩) 1 1, .slice (some ⟨g4, 0, none⟩) (L.length + 1) cap4, .pointer (some ⟨B, 0, none⟩), .pointer (some ⟨B, 10, none⟩)], []⟩ rfl ?_
        exact wpAnyH_done (by kernel_rfl) ⟨rfl, g4, cap4, w1.heap.size, rfl, S4, K4⟩ _
  · rintro _ W' ⟨g4, cap4, z, rfl, q1, q2⟩
    go_wp2
    go_end0
    exact ⟨rfl, _, q1, q2⟩
end Go.Proofs.YtgopfaegdlefpaaGreatDoor
