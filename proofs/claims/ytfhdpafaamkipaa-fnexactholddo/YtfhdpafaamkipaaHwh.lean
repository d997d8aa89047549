/- Rows of writes as arguments: their count, the laws' copies. -/
import Derived.Test.YtfhdpafaamkipaaHwe
import Derived.Laws.MakeOwn
namespace Go.Proofs.Ytfhdpafaamkipaa
open Go.RowKit
set_option linter.unusedVariables false
set_option linter.unusedSimpArgs false

set_option maxHeartbeats 1000000 in
theorem sz_writes (a : Option Addr) (n c : Nat) (k : Int) (w : World) (hk : 0 ≤ k ∧ k ≤ 1048576) (hn : n ≤ 9223372036854775807) :
    Calls Try.prog 31 #[.slice a n c, .int .i64 k] w fun e w' => e = .returned (.int .i64 (szL k n)) ∧ Below w.heap.size w w' := by
  unfold szL
  by_cases h : k - n < 0
  · rw [if_pos h]
    go_enter Try.func31, Try.ntmps31
    go_wp2
    go_ret
    exact ⟨rfl, Below.refl _ _⟩
  · rw [if_neg h]
    go_enter Try.func31, Try.ntmps31
    go_wp2
    go_ret
    exact ⟨rfl, Below.refl _ _⟩
set_option maxHeartbeats 1000000 in
theorem to_write (k s : Int) (x : Nat) (w : World) :
    Calls Try.prog 27 #[.agg #[.int .i64 k, .int .i64 s, .int .u8 x]] w fun e w' => e = .returned (.agg #[.int .i64 k, .int .i64 s, .int .u8 x]) ∧ Below w.heap.size w w' := by
  obtain ⟨k0, k1, k2, hz, b0⟩ := three_alloc w (.cells #[.int .i64 k, .int .i64 s, .int .u8 x] 46) (.cells #[.int .i64 0, .int .i64 0, .int .u8 0] 42) (.cells #[.int .i64 0, .int .i64 0, .int .u8 0] 42)
  go_enter Try.func27, Try.ntmps27
  go_upto_region 2 with fail
  generalize (((w.alloc (.cells #[.int .i64 k, .int .i64 s, .int .u8 x] 46)).alloc (.cells #[.int .i64 0, .int .i64 0, .int .u8 0] 42)).alloc (.cells #[.int .i64 0, .int .i64 0, .int .u8 0] 42)) = W0 at k0 k1 k2 hz b0 ⊢
  have p0 : W0.cell? ⟨w.heap.size, 0, none⟩ = some (.int .i64 k) := (cell_of_row _ _ _ _ _ _ k0).trans rfl
  have p1 : W0.cell? ⟨w.heap.size, 1, none⟩ = some (.int .i64 s) := (cell_of_row _ _ _ _ _ _ k0).trans rfl
  have p2 : W0.cell? ⟨w.heap.size, 2, none⟩ = some (.int .u8 x) := (cell_of_row _ _ _ _ _ _ k0).trans rfl
  have q0 : W0.cell? ⟨w.heap.size + 1, 0, none⟩ = some (.int .i64 0) := (cell_of_row _ _ _ _ _ _ k1).trans rfl
  have q1 : W0.cell? ⟨w.heap.size + 1, 1, none⟩ = some (.int .i64 0) := (cell_of_row _ _ _ _ _ _ k1).trans rfl
  have q2 : W0.cell? ⟨w.heap.size + 1, 2, none⟩ = some (.int .u8 0) := (cell_of_row _ _ _ _ _ _ k1).trans rfl
  have qf : ∀ o, W0.frozen? ⟨w.heap.size + 1, o, none⟩ = false := fun o => by simp [World.frozen?, k1]
  have r0 : W0.cell? ⟨w.heap.size + 1 + 1, 0, none⟩ = some (.int .i64 0) := (cell_of_row _ _ _ _ _ _ k2).trans rfl
  have r1 : W0.cell? ⟨w.heap.size + 1 + 1, 1, none⟩ = some (.int .i64 0) := (cell_of_row _ _ _ _ _ _ k2).trans rfl
  have r2 : W0.cell? ⟨w.heap.size + 1 + 1, 2, none⟩ = some (.int .u8 0) := (cell_of_row _ _ _ _ _ _ k2).trans rfl
  have rf : ∀ o, W0.frozen? ⟨w.heap.size + 1 + 1, o, none⟩ = false := fun o => by simp [World.frozen?, k2]
  have HB : Hid (Below w.heap.size w W0) := b0
  clear k0 k1 k2 hz b0
  go_wp2
  refine bodyPost_ret (v := .agg #[.int .i64 k, .int .i64 s, .int .u8 x]) (by simp [results, Try.results27, go_sem, p0, p1, p2, q0, q1, q2, r0, r1, r2]) rfl ⟨rfl, ?_⟩
  iterate 6 refine bel_set ?_ (by omega) _ _
  exact HB.out
theorem make3w (n : Nat) (hn : n ≤ 1048576) (w : World) :
    (Instr.makeSlice 31 (.int .i64 (n : Int)) (.int .i64 (n : Int))).run Try.prog w = .ok (.slice (some ⟨w.heap.size, 0, none⟩) n n) (w.alloc (.cells (madeCells #[.int .i64 0, .int .i64 0, .int .u8 0] (n * 3)) 42)) := by
  obtain ⟨i, hi, hzz⟩ := Option.map_eq_some_iff.1 infoWr
  simp only [Prod.mk.injEq] at hzz
  obtain ⟨hz, hs, hb⟩ := hzz
  have hr := run_make (P := Try.prog) w 31 42 i _ Try.underlying31 hi hz .i64 .i64 n n (by omega) (Int.le_refl _) (by rw [hb]; omega) (by omega)
  simp only [Int.toNat_natCast, hs] at hr
  exact hr
set_option maxRecDepth 10000 in
set_option maxHeartbeats 4000000 in
theorem to_writes (a : Option Addr) (n c : Nat) (f : Nat → WrT) (w : World) (hn : n ≤ 1048576) (h : WsA w a n f) :
    Calls Try.prog 32 #[.slice a n c] w fun e w' => e = .returned (.slice (some ⟨w.heap.size, 0, none⟩) n n) ∧ Wy w' w.heap.size n f ∧ Below w.heap.size w w' := by
  have hmk := make3w n hn
  have H : Hid (WsA w a n f) := h
  have HT : Hid (∀ k s x W, Calls Try.prog 27 #[.agg #[.int .i64 k, .int .i64 s, .int .u8 (x : Nat)]] W fun e w' => e = .returned (.agg #[.int .i64 k, .int .i64 s, .int .u8 x]) ∧ Below W.heap.size W w') := fun k s x W => to_write k s x W
  clear h
  go_enter Try.func32, Try.ntmps32
  go_wp2
  go_loopg [4] n (fun g i wr => ∃ k : Nat, k + g = n ∧ i = .int .i64 k ∧ Below w.heap.size w wr ∧ ∃ C : Array Value, wr.heap[w.heap.size]? = some (.cells C 42 (0, 0)) ∧ C.size = n * 3 ∧ ∀ j, j < k → C[j * 3]? = some (.int .i64 (f j).kind) ∧ C[j * 3 + 1]? = some (.int .i64 (f j).slot) ∧ C[j * 3 + 2]? = some (.int .u8 ((f j).byte : Nat)))
  case atStart => exact ⟨0, by omega, rfl, (Below.refl _ _).alloc (Nat.le_refl _) _, _, heap_alloc_last w _, size_madeCells _ _, fun j hj => by omega⟩
  case round =>
    obtain ⟨k, hk, rfl, hb, C, hC, hs, hcs⟩ := hrel
    by_cases hlt : k < n
    · have i1 : (k : Int) < (n : Int) := by omega
      have i3 : (0 : Int) ≤ (k : Int) := by omega
      obtain ⟨b, o, rfl, hbl, hw⟩ : ∃ g o, a = some ⟨g, o, none⟩ ∧ g < w.heap.size ∧ Ws w g o n f := by
        rcases H.out with h | h
        · omega
        · exact h
      obtain ⟨x0, x1, x2⟩ := hw k hlt
      have y0 : wr.cell? ⟨b, o + k * 3, none⟩ = _ := (hb.cell (p := ⟨b, o + k * 3, none⟩) hbl).trans x0
      have y1 : wr.cell? ⟨b, o + k * 3 + 1, none⟩ = _ := (hb.cell (p := ⟨b, o + k * 3 + 1, none⟩) hbl).trans x1
      have y2 : wr.cell? ⟨b, o + k * 3 + 1 + 1, none⟩ = _ := (hb.cell (p := ⟨b, o + k * 3 + 1 + 1, none⟩) hbl).trans x2
      obtain ⟨K, hK⟩ : ∃ K, (f k).kind = K := ⟨_, rfl⟩
      obtain ⟨S, hS⟩ : ∃ S, (f k).slot = S := ⟨_, rfl⟩
      obtain ⟨X, hX⟩ : ∃ X, (f k).byte = X := ⟨_, rfl⟩
      rw [hK] at y0
      rw [hS] at y1
      rw [hX] at y2
      have HF : Hid ((f k).kind = K ∧ (f k).slot = S ∧ (f k).byte = X) := ⟨hK, hS, hX⟩
      have Bl : w.heap.size < wr.heap.size := (Array.getElem?_eq_some_iff.1 hC).1
      clear hw x0 x1 x2 hK hS hX
      go_wp2_with fail
      refine (HT.out K S X _).mono ?_
      rintro e w4 ⟨rfl, g4⟩
      have hC4 : w4.heap[w.heap.size]? = some (.cells C 42 (0, 0)) := (g4.block _ Bl).trans hC
      have b4 := hb.trans (g4.mono hb.size)
      have c0 : w4.cell? ⟨w.heap.size, k * 3, none⟩ = some (C[k * 3]'(by omega)) := by rw [cell_of_row _ _ _ _ _ _ hC4]; exact Array.getElem?_eq_getElem (by omega)
      have c1 : w4.cell? ⟨w.heap.size, k * 3 + 1, none⟩ = some (C[k * 3 + 1]'(by omega)) := by rw [cell_of_row _ _ _ _ _ _ hC4]; exact Array.getElem?_eq_getElem (by omega)
      have c2 : w4.cell? ⟨w.heap.size, k * 3 + 2, none⟩ = some (C[k * 3 + 2]'(by omega)) := by rw [cell_of_row _ _ _ _ _ _ hC4]; exact Array.getElem?_eq_getElem (by omega)
      have f0 : w4.frozen? ⟨w.heap.size, k * 3, none⟩ = false := by simp [World.frozen?, hC4]
      have f1 : w4.frozen? ⟨w.heap.size, k * 3 + 1, none⟩ = false := by simp [World.frozen?, hC4]
      have f2 : w4.frozen? ⟨w.heap.size, k * 3 + 2, none⟩ = false := by simp [World.frozen?, hC4]
      clear g4
      go_wp2
      go_roundg (gk - 1)
      case measure => omega
      case rel =>
        refine ⟨k + 1, by omega, by simp, ((b4.setCell (p := ⟨w.heap.size, k * 3, none⟩) (Nat.le_refl _) _).setCell (p := ⟨w.heap.size, k * 3 + 1, none⟩) (Nat.le_refl _) _).setCell (p := ⟨w.heap.size, k * 3 + 2, none⟩) (Nat.le_refl _) _, _, row_put19 (row_put19 (row_put19 hC4 _ _) _ _) _ _, by simpa using hs, ?_⟩
        intro j hj
        by_cases hjn : j = k
        · subst hjn
          rw [HF.out.1, HF.out.2.1, HF.out.2.2]
          refine ⟨?_, ?_, ?_⟩ <;> simp [Array.getElem?_setIfInBounds] <;> omega
        · obtain ⟨q0, q1, q2⟩ := hcs j (by omega)
          refine ⟨?_, ?_, ?_⟩
          · rw [Array.getElem?_setIfInBounds_ne (by omega), Array.getElem?_setIfInBounds_ne (by omega), Array.getElem?_setIfInBounds_ne (by omega)]; exact q0
          · rw [Array.getElem?_setIfInBounds_ne (by omega), Array.getElem?_setIfInBounds_ne (by omega), Array.getElem?_setIfInBounds_ne (by omega)]; exact q1
          · rw [Array.getElem?_setIfInBounds_ne (by omega), Array.getElem?_setIfInBounds_ne (by omega), Array.getElem?_setIfInBounds_ne (by omega)]; exact q2
    · have i1 : ¬ ((k : Int) < (n : Int)) := by omega
      go_wp2
      go_ret
      refine ⟨rfl, ⟨fun j hj => ?_, fun o => by simp [World.frozen?, hC], (Array.getElem?_eq_some_iff.1 hC).1⟩, hb⟩
      obtain ⟨q0, q1, q2⟩ := hcs j (by omega)
      refine ⟨?_, ?_, ?_⟩
      · rw [Nat.zero_add, cell_of_row _ _ _ _ _ _ hC]; exact q0
      · rw [Nat.zero_add, cell_of_row _ _ _ _ _ _ hC]; exact q1
      · rw [Nat.zero_add, cell_of_row _ _ _ _ _ _ hC]; exact q2
end Go.Proofs.Ytfhdpafaamkipaa
