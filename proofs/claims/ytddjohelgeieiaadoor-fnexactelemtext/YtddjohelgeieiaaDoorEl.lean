/- The laws' own helpers: operands copied, counted, compared. -/
import Derived.Test.YtddjohelgeieiaaDoorEk
import Derived.Laws.MakeOwn
namespace Go.Proofs.YtddjohelgeieiaaDoor
open Go.RowKit Go.Shelf
set_option linter.unusedVariables false

theorem Ops.other {w : World} {b o : Nat} {xs : List Arg} (h : Ops w b o xs) (b' o' : Nat) (hne : b' ≠ b) (v : Value) : Ops (w.setCell ⟨b', o', none⟩ v) b o xs := fun j x hx => by
  have := h j x hx
  refine ⟨?_, ?_, ?_⟩
  · exact (World.cell?_setCell_other _ _ _ _ (by simp)).trans this.1
  · exact (World.cell?_setCell_other _ _ _ _ (by simp)).trans this.2.1
  · exact (World.cell?_setCell_other _ _ _ _ (by simp)).trans this.2.2

theorem row_put {W : World} {B : Nat} {C : Array Value} {t : TypeId} (h : W.heap[B]? = some (.cells C t (0, 0))) (i : Nat) (a : Value) :
    (W.setCell ⟨B, i, none⟩ a).heap[B]? = some (.cells (C.setIfInBounds i a) t (0, 0)) := by
  rw [setCell_eq_setRow W B i C t (0, 0) a h]
  exact setRow_heap W B C _ t _ h

theorem make3 (n : Nat) (hn : n ≤ 1048576) (w : World) :
    (Instr.makeSlice 23 (.int .i64 (n : Int)) (.int .i64 (n : Int))).run Tryd.prog w = .ok (.slice (some ⟨w.heap.size, 0, none⟩) n n) (w.alloc (.cells (madeCells #[.int .i64 0, .int .i64 0, .int .i64 0] (n * 3)) 31)) := by
  have hinfo : (Tryd.prog.info? 31).map (fun i => (i.zero, i.size, i.bytes)) = some (some (.agg #[.int .i64 0, .int .i64 0, .int .i64 0]), 3, 24) := by kernel_rfl
  obtain ⟨i, hi, hzz⟩ := Option.map_eq_some_iff.1 hinfo
  simp only [Prod.mk.injEq] at hzz
  obtain ⟨hz, hs, hb⟩ := hzz
  have hr := run_make (P := Tryd.prog) w 23 31 i _ Tryd.underlying23 hi hz .i64 .i64 n n (by omega) (Int.le_refl _) (by rw [hb]; omega) (by omega)
  simp only [Int.toNat_natCast, hs] at hr
  exact hr

set_option maxRecDepth 10000 in
set_option maxHeartbeats 1000000 in
theorem to_args (a : Option Addr) (xs : List Arg) (len cap : Nat) (hlen : len = xs.length) (hbig : len ≤ 1048576) (w : World) (hx : Sl w a xs) :
    Calls Tryd.prog 40 #[.slice a len cap] w fun e w' => e = .returned (.slice (some ⟨w.heap.size, 0, none⟩) len len) ∧ Ops w' w.heap.size 0 xs ∧ Below w.heap.size w w' := by
  have hmk := make3 len hbig
  have HL : Hid (len = xs.length) := hlen
  clear hlen
  go_enter Tryd.func40, Tryd.ntmps40
  go_wp2
  go_loopg [4] len (fun g i wr => ∃ n : Nat, n + g = len ∧ i = .int .i64 n ∧ Below w.heap.size w wr ∧ ∃ C : Array Value, wr.heap[w.heap.size]? = some (.cells C 31 (0, 0)) ∧ C.size = len * 3 ∧ ∀ j x, j < n → xs[j]? = some x → C[j * 3]? = some (.int .i64 x.1) ∧ C[j * 3 + 1]? = some (.int .i64 x.2.1) ∧ C[j * 3 + 2]? = some (.int .i64 x.2.2))
  case atStart => exact ⟨0, by omega, rfl, (Below.refl _ _).alloc (Nat.le_refl _) _, _, heap_alloc_last w _, size_madeCells _ _, fun j x hj => by omega⟩
  case round =>
    obtain ⟨n, hn, rfl, hb, C, hC, hs, hcs⟩ := hrel
    by_cases hlt : n < len
    · have i1 : (n : Int) < (len : Int) := by omega
      have i3 : (0 : Int) ≤ (n : Int) := by omega
      obtain ⟨x, hxn⟩ : ∃ x, xs[n]? = some x := ⟨_, List.getElem?_eq_getElem (by have := HL.out; omega)⟩
      rcases hx with rfl | ⟨b, o, rfl, ho⟩
      · simp at hxn
      have y := (ho.later hb) n x hxn
      obtain ⟨y0, y1, y2⟩ := y
      have HT : Hid (∀ W, Calls Tryd.prog 59 #[.agg #[.int .i64 x.1, .int .i64 x.2.1, .int .i64 x.2.2]] W fun e w' => e = .returned (.agg #[.int .i64 x.1, .int .i64 x.2.1, .int .i64 x.2.2]) ∧ Below W.heap.size W w') := fun W => to_arg _ _ _ W
      have Bl : w.heap.size < wr.heap.size := (Array.getElem?_eq_some_iff.1 hC).1
      go_wp2_with fail
      refine (HT.out _).mono ?_
      rintro e w4 ⟨rfl, g4⟩
      have hC4 : w4.heap[w.heap.size]? = some (.cells C 31 (0, 0)) := (g4.block _ Bl).trans hC
      have b4 := hb.trans (g4.mono hb.size)
      have c0 : w4.cell? ⟨w.heap.size, n * 3, none⟩ = some (C[n * 3]'(by omega)) := by rw [cell_of_row _ _ _ _ _ _ hC4]; exact Array.getElem?_eq_getElem (by omega)
      have c1 : w4.cell? ⟨w.heap.size, n * 3 + 1, none⟩ = some (C[n * 3 + 1]'(by omega)) := by rw [cell_of_row _ _ _ _ _ _ hC4]; exact Array.getElem?_eq_getElem (by omega)
      have c2 : w4.cell? ⟨w.heap.size, n * 3 + 2, none⟩ = some (C[n * 3 + 2]'(by omega)) := by rw [cell_of_row _ _ _ _ _ _ hC4]; exact Array.getElem?_eq_getElem (by omega)
      have f0 : w4.frozen? ⟨w.heap.size, n * 3, none⟩ = false := by simp [World.frozen?, hC4]
      have f1 : w4.frozen? ⟨w.heap.size, n * 3 + 1, none⟩ = false := by simp [World.frozen?, hC4]
      have f2 : w4.frozen? ⟨w.heap.size, n * 3 + 2, none⟩ = false := by simp [World.frozen?, hC4]
      clear g4
      go_wp2
      go_roundg (gk - 1)
      case measure => omega
      case rel =>
        refine ⟨n + 1, by omega, by simp, ((b4.setCell (p := ⟨w.heap.size, n * 3, none⟩) (Nat.le_refl _) _).setCell (p := ⟨w.heap.size, n * 3 + 1, none⟩) (Nat.le_refl _) _).setCell (p := ⟨w.heap.size, n * 3 + 2, none⟩) (Nat.le_refl _) _, _, row_put (row_put (row_put hC4 _ _) _ _) _ _, by simpa using hs, ?_⟩
        intro j x' hj hx'
        by_cases hjn : j = n
        · subst hjn
          obtain rfl := Option.some.inj (hxn.symm.trans hx')
          refine ⟨?_, ?_, ?_⟩ <;> simp [Array.getElem?_setIfInBounds] <;> omega
        · obtain ⟨q0, q1, q2⟩ := hcs j x' (by omega) hx'
          refine ⟨?_, ?_, ?_⟩
          · rw [Array.getElem?_setIfInBounds_ne (by omega), Array.getElem?_setIfInBounds_ne (by omega), Array.getElem?_setIfInBounds_ne (by omega)]; exact q0
          · rw [Array.getElem?_setIfInBounds_ne (by omega), Array.getElem?_setIfInBounds_ne (by omega), Array.getElem?_setIfInBounds_ne (by omega)]; exact q1
          · rw [Array.getElem?_setIfInBounds_ne (by omega), Array.getElem?_setIfInBounds_ne (by omega), Array.getElem?_setIfInBounds_ne (by omega)]; exact q2
    · have i1 : ¬ ((n : Int) < (len : Int)) := by omega
      go_wp2
      go_ret
      refine ⟨rfl, ?_, hb⟩
      intro j x hx'
      have hj : j < n := by have := (List.getElem?_eq_some_iff.1 hx').1; have := HL.out; omega
      obtain ⟨q0, q1, q2⟩ := hcs j x hj hx'
      refine ⟨?_, ?_, ?_⟩
      · rw [Nat.zero_add, cell_of_row _ _ _ _ _ _ hC]; exact q0
      · rw [Nat.zero_add, cell_of_row _ _ _ _ _ _ hC]; exact q1
      · rw [Nat.zero_add, cell_of_row _ _ _ _ _ _ hC]; exact q2
end Go.Proofs.YtddjohelgeieiaaDoor
