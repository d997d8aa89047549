/- ElemText, the program's. -/
import Derived.Test.YtidfjinmaiechaaGreatDoorEk
import Derived.Test.YtidfjinmaiechaaGreatDoorDu
import Derived.Deep.OwnRows
import Derived.Laws.MakeOwn
namespace Go.Proofs.YtidfjinmaiechaaGreatDoor
open Go.RowKit Go.Shelf
set_option linter.unusedVariables false

theorem info_str : (Tryz.prog.info? 9).map (fun i => (i.zero, i.size, i.bytes)) = some (some (.string ⟨#[]⟩), 1, 16) := by kernel_rfl
theorem row_putS {W : World} {B : Nat} {C : Array Value} {t : TypeId} (h : W.heap[B]? = some (.cells C t (0, 0))) (i : Nat) (a : Value) :
    (W.setCell ⟨B, i, none⟩ a).heap[B]? = some (.cells (C.setIfInBounds i a) t (0, 0)) := by
  rw [setCell_eq_setRow W B i C t (0, 0) a h]
  exact setRow_heap W B C _ t _ h

set_option maxHeartbeats 1000000 in
theorem etext_no (op : Int) (A B : ByteArray) (V0 V1 V2 V3 V4 V5 : Value) (a : Option Addr) (len cap : Nat) (w : World) (o0 : V0.oneCell' = true) (o1 : V1.oneCell' = true) (o2 : V2.oneCell' = true) (o3 : V3.oneCell' = true) (o4 : V4.oneCell' = true) (o5 : V5.oneCell' = true)
    (HR : Hid (∀ W, Below w.heap.size w W → Calls Tryz.prog 64 #[.int .i64 op] W fun e w' => e = .returned (.agg #[.string A, .string B, V0, V1, V2, V3, V4, V5]) ∧ Below W.heap.size W w'))
    (HK : Hid (∀ W, Below w.heap.size w W → Calls Tryz.prog 65 #[.agg #[.string A, .string B, V0, V1, V2, V3, V4, V5], .slice a len cap] W fun e w' => e = .returned (.bool false) ∧ Below W.heap.size W w')) :
    Calls Tryz.prog 38 #[.agg #[.int .i64 op, .slice a len cap]] w fun e w' => e = .returned (.string ⟨#[]⟩) ∧ Below w.heap.size w w' := by
  have bA : Below w.heap.size w (w.alloc (.cells #[.int .i64 op, .slice a len cap] 45)) := (Below.refl _ _).alloc (Nat.le_refl _) _
  have st0 : ∀ (W : World) (p : Addr) (m : Mode), (store p V0 m).run Tryz.prog W = stored Tryz.prog W p V0 m := fun W p m => run_store Tryz.prog W p V0 m o0
  have st1 : ∀ (W : World) (p : Addr) (m : Mode), (store p V1 m).run Tryz.prog W = stored Tryz.prog W p V1 m := fun W p m => run_store Tryz.prog W p V1 m o1
  have st2 : ∀ (W : World) (p : Addr) (m : Mode), (store p V2 m).run Tryz.prog W = stored Tryz.prog W p V2 m := fun W p m => run_store Tryz.prog W p V2 m o2
  have st3 : ∀ (W : World) (p : Addr) (m : Mode), (store p V3 m).run Tryz.prog W = stored Tryz.prog W p V3 m := fun W p m => run_store Tryz.prog W p V3 m o3
  have st4 : ∀ (W : World) (p : Addr) (m : Mode), (store p V4 m).run Tryz.prog W = stored Tryz.prog W p V4 m := fun W p m => run_store Tryz.prog W p V4 m o4
  have st5 : ∀ (W : World) (p : Addr) (m : Mode), (store p V5 m).run Tryz.prog W = stored Tryz.prog W p V5 m := fun W p m => run_store Tryz.prog W p V5 m o5
  go_enter Tryz.func38, Tryz.ntmps38
  go_wp2_with fail
  refine (HR.out _ bA).mono ?_
  rintro e w1 ⟨rfl, g1⟩
  have q1 : w1.cell? ⟨w.heap.size, 1, none⟩ = some (.slice a len cap) := cell_later g1 (by simp)
  have lt1 : w.heap.size < w1.heap.size := World.block_lt_of_cell? _ _ q1
  have q2 : (w1.alloc (.cells #[.string A, .string B, V0, V1, V2, V3, V4, V5] 113)).cell? ⟨w.heap.size, 1, none⟩ = some (.slice a len cap) := (World.cell?_alloc_past _ _ _ lt1).trans q1
  have b1 := bA.trans (g1.mono bA.size)
  have bR : Below w.heap.size w (w1.alloc (.cells #[.string A, .string B, V0, V1, V2, V3, V4, V5] 113)) := b1.alloc b1.size _
  clear g1 q1
  go_wp2_with fail
  refine (HK.out _ bR).mono ?_
  rintro e w2 ⟨rfl, g2⟩
  have b2 := bR.trans (g2.mono bR.size)
  clear g2
  go_wp2
  go_ret
  exact ⟨rfl, b2⟩

set_option maxRecDepth 10000 in
set_option maxHeartbeats 2000000 in
theorem etext_run (op : Int) (A B J : ByteArray) (V0 V1 V2 V3 V4 V5 : Value) (m b o cap : Nat) (hm : m ≤ 3) (hm1 : 1 ≤ m) (X : Nat → Arg) (TX : Nat → ByteArray) (w : World) (o0 : V0.oneCell' = true) (o1 : V1.oneCell' = true) (o2 : V2.oneCell' = true) (o3 : V3.oneCell' = true) (o4 : V4.oneCell' = true) (o5 : V5.oneCell' = true)
    (hX : ∀ n, n < m → w.cell? ⟨b, o + n * 3, none⟩ = some (.int .i64 (X n).1) ∧ w.cell? ⟨b, o + n * 3 + 1, none⟩ = some (.int .i64 (X n).2.1) ∧ w.cell? ⟨b, o + n * 3 + 2, none⟩ = some (.int .i64 (X n).2.2))
    (hsz : A.size + J.size ≤ 1000)
    (HR : Hid (∀ W, Below w.heap.size w W → Calls Tryz.prog 64 #[.int .i64 op] W fun e w' => e = .returned (.agg #[.string A, .string B, V0, V1, V2, V3, V4, V5]) ∧ Below W.heap.size W w'))
    (HK : Hid (∀ W, Below w.heap.size w W → Calls Tryz.prog 65 #[.agg #[.string A, .string B, V0, V1, V2, V3, V4, V5], .slice (some ⟨b, o, none⟩) m cap] W fun e w' => e = .returned (.bool true) ∧ Below W.heap.size W w'))
    (HD : Hid (∀ n, n < m → ∀ W, Below w.heap.size w W → Calls Tryz.prog 66 #[.agg #[.int .i64 (X n).1, .int .i64 (X n).2.1, .int .i64 (X n).2.2]] W fun e w' => e = .returned (.string (TX n)) ∧ Below W.heap.size W w'))
    (HJ : Hid (∀ W T, (∀ n, n < m → W.cell? ⟨T, n, none⟩ = some (.string (TX n))) → Calls Tryz.prog 67 #[.slice (some ⟨T, 0, none⟩) m m, .string B] W fun e w' => e = .returned (.string J) ∧ Below W.heap.size W w')) :
    Calls Tryz.prog 38 #[.agg #[.int .i64 op, .slice (some ⟨b, o, none⟩) m cap]] w fun e w' => e = .returned (.string (A ++ J)) ∧ Below w.heap.size w w' := by
  have hmk := run_make_row' (P := Tryz.prog) 60 9 (.string ⟨#[]⟩) 16 Tryz.underlying60 info_str rfl .i64 .i64 m (by omega) (by omega)
  have bl : b < w.heap.size := World.block_lt_of_cell? _ _ (hX 0 (by omega)).1
  have bA : Below w.heap.size w (w.alloc (.cells #[.int .i64 op, .slice (some ⟨b, o, none⟩) m cap] 45)) := (Below.refl _ _).alloc (Nat.le_refl _) _
  have st0 : ∀ (W : World) (p : Addr) (m : Mode), (store p V0 m).run Tryz.prog W = stored Tryz.prog W p V0 m := fun W p m => run_store Tryz.prog W p V0 m o0
  have st1 : ∀ (W : World) (p : Addr) (m : Mode), (store p V1 m).run Tryz.prog W = stored Tryz.prog W p V1 m := fun W p m => run_store Tryz.prog W p V1 m o1
  have st2 : ∀ (W : World) (p : Addr) (m : Mode), (store p V2 m).run Tryz.prog W = stored Tryz.prog W p V2 m := fun W p m => run_store Tryz.prog W p V2 m o2
  have st3 : ∀ (W : World) (p : Addr) (m : Mode), (store p V3 m).run Tryz.prog W = stored Tryz.prog W p V3 m := fun W p m => run_store Tryz.prog W p V3 m o3
  have st4 : ∀ (W : World) (p : Addr) (m : Mode), (store p V4 m).run Tryz.prog W = stored Tryz.prog W p V4 m := fun W p m => run_store Tryz.prog W p V4 m o4
  have st5 : ∀ (W : World) (p : Addr) (m : Mode), (store p V5 m).run Tryz.prog W = stored Tryz.prog W p V5 m := fun W p m => run_store Tryz.prog W p V5 m o5
  go_enter Tryz.func38, Tryz.ntmps38
  go_wp2_with fail
  refine (HR.out _ bA).mono ?_
  rintro e w1 ⟨rfl, g1⟩
  have q1 : w1.cell? ⟨w.heap.size, 1, none⟩ = some (.slice (some ⟨b, o, none⟩) m cap) := cell_later g1 (by simp)
  have lt1 : w.heap.size < w1.heap.size := World.block_lt_of_cell? _ _ q1
  have q2 : (w1.alloc (.cells #[.string A, .string B, V0, V1, V2, V3, V4, V5] 113)).cell? ⟨w.heap.size, 1, none⟩ = some (.slice (some ⟨b, o, none⟩) m cap) := (World.cell?_alloc_past _ _ _ lt1).trans q1
  have b1 := bA.trans (g1.mono bA.size)
  have bR : Below w.heap.size w (w1.alloc (.cells #[.string A, .string B, V0, V1, V2, V3, V4, V5] 113)) := b1.alloc b1.size _
  clear g1 q1
  go_wp2_with fail
  refine (HK.out _ bR).mono ?_
  rintro e w2 ⟨rfl, g2⟩
  have b2 := bR.trans (g2.mono bR.size)
  have q3 := cell_later g2 q2
  have r0 : w2.cell? ⟨w1.heap.size, 0, none⟩ = some (.string A) := cell_later g2 (by simp)
  have r1 : w2.cell? ⟨w1.heap.size, 1, none⟩ = some (.string B) := cell_later g2 (by simp)
  have lt2 : w1.heap.size < w2.heap.size := World.block_lt_of_cell? _ _ r0
  have q4 : (w2.alloc (.cells (madeCells #[.string ⟨#[]⟩] m) 9)).cell? ⟨w.heap.size, 1, none⟩ = some (.slice (some ⟨b, o, none⟩) m cap) := (World.cell?_alloc_past _ _ _ (by show w.heap.size < w2.heap.size; omega)).trans q3
  clear g2 q2 bR
  go_wp2
  go_loopg [22] m (fun g i wr => ∃ n : Nat, n + g = m ∧ i = .int .i64 n ∧ Below w2.heap.size w2 wr ∧ ∃ C : Array Value, wr.heap[w2.heap.size]? = some (.cells C 9 (0, 0)) ∧ C.size = m ∧ ∀ j, j < n → C[j]? = some (.string (TX j)))
  case atStart => exact ⟨0, by omega, rfl, (Below.refl _ _).alloc (Nat.le_refl _) _, _, heap_alloc_last w2 _, size_madeCells _ _, fun j hj => by omega⟩
  case round =>
    obtain ⟨n, hn, rfl, hb, C, hC, hs, hcs⟩ := hrel
    have hbw : Below w.heap.size w wr := b2.trans (hb.mono b2.size)
    by_cases hlt : n < m
    · have i1 : (n : Int) < (m : Int) := by omega
      have i3 : (0 : Int) ≤ (n : Int) := by omega
      have y0 : wr.cell? ⟨b, o + n * 3, none⟩ = some (.int .i64 (X n).1) := (hbw.cell (p := ⟨b, o + n * 3, none⟩) bl).trans (hX n hlt).1
      have y1 : wr.cell? ⟨b, o + n * 3 + 1, none⟩ = some (.int .i64 (X n).2.1) := (hbw.cell (p := ⟨b, o + n * 3 + 1, none⟩) bl).trans (hX n hlt).2.1
      have y2 : wr.cell? ⟨b, o + n * 3 + 2, none⟩ = some (.int .i64 (X n).2.2) := (hbw.cell (p := ⟨b, o + n * 3 + 2, none⟩) bl).trans (hX n hlt).2.2
      have HDn : Hid (∀ W, Below w.heap.size w W → Calls Tryz.prog 66 #[.agg #[.int .i64 (X n).1, .int .i64 (X n).2.1, .int .i64 (X n).2.2]] W fun e w' => e = .returned (.string (TX n)) ∧ Below W.heap.size W w') := fun W h => HD.out n hlt W h
      generalize hA : (X n).1 = A1 at y0 HDn
      generalize hB : (X n).2.1 = A2 at y1 HDn
      generalize hCC : (X n).2.2 = A3 at y2 HDn
      generalize hTT : TX n = TT at HDn
      have Bl : w2.heap.size < wr.heap.size := (Array.getElem?_eq_some_iff.1 hC).1
      have bD : Below w.heap.size w (wr.alloc (.cells #[.int .i64 A1, .int .i64 A2, .int .i64 A3] 101)) := hbw.alloc hbw.size _
      clear HD HJ HK HR hX q3 q4
      go_wp2_with fail
      refine (HDn.out _ bD).mono ?_
      rintro e w4 ⟨rfl, g4⟩
      have hC4 : w4.heap[w2.heap.size]? = some (.cells C 9 (0, 0)) := (g4.block _ (by simp; omega)).trans ((((Below.refl wr.heap.size wr).alloc (Nat.le_refl _) _).block _ Bl).trans hC)
      have b4 : Below w2.heap.size w2 w4 := (hb.alloc hb.size _).trans (g4.mono (by simp; omega))
      have c0 : w4.cell? ⟨w2.heap.size, n, none⟩ = some (C[n]'(by omega)) := by rw [cell_of_row _ _ _ _ _ _ hC4]; exact Array.getElem?_eq_getElem (by omega)
      have f0 : w4.frozen? ⟨w2.heap.size, n, none⟩ = false := by simp [World.frozen?, hC4]
      clear g4
      go_wp2
      go_roundg (gk - 1)
      case measure => omega
      case rel =>
        refine ⟨n + 1, by omega, by simp, b4.setCell (p := ⟨w2.heap.size, n, none⟩) (Nat.le_refl _) _, _, row_putS hC4 _ _, by simpa using hs, ?_⟩
        intro j hj
        by_cases hjn : j = n
        · subst hjn
          rw [hTT]
          simp [hs, hlt]
        · rw [Array.getElem?_setIfInBounds_ne (by omega)]; exact hcs j (by omega)
    · have i1 : ¬ ((n : Int) < (m : Int)) := by omega
      have hT : ∀ n, n < m → wr.cell? ⟨w2.heap.size, n, none⟩ = some (.string (TX n)) := fun j hj => by rw [cell_of_row _ _ _ _ _ _ hC]; exact hcs j (by omega)
      have z0 := cell_later hb r0
      have z1 := cell_later hb r1
      have k0 := cell_regrown z0
      have k1 := cell_regrown z1
      have hz : ¬ 9223372036854775807 < A.size + J.size := by omega
      have cJ : ∀ d os, Calls Tryz.prog 67 #[.slice (some ⟨w2.heap.size, 0, none⟩) m m, .string B] (Sort.grow (redrawn wr d) os) fun e w'' => e = .returned (.string J) ∧ ∃ p : Regrown, w'' = Sort.grow (redrawn wr p.d) p.os :=
        fun d os => Calls.regrown_of (HJ.out _ _ (fun n hn => cell_regrown (hT n hn) d os))
      clear HD HJ HK HR hX q3 q4 r0 r1 z0 z1
      go_upto_region 10 with fail
      refine wp_region_quiet_below (by kernel_rfl) (by kernel_rfl) ?_
      repeat (go_big_quiet_step (first | exact cJ _ _))
      refine wpQuiet_nil ?_
      intro _ hw'
      obtain ⟨⟨dq, osq⟩, hw''⟩ := hw'
      subst hw''
      go_wp2
      go_ret
      exact ⟨rfl, hbw.trans ((below_regrown wr dq osq).mono hbw.size)⟩
end Go.Proofs.YtidfjinmaiechaaGreatDoor

