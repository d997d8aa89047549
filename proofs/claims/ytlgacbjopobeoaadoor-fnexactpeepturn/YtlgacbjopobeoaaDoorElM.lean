/- The laws' own helpers: operands copied, counted, compared. -/
import Derived.Test.YtlgacbjopobeoaaDoorEcM
import Derived.Test.YtlgacbjopobeoaaDoorGbM
import Derived.Laws.MakeOwn
import Derived.Deep.RegionWith
namespace Go.Proofs.YtlgacbjopobeoaaDoor
open Go.RowKit Go.Shelf
set_option linter.unusedVariables false

theorem Ops.other {w : World} {b o : Nat} {xs : List Arg} (h : Ops w b o xs) (b' o' : Nat) (hne : b' ≠ b) (v : Value) : Ops (w.setCell ⟨b', o', none⟩ v) b o xs := fun j x hx => by
  have := h j x hx
  refine ⟨?_, ?_, ?_⟩
  · exact (World.cell?_setCell_other _ _ _ _ (by simp)).trans this.1
  · exact (World.cell?_setCell_other _ _ _ _ (by simp)).trans this.2.1
  · exact (World.cell?_setCell_other _ _ _ _ (by simp)).trans this.2.2

theorem row_putE {W : World} {B : Nat} {C : Array Value} {t : TypeId} (h : W.heap[B]? = some (.cells C t (0, 0))) (i : Nat) (a : Value) :
    (W.setCell ⟨B, i, none⟩ a).heap[B]? = some (.cells (C.setIfInBounds i a) t (0, 0)) := by
  rw [setCell_eq_setRow W B i C t (0, 0) a h]
  exact setRow_heap W B C _ t _ h

theorem make3 (n : Nat) (hn : n ≤ 1048576) (w : World) :
    (Instr.makeSlice 26 (.int .i64 (n : Int)) (.int .i64 (n : Int))).run Tryd.prog w = .ok (.slice (some ⟨w.heap.size, 0, none⟩) n n) (w.alloc (.cells (madeCells #[.int .i64 0, .int .i64 0, .int .i64 0] (n * 3)) 39)) := by
  have hinfo : (Tryd.prog.info? 39).map (fun i => (i.zero, i.size, i.bytes)) = some (some (.agg #[.int .i64 0, .int .i64 0, .int .i64 0]), 3, 24) := by kernel_rfl
  obtain ⟨i, hi, hzz⟩ := Option.map_eq_some_iff.1 hinfo
  simp only [Prod.mk.injEq] at hzz
  obtain ⟨hz, hs, hb⟩ := hzz
  have hr := run_make (P := Tryd.prog) w 26 39 i _ Tryd.underlying26 hi hz .i64 .i64 n n (by omega) (Int.le_refl _) (by rw [hb]; omega) (by omega)
  simp only [Int.toNat_natCast, hs] at hr
  exact hr

set_option maxRecDepth 10000 in
set_option maxHeartbeats 1000000 in
theorem to_argsE (a : Option Addr) (xs : List Arg) (len cap : Nat) (hlen : len = xs.length) (hbig : len ≤ 1048576) (w : World) (hx : Sl w a xs) :
    Calls Tryd.prog 15 #[.slice a len cap] w fun e w' => e = .returned (.slice (some ⟨w.heap.size, 0, none⟩) len len) ∧ Ops w' w.heap.size 0 xs ∧ Below w.heap.size w w' := by
  have hmk := make3 len hbig
  have HL : Hid (len = xs.length) := hlen
  clear hlen
  go_enter Tryd.func15, Tryd.ntmps15
  go_wp2
  go_loopg [4] len (fun g i wr => ∃ n : Nat, n + g = len ∧ i = .int .i64 n ∧ Below w.heap.size w wr ∧ ∃ C : Array Value, wr.heap[w.heap.size]? = some (.cells C 39 (0, 0)) ∧ C.size = len * 3 ∧ ∀ j x, j < n → xs[j]? = some x → C[j * 3]? = some (.int .i64 x.1) ∧ C[j * 3 + 1]? = some (.int .i64 x.2.1) ∧ C[j * 3 + 2]? = some (.int .i64 x.2.2))
  case atStart => exact ⟨0, by omega, rfl, (Below.refl _ _).alloc (Nat.le_refl _) _, _, heap_alloc_last w _, size_madeCells _ _, fun j x hj => by omega⟩
  case round =>
    obtain ⟨n, hn, rfl, hb, C, hC, hs, hcs⟩ := hrel
    by_cases hlt : n < len
    · have i1 : (n : Int) < (len : Int) := by omega
      have i3 : (0 : Int) ≤ (n : Int) := by omega
      obtain ⟨x, hxn⟩ : ∃ x, xs[n]? = some x := ⟨_, List.getElem?_eq_getElem (by have := HL.out; omega)⟩
      rcases hx with rfl | ⟨b, o, rfl, ho⟩
      · simp at hxn
      have y := (ho.later hb) n x hxn
      obtain ⟨y0, y1, y2⟩ := y
      have HT : Hid (∀ W, Calls Tryd.prog 25 #[.agg #[.int .i64 x.1, .int .i64 x.2.1, .int .i64 x.2.2]] W fun e w' => e = .returned (.agg #[.int .i64 x.1, .int .i64 x.2.1, .int .i64 x.2.2]) ∧ Below W.heap.size W w') := fun W => to_arg _ _ _ W
      have Bl : w.heap.size < wr.heap.size := (Array.getElem?_eq_some_iff.1 hC).1
      go_wp2_with fail
      refine (HT.out _).mono ?_
      rintro e w4 ⟨rfl, g4⟩
      have hC4 : w4.heap[w.heap.size]? = some (.cells C 39 (0, 0)) := (g4.block _ Bl).trans hC
      have b4 := hb.trans (g4.mono hb.size)
      have c0 : w4.cell? ⟨w.heap.size, n * 3, none⟩ = some (C[n * 3]'(by omega)) := by rw [cell_of_row _ _ _ _ _ _ hC4]; exact Array.getElem?_eq_getElem (by omega)
      have c1 : w4.cell? ⟨w.heap.size, n * 3 + 1, none⟩ = some (C[n * 3 + 1]'(by omega)) := by rw [cell_of_row _ _ _ _ _ _ hC4]; exact Array.getElem?_eq_getElem (by omega)
      have c2 : w4.cell? ⟨w.heap.size, n * 3 + 2, none⟩ = some (C[n * 3 + 2]'(by omega)) := by rw [cell_of_row _ _ _ _ _ _ hC4]; exact Array.getElem?_eq_getElem (by omega)
      have f0 : w4.frozen? ⟨w.heap.size, n * 3, none⟩ = false := by simp [World.frozen?, hC4]
      have f1 : w4.frozen? ⟨w.heap.size, n * 3 + 1, none⟩ = false := by simp [World.frozen?, hC4]
      have f2 : w4.frozen? ⟨w.heap.size, n * 3 + 2, none⟩ = false := by simp [World.frozen?, hC4]
      clear g4
      go_wp2
      go_roundg (gk - 1)
      case measure => omega
      case rel =>
        refine ⟨n + 1, by omega, by simp, ((b4.setCell (p := ⟨w.heap.size, n * 3, none⟩) (Nat.le_refl _) _).setCell (p := ⟨w.heap.size, n * 3 + 1, none⟩) (Nat.le_refl _) _).setCell (p := ⟨w.heap.size, n * 3 + 2, none⟩) (Nat.le_refl _) _, _, row_putE (row_putE (row_putE hC4 _ _) _ _) _ _, by simpa using hs, ?_⟩
        intro j x' hj hx'
        by_cases hjn : j = n
        · subst hjn
          obtain rfl := Option.some.inj (hxn.symm.trans hx')
          refine ⟨?_, ?_, ?_⟩ <;> simp [Array.getElem?_setIfInBounds] <;> omega
        · obtain ⟨q0, q1, q2⟩ := hcs j x' (by omega) hx'
          refine ⟨?_, ?_, ?_⟩
          · rw [Array.getElem?_setIfInBounds_ne (by omega), Array.getElem?_setIfInBounds_ne (by omega), Array.getElem?_setIfInBounds_ne (by omega)]; exact q0
          · rw [Array.getElem?_setIfInBounds_ne (by omega), Array.getElem?_setIfInBounds_ne (by omega), Array.getElem?_setIfInBounds_ne (by omega)]; exact q1
          · rw [Array.getElem?_setIfInBounds_ne (by omega), Array.getElem?_setIfInBounds_ne (by omega), Array.getElem?_setIfInBounds_ne (by omega)]; exact q2
    · have i1 : ¬ ((n : Int) < (len : Int)) := by omega
      go_wp2
      go_ret
      refine ⟨rfl, ?_, hb⟩
      intro j x hx'
      have hj : j < n := by have := (List.getElem?_eq_some_iff.1 hx').1; have := HL.out; omega
      obtain ⟨q0, q1, q2⟩ := hcs j x hj hx'
      refine ⟨?_, ?_, ?_⟩
      · rw [Nat.zero_add, cell_of_row _ _ _ _ _ _ hC]; exact q0
      · rw [Nat.zero_add, cell_of_row _ _ _ _ _ _ hC]; exact q1
      · rw [Nat.zero_add, cell_of_row _ _ _ _ _ _ hC]; exact q2
end Go.Proofs.YtlgacbjopobeoaaDoor
/- toElem, szElem, eqElem; the laws FnExactElemIsContact and FnExactElemIsCoil. -/
namespace Go.Proofs.YtlgacbjopobeoaaDoor
open Go.RowKit Go.Shelf
set_option linter.unusedVariables false

set_option maxHeartbeats 1000000 in
theorem szs_r (a : Option Addr) (len cap : Nat) (w : World) (hl : len ≤ 9223372036854775807) :
    Calls Tryd.prog 11 #[.slice a len cap, .int .i64 1048576] w fun e w' => e = .returned (.int .i64 (if len ≤ 1048576 then 1048576 - (len : Int) else -1)) ∧ Below w.heap.size w w' := by
  by_cases h : len ≤ 1048576
  · rw [if_pos h]
    have h1 : ¬ (1048576 - (len : Int) < 0) := by omega
    go_enter Tryd.func11, Tryd.ntmps11
    go_wp2
    go_ret
    exact ⟨rfl, by go_grown⟩
  · rw [if_neg h]
    have h1 : 1048576 - (len : Int) < 0 := by omega
    go_enter Tryd.func11, Tryd.ntmps11
    go_wp2
    go_ret
    exact ⟨rfl, by go_grown⟩

set_option maxHeartbeats 1000000 in
theorem sz_r (op : Int) (a : Option Addr) (len cap : Nat) (w : World) (hl : len ≤ 9223372036854775807) :
    Calls Tryd.prog 4 #[.agg #[.int .i64 op, .slice a len cap], .int .i64 1048576] w fun e w' => e = .returned (.int .i64 (if len ≤ 1048576 then 1048576 - (len : Int) else -1)) ∧ Below w.heap.size w w' := by
  have HS : Hid (∀ W, Calls Tryd.prog 11 #[.slice a len cap, .int .i64 1048576] W fun e w' => e = .returned (.int .i64 (if len ≤ 1048576 then 1048576 - (len : Int) else -1)) ∧ Below W.heap.size W w') := fun W => szs_r a len cap W hl
  by_cases h : len ≤ 1048576
  · rw [if_pos h] at HS ⊢
    have h1 : ¬ (1048576 - (len : Int) < 0) := by omega
    generalize 1048576 - (len : Int) = L at HS h1 ⊢
    go_enter Tryd.func4, Tryd.ntmps4
    go_wp2_with fail
    refine (HS.out _).mono ?_
    rintro e w1 ⟨rfl, g1⟩
    have b1 : Below w.heap.size w w1 := ((Below.refl _ _).alloc (Nat.le_refl _) _).trans (g1.mono (by simp))
    clear g1
    go_wp2
    go_ret
    exact ⟨rfl, b1⟩
  · rw [if_neg h] at HS ⊢
    go_enter Tryd.func4, Tryd.ntmps4
    go_wp2_with fail
    refine (HS.out _).mono ?_
    rintro e w1 ⟨rfl, g1⟩
    have b1 : Below w.heap.size w w1 := ((Below.refl _ _).alloc (Nat.le_refl _) _).trans (g1.mono (by simp))
    clear g1
    go_wp2
    go_ret
    exact ⟨rfl, b1⟩

theorem frozen_later {w w' : World} {p : Addr} (g : Below w.heap.size w w') (hlt : p.block < w.heap.size) (h : w.frozen? p = false) : w'.frozen? p = false := by
  have hh := g.block p.block hlt
  unfold World.frozen? at h ⊢
  rw [hh]; exact h

theorem row_otherE {W : World} {B : Nat} {o : Obj} (h : W.heap[B]? = some o) (b f : Nat) (hne : b ≠ B) (v : Value) : (W.setCell ⟨b, f, none⟩ v).heap[B]? = some o := by
  rw [← h]
  simp only [World.setCell]
  rw [Array.getElem?_modify]
  simp [hne]

set_option maxHeartbeats 1000000 in
theorem to_elemE (op : Int) (a : Option Addr) (xs : List Arg) (len cap : Nat) (hlen : len = xs.length) (hbig : len ≤ 1048576) (w : World) (hx : Sl w a xs) :
    Calls Tryd.prog 6 #[.agg #[.int .i64 op, .slice a len cap]] w fun e w' => ∃ B, w.heap.size ≤ B ∧ e = .returned (.agg #[.int .i64 op, .slice (some ⟨B, 0, none⟩) len len]) ∧ Ops w' B 0 xs ∧ Below w.heap.size w w' := by
  have HA : Hid (∀ W, Sl W a xs → Calls Tryd.prog 15 #[.slice a len cap] W fun e w' => e = .returned (.slice (some ⟨W.heap.size, 0, none⟩) len len) ∧ Ops w' W.heap.size 0 xs ∧ Below W.heap.size W w') := fun W h => to_argsE a xs len cap hlen hbig W h
  clear hlen hbig
  go_enter Tryd.func6, Tryd.ntmps6
  go_wp2_with fail
  refine (HA.out _ (((hx.alloc _).alloc _).alloc _)).mono ?_
  rintro e w1 ⟨rfl, o1, g1⟩
  simp only [World.size_alloc] at o1
  have hB : w1.heap[w.heap.size + 1]? = some (.cells #[.int .i64 0, .slice none 0 0] 28 (0, 0)) := by
    have h1 := heap_alloc_last (w.alloc (.cells #[.int .i64 op, .slice a len cap] 24)) (.cells #[.int .i64 0, .slice none 0 0] 28)
    have h2 := ((Below.refl ((w.alloc (.cells #[.int .i64 op, .slice a len cap] 24)).alloc (.cells #[.int .i64 0, .slice none 0 0] 28)).heap.size ((w.alloc (.cells #[.int .i64 op, .slice a len cap] 24)).alloc (.cells #[.int .i64 0, .slice none 0 0] 28))).alloc (Nat.le_refl _) (.cells #[.int .i64 op, .slice none 0 0] 28)).block (w.heap.size + 1) (by simp)
    have h3 := g1.block (w.heap.size + 1) (by simp)
    simp only [World.size_alloc] at h1
    exact h3.trans (h2.trans h1)
  have hC : w1.heap[w.heap.size + 1 + 1]? = some (.cells #[.int .i64 op, .slice none 0 0] 28 (0, 0)) := by
    have h1 := heap_alloc_last ((w.alloc (.cells #[.int .i64 op, .slice a len cap] 24)).alloc (.cells #[.int .i64 0, .slice none 0 0] 28)) (.cells #[.int .i64 op, .slice none 0 0] 28)
    have h3 := g1.block (w.heap.size + 1 + 1) (by simp)
    simp only [World.size_alloc] at h1
    exact h3.trans h1
  have r0 : w1.cell? ⟨w.heap.size + 1, 0, none⟩ = some (.int .i64 0) := by rw [cell_of_row _ _ _ _ _ _ hB]; rfl
  have r1 : w1.cell? ⟨w.heap.size + 1, 1, none⟩ = some (.slice none 0 0) := by rw [cell_of_row _ _ _ _ _ _ hB]; rfl
  have u0 : w1.cell? ⟨w.heap.size + 1 + 1, 0, none⟩ = some (.int .i64 op) := by rw [cell_of_row _ _ _ _ _ _ hC]; rfl
  have u1 : w1.cell? ⟨w.heap.size + 1 + 1, 1, none⟩ = some (.slice none 0 0) := by rw [cell_of_row _ _ _ _ _ _ hC]; rfl
  have s0 : w1.frozen? ⟨w.heap.size + 1, 0, none⟩ = false := by simp [World.frozen?, hB]
  have s1 : w1.frozen? ⟨w.heap.size + 1, 1, none⟩ = false := by simp [World.frozen?, hB]
  have s2 : w1.frozen? ⟨w.heap.size + 1 + 1, 0, none⟩ = false := by simp [World.frozen?, hC]
  have s3 : w1.frozen? ⟨w.heap.size + 1 + 1, 1, none⟩ = false := by simp [World.frozen?, hC]
  have b1 : Below w.heap.size w w1 := ((((Below.refl _ _).alloc (Nat.le_refl _) _).alloc (by simp) _).alloc (by simp; omega) _).trans (g1.mono (by simp; omega))
  clear g1 hC
  go_wp2
  have hF := row_putE (row_putE ((row_otherE hB (w.heap.size + 1 + 1) 1 (by omega) (.slice (some ⟨w.heap.size + 1 + 1 + 1, 0, none⟩) len len))) 0 (.int .i64 op)) 1 (.slice (some ⟨w.heap.size + 1 + 1 + 1, 0, none⟩) len len)
  refine ⟨rfl, .agg #[.int .i64 op, (.slice (some ⟨w.heap.size + 1 + 1 + 1, 0, none⟩) len len)], ?_, ?_⟩
  · refine Eq.trans ?_ (run_loadVar_row (P := Tryd.prog) _ (w.heap.size + 1) 28 28 _ (0, 0) _ hF Tryd.underlying28 rfl (by kernel_rfl))
    simp [results, Tryd.results6, asAddr]
  refine ⟨w.heap.size + 1 + 1 + 1, by omega, rfl, ?_, ?_⟩
  · exact (((o1.other _ _ (by omega) _).other _ _ (by omega) _).other _ _ (by omega) _)
  · exact ((b1.setCell (p := ⟨w.heap.size + 1 + 1, 1, none⟩) (by show w.heap.size ≤ w.heap.size + 1 + 1; omega) _).setCell (p := ⟨w.heap.size + 1, 0, none⟩) (by show w.heap.size ≤ w.heap.size + 1; omega) _).setCell (p := ⟨w.heap.size + 1, 1, none⟩) (by show w.heap.size ≤ w.heap.size + 1; omega) _

set_option maxHeartbeats 1000000 in
theorem eqa_r (k n p : Int) (w : World) :
    Calls Tryd.prog 31 #[.agg #[.int .i64 k, .int .i64 n, .int .i64 p], .agg #[.int .i64 k, .int .i64 n, .int .i64 p]] w fun e w' => e = .returned (.bool true) ∧ Below w.heap.size w w' := by
  go_enter Tryd.func31, Tryd.ntmps31
  go_wp2
  go_ret
  exact ⟨rfl, by go_grown⟩

set_option maxRecDepth 10000 in
set_option maxHeartbeats 1000000 in
theorem eqs_r (a1 a2 : Option Addr) (xs : List Arg) (len c1 c2 : Nat) (hlen : len = xs.length) (hbig : len ≤ 1048576) (w : World) (h1 : Sl w a1 xs) (h2 : Sl w a2 xs) :
    Calls Tryd.prog 18 #[.slice a1 len c1, .slice a2 len c2] w fun e w' => e = .returned (.bool true) ∧ Below w.heap.size w w' := by
  have HL : Hid (len = xs.length) := hlen
  clear hlen
  go_enter Tryd.func18, Tryd.ntmps18
  go_wp2
  go_loopg [5] len (fun g i wr => ∃ n : Nat, n + g = len ∧ i = .int .i64 n ∧ Below w.heap.size w wr)
  case atStart => exact ⟨0, by omega, rfl, Below.refl _ _⟩
  case round =>
    obtain ⟨n, hn, rfl, hb⟩ := hrel
    by_cases hlt : n < len
    · have i1 : (n : Int) < (len : Int) := by omega
      have i3 : (0 : Int) ≤ (n : Int) := by omega
      obtain ⟨x, hxn⟩ : ∃ x, xs[n]? = some x := ⟨_, List.getElem?_eq_getElem (by have := HL.out; omega)⟩
      rcases h1 with rfl | ⟨b, o, rfl, ho⟩
      · simp at hxn
      rcases h2 with rfl | ⟨b', o', rfl, ho'⟩
      · simp at hxn
      obtain ⟨y0, y1, y2⟩ := (ho.later hb) n x hxn
      obtain ⟨y3, y4, y5⟩ := (ho'.later hb) n x hxn
      have k0 := cell_regrown y0
      have k1 := cell_regrown y1
      have k2 := cell_regrown y2
      have k3 := cell_regrown y3
      have k4 := cell_regrown y4
      have k5 := cell_regrown y5
      have cE : ∀ d os, Calls Tryd.prog 31 #[.agg #[.int .i64 x.1, .int .i64 x.2.1, .int .i64 x.2.2], .agg #[.int .i64 x.1, .int .i64 x.2.1, .int .i64 x.2.2]] (Sort.grow (redrawn wr d) os) fun e w'' => e = .returned (.bool true) ∧ ∃ p : Regrown, w'' = Sort.grow (redrawn wr p.d) p.os :=
        fun d os => Calls.regrown_of (eqa_r _ _ _ _)
      go_upto_region 6 with fail
      refine wp_region_quiet_below (by kernel_rfl) (by kernel_rfl) ?_
      repeat (go_big_quiet_step (first | exact cE _ _))
      refine wpQuiet_nil ?_
      intro _ hw'
      obtain ⟨⟨dq, osq⟩, hw''⟩ := hw'
      subst hw''
      go_wp2
      go_roundg (gk - 1)
      case measure => omega
      case rel => exact ⟨n + 1, by omega, by simp, hb.trans ((below_regrown wr dq osq).mono hb.size)⟩
    · have i1 : ¬ ((n : Int) < (len : Int)) := by omega
      go_wp2
      go_ret
      exact ⟨rfl, hb⟩

set_option maxHeartbeats 1000000 in
theorem eq_r (op : Int) (a1 a2 : Option Addr) (xs : List Arg) (len c1 c2 : Nat) (hlen : len = xs.length) (hbig : len ≤ 1048576) (w : World) (h1 : Sl w a1 xs) (h2 : Sl w a2 xs) :
    Calls Tryd.prog 8 #[.agg #[.int .i64 op, .slice a1 len c1], .agg #[.int .i64 op, .slice a2 len c2]] w fun e w' => e = .returned (.bool true) ∧ Below w.heap.size w w' := by
  have HE : Hid (∀ W, Below w.heap.size w W → Calls Tryd.prog 18 #[.slice a1 len c1, .slice a2 len c2] W fun e w' => e = .returned (.bool true) ∧ Below W.heap.size W w') := fun W h => eqs_r a1 a2 xs len c1 c2 hlen hbig W (h1.later h) (h2.later h)
  clear hlen
  have b0 : Below w.heap.size w ((w.alloc (.cells #[.int .i64 op, .slice a1 len c1] 28)).alloc (.cells #[.int .i64 op, .slice a2 len c2] 28)) := ((Below.refl _ _).alloc (Nat.le_refl _) _).alloc (by simp) _
  go_enter Tryd.func8, Tryd.ntmps8
  go_wp2_with fail
  refine (HE.out _ b0).mono ?_
  rintro e w1 ⟨rfl, g1⟩
  have b1 := b0.trans (g1.mono b0.size)
  clear g1
  go_wp2
  go_ret
  exact ⟨rfl, b1⟩
end Go.Proofs.YtlgacbjopobeoaaDoor

