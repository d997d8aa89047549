/- Steps of regions that draw; l5Same: real numbers that are one. -/
import Derived.Test.YtjnddfpieogpiaaGreatDoorTt6M
import Derived.Test.YtjnddfpieogpiaaGreatDoorQbM
import Derived.Test.YtjnddfpieogpiaaGreatDoorMmM
import Derived.Deep.Cut
import Derived.Test.YtjnddfpieogpiaaGreatDoorEM
import Derived.Lib.QuietBelow
namespace Go.Proofs.YtjnddfpieogpiaaGreatDoor.Rr
open Go.RowKit
set_option linter.unusedVariables false

section
variable {P : Program} {ops : Array Oper} {Q : Exit → Act → World → Prop} {S : World → Prop} {md : Region.Mode}
theorem tk_val' {i : Nat} {oi : Oper} {fuel : Nat} {listed : Array Bool} {a : Act} {w : World} (hi : ops[i]? = some oi)
    (hs : Region.noSelect ops = true) (hf : Region.free md ops listed i = true) (hr : (Region.ready md ops listed).contains i = true)
    (hQ : ∀ (v : Value) c a w, Q (.panic c) (a.put oi.dst v) w → Q (.panic c) a w) (hw : Region.wanted oi (yielded ops a.tmps) = true) (v : Value) (hrun : ∀ w, S w → (execOp a.eval oi).run P w = .ok (.value v) w) (hS : S w)
    (l' : Array Bool) (hl : listed.setIfInBounds i true = l') (a' : Act) (ha : a.put oi.dst v = a')
    (h : wpAnyH P md ops Q S fuel l' a' w) : wpAnyH P md ops Q S (fuel + 1) listed a w := by
  subst hl ha
  exact wpAnyH_take hi hs hf hr (hQ v) (.inl ⟨hw, hrun⟩) hS h
theorem up_val' {i : Nat} {o : Oper} {fuel : Nat} {listed : Array Bool} {a : Act} {w : World} (ho : ops[i]? = some o) (hw : Region.wanted o (yielded ops a.tmps) = true) (v : Value) (w' : World)
    (hrun : (execOp a.eval o).run P w = .ok (.value v) w') (hS : S w') (l' : Array Bool) (hl : listed.setIfInBounds i true = l') (a' : Act) (ha : a.put o.dst v = a') (h : wpAnyH P md ops Q S fuel l' a' w') :
    wpOp P ops Q i (fun a' w' => S w' ∧ wpAnyH P md ops Q S fuel (listed.setIfInBounds i true) a' w') a w := by
  subst hl ha
  exact up_value ho hw v w' hrun hS h
end

/-- A guarded load of whatever type, its run given. -/
theorem wpL_loadW {P : Program} {ops : Array Oper} {rest : List Oper} {o : Oper} {a : Act} {w : World} {Q : Exit → Act → World → Prop} (hw : Region.wanted o (yielded ops a.tmps) = true) (ty : TypeId) (x : Operand) (ho : o.op = .load ty x)
    (g f : Nat) (hx : a.eval x = .pointer (some ⟨g, f, none⟩)) (v : Value) (hrun : (loadVar ty ⟨g, f, none⟩).run P w = .ok v w)
    (h : wpList P ops Q rest (a.put o.dst v) w) : wpList P ops Q (o :: rest) a w :=
  BigFrame.wpList_want hw fun _ hK => by
    unfold Oper.wp execOp
    simp only [ho, hx, Instr.loadAt, Instr.sureAddr, Sem.run_bind, Sem.run_pure, Result.andThen_ok, hrun]
    exact hK _ _ h


theorem tx_data6 (l : List UInt8) : (tx l).data.toList = l := by simp [tx]
theorem tx_toList6 (l : List UInt8) : (tx l).toList = l := by rw [Lib.toList_data, tx_data6]

set_option maxHeartbeats 1000000 in
theorem same_s (x y : Nat) (hx : x < 18446744073709551616) (hy : y < 18446744073709551616) (w : World) :
    Calls Tryz.prog 30 #[.float .f64 x, .float .f64 y] w fun e w' => e = .returned (.bool (decide (Same x y))) ∧ Below w.heap.size w w' := by
  have HX : Hid (x < 18446744073709551616) := hx
  have HY : Hid (y < 18446744073709551616) := hy
  obtain ⟨b, HB⟩ : ∃ b, Hid (b = decide (Same x y)) := ⟨_, rfl⟩
  rw [← HB.out]
  clear hx hy
  go_enter Tryz.func30, Tryz.ntmps30
  go_wp2_with fail
  refine (spec_rtext x _ HX.out).mono ?_
  rintro e w1 ⟨t, rfl, ht, g1⟩
  have HT : Hid (Txt x t) := ht
  obtain ⟨D, HD⟩ : ∃ D, Hid (D = tx t) := ⟨_, rfl⟩
  rw [← HD.out]
  clear ht
  go_wp2_with fail
  refine (spec_rtext y _ HY.out).mono ?_
  rintro e w2 ⟨s, rfl, hs, g2⟩
  obtain ⟨F, HF⟩ : ∃ F, Hid (F = tx s) := ⟨_, rfl⟩
  rw [← HF.out]
  have B2 := g1.trans (g2.mono g1.size)
  have heq : (D.toList == F.toList) = b := by
    rw [HB.out, HD.out, HF.out, tx_toList6, tx_toList6]
    by_cases hh : Same x y
    · rw [decide_eq_true hh, HT.out.same hs hh]; simp
    · rw [decide_eq_false hh]
      refine beq_eq_false_iff_ne.2 fun e => hh ?_
      subst e
      exact HT.out.inj HX.out HY.out hs
  clear hs HT HD HF g1 g2 HB
  go_wp2
  go_ret
  exact ⟨by rw [← heq]; rfl, B2⟩
end Go.Proofs.YtjnddfpieogpiaaGreatDoor.Rr
/- MemSame of a memory with itself. -/
namespace Go.Proofs.YtjnddfpieogpiaaGreatDoor.Rr
open Go.RowKit
set_option linter.unusedVariables false

theorem tobits (n : Nat) (w : World) : (callFunc 112 #[.float .f64 n]).run Tryz.prog w = .ok (.value (.int .u64 (n : Int))) w :=
  (run_callFunc_extern Tryz.func112 (by kernel_rfl) (by kernel_rfl) (by kernel_rfl) (e := Extern.MathFloatBits.float64bits) (by kernel_rfl) _ w).trans rfl
attribute [go_sem] tobits

/-- What tells a real number apart. -/
def exactOf (v : Value) : Value := match v with | .float _ x => if Fm.isN x then .int .u64 9221120237041090561 else .int .u64 (x : Int) | v => v

theorem exact_nan {x : Nat} (h : Fm.isN x) : exactOf (.float .f64 x) = .int .u64 9221120237041090561 := if_pos h
theorem exact_num {x : Nat} (h : ¬ Fm.isN x) : exactOf (.float .f64 x) = .int .u64 (x : Int) := if_neg h

end Go.Proofs.YtjnddfpieogpiaaGreatDoor.Rr
/- MemSame of the program, both ways. -/
namespace Go.Proofs.YtjnddfpieogpiaaGreatDoor.Rr
open Go.RowKit
set_option linter.unusedVariables false

/-- What makes two memories one. -/
def MS (c d : Array Value) : Prop := (∀ j, j < 16 → ((c.extract 117 133).map exactOf)[j]? = ((d.extract 117 133).map exactOf)[j]?) ∧ AgreeOn (noReal c) (noReal d) 0 136

end Go.Proofs.YtjnddfpieogpiaaGreatDoor.Rr
/- MemSame of the specification, both ways. -/
namespace Go.Proofs.YtjnddfpieogpiaaGreatDoor.Rr
open Go.RowKit
set_option linter.unusedVariables false

theorem info_T : (Tryz.prog.info? 27).map (·.size) = some 2 := by kernel_rfl
theorem info_C : (Tryz.prog.info? 30).map (·.size) = some 3 := by kernel_rfl

/-- What a round of the first loop asks. -/
def Pass (c d : Array Value) (j : Nat) : Prop := c[117 + j]?.map exactOf = d[117 + j]?.map exactOf ∧ AgreeOn c d (5 + j * 2) 2 ∧ AgreeOn c d (37 + j * 3) 3

theorem ms_iff {c d : Array Value} (hc : MemOk c) (hd : MemOk d) : MS c d ↔ (∀ j, j < 16 → Pass c d j) ∧ (∀ j, j < 32 → c[85 + j]? = d[85 + j]?) ∧ c[0]? = d[0]? ∧ c[1]? = d[1]? ∧ c[2]? = d[2]? ∧ c[3]? = d[3]? ∧ c[4]? = d[4]? ∧ c[133]? = d[133]? ∧ c[134]? = d[134]? ∧ c[135]? = d[135]? := by
  have ag : AgreeOn (noReal c) (noReal d) 0 136 ↔ ∀ i, i < 136 → (i < 117 ∨ 133 ≤ i) → c[i]? = d[i]? := by
    constructor
    · intro h i hi h2
      have := h i (by omega) (by omega)
      rwa [noReal_get hc, noReal_get hd, if_neg (by omega), if_neg (by omega)] at this
    · intro h i h1 h2
      rw [noReal_get hc, noReal_get hd]
      by_cases hi : 117 ≤ i ∧ i < 133
      · rw [if_pos hi, if_pos hi]
      · rw [if_neg hi, if_neg hi]; exact h i (by omega) (by omega)
  have ex : ∀ (e : Array Value) j, j < 16 → ((e.extract 117 133).map exactOf)[j]? = e[117 + j]?.map exactOf := fun e j hj => by rw [Array.getElem?_map, ex_get _ _ _ _ (by omega)]
  unfold MS Pass
  rw [ag]
  constructor
  · rintro ⟨h1, h2⟩
    refine ⟨fun j hj => ⟨?_, fun i i1 i2 => h2 i (by omega) (by omega), fun i i1 i2 => h2 i (by omega) (by omega)⟩, fun j hj => h2 _ (by omega) (by omega), h2 0 (by omega) (by omega), h2 1 (by omega) (by omega), h2 2 (by omega) (by omega), h2 3 (by omega) (by omega), h2 4 (by omega) (by omega), h2 133 (by omega) (by omega), h2 134 (by omega) (by omega), h2 135 (by omega) (by omega)⟩
    have := h1 j hj
    rwa [ex c j hj, ex d j hj] at this
  · rintro ⟨h1, h2, h3, h4, h5, h6, h7, h8, h9, h10⟩
    refine ⟨fun j hj => by rw [ex c j hj, ex d j hj]; exact (h1 j hj).1, fun i i1 i2 => ?_⟩
    by_cases a1 : i < 5
    · rcases (by omega : i = 0 ∨ i = 1 ∨ i = 2 ∨ i = 3 ∨ i = 4) with rfl | rfl | rfl | rfl | rfl <;> assumption
    · by_cases a2 : i < 37
      · exact (h1 ((i - 5) / 2) (by omega)).2.1 i (by omega) (by omega)
      · by_cases a3 : i < 85
        · exact (h1 ((i - 37) / 3) (by omega)).2.2 i (by omega) (by omega)
        · by_cases a4 : i < 117
          · have := h2 (i - 85) (by omega)
            rwa [show 85 + (i - 85) = i by omega] at this
          · rcases (by omega : i = 133 ∨ i = 134 ∨ i = 135) with rfl | rfl | rfl <;> assumption
theorem same_exact {x y : Nat} : Same x y ↔ exactOf (.float .f64 x) = exactOf (.float .f64 y) := by
  by_cases hx : Fm.isN x
  · by_cases hy : Fm.isN y
    · rw [exact_nan hx, exact_nan hy]; exact ⟨fun _ => rfl, fun _ => .inr ⟨hx, hy⟩⟩
    · rw [exact_nan hx, exact_num hy]
      constructor
      · rintro (rfl | ⟨_, h⟩)
        · exact absurd hx hy
        · exact absurd h hy
      · intro h
        exfalso
        injection h with _ h
        have : y = 9221120237041090561 := by omega
        subst this
        exact hy (by decide +kernel)
  · by_cases hy : Fm.isN y
    · rw [exact_num hx, exact_nan hy]
      constructor
      · rintro (rfl | ⟨h, _⟩)
        · exact absurd hy hx
        · exact absurd h hx
      · intro h
        exfalso
        injection h with _ h
        have : x = 9221120237041090561 := by omega
        subst this
        exact hx (by decide +kernel)
    · rw [exact_num hx, exact_num hy]
      constructor
      · rintro (rfl | ⟨h, _⟩)
        · rfl
        · exact absurd h hx
      · intro h
        injection h with _ h
        exact .inl (by omega)
end Go.Proofs.YtjnddfpieogpiaaGreatDoor.Rr
/- MemSame of the specification, both ways. -/
namespace Go.Proofs.YtjnddfpieogpiaaGreatDoor.Rr
open Go.RowKit
set_option linter.unusedVariables false

theorem load_cell {W : World} {g o : Nat} {t ty : TypeId} {C : Array Value} {fr : Nat × Nat} {v : Value} {dd : TypeDesc} (h : W.heap[g]? = some (.cells C t fr)) (hv : C[o]? = some v) (hu : Tryz.prog.underlying ty = some dd) (hd : dd.isRow = false) : (loadVar ty ⟨g, o, none⟩).run Tryz.prog W = .ok v W := by
  have hc : W.cell? ⟨g, o, none⟩ = some v := (cell_of_row _ _ _ _ _ _ h).trans hv
  have hagg : (isAgg ty).run Tryz.prog W = .ok false W := by
    unfold isAgg
    simp only [Sem.run_bind, run_underlying hu, Result.andThen_ok]
    cases dd <;> simp [TypeDesc.isRow] at hd <;> simp
  simp [loadVar, go_sem, hagg, hc]

theorem timers_eq {c d : Array Value} (hc : MemOk c) (hd : MemOk d) {n : Nat} (hn : n < 16) : EqD Tryz.prog 10000 27 (.agg (c.extract (5 + n * 2) (5 + n * 2 + 2))) (.agg (d.extract (5 + n * 2) (5 + n * 2 + 2))) (AgreeOn c d (5 + n * 2) 2) := by
  obtain ⟨b, hb⟩ := hc.bool (i := 5 + 2 * n) (by omega) (kd_t hn).1
  obtain ⟨m, hm, _⟩ := hc.u16 (i := 5 + 2 * n + 1) (by omega) (kd_t hn).2
  obtain ⟨b', hb'⟩ := hd.bool (i := 5 + 2 * n) (by omega) (kd_t hn).1
  obtain ⟨m', hm', _⟩ := hd.u16 (i := 5 + 2 * n + 1) (by omega) (kd_t hn).2
  refine (eqD_timer 9998 (b := b) (n := m) (b' := b') (n' := m') ?_ ?_ ?_ ?_).iff (ex_agree (by omega))
  · rw [ex_get _ _ _ _ (by omega), show 5 + n * 2 + 0 = 5 + 2 * n by omega]; exact hb
  · rw [ex_get _ _ _ _ (by omega), show 5 + n * 2 + 1 = 5 + 2 * n + 1 by omega]; exact hm
  · rw [ex_get _ _ _ _ (by omega), show 5 + n * 2 + 0 = 5 + 2 * n by omega]; exact hb'
  · rw [ex_get _ _ _ _ (by omega), show 5 + n * 2 + 1 = 5 + 2 * n + 1 by omega]; exact hm'
theorem counters_eq {c d : Array Value} (hc : MemOk c) (hd : MemOk d) {n : Nat} (hn : n < 16) : EqD Tryz.prog 10000 30 (.agg (c.extract (37 + n * 3) (37 + n * 3 + 3))) (.agg (d.extract (37 + n * 3) (37 + n * 3 + 3))) (AgreeOn c d (37 + n * 3) 3) := by
  obtain ⟨b, hb⟩ := hc.bool (i := 37 + 3 * n) (by omega) (kd_c hn).1
  obtain ⟨l, hl⟩ := hc.bool (i := 37 + 3 * n + 1) (by omega) (kd_c hn).2.1
  obtain ⟨m, hm, _⟩ := hc.u16 (i := 37 + 3 * n + 2) (by omega) (kd_c hn).2.2
  obtain ⟨b', hb'⟩ := hd.bool (i := 37 + 3 * n) (by omega) (kd_c hn).1
  obtain ⟨l', hl'⟩ := hd.bool (i := 37 + 3 * n + 1) (by omega) (kd_c hn).2.1
  obtain ⟨m', hm', _⟩ := hd.u16 (i := 37 + 3 * n + 2) (by omega) (kd_c hn).2.2
  refine (eqD_counter 9998 (b := b) (l := l) (n := m) (b' := b') (l' := l') (n' := m') ?_ ?_ ?_ ?_ ?_ ?_).iff (ex_agree (by omega))
  · rw [ex_get _ _ _ _ (by omega), show 37 + n * 3 + 0 = 37 + 3 * n by omega]; exact hb
  · rw [ex_get _ _ _ _ (by omega), show 37 + n * 3 + 1 = 37 + 3 * n + 1 by omega]; exact hl
  · rw [ex_get _ _ _ _ (by omega), show 37 + n * 3 + 2 = 37 + 3 * n + 2 by omega]; exact hm
  · rw [ex_get _ _ _ _ (by omega), show 37 + n * 3 + 0 = 37 + 3 * n by omega]; exact hb'
  · rw [ex_get _ _ _ _ (by omega), show 37 + n * 3 + 1 = 37 + 3 * n + 1 by omega]; exact hl'
  · rw [ex_get _ _ _ _ (by omega), show 37 + n * 3 + 2 = 37 + 3 * n + 2 by omega]; exact hm'

set_option maxRecDepth 10000 in
set_option maxHeartbeats 4000000 in
theorem same_m (c d : Array Value) (hc : MemOk c) (hd : MemOk d) (b : Bool) (hb : b = true ↔ MS c d) (w : World) :
    Calls Tryz.prog 9 #[.agg c, .agg d] w fun e w' => e = .returned (.bool b) ∧ Below w.heap.size w w' := by
  have HC : Hid (MemOk c) := hc
  have HD : Hid (MemOk d) := hd
  have HB : Hid (b = true ↔ (∀ j, j < 16 → Pass c d j) ∧ (∀ j, j < 32 → c[85 + j]? = d[85 + j]?) ∧ c[0]? = d[0]? ∧ c[1]? = d[1]? ∧ c[2]? = d[2]? ∧ c[3]? = d[3]? ∧ c[4]? = d[4]? ∧ c[133]? = d[133]? ∧ c[134]? = d[134]? ∧ c[135]? = d[135]?) := hb.trans (ms_iff hc hd)
  clear hb hc hd
  go_enter Tryz.func9, Tryz.ntmps9
  go_wp2_with fail
  go_loopg [5] 16 (fun g i wr => ∃ n : Nat, n + g = 16 ∧ i = .int .i64 n ∧ Below w.heap.size w wr ∧ wr.heap[w.heap.size]? = some (.cells c 37 (0, 0)) ∧ wr.heap[w.heap.size + 1]? = some (.cells d 37 (0, 0)) ∧ ∀ j, j < n → Pass c d j)
  case atStart => exact ⟨0, by omega, rfl, ((Below.refl _ _).alloc (Nat.le_refl _) _).alloc (by simp) _, (rows2 w _ _).1, (rows2 w _ _).2, fun j hj => by omega⟩
  case round =>
    obtain ⟨n, hn, rfl, hbl, h1, h2, hp⟩ := hrel
    by_cases hlt : n < 16
    · have i1 : (n : Int) < 16 := by omega
      have i3 : (0 : Int) ≤ (n : Int) := by omega
      obtain ⟨x, hx, fx⟩ := HC.out.f64 (i := 117 + n) (by omega) (kd_r hlt)
      obtain ⟨y, hy, fy⟩ := HD.out.f64 (i := 117 + n) (by omega) (kd_r hlt)
      have HS : Hid (∀ W, Calls Tryz.prog 30 #[.float .f64 x, .float .f64 y] W fun e w' => e = .returned (.bool (decide (Same x y))) ∧ Below W.heap.size W w') := fun W => same_s x y fx fy W
      have H1 : Hid (wr.heap[w.heap.size]? = some (.cells c 37 (0, 0))) := h1
      have H2 : Hid (wr.heap[w.heap.size + 1]? = some (.cells d 37 (0, 0))) := h2
      have HBL : Hid (Below w.heap.size w wr) := hbl
      have HP : Hid (∀ j, j < n → Pass c d j) := hp
      have HX : Hid (c[117 + n]? = some (.float .f64 x)) := hx
      have HY : Hid (d[117 + n]? = some (.float .f64 y)) := hy
      have HXY : Hid (c[117 + n]?.map exactOf = d[117 + n]?.map exactOf ↔ Same x y) := (by rw [hx, hy, same_exact]; simp : c[117 + n]?.map exactOf = d[117 + n]?.map exactOf ↔ Same x y)
      obtain ⟨rt, hrt, hrt'⟩ := timers_eq HC.out HD.out hlt
      obtain ⟨rc, hrc, hrc'⟩ := counters_eq HC.out HD.out hlt
      obtain ⟨TA, HTA⟩ : ∃ T, Hid (T = c.extract (5 + n * 2) (5 + n * 2 + 2)) := ⟨_, rfl⟩
      obtain ⟨TB, HTB⟩ : ∃ T, Hid (T = d.extract (5 + n * 2) (5 + n * 2 + 2)) := ⟨_, rfl⟩
      obtain ⟨CA, HCA⟩ : ∃ T, Hid (T = c.extract (37 + n * 3) (37 + n * 3 + 3)) := ⟨_, rfl⟩
      obtain ⟨CB, HCB⟩ : ∃ T, Hid (T = d.extract (37 + n * 3) (37 + n * 3 + 3)) := ⟨_, rfl⟩
      rw [← HTA.out, ← HTB.out] at hrt
      rw [← HCA.out, ← HCB.out] at hrc
      have HRT : Hid (rt = true ↔ AgreeOn c d (5 + n * 2) 2) := hrt'
      have HRC : Hid (rc = true ↔ AgreeOn c d (37 + n * 3) 3) := hrc'
      have HNF : Hid (¬ Pass c d n → b = false) := fun h => by
        cases hbb : b with
        | false => rfl
        | true => exact absurd ((HB.out.1 hbb).1 n hlt) h
      clear hx hy fx fy h1 h2 hbl hp hrt' hrc'
      by_cases hs : Same x y
      · rw [decide_eq_true hs] at HS
        have HXS : Hid (c[117 + n]?.map exactOf = d[117 + n]?.map exactOf) := HXY.out.2 hs
        clear hs HXY
        cases rt with
        | true =>
          have HTT : Hid (AgreeOn c d (5 + n * 2) 2) := HRT.out.1 rfl
          clear HRT
          cases rc with
          | true =>
            have HPass : Hid (Pass c d n) := (⟨HXS.out, HTT.out, HRC.out.1 rfl⟩ : Pass c d n)
            clear HRC HTT HXS HNF
            go_upto_region 4 with fail
            have cS : ∀ dd os, Calls Tryz.prog 30 #[.float .f64 x, .float .f64 y] (Sort.grow (redrawn wr dd) os) fun e w'' => e = .returned (.bool true) ∧ ∃ p : Regrown, w'' = Sort.grow (redrawn wr p.d) p.os := fun dd os => Calls.regrown_of (HS.out _)
            refine wp_region_quiet_below (by kernel_rfl) (by kernel_rfl) ?_
            go_big_quiet_step (first | with_reducible exact cS _ _)
            go_big_quiet_step (first | with_reducible exact cS _ _)
            go_big_quiet_step (first | with_reducible exact cS _ _)
            refine wpQ_load rfl 34 (.tmp 13) rfl _ _ rfl (.float .f64 x) (fun W hW => load_cell (row_regrown H1.out hW) HX.out Tryz.underlying34 rfl) ?_; simp only [Act.put, List.setIfInBounds_toArray, List.set_cons_succ, List.set_cons_zero]
            go_big_quiet_step (first | with_reducible exact cS _ _)
            go_big_quiet_step (first | with_reducible exact cS _ _)
            go_big_quiet_step (first | with_reducible exact cS _ _)
            refine wpQ_load rfl 34 (.tmp 17) rfl _ _ rfl (.float .f64 y) (fun W hW => load_cell (row_regrown H2.out hW) HY.out Tryz.underlying34 rfl) ?_; simp only [Act.put, List.setIfInBounds_toArray, List.set_cons_succ, List.set_cons_zero]
            go_big_quiet_step (first | with_reducible exact cS _ _)
            go_big_quiet_step (first | with_reducible exact cS _ _)
            go_big_quiet_step (first | with_reducible exact cS _ _)
            go_big_quiet_step (first | with_reducible exact cS _ _)
            go_big_quiet_step (first | with_reducible exact cS _ _)
            go_big_quiet_step (first | with_reducible exact cS _ _)
            refine wpQ_load rfl 27 (.tmp 24) rfl _ _ rfl (.agg TA) (fun W hW => by rw [HTA.out]; exact load_sub (row_regrown H1.out hW) _ _ (5 + n * 2) 2 (by rw [HC.out.size]; omega) Tryz.underlying27 rfl info_T) ?_; simp only [Act.put, List.setIfInBounds_toArray, List.set_cons_succ, List.set_cons_zero]
            go_big_quiet_step (first | with_reducible exact cS _ _)
            go_big_quiet_step (first | with_reducible exact cS _ _)
            go_big_quiet_step (first | with_reducible exact cS _ _)
            refine wpQ_load rfl 27 (.tmp 28) rfl _ _ rfl (.agg TB) (fun W hW => by rw [HTB.out]; exact load_sub (row_regrown H2.out hW) _ _ (5 + n * 2) 2 (by rw [HD.out.size]; omega) Tryz.underlying27 rfl info_T) ?_; simp only [Act.put, List.setIfInBounds_toArray, List.set_cons_succ, List.set_cons_zero]
            go_big_quiet_step (first | with_reducible exact cS _ _)
            go_big_quiet_step (first | with_reducible exact cS _ _)
            go_big_quiet_step (first | with_reducible exact cS _ _)
            go_big_quiet_step (first | with_reducible exact cS _ _)
            go_big_quiet_step (first | with_reducible exact cS _ _)
            go_big_quiet_step (first | with_reducible exact cS _ _)
            refine wpQ_load rfl 30 (.tmp 35) rfl _ _ rfl (.agg CA) (fun W hW => by rw [HCA.out]; exact load_sub (row_regrown H1.out hW) _ _ (37 + n * 3) 3 (by rw [HC.out.size]; omega) Tryz.underlying30 rfl info_C) ?_; simp only [Act.put, List.setIfInBounds_toArray, List.set_cons_succ, List.set_cons_zero]
            go_big_quiet_step (first | with_reducible exact cS _ _)
            go_big_quiet_step (first | with_reducible exact cS _ _)
            go_big_quiet_step (first | with_reducible exact cS _ _)
            refine wpQ_load rfl 30 (.tmp 39) rfl _ _ rfl (.agg CB) (fun W hW => by rw [HCB.out]; exact load_sub (row_regrown H2.out hW) _ _ (37 + n * 3) 3 (by rw [HD.out.size]; omega) Tryz.underlying30 rfl info_C) ?_; simp only [Act.put, List.setIfInBounds_toArray, List.set_cons_succ, List.set_cons_zero]
            go_big_quiet_step (first | with_reducible exact cS _ _)
            go_big_quiet_step (first | with_reducible exact cS _ _)
            refine wpQuiet_nil ?_
            intro w7 hw'
            have K1 := row_regrown H1.out hw'
            have K2 := row_regrown H2.out hw'
            have b7 : Below w.heap.size w w7 := by
              obtain ⟨⟨dq, osq⟩, rfl⟩ := hw'
              exact HBL.out.trans ((below_regrown wr dq osq).mono HBL.out.size)
            clear hw' cS
            have HK1 : Hid (w7.heap[w.heap.size]? = some (.cells c 37 (0, 0))) := K1
            have HK2 : Hid (w7.heap[w.heap.size + 1]? = some (.cells d 37 (0, 0))) := K2
            have HB7 : Hid (Below w.heap.size w w7) := b7
            clear K1 K2 b7
            go_wp2
            go_roundg (gk - 1)
            case measure => omega
            case rel =>
              refine ⟨n + 1, by omega, by simp, HB7.out, HK1.out, HK2.out, fun j hj => ?_⟩
              by_cases hjn : j = n
              · subst hjn; exact HPass.out
              · exact HP.out j (by omega)
          | false =>
            have HF : Hid (b = false) := HNF.out fun h => absurd (HRC.out.2 h.2.2) (by decide)
            clear HRC HTT HXS HNF
            go_upto_region 4 with fail
            have cS : ∀ dd os, Calls Tryz.prog 30 #[.float .f64 x, .float .f64 y] (Sort.grow (redrawn wr dd) os) fun e w'' => e = .returned (.bool true) ∧ ∃ p : Regrown, w'' = Sort.grow (redrawn wr p.d) p.os := fun dd os => Calls.regrown_of (HS.out _)
            refine wp_region_quiet_below (by kernel_rfl) (by kernel_rfl) ?_
            go_big_quiet_step (first | with_reducible exact cS _ _)
            go_big_quiet_step (first | with_reducible exact cS _ _)
            go_big_quiet_step (first | with_reducible exact cS _ _)
            refine wpQ_load rfl 34 (.tmp 13) rfl _ _ rfl (.float .f64 x) (fun W hW => load_cell (row_regrown H1.out hW) HX.out Tryz.underlying34 rfl) ?_; simp only [Act.put, List.setIfInBounds_toArray, List.set_cons_succ, List.set_cons_zero]
            go_big_quiet_step (first | with_reducible exact cS _ _)
            go_big_quiet_step (first | with_reducible exact cS _ _)
            go_big_quiet_step (first | with_reducible exact cS _ _)
            refine wpQ_load rfl 34 (.tmp 17) rfl _ _ rfl (.float .f64 y) (fun W hW => load_cell (row_regrown H2.out hW) HY.out Tryz.underlying34 rfl) ?_; simp only [Act.put, List.setIfInBounds_toArray, List.set_cons_succ, List.set_cons_zero]
            go_big_quiet_step (first | with_reducible exact cS _ _)
            go_big_quiet_step (first | with_reducible exact cS _ _)
            go_big_quiet_step (first | with_reducible exact cS _ _)
            go_big_quiet_step (first | with_reducible exact cS _ _)
            go_big_quiet_step (first | with_reducible exact cS _ _)
            go_big_quiet_step (first | with_reducible exact cS _ _)
            refine wpQ_load rfl 27 (.tmp 24) rfl _ _ rfl (.agg TA) (fun W hW => by rw [HTA.out]; exact load_sub (row_regrown H1.out hW) _ _ (5 + n * 2) 2 (by rw [HC.out.size]; omega) Tryz.underlying27 rfl info_T) ?_; simp only [Act.put, List.setIfInBounds_toArray, List.set_cons_succ, List.set_cons_zero]
            go_big_quiet_step (first | with_reducible exact cS _ _)
            go_big_quiet_step (first | with_reducible exact cS _ _)
            go_big_quiet_step (first | with_reducible exact cS _ _)
            refine wpQ_load rfl 27 (.tmp 28) rfl _ _ rfl (.agg TB) (fun W hW => by rw [HTB.out]; exact load_sub (row_regrown H2.out hW) _ _ (5 + n * 2) 2 (by rw [HD.out.size]; omega) Tryz.underlying27 rfl info_T) ?_; simp only [Act.put, List.setIfInBounds_toArray, List.set_cons_succ, List.set_cons_zero]
            go_big_quiet_step (first | with_reducible exact cS _ _)
            go_big_quiet_step (first | with_reducible exact cS _ _)
            go_big_quiet_step (first | with_reducible exact cS _ _)
            go_big_quiet_step (first | with_reducible exact cS _ _)
            go_big_quiet_step (first | with_reducible exact cS _ _)
            go_big_quiet_step (first | with_reducible exact cS _ _)
            refine wpQ_load rfl 30 (.tmp 35) rfl _ _ rfl (.agg CA) (fun W hW => by rw [HCA.out]; exact load_sub (row_regrown H1.out hW) _ _ (37 + n * 3) 3 (by rw [HC.out.size]; omega) Tryz.underlying30 rfl info_C) ?_; simp only [Act.put, List.setIfInBounds_toArray, List.set_cons_succ, List.set_cons_zero]
            go_big_quiet_step (first | with_reducible exact cS _ _)
            go_big_quiet_step (first | with_reducible exact cS _ _)
            go_big_quiet_step (first | with_reducible exact cS _ _)
            refine wpQ_load rfl 30 (.tmp 39) rfl _ _ rfl (.agg CB) (fun W hW => by rw [HCB.out]; exact load_sub (row_regrown H2.out hW) _ _ (37 + n * 3) 3 (by rw [HD.out.size]; omega) Tryz.underlying30 rfl info_C) ?_; simp only [Act.put, List.setIfInBounds_toArray, List.set_cons_succ, List.set_cons_zero]
            go_big_quiet_step (first | with_reducible exact cS _ _)
            go_big_quiet_step (first | with_reducible exact cS _ _)
            refine wpQuiet_nil ?_
            intro w7 hw'
            have K1 := row_regrown H1.out hw'
            have K2 := row_regrown H2.out hw'
            have b7 : Below w.heap.size w w7 := by
              obtain ⟨⟨dq, osq⟩, rfl⟩ := hw'
              exact HBL.out.trans ((below_regrown wr dq osq).mono HBL.out.size)
            clear hw' cS
            clear K1 K2
            go_wp2
            go_ret
            exact ⟨by rw [HF.out]; rfl, b7⟩
        | false =>
          have HF : Hid (b = false) := HNF.out fun h => absurd (HRT.out.2 h.2.1) (by decide)
          clear HRT HRC HXS HNF
          go_upto_region 4 with fail
          have cS : ∀ dd os, Calls Tryz.prog 30 #[.float .f64 x, .float .f64 y] (Sort.grow (redrawn wr dd) os) fun e w'' => e = .returned (.bool true) ∧ ∃ p : Regrown, w'' = Sort.grow (redrawn wr p.d) p.os := fun dd os => Calls.regrown_of (HS.out _)
          refine wp_region_quiet_below (by kernel_rfl) (by kernel_rfl) ?_
          go_big_quiet_step (first | with_reducible exact cS _ _)
          go_big_quiet_step (first | with_reducible exact cS _ _)
          go_big_quiet_step (first | with_reducible exact cS _ _)
          refine wpQ_load rfl 34 (.tmp 13) rfl _ _ rfl (.float .f64 x) (fun W hW => load_cell (row_regrown H1.out hW) HX.out Tryz.underlying34 rfl) ?_; simp only [Act.put, List.setIfInBounds_toArray, List.set_cons_succ, List.set_cons_zero]
          go_big_quiet_step (first | with_reducible exact cS _ _)
          go_big_quiet_step (first | with_reducible exact cS _ _)
          go_big_quiet_step (first | with_reducible exact cS _ _)
          refine wpQ_load rfl 34 (.tmp 17) rfl _ _ rfl (.float .f64 y) (fun W hW => load_cell (row_regrown H2.out hW) HY.out Tryz.underlying34 rfl) ?_; simp only [Act.put, List.setIfInBounds_toArray, List.set_cons_succ, List.set_cons_zero]
          go_big_quiet_step (first | with_reducible exact cS _ _)
          go_big_quiet_step (first | with_reducible exact cS _ _)
          go_big_quiet_step (first | with_reducible exact cS _ _)
          go_big_quiet_step (first | with_reducible exact cS _ _)
          go_big_quiet_step (first | with_reducible exact cS _ _)
          go_big_quiet_step (first | with_reducible exact cS _ _)
          refine wpQ_load rfl 27 (.tmp 24) rfl _ _ rfl (.agg TA) (fun W hW => by rw [HTA.out]; exact load_sub (row_regrown H1.out hW) _ _ (5 + n * 2) 2 (by rw [HC.out.size]; omega) Tryz.underlying27 rfl info_T) ?_; simp only [Act.put, List.setIfInBounds_toArray, List.set_cons_succ, List.set_cons_zero]
          go_big_quiet_step (first | with_reducible exact cS _ _)
          go_big_quiet_step (first | with_reducible exact cS _ _)
          go_big_quiet_step (first | with_reducible exact cS _ _)
          refine wpQ_load rfl 27 (.tmp 28) rfl _ _ rfl (.agg TB) (fun W hW => by rw [HTB.out]; exact load_sub (row_regrown H2.out hW) _ _ (5 + n * 2) 2 (by rw [HD.out.size]; omega) Tryz.underlying27 rfl info_T) ?_; simp only [Act.put, List.setIfInBounds_toArray, List.set_cons_succ, List.set_cons_zero]
          go_big_quiet_step (first | with_reducible exact cS _ _)
          go_big_quiet_step (first | with_reducible exact cS _ _)
          go_big_quiet_step (first | with_reducible exact cS _ _)
          go_big_quiet_step (first | with_reducible exact cS _ _)
          go_big_quiet_step (first | with_reducible exact cS _ _)
          go_big_quiet_step (first | with_reducible exact cS _ _)
          go_big_quiet_step (first | with_reducible exact cS _ _)
          go_big_quiet_step (first | with_reducible exact cS _ _)
          go_big_quiet_step (first | with_reducible exact cS _ _)
          go_big_quiet_step (first | with_reducible exact cS _ _)
          go_big_quiet_step (first | with_reducible exact cS _ _)
          go_big_quiet_step (first | with_reducible exact cS _ _)
          go_big_quiet_step (first | with_reducible exact cS _ _)
          refine wpQuiet_nil ?_
          intro w7 hw'
          have K1 := row_regrown H1.out hw'
          have K2 := row_regrown H2.out hw'
          have b7 : Below w.heap.size w w7 := by
            obtain ⟨⟨dq, osq⟩, rfl⟩ := hw'
            exact HBL.out.trans ((below_regrown wr dq osq).mono HBL.out.size)
          clear hw' cS
          clear K1 K2
          go_wp2
          go_ret
          exact ⟨by rw [HF.out]; rfl, b7⟩
      · rw [decide_eq_false hs] at HS
        have HF : Hid (b = false) := HNF.out fun h => hs (HXY.out.1 h.1)
        clear hs HXY HRT HRC HNF
        go_upto_region 4 with fail
        have cS : ∀ dd os, Calls Tryz.prog 30 #[.float .f64 x, .float .f64 y] (Sort.grow (redrawn wr dd) os) fun e w'' => e = .returned (.bool false) ∧ ∃ p : Regrown, w'' = Sort.grow (redrawn wr p.d) p.os := fun dd os => Calls.regrown_of (HS.out _)
        refine wp_region_quiet_below (by kernel_rfl) (by kernel_rfl) ?_
        go_big_quiet_step (first | with_reducible exact cS _ _)
        go_big_quiet_step (first | with_reducible exact cS _ _)
        go_big_quiet_step (first | with_reducible exact cS _ _)
        refine wpQ_load rfl 34 (.tmp 13) rfl _ _ rfl (.float .f64 x) (fun W hW => load_cell (row_regrown H1.out hW) HX.out Tryz.underlying34 rfl) ?_; simp only [Act.put, List.setIfInBounds_toArray, List.set_cons_succ, List.set_cons_zero]
        go_big_quiet_step (first | with_reducible exact cS _ _)
        go_big_quiet_step (first | with_reducible exact cS _ _)
        go_big_quiet_step (first | with_reducible exact cS _ _)
        refine wpQ_load rfl 34 (.tmp 17) rfl _ _ rfl (.float .f64 y) (fun W hW => load_cell (row_regrown H2.out hW) HY.out Tryz.underlying34 rfl) ?_; simp only [Act.put, List.setIfInBounds_toArray, List.set_cons_succ, List.set_cons_zero]
        go_big_quiet_step (first | with_reducible exact cS _ _)
        go_big_quiet_step (first | with_reducible exact cS _ _)
        go_big_quiet_step (first | with_reducible exact cS _ _)
        go_big_quiet_step (first | with_reducible exact cS _ _)
        go_big_quiet_step (first | with_reducible exact cS _ _)
        go_big_quiet_step (first | with_reducible exact cS _ _)
        go_big_quiet_step (first | with_reducible exact cS _ _)
        go_big_quiet_step (first | with_reducible exact cS _ _)
        go_big_quiet_step (first | with_reducible exact cS _ _)
        go_big_quiet_step (first | with_reducible exact cS _ _)
        go_big_quiet_step (first | with_reducible exact cS _ _)
        go_big_quiet_step (first | with_reducible exact cS _ _)
        go_big_quiet_step (first | with_reducible exact cS _ _)
        go_big_quiet_step (first | with_reducible exact cS _ _)
        go_big_quiet_step (first | with_reducible exact cS _ _)
        go_big_quiet_step (first | with_reducible exact cS _ _)
        go_big_quiet_step (first | with_reducible exact cS _ _)
        go_big_quiet_step (first | with_reducible exact cS _ _)
        go_big_quiet_step (first | with_reducible exact cS _ _)
        go_big_quiet_step (first | with_reducible exact cS _ _)
        go_big_quiet_step (first | with_reducible exact cS _ _)
        go_big_quiet_step (first | with_reducible exact cS _ _)
        go_big_quiet_step (first | with_reducible exact cS _ _)
        go_big_quiet_step (first | with_reducible exact cS _ _)
        refine wpQuiet_nil ?_
        intro w7 hw'
        have K1 := row_regrown H1.out hw'
        have K2 := row_regrown H2.out hw'
        have b7 : Below w.heap.size w w7 := by
          obtain ⟨⟨dq, osq⟩, rfl⟩ := hw'
          exact HBL.out.trans ((below_regrown wr dq osq).mono HBL.out.size)
        clear hw' cS
        clear K1 K2
        go_wp2
        go_ret
        exact ⟨by rw [HF.out]; rfl, b7⟩
    · have hn16 : n = 16 := by omega
      subst hn16
      have HP : Hid (∀ j, j < 16 → Pass c d j) := hp
      clear hp hn hlt
      go_wp2_with fail
      go_loopg [6] 32 (fun g i wr => ∃ n : Nat, n + g = 32 ∧ i = .int .i64 n ∧ Below w.heap.size w wr ∧ wr.heap[w.heap.size]? = some (.cells c 37 (0, 0)) ∧ wr.heap[w.heap.size + 1]? = some (.cells d 37 (0, 0)) ∧ ∀ j, j < n → c[85 + j]? = d[85 + j]?)
      case atStart => exact ⟨0, by omega, rfl, hbl, h1, h2, fun j hj => by omega⟩
      clear hbl h1 h2
      case round =>
        obtain ⟨n, hn, rfl, hbl, h1, h2, hp⟩ := hrel
        have H1 : Hid (wr.heap[w.heap.size]? = some (.cells c 37 (0, 0))) := h1
        have H2 : Hid (wr.heap[w.heap.size + 1]? = some (.cells d 37 (0, 0))) := h2
        have HBL : Hid (Below w.heap.size w wr) := hbl
        have HQ : Hid (∀ j, j < n → c[85 + j]? = d[85 + j]?) := hp
        clear hbl h1 h2 hp
        by_cases hlt : n < 32
        · have i1 : (n : Int) < 32 := by omega
          have i3 : (0 : Int) ≤ (n : Int) := by omega
          obtain ⟨x, hx, _⟩ := HC.out.i16 (i := 85 + n) (by omega) (kd_d hlt)
          obtain ⟨y, hy, _⟩ := HD.out.i16 (i := 85 + n) (by omega) (kd_d hlt)
          have HX : Hid (c[85 + n]? = some (.int .i16 x)) := hx
          have HY : Hid (d[85 + n]? = some (.int .i16 y)) := hy
          clear hx hy
          by_cases hs : x = y
          · have e1 : (x == y) = true := by rw [hs]; simp
            have HE : Hid (c[85 + n]? = d[85 + n]?) := (by rw [HX.out, HY.out, hs] : c[85 + n]? = d[85 + n]?)
            clear hs
            go_upto_region 9 with fail
            refine wp_region_quiet_below (by kernel_rfl) (by kernel_rfl) ?_
            go_big_quiet_step (first | fail)
            go_big_quiet_step (first | fail)
            go_big_quiet_step (first | fail)
            refine wpQ_load rfl 32 (.tmp 49) rfl _ _ rfl (.int .i16 x) (fun W hW => load_cell (row_regrown H1.out hW) HX.out Tryz.underlying32 rfl) ?_; simp only [Act.put, List.setIfInBounds_toArray, List.set_cons_succ, List.set_cons_zero]
            go_big_quiet_step (first | fail)
            go_big_quiet_step (first | fail)
            go_big_quiet_step (first | fail)
            refine wpQ_load rfl 32 (.tmp 53) rfl _ _ rfl (.int .i16 y) (fun W hW => load_cell (row_regrown H2.out hW) HY.out Tryz.underlying32 rfl) ?_; simp only [Act.put, List.setIfInBounds_toArray, List.set_cons_succ, List.set_cons_zero]
            go_big_quiet_step (first | fail)
            refine wpQuiet_nil ?_
            intro w7 hw'
            have K1 := row_regrown H1.out hw'
            have K2 := row_regrown H2.out hw'
            have b7 : Below w.heap.size w w7 := by
              obtain ⟨⟨dq, osq⟩, rfl⟩ := hw'
              exact HBL.out.trans ((below_regrown wr dq osq).mono HBL.out.size)
            clear hw'
            have HK1 : Hid (w7.heap[w.heap.size]? = some (.cells c 37 (0, 0))) := K1
            have HK2 : Hid (w7.heap[w.heap.size + 1]? = some (.cells d 37 (0, 0))) := K2
            have HB7 : Hid (Below w.heap.size w w7) := b7
            clear K1 K2 b7
            go_wp2
            go_roundg (gk - 1)
            case measure => omega
            case rel =>
              refine ⟨n + 1, by omega, by simp, HB7.out, HK1.out, HK2.out, fun j hj => ?_⟩
              by_cases hjn : j = n
              · subst hjn; exact HE.out
              · exact HQ.out j (by omega)
          · have e1 : (x == y) = false := beq_eq_false_iff_ne.2 hs
            have HF : Hid (b = false) := (by
              cases hbb : b with
              | false => rfl
              | true =>
                have := (HB.out.1 hbb).2.1 n hlt
                rw [HX.out, HY.out] at this
                injection this with this
                injection this with _ this
                exact absurd this hs : b = false)
            clear hs
            go_upto_region 9 with fail
            refine wp_region_quiet_below (by kernel_rfl) (by kernel_rfl) ?_
            go_big_quiet_step (first | fail)
            go_big_quiet_step (first | fail)
            go_big_quiet_step (first | fail)
            refine wpQ_load rfl 32 (.tmp 49) rfl _ _ rfl (.int .i16 x) (fun W hW => load_cell (row_regrown H1.out hW) HX.out Tryz.underlying32 rfl) ?_; simp only [Act.put, List.setIfInBounds_toArray, List.set_cons_succ, List.set_cons_zero]
            go_big_quiet_step (first | fail)
            go_big_quiet_step (first | fail)
            go_big_quiet_step (first | fail)
            refine wpQ_load rfl 32 (.tmp 53) rfl _ _ rfl (.int .i16 y) (fun W hW => load_cell (row_regrown H2.out hW) HY.out Tryz.underlying32 rfl) ?_; simp only [Act.put, List.setIfInBounds_toArray, List.set_cons_succ, List.set_cons_zero]
            go_big_quiet_step (first | fail)
            refine wpQuiet_nil ?_
            intro w7 hw'
            have K1 := row_regrown H1.out hw'
            have K2 := row_regrown H2.out hw'
            have b7 : Below w.heap.size w w7 := by
              obtain ⟨⟨dq, osq⟩, rfl⟩ := hw'
              exact HBL.out.trans ((below_regrown wr dq osq).mono HBL.out.size)
            clear hw'
            clear K1 K2
            go_wp2
            go_ret
            exact ⟨by rw [HF.out]; rfl, b7⟩
        · have hn32 : n = 32 := by omega
          subst hn32
          clear hn hlt
          obtain ⟨p0, hp0, _⟩ := HC.out.u32 (i := 0) (by omega) rfl
          obtain ⟨q0, hq0, _⟩ := HD.out.u32 (i := 0) (by omega) rfl
          have a0 : wr.cell? ⟨w.heap.size, 0, none⟩ = some (.int .u32 p0) := (cell_of_row _ _ _ _ _ _ H1.out).trans hp0
          have z0 : wr.cell? ⟨w.heap.size + 1, 0, none⟩ = some (.int .u32 q0) := (cell_of_row _ _ _ _ _ _ H2.out).trans hq0
          have HE0 : Hid (c[0]? = d[0]? ↔ p0 = q0) := (by rw [hp0, hq0]; simp : c[0]? = d[0]? ↔ p0 = q0)
          obtain ⟨p1, hp1, _⟩ := HC.out.u32 (i := 1) (by omega) rfl
          obtain ⟨q1, hq1, _⟩ := HD.out.u32 (i := 1) (by omega) rfl
          have a1 : wr.cell? ⟨w.heap.size, 1, none⟩ = some (.int .u32 p1) := (cell_of_row _ _ _ _ _ _ H1.out).trans hp1
          have z1 : wr.cell? ⟨w.heap.size + 1, 1, none⟩ = some (.int .u32 q1) := (cell_of_row _ _ _ _ _ _ H2.out).trans hq1
          have HE1 : Hid (c[1]? = d[1]? ↔ p1 = q1) := (by rw [hp1, hq1]; simp : c[1]? = d[1]? ↔ p1 = q1)
          obtain ⟨p2, hp2, _⟩ := HC.out.u64 (i := 2) (by omega) rfl
          obtain ⟨q2, hq2, _⟩ := HD.out.u64 (i := 2) (by omega) rfl
          have a2 : wr.cell? ⟨w.heap.size, 2, none⟩ = some (.int .u64 p2) := (cell_of_row _ _ _ _ _ _ H1.out).trans hp2
          have z2 : wr.cell? ⟨w.heap.size + 1, 2, none⟩ = some (.int .u64 q2) := (cell_of_row _ _ _ _ _ _ H2.out).trans hq2
          have HE2 : Hid (c[2]? = d[2]? ↔ p2 = q2) := (by rw [hp2, hq2]; simp : c[2]? = d[2]? ↔ p2 = q2)
          obtain ⟨p3, hp3, _⟩ := HC.out.u16 (i := 3) (by omega) rfl
          obtain ⟨q3, hq3, _⟩ := HD.out.u16 (i := 3) (by omega) rfl
          have a3 : wr.cell? ⟨w.heap.size, 3, none⟩ = some (.int .u16 p3) := (cell_of_row _ _ _ _ _ _ H1.out).trans hp3
          have z3 : wr.cell? ⟨w.heap.size + 1, 3, none⟩ = some (.int .u16 q3) := (cell_of_row _ _ _ _ _ _ H2.out).trans hq3
          have HE3 : Hid (c[3]? = d[3]? ↔ p3 = q3) := (by rw [hp3, hq3]; simp : c[3]? = d[3]? ↔ p3 = q3)
          obtain ⟨p4, hp4, _⟩ := HC.out.u32 (i := 4) (by omega) rfl
          obtain ⟨q4, hq4, _⟩ := HD.out.u32 (i := 4) (by omega) rfl
          have a4 : wr.cell? ⟨w.heap.size, 4, none⟩ = some (.int .u32 p4) := (cell_of_row _ _ _ _ _ _ H1.out).trans hp4
          have z4 : wr.cell? ⟨w.heap.size + 1, 4, none⟩ = some (.int .u32 q4) := (cell_of_row _ _ _ _ _ _ H2.out).trans hq4
          have HE4 : Hid (c[4]? = d[4]? ↔ p4 = q4) := (by rw [hp4, hq4]; simp : c[4]? = d[4]? ↔ p4 = q4)
          obtain ⟨p5, hp5, _⟩ := HC.out.u32 (i := 133) (by omega) rfl
          obtain ⟨q5, hq5, _⟩ := HD.out.u32 (i := 133) (by omega) rfl
          have a5 : wr.cell? ⟨w.heap.size, 133, none⟩ = some (.int .u32 p5) := (cell_of_row _ _ _ _ _ _ H1.out).trans hp5
          have z5 : wr.cell? ⟨w.heap.size + 1, 133, none⟩ = some (.int .u32 q5) := (cell_of_row _ _ _ _ _ _ H2.out).trans hq5
          have HE5 : Hid (c[133]? = d[133]? ↔ p5 = q5) := (by rw [hp5, hq5]; simp : c[133]? = d[133]? ↔ p5 = q5)
          obtain ⟨p6, hp6⟩ := HC.out.bool (i := 134) (by omega) rfl
          obtain ⟨q6, hq6⟩ := HD.out.bool (i := 134) (by omega) rfl
          have a6 : wr.cell? ⟨w.heap.size, 134, none⟩ = some (.bool p6) := (cell_of_row _ _ _ _ _ _ H1.out).trans hp6
          have z6 : wr.cell? ⟨w.heap.size + 1, 134, none⟩ = some (.bool q6) := (cell_of_row _ _ _ _ _ _ H2.out).trans hq6
          have HE6 : Hid (c[134]? = d[134]? ↔ p6 = q6) := (by rw [hp6, hq6]; simp : c[134]? = d[134]? ↔ p6 = q6)
          obtain ⟨p7, hp7⟩ := HC.out.bool (i := 135) (by omega) rfl
          obtain ⟨q7, hq7⟩ := HD.out.bool (i := 135) (by omega) rfl
          have a7 : wr.cell? ⟨w.heap.size, 135, none⟩ = some (.bool p7) := (cell_of_row _ _ _ _ _ _ H1.out).trans hp7
          have z7 : wr.cell? ⟨w.heap.size + 1, 135, none⟩ = some (.bool q7) := (cell_of_row _ _ _ _ _ _ H2.out).trans hq7
          have HE7 : Hid (c[135]? = d[135]? ↔ p7 = q7) := (by rw [hp7, hq7]; simp : c[135]? = d[135]? ↔ p7 = q7)
          clear hp0 hq0 hp1 hq1 hp2 hq2 hp3 hq3 hp4 hq4 hp5 hq5 hp6 hq6 hp7 hq7
          have HBB : Hid (b = true ↔ p0 = q0 ∧ p1 = q1 ∧ p2 = q2 ∧ p3 = q3 ∧ p4 = q4 ∧ p5 = q5 ∧ p6 = q6 ∧ p7 = q7) := by
            rw [HB.out, HE0.out, HE1.out, HE2.out, HE3.out, HE4.out, HE5.out, HE6.out, HE7.out]
            exact ⟨fun h => h.2.2, fun h => ⟨HP.out, HQ.out, h⟩⟩
          clear HE0 HE1 HE2 HE3 HE4 HE5 HE6 HE7
          by_cases t0 : p0 = q0
          · have s0 : (p0 == q0) = true := by rw [t0]; simp
            have T0 : Hid (p0 = q0) := t0
            clear t0
            by_cases t1 : p1 = q1
            · have s1 : (p1 == q1) = true := by rw [t1]; simp
              have T1 : Hid (p1 = q1) := t1
              clear t1
              by_cases t2 : p2 = q2
              · have s2 : (p2 == q2) = true := by rw [t2]; simp
                have T2 : Hid (p2 = q2) := t2
                clear t2
                by_cases t3 : p3 = q3
                · have s3 : (p3 == q3) = true := by rw [t3]; simp
                  have T3 : Hid (p3 = q3) := t3
                  clear t3
                  by_cases t4 : p4 = q4
                  · have s4 : (p4 == q4) = true := by rw [t4]; simp
                    have T4 : Hid (p4 = q4) := t4
                    clear t4
                    by_cases t5 : p5 = q5
                    · have s5 : (p5 == q5) = true := by rw [t5]; simp
                      have T5 : Hid (p5 = q5) := t5
                      clear t5
                      by_cases t6 : p6 = q6
                      · have s6 : (p6 == q6) = true := by rw [t6]; simp
                        have T6 : Hid (p6 = q6) := t6
                        clear t6
                        by_cases t7 : p7 = q7
                        · have s7 : (p7 == q7) = true := by rw [t7]; simp
                          have T7 : Hid (p7 = q7) := t7
                          clear t7
                          have HF : Hid (b = true) := HBB.out.2 ⟨T0.out, T1.out, T2.out, T3.out, T4.out, T5.out, T6.out, T7.out⟩
                          go_wp2
                          go_ret
                          exact ⟨by rw [HF.out]; rfl, HBL.out⟩
                        · have s7 : (p7 == q7) = false := beq_eq_false_iff_ne.2 t7
                          have HF : Hid (b = false) := (by
                            cases hbb : b with
                            | false => rfl
                            | true => exact absurd (HBB.out.1 hbb).2.2.2.2.2.2.2 t7 : b = false)
                          clear t7
                          go_wp2
                          go_ret
                          exact ⟨by rw [HF.out]; rfl, HBL.out⟩
                      · have s6 : (p6 == q6) = false := beq_eq_false_iff_ne.2 t6
                        have HF : Hid (b = false) := (by
                          cases hbb : b with
                          | false => rfl
                          | true => exact absurd (HBB.out.1 hbb).2.2.2.2.2.2.1 t6 : b = false)
                        clear t6
                        go_wp2
                        go_ret
                        exact ⟨by rw [HF.out]; rfl, HBL.out⟩
                    · have s5 : (p5 == q5) = false := beq_eq_false_iff_ne.2 t5
                      have HF : Hid (b = false) := (by
                        cases hbb : b with
                        | false => rfl
                        | true => exact absurd (HBB.out.1 hbb).2.2.2.2.2.1 t5 : b = false)
                      clear t5
                      go_wp2
                      go_ret
                      exact ⟨by rw [HF.out]; rfl, HBL.out⟩
                  · have s4 : (p4 == q4) = false := beq_eq_false_iff_ne.2 t4
                    have HF : Hid (b = false) := (by
                      cases hbb : b with
                      | false => rfl
                      | true => exact absurd (HBB.out.1 hbb).2.2.2.2.1 t4 : b = false)
                    clear t4
                    go_wp2
                    go_ret
                    exact ⟨by rw [HF.out]; rfl, HBL.out⟩
                · have s3 : (p3 == q3) = false := beq_eq_false_iff_ne.2 t3
                  have HF : Hid (b = false) := (by
                    cases hbb : b with
                    | false => rfl
                    | true => exact absurd (HBB.out.1 hbb).2.2.2.1 t3 : b = false)
                  clear t3
                  go_wp2
                  go_ret
                  exact ⟨by rw [HF.out]; rfl, HBL.out⟩
              · have s2 : (p2 == q2) = false := beq_eq_false_iff_ne.2 t2
                have HF : Hid (b = false) := (by
                  cases hbb : b with
                  | false => rfl
                  | true => exact absurd (HBB.out.1 hbb).2.2.1 t2 : b = false)
                clear t2
                go_wp2
                go_ret
                exact ⟨by rw [HF.out]; rfl, HBL.out⟩
            · have s1 : (p1 == q1) = false := beq_eq_false_iff_ne.2 t1
              have HF : Hid (b = false) := (by
                cases hbb : b with
                | false => rfl
                | true => exact absurd (HBB.out.1 hbb).2.1 t1 : b = false)
              clear t1
              go_wp2
              go_ret
              exact ⟨by rw [HF.out]; rfl, HBL.out⟩
          · have s0 : (p0 == q0) = false := beq_eq_false_iff_ne.2 t0
            have HF : Hid (b = false) := (by
              cases hbb : b with
              | false => rfl
              | true => exact absurd (HBB.out.1 hbb).1 t0 : b = false)
            clear t0
            go_wp2
            go_ret
            exact ⟨by rw [HF.out]; rfl, HBL.out⟩
end Go.Proofs.YtjnddfpieogpiaaGreatDoor.Rr
