/- The law FnRealWhole: its walk. -/
import Derived.Test.YtpjpjndichpfaaaRl
import Derived.Test.YtpjpjndichpfaaaH
namespace Go.Proofs.Ytpjpjndichpfaaa
open Go.RowKit
set_option linter.unusedVariables false

theorem ord_lt {x y : Nat} (hx : ¬ Fm.isN x) (hy : ¬ Fm.isN y) (h : Fm.sv x < Fm.sv y) : Fm.F.order x y = some .lt := by
  rw [Fm.F_eq, Fm.order_eq hx hy, Int.compare_eq_lt.2 h]
theorem ord_eq {x y : Nat} (hx : ¬ Fm.isN x) (hy : ¬ Fm.isN y) (h : Fm.sv x = Fm.sv y) : Fm.F.order x y = some .eq := by
  rw [Fm.F_eq, Fm.order_eq hx hy, Int.compare_eq_eq.2 h]
theorem ord_gt {x y : Nat} (hx : ¬ Fm.isN x) (hy : ¬ Fm.isN y) (h : Fm.sv y < Fm.sv x) : Fm.F.order x y = some .gt := by
  rw [Fm.F_eq, Fm.order_eq hx hy, Int.compare_eq_gt.2 h]

theorem sv_m1 : Fm.sv 13830554455654793216 = -(Fm.U : Int) := by decide +kernel
theorem sv_p1 : Fm.sv 4607182418800017408 = (Fm.U : Int) := by decide +kernel
theorem sv_00 : Fm.sv 0 = 0 := by decide
theorem fin_notN {x : Nat} (h : Fm.rg x < Fm.infR) : ¬ Fm.isN x := by unfold Fm.isN; omega

theorem can_whole (a : Int) (h : -32768 ≤ a ∧ a ≤ 32767) : CanCut (floatOfInt .f64 a) ∧ cutR (floatOfInt .f64 a) = a := by
  obtain ⟨r, h1, h2, h3⟩ := Fm.whole_exact a (by omega)
  obtain ⟨h4, h5⟩ := Fm.whole_sv a (by omega)
  have hU := Fm.U_pos
  refine ⟨⟨fin_notN h4, ?_, ?_⟩, ?_⟩
  · rw [h5]
    have : (-32768) * (Fm.U : Int) ≤ a * Fm.U := Int.mul_le_mul_of_nonneg_right h.1 (by omega)
    omega
  · rw [h5]
    have : a * (Fm.U : Int) ≤ 32767 * Fm.U := Int.mul_le_mul_of_nonneg_right h.2 (by omega)
    omega
  · unfold cutR
    rw [h3, Fm.rg_word _ (Nat.le_of_lt h1), Fm.sg_word _ (Nat.le_of_lt h1), h2, Nat.mul_div_cancel _ hU]
    by_cases hn : a < 0
    · simp only [hn, decide_true, if_true]; omega
    · simp only [hn, decide_false, Bool.false_eq_true, if_false]; omega

/-- What is cut off. -/
theorem off_cut {x : Nat} (h : CanCut x) : ∃ d, floatBits .sub .f64 x (floatOfInt .f64 (cutR x)) = some d ∧ d < 18446744073709551616 ∧ ¬ Fm.isN d ∧ -(Fm.U : Int) < Fm.sv d ∧ Fm.sv d < Fm.U ∧ (Fm.sv x < 0 → Fm.sv d ≤ 0) ∧ (0 < Fm.sv x → 0 ≤ Fm.sv d) ∧ (Fm.sv x = 0 → Fm.sv d = 0) := by
  have hf := (can_fin h).1
  have hb := cut_bd h
  have hU := Fm.U_pos
  obtain ⟨h4, h5⟩ := Fm.whole_sv (cutR x) (by omega)
  have hd := Nat.div_add_mod (Fm.R (Fm.rg x)) Fm.U
  have hm := Nat.mod_lt (Fm.R (Fm.rg x)) hU
  have key : Fm.sv x - Fm.sv (floatOfInt .f64 (cutR x)) = (if Fm.sg x then -1 else 1) * ((Fm.R (Fm.rg x) % Fm.U : Nat) : Int) := by
    rw [h5, Fm.sv_eq]
    unfold cutR
    have e : ((Fm.R (Fm.rg x) : Nat) : Int) = (Fm.U : Int) * ((Fm.R (Fm.rg x) / Fm.U : Nat) : Int) + ((Fm.R (Fm.rg x) % Fm.U : Nat) : Int) := by
      rw [← Int.natCast_mul, ← Int.natCast_add, hd]
    rw [e]
    generalize ((Fm.R (Fm.rg x) / Fm.U : Nat) : Int) = q
    generalize ((Fm.R (Fm.rg x) % Fm.U : Nat) : Int) = r
    generalize (Fm.U : Int) = u
    rw [Int.mul_comm u q]
    cases Fm.sg x
    · simp only [Bool.false_eq_true, if_false, Int.one_mul]; omega
    · simp only [if_true, Int.neg_mul, Int.one_mul]; omega
  have hrep : Fm.Rep (Fm.sv x - Fm.sv (floatOfInt .f64 (cutR x))).natAbs := by
    rw [key]
    have : ((if Fm.sg x = true then (-1:Int) else 1) * ((Fm.R (Fm.rg x) % Fm.U : Nat) : Int)).natAbs = Fm.R (Fm.rg x) % Fm.U := by
      generalize Fm.R (Fm.rg x) % Fm.U = r
      cases Fm.sg x
      · simp only [Bool.false_eq_true, if_false]; omega
      · simp only [if_true]; omega
    rw [this]
    exact Fm.rep_frac hf
  obtain ⟨d, d1, d2, d3, d4⟩ := Fm.sub_exact hf h4 hrep
  rw [key] at d4
  have hsx := Fm.sv_eq x
  have hle := Nat.mod_le (Fm.R (Fm.rg x)) Fm.U
  refine ⟨d, d1, d2, fin_notN d3, ?_⟩
  rw [d4, hsx]
  clear d1 d2 d3 d4 hrep key hsx h5 h4 hb hf h hd
  generalize Fm.R (Fm.rg x) % Fm.U = r at hm hle ⊢
  generalize Fm.R (Fm.rg x) = s at hle ⊢
  generalize Fm.U = u at hm ⊢
  cases Fm.sg x
  · simp only [Bool.false_eq_true, if_false, Int.one_mul]; omega
  · simp only [if_true, Int.neg_mul, Int.one_mul]; omega

set_option maxHeartbeats 1000000 in
theorem draw_rwhole {w : World} {a : Option Addr} {len cap blk off : Nat} {z : Nat → Int} (h : Code0 w a len cap blk off z) :
    Calls Try.prog 14 #[.slice a len cap] w fun e w' => ∃ v : Nat, e = .returned (.float .f64 v) ∧ v < 18446744073709551616 ∧ Below w.heap.size w w' := by
  go_enter Try.func14, Try.ntmps14
  go_wp2_with fail
  refine (h.open).mono ?_
  rintro e w1 ⟨rfl, h1, g1⟩
  clear h
  go_wp2_with fail
  refine (real_r _ _ _ _ h1 (by omega)).mono ?_
  rintro e w2 ⟨v, rfl, hv, ⟨q2, hq2, h2⟩, g2⟩
  have HV : Hid (v < 18446744073709551616) := hv
  clear hv
  go_wp2
  go_ret
  exact ⟨v, rfl, HV.out, gb_open g1 g2⟩

set_option maxHeartbeats 4000000 in
theorem walk_real0 {w : World} {a : Option Addr} {len cap blk off : Nat} {z : Nat → Int} (h : Code0 w a len cap blk off z) :
    Calls Try.prog 4 #[.slice a len cap] w fun e w' => e = .returned (.bool true) ∧ Below w.heap.size w w' := by
  have hl : ¬ ((1048576 : Int) < len) := by have := h.short; omega
  go_enter Try.func4, Try.ntmps4
  go_wp2_with fail
  refine (draw_wcmp h).mono ?_
  rintro e w1 ⟨op, x, y, rfl, ⟨hx, hy⟩, g1⟩
  have h' := h.later g1
  clear h
  have c1 := fun w => impl_whole_in (floatOfInt .f64 x) w (can_whole x hx).1
  rw [(can_whole x hx).2] at c1
  clear hx hy
  go_wp2_with fail
  refine (c1 _).mono ?_
  rintro e w2 ⟨rfl, rfl⟩
  clear c1
  go_wp2_with fail
  refine (draw_rwhole h').mono ?_
  rintro e w3 ⟨v, rfl, hv, g3⟩
  have G3 : Below w.heap.size w w3 := g1.trans (g3.mono g1.size)
  clear h' g1 g3 hv
  by_cases hc : CanCut v
  · obtain ⟨d, d1, -, d3, d4, d5, d6, d7, d8⟩ := off_cut hc
    have c2 := fun w => impl_whole_in v w hc
    have hq := fun (t : TypeId) (w : World) => run_float_arith (P := Try.prog) w .sub t .f64 v _ d d1
    have o1 := ord_gt d3 (by decide : ¬ Fm.isN 13830554455654793216) (by rw [sv_m1]; exact d4)
    have o2 := ord_lt d3 (by decide : ¬ Fm.isN 4607182418800017408) (by rw [sv_p1]; exact d5)
    have hv := hc.1
    clear d1 d4 d5 hc
    generalize cutR v = n at c2 hq
    rcases Int.lt_trichotomy (Fm.sv v) 0 with hs | hs | hs
    · have o3 := ord_lt hv (by decide : ¬ Fm.isN 0) (by rw [sv_00]; exact hs)
      have hd := d6 hs
      by_cases hd0 : Fm.sv d = 0
      · have o4 := ord_eq d3 (by decide : ¬ Fm.isN 0) (by rw [sv_00]; exact hd0)
        clear d6 d7 d8 hs hd hd0 d3 hv
        go_wp2_with fail
        refine (c2 _).mono ?_
        rintro e w4 ⟨rfl, rfl⟩
        go_wp2
        go_ret
        exact ⟨rfl, G3⟩
      · have o4 := ord_lt d3 (by decide : ¬ Fm.isN 0) (by rw [sv_00]; omega)
        clear d6 d7 d8 hs hd hd0 d3 hv
        go_wp2_with fail
        refine (c2 _).mono ?_
        rintro e w4 ⟨rfl, rfl⟩
        go_wp2
        go_ret
        exact ⟨rfl, G3⟩
    · have o3 := ord_eq hv (by decide : ¬ Fm.isN 0) (by rw [sv_00]; exact hs)
      have o4 := ord_eq d3 (by decide : ¬ Fm.isN 0) (by rw [sv_00]; exact d8 hs)
      clear d6 d7 d8 hs d3 hv
      go_wp2_with fail
      refine (c2 _).mono ?_
      rintro e w4 ⟨rfl, rfl⟩
      go_wp2
      go_ret
      exact ⟨rfl, G3⟩
    · have o3 := ord_gt hv (by decide : ¬ Fm.isN 0) (by rw [sv_00]; exact hs)
      have hd := d7 hs
      by_cases hd0 : Fm.sv d = 0
      · have o4 := ord_eq d3 (by decide : ¬ Fm.isN 0) (by rw [sv_00]; exact hd0)
        clear d6 d7 d8 hs hd hd0 d3 hv
        go_wp2_with fail
        refine (c2 _).mono ?_
        rintro e w4 ⟨rfl, rfl⟩
        go_wp2
        go_ret
        exact ⟨rfl, G3⟩
      · have o4 := ord_gt d3 (by decide : ¬ Fm.isN 0) (by rw [sv_00]; omega)
        clear d6 d7 d8 hs hd hd0 d3 hv
        go_wp2_with fail
        refine (c2 _).mono ?_
        rintro e w4 ⟨rfl, rfl⟩
        go_wp2
        go_ret
        exact ⟨rfl, G3⟩
  · have c2 := fun w => impl_whole_out v w hc
    by_cases hn : Fm.isN v
    · have e1 : (Fm.F.order v 13898108587504304128 == some .gt) = false := by rw [Fm.ord_n (.inl hn)]; rfl
      clear hc hn
      go_wp2_with fail
      refine (c2 _).mono ?_
      rintro e w4 ⟨rfl, rfl⟩
      go_wp2
      go_ret
      exact ⟨rfl, G3⟩
    · by_cases h1 : -(32769 * (Fm.U : Int)) < Fm.sv v
      · have h2 : ¬ Fm.sv v < 32768 * (Fm.U : Int) := fun h2 => hc ⟨hn, h1, h2⟩
        have e1 := (gt_lo hn).trans (decide_eq_true h1)
        have e2 := (lt_hi hn).trans (decide_eq_false h2)
        clear hc hn h1 h2
        go_wp2_with fail
        refine (c2 _).mono ?_
        rintro e w4 ⟨rfl, rfl⟩
        go_wp2
        go_ret
        exact ⟨rfl, G3⟩
      · have e1 := (gt_lo hn).trans (decide_eq_false h1)
        clear hc hn h1
        go_wp2_with fail
        refine (c2 _).mono ?_
        rintro e w4 ⟨rfl, rfl⟩
        go_wp2
        go_ret
        exact ⟨rfl, G3⟩

set_option maxHeartbeats 1000000 in
theorem walk_real (a : Option Addr) (len cap : Nat) (zs : List Int) (w : World) (h : IsRow .u8 w a len cap zs) :
    Calls Try.prog 4 #[.slice a len cap] w fun e w' => e = .returned (.bool true) ∧ Below w.heap.size w w' := by
  by_cases hl : len ≤ 1048576
  · obtain ⟨blk, off, z, hc⟩ := h.code hl
    exact walk_real0 hc
  · have hl' : (1048576 : Int) < len := by omega
    clear h
    go_enter Try.func4, Try.ntmps4
    go_wp2
    go_ret
    exact ⟨rfl, Below.refl _ _⟩
end Go.Proofs.Ytpjpjndichpfaaa
