/- The law FnWrap: its walk. -/
import Derived.Test.YtpjpjndichpfaaaSa
namespace Go.Proofs.Ytpjpjndichpfaaa
open Go.RowKit
set_option linter.unusedVariables false

theorem wrap_ex (n : Int) : ∃ k, IntKind.i16.wrap n = n + 65536 * k := ⟨-((n + 32768) / 65536), by rw [wrap16]; omega⟩
theorem wrap_bd (n : Int) : -32768 ≤ IntKind.i16.wrap n ∧ IntKind.i16.wrap n ≤ 32767 := by rw [wrap16]; omega
theorem wrap_eq {n m k : Int} (h : n = m + 65536 * k) (hm : -32768 ≤ m ∧ m ≤ 32767) : IntKind.i16.wrap n = m := by rw [wrap16]; omega

theorem back_eq {a b : Int} (ha : -32768 ≤ a ∧ a ≤ 32767) : IntKind.i16.wrap (IntKind.i16.wrap (a + b) - b) = a := by
  obtain ⟨k, e⟩ := wrap_ex (a + b)
  exact wrap_eq (k := k) (by omega) ha
theorem all_eq {a b : Int} (ha : -32768 ≤ a ∧ a ≤ 32767) : IntKind.i16.wrap (IntKind.i16.wrap (IntKind.i16.wrap (a.tdiv b) * b) + IntKind.i16.wrap (a.tmod b)) = a := by
  obtain ⟨k, e⟩ := wrap_ex (a.tdiv b)
  obtain ⟨l, f⟩ := wrap_ex (IntKind.i16.wrap (a.tdiv b) * b)
  obtain ⟨m, g⟩ := wrap_ex (a.tmod b)
  have h := Int.tmod_add_mul_tdiv a b
  refine wrap_eq (k := k * b + l + m) ?_ ha
  rw [f, g, e, Int.add_mul, Int.mul_add, Int.mul_add]
  have e1 : 65536 * k * b = 65536 * (k * b) := Int.mul_assoc _ _ _
  have e2 : a.tdiv b * b = b * a.tdiv b := Int.mul_comm _ _
  omega

set_option maxHeartbeats 2000000 in
theorem walk_wrap0 {w : World} {a : Option Addr} {len cap blk off : Nat} {z : Nat → Int} (h : Code0 w a len cap blk off z) :
    Calls Try.prog 3 #[.slice a len cap] w fun e w' => e = .returned (.bool true) ∧ Below w.heap.size w w' := by
  have hl : ¬ ((1048576 : Int) < len) := by have := h.short; omega
  go_enter Try.func3, Try.ntmps3
  go_wp2_with fail
  refine (draw_wcalc h).mono ?_
  rintro e w1 ⟨op, x, y, rfl, ⟨hx, hy⟩, g1⟩
  clear h
  have c1 := fun w => impl_calc 1 x y w hx hy
  have c2 := fun w => impl_calc 2 (IntKind.i16.wrap (x + y)) y w (wrap_bd _) hy
  have c3 := fun w => impl_calc 1 y x w hy hx
  have c4 := fun w => impl_calc 3 x y w hx hy
  have c5 := fun w => impl_calc 3 y x w hy hx
  have c6 := fun w => impl_calc 4 x y w hx hy
  have c7 := fun w => impl_calc 5 x y w hx hy
  have v1 : wk 1 x y = IntKind.i16.wrap (x + y) := rfl
  have v2 : wk 2 (IntKind.i16.wrap (x + y)) y = x := back_eq hx
  have v3 : wk 1 y x = IntKind.i16.wrap (x + y) := by rw [Int.add_comm x y]; rfl
  have v4 : wk 3 x y = IntKind.i16.wrap (x * y) := rfl
  have v5 : wk 3 y x = IntKind.i16.wrap (x * y) := by rw [Int.mul_comm x y]; rfl
  have o1 : ∀ t : Int, wok 1 t = true := fun _ => rfl
  have o2 : ∀ t : Int, wok 2 t = true := fun _ => rfl
  have o3 : ∀ t : Int, wok 3 t = true := fun _ => rfl
  rw [v1, o1] at c1
  rw [v2, o2] at c2
  rw [v3, o1] at c3
  rw [v4, o3] at c4
  rw [v5, o3] at c5
  obtain ⟨m, Hm⟩ : ∃ m, Hid (m = IntKind.i16.wrap (x * y)) := ⟨_, rfl⟩
  rw [← Hm.out] at c4 c5
  by_cases hy0 : y = 0
  · subst hy0
    have c8 := fun w => impl_calc 3 0 0 w (by omega) (by omega)
    have c9 := fun w => impl_calc 1 0 0 w (by omega) (by omega)
    have z8 : wk 3 0 0 = 0 := by decide
    have z9 : wk 1 0 0 = 0 := by decide
    have z6 : wk 4 x 0 = 0 := by simp [wk]
    have z7 : wk 5 x 0 = 0 := by simp [wk]
    have w6 : wok 4 0 = false := by decide
    have w7 : wok 5 0 = false := by decide
    rw [z8, o3] at c8
    rw [z9, o1] at c9
    rw [z6, w6] at c6
    rw [z7, w7] at c7
    obtain ⟨s, Hs⟩ : ∃ s, Hid (s = IntKind.i16.wrap (x + 0)) := ⟨_, rfl⟩
    rw [← Hs.out] at c1 c2 c3
    clear v1 v2 v3 v4 v5 o1 o2 o3 z8 z9 z6 z7 w6 w7 Hm Hs hx hy
    go_wp2_with fail
    refine (c1 _).mono ?_
    rintro e w2 ⟨rfl, rfl⟩
    go_wp2_with fail
    refine (c2 _).mono ?_
    rintro e w2 ⟨rfl, rfl⟩
    go_wp2_with fail
    refine (c3 _).mono ?_
    rintro e w2 ⟨rfl, rfl⟩
    go_wp2_with fail
    refine (c4 _).mono ?_
    rintro e w2 ⟨rfl, rfl⟩
    go_wp2_with fail
    refine (c5 _).mono ?_
    rintro e w2 ⟨rfl, rfl⟩
    go_wp2_with fail
    refine (c6 _).mono ?_
    rintro e w2 ⟨rfl, rfl⟩
    go_wp2_with fail
    refine (c7 _).mono ?_
    rintro e w2 ⟨rfl, rfl⟩
    go_wp2_with fail
    refine (c8 _).mono ?_
    rintro e w2 ⟨rfl, rfl⟩
    go_wp2_with fail
    refine (c9 _).mono ?_
    rintro e w2 ⟨rfl, rfl⟩
    go_wp2
    go_ret
    exact ⟨rfl, g1⟩
  · have z6 : wk 4 x y = IntKind.i16.wrap (x.tdiv y) := by simp [wk, hy0]
    have z7 : wk 5 x y = IntKind.i16.wrap (x.tmod y) := by simp [wk, hy0]
    have w6 : wok 4 y = true := by simp [wok, hy0]
    have w7 : wok 5 y = true := by simp [wok, hy0]
    have c8 := fun w => impl_calc 3 (IntKind.i16.wrap (x.tdiv y)) y w (wrap_bd _) hy
    have c9 := fun w => impl_calc 1 (IntKind.i16.wrap (IntKind.i16.wrap (x.tdiv y) * y)) (IntKind.i16.wrap (x.tmod y)) w (wrap_bd _) (wrap_bd _)
    have z8 : wk 3 (IntKind.i16.wrap (x.tdiv y)) y = IntKind.i16.wrap (IntKind.i16.wrap (x.tdiv y) * y) := rfl
    have z9 : wk 1 (IntKind.i16.wrap (IntKind.i16.wrap (x.tdiv y) * y)) (IntKind.i16.wrap (x.tmod y)) = x := all_eq hx
    rw [z8, o3] at c8
    rw [z9, o1] at c9
    rw [z6, w6] at c6
    rw [z7, w7] at c7
    obtain ⟨s, Hs⟩ : ∃ s, Hid (s = IntKind.i16.wrap (x + y)) := ⟨_, rfl⟩
    rw [← Hs.out] at c1 c2 c3
    obtain ⟨p, Hp⟩ : ∃ s, Hid (s = IntKind.i16.wrap (IntKind.i16.wrap (x.tdiv y) * y)) := ⟨_, rfl⟩
    rw [← Hp.out] at c8 c9
    obtain ⟨q, Hq⟩ : ∃ s, Hid (s = IntKind.i16.wrap (x.tdiv y)) := ⟨_, rfl⟩
    rw [← Hq.out] at c6 c8
    obtain ⟨l, Hl⟩ : ∃ s, Hid (s = IntKind.i16.wrap (x.tmod y)) := ⟨_, rfl⟩
    rw [← Hl.out] at c7 c9
    have y0 : (y != 0) = true := by simp [hy0]
    clear v1 v2 v3 v4 v5 o1 o2 o3 z8 z9 z6 z7 w6 w7 Hm Hs hx hy Hp Hq Hl
    go_wp2_with fail
    refine (c1 _).mono ?_
    rintro e w2 ⟨rfl, rfl⟩
    go_wp2_with fail
    refine (c2 _).mono ?_
    rintro e w2 ⟨rfl, rfl⟩
    go_wp2_with fail
    refine (c3 _).mono ?_
    rintro e w2 ⟨rfl, rfl⟩
    go_wp2_with fail
    refine (c4 _).mono ?_
    rintro e w2 ⟨rfl, rfl⟩
    go_wp2_with fail
    refine (c5 _).mono ?_
    rintro e w2 ⟨rfl, rfl⟩
    go_wp2_with fail
    refine (c6 _).mono ?_
    rintro e w2 ⟨rfl, rfl⟩
    go_wp2_with fail
    refine (c7 _).mono ?_
    rintro e w2 ⟨rfl, rfl⟩
    go_wp2_with fail
    refine (c8 _).mono ?_
    rintro e w2 ⟨rfl, rfl⟩
    go_wp2_with fail
    refine (c9 _).mono ?_
    rintro e w2 ⟨rfl, rfl⟩
    go_wp2
    go_ret
    exact ⟨rfl, g1⟩

set_option maxHeartbeats 1000000 in
theorem walk_wrap (a : Option Addr) (len cap : Nat) (zs : List Int) (w : World) (h : IsRow .u8 w a len cap zs) :
    Calls Try.prog 3 #[.slice a len cap] w fun e w' => e = .returned (.bool true) ∧ Below w.heap.size w w' := by
  by_cases hl : len ≤ 1048576
  · obtain ⟨blk, off, z, hc⟩ := h.code hl
    exact walk_wrap0 hc
  · have hl' : (1048576 : Int) < len := by omega
    clear h
    go_enter Try.func3, Try.ntmps3
    go_wp2
    go_ret
    exact ⟨rfl, Below.refl _ _⟩
end Go.Proofs.Ytpjpjndichpfaaa
