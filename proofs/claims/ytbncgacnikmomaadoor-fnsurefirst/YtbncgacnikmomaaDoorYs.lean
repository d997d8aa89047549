/- The law FnSureFirst. -/
import Derived.Test.YtbncgacnikmomaaDoorYnM
import Derived.Test.YtbncgacnikmomaaDoorYp
import Derived.Test.YtbncgacnikmomaaDoorBg
import Derived.Lib.QuietBelow
namespace Go.Proofs.YtbncgacnikmomaaDoor
open Go.RowKit
set_option linter.unusedVariables false

/-- A fault at an instruction: where it stands, and that nothing behind it counts. -/
theorem chk_first (xs : List InstT) : ∀ (n : Nat) (r : Rn) (C D : Int), chk xs n r = (C, D) → C ≠ 0 → C ≠ 9 → ∃ j, j < xs.length ∧ D = ((n + j : Nat) : Int) ∧ (∀ ys, chk (xs.take (j + 1) ++ ys) n r = (C, D)) ∧ (chk (xs.take j) n r = (0, 0) ∨ chk (xs.take j) n r = (9, D)) := by
  induction xs with
  | nil =>
    intro n r C D h h0 h9
    rw [chk] at h
    split at h
    · simp only [Prod.mk.injEq] at h; exact absurd h.1.symm h0
    · simp only [Prod.mk.injEq] at h; exact absurd h.1.symm h9
  | cons x xs ih =>
    intro n r C D h h0 h9
    rw [chk] at h
    split at h
    · next hw =>
      obtain ⟨j, h1, h2, h3, h4⟩ := ih (n + 1) _ C D h h0 h9
      refine ⟨j + 1, by simp; omega, by rw [h2]; omega, fun ys => ?_, ?_⟩
      · rw [List.take_succ_cons, List.cons_append, chk, if_pos hw]; exact h3 ys
      · rw [List.take_succ_cons, chk, if_pos hw]; exact h4
    · next hw =>
      simp only [Prod.mk.injEq] at h
      obtain ⟨rfl, rfl⟩ := h
      refine ⟨0, by simp, by simp, fun ys => ?_, ?_⟩
      · simp only [Nat.zero_add, List.take_succ_cons, List.take_zero, List.cons_append, List.nil_append]
        rw [chk, if_neg hw]
      · rw [List.take_zero, chk]
        split
        · exact .inl rfl
        · exact .inr rfl
theorem check_first {xs : List InstT} {C D : Int} (h : checkT xs = (C, D)) (h0 : C ≠ 0) (h1 : C ≠ 1) (h9 : C ≠ 9) : xs.length ≤ 1000 ∧ ∃ j : Nat, j < xs.length ∧ D = (j : Int) ∧ (∀ ys, (xs.take (j + 1) ++ ys).length ≤ 1000 → checkT (xs.take (j + 1) ++ ys) = (C, D)) ∧ (checkT (xs.take j) = (0, 0) ∨ checkT (xs.take j) = (9, D)) := by
  unfold checkT at h
  split at h
  · simp only [Prod.mk.injEq] at h; exact absurd h.1.symm h1
  · next hk =>
    obtain ⟨j, e1, e2, e3, e4⟩ := chk_first xs 0 _ C D h h0 h9
    refine ⟨by omega, j, e1, by rw [e2]; simp, fun ys hy => ?_, ?_⟩
    · unfold checkT
      rw [if_neg (by omega)]
      exact e3 ys
    · unfold checkT
      rw [if_neg (by rw [List.length_take]; omega)]
      exact e4
theorem InstsIs.pre {W : World} {lo n cap : Nat} {a : Option Addr} {xs : List InstT} (h : InstsIs W lo (.slice a n cap) xs) (k : Nat) (hk : k ≤ xs.length) : InstsIs W lo (.slice a k cap) (xs.take k) := by
  obtain ⟨a', cap', e, hl, hx⟩ := h
  simp only [Value.slice.injEq] at e
  obtain ⟨rfl, _, rfl⟩ := e
  have hk' : (xs.take k).length = k := by rw [List.length_take]; omega
  refine ⟨a, cap, by rw [hk'], by omega, fun j x hj => ?_⟩
  have hj' : j < k := by have := (List.getElem?_eq_some_iff.1 hj).1; omega
  rw [List.getElem?_take_of_lt hj'] at hj
  exact hx j x hj
/-- The beginning of a drawn list copied, and another one behind it. -/
theorem first_copy {w1 W : World} {H R n cp k : Nat} {b : Option Addr} {xs : List InstT} (hd : RD w1 H R (.slice b n cp) xs) (hn : n = xs.length) (hn4 : n ≤ 4000) (hB : Below w1.heap.size w1 W) (hR : R < w1.heap.size) (hH : H ≤ w1.heap.size) (hk : k ≤ n) (hk0 : 0 < k) :
    ∃ (g1 cap1 : Nat) (W' : World), (∀ ty, (Builtin.append_ #[23, 23] ty #[.slice (some ⟨W.heap.size, 0, none⟩) 0 0, .slice b k cp]).run Tryd.prog (W.alloc (.cells #[] 39)) = .ok (.slice (some ⟨g1, 0, none⟩) k cap1) W') ∧ RD W' H R (.slice (some ⟨g1, 0, none⟩) k cap1) (xs.take k) ∧ Below W.heap.size W W' ∧ W.heap.size ≤ g1 := by
  have hs := hB.size
  have hdW : RD W H R (.slice b n cp) xs := hd.move (row := none) (gb_below hB) (fun j hj => by cases hj)
  obtain ⟨cs, hcl, hone, hown, hefi⟩ := hdW.cells
  rcases hown.2 with ⟨_, e0⟩ | ⟨g, cap', cur, e, _⟩
  · omega
  simp only [Value.slice.injEq] at e
  obtain ⟨rfl, _, rfl⟩ := e
  have hM : RD (W.alloc (.cells #[] 39)) H R (.slice (some ⟨W.heap.size, 0, none⟩) 0 0) [] := ⟨by show some W.heap.size ≠ some R; simp; omega, [], .nil, by have := World.ownsRow_made (base := H) (e := 39) (size := 3) W #[] 0 (by omega) (by unfold maxLen; omega) rfl; simpa using this⟩
  have ga : W.grownBy (W.alloc (.cells #[] 39)) none := World.grownBy_alloc _ _ none
  obtain ⟨g1, cap1, W', hr, hRD, gg, hat⟩ := RD.cat (m := k) cp (some ⟨g, 0, none⟩) hM rfl (by rw [List.length_take]; omega) _ ((hefi.move (ok' := fun b => b ≠ R ∧ some b ≠ some W.heap.size) ga (fun _ _ _ _ => by simp) (fun b _ b2 b3 => ⟨b3.1, by simp; omega⟩)).take k) (by omega) (by simp; omega) (by simp; omega) (fun h0 => ⟨g, 0, rfl, fun j u hu => by
    have hj : j < k * 3 := by have := (List.getElem?_eq_some_iff.1 hu).1; rw [List.length_take] at this; omega
    rw [List.getElem?_take_of_lt hj] at hu
    rw [Nat.zero_add]
    exact ga.cell (own_at hown _ _ hu) (by simp)⟩)
  simp only [Nat.zero_add, List.nil_append] at hr hRD
  have hB' : Below W.heap.size W W' := ((Below.refl _ _).alloc (Nat.le_refl _) _).grown gg (by simp) (fun j hj => by cases hj; omega)
  refine ⟨g1, cap1, W', hr, hRD, hB', ?_⟩
  rcases hat with e | e
  · omega
  · rw [e]; simp
theorem first_join {W3 w4 : World} {H R k cap3 g3 n2 cp2 : Nat} {b2 : Option Addr} {xs ys : List InstT} (hd : RD W3 H R (.slice (some ⟨g3, 0, none⟩) k cap3) xs) (hk : k = xs.length) (hB : Below W3.heap.size W3 w4) (hR : R < W3.heap.size) (hH : H ≤ W3.heap.size) (h2 : RD w4 W3.heap.size W3.heap.size (.slice b2 n2 cp2) ys) (hn2 : n2 = ys.length) (hbig : k + n2 ≤ 100000) :
    ∃ (g5 cap5 : Nat) (W5 : World), (∀ ty, (Builtin.append_ #[23, 23] ty #[.slice (some ⟨g3, 0, none⟩) k cap3, .slice b2 n2 cp2]).run Tryd.prog w4 = .ok (.slice (some ⟨g5, 0, none⟩) (k + n2) cap5) W5) ∧ InstsIs W5 0 (.slice (some ⟨g5, 0, none⟩) (k + n2) cap5) (xs ++ ys) ∧ w4.grownBy W5 (some g3) := by
  have hs := hB.size
  have hl3 := (hd.lt g3 rfl).2
  have hd4 : RD w4 H R (.slice (some ⟨g3, 0, none⟩) k cap3) xs := hd.move (row := none) (gb_below hB) (fun j hj => by cases hj)
  obtain ⟨cs, hcl, hone, hown, hefi⟩ := h2.cells
  have hE : EFi w4 H (fun b => b ≠ R ∧ some b ≠ some g3) ys cs := (hefi.base hH).move (gb_refl _ none) (fun _ _ _ _ => by simp) (fun b _ _ b3 => ⟨by have := b3.1; omega, by have := b3.1; simp; omega⟩)
  obtain ⟨g5, cap5, W5, hr, hRD, gg, hat⟩ := RD.cat (m := n2) cp2 b2 hd4 hk hn2 cs hE (by omega) (by omega) (by omega) (fun h0 => by
    rcases hown.2 with ⟨_, e0⟩ | ⟨g', cap', cur, e, _⟩
    · omega
    · simp only [Value.slice.injEq] at e
      obtain ⟨rfl, _, rfl⟩ := e
      exact ⟨g', 0, rfl, fun j u hu => by rw [Nat.zero_add]; exact own_at hown _ _ hu⟩)
  refine ⟨g5, cap5, W5, hr, ?_, gg⟩
  exact hRD.is (by rw [List.length_append]; omega)
theorem drawcheck_r {a : Option Addr} {len cap blk off : Nat} {z : Nat → Int} (w : World) (h : Code0 w a len cap blk off z) :
    Calls Tryd.prog 5 #[.slice a len cap] w fun e w' => HalfR w e w' := by
  have H := half_r w h
  go_enter Tryd.func5, Tryd.ntmps5
  go_wp2_with fail
  refine H.mono ?_
  rintro e w1 ⟨b, n, cp, xs, rfl, HX, hn, hs, g⟩
  have HF : Hid (HalfR w (.returned (.slice b n cp)) w1) := ⟨b, n, cp, xs, rfl, HX, hn, hs, g⟩
  clear HX g
  go_wp2
  go_ret
  exact HF.out
end Go.Proofs.YtbncgacnikmomaaDoor
