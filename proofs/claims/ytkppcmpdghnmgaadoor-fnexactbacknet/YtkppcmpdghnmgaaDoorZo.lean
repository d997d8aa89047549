/- ListOk, both sides; the law FnExactListOk. -/
import Derived.Test.YtkppcmpdghnmgaaDoorZb
import Derived.Test.YtkppcmpdghnmgaaDoorZw
import Derived.Test.YtkppcmpdghnmgaaDoorEk
import Derived.Test.YtkppcmpdghnmgaaDoorDaM
import Derived.Deep.RegionWith
namespace Go.Proofs.YtkppcmpdghnmgaaDoor
open Go.RowKit Go.Shelf
set_option linter.unusedVariables false

theorem sl_of {W : World} {lo : Nat} {a : Option Addr} {len cap : Nat} {xs : List ArgT} (h : ArgsIs W lo (.slice a len cap) xs) : len = xs.length ∧ Sl W a xs := by
  obtain ⟨a', cap', hv, hl, hx⟩ := h
  simp only [Value.slice.injEq] at hv
  obtain ⟨rfl, rfl, rfl⟩ := hv
  refine ⟨rfl, ?_⟩
  match xs, hx with
  | [], hx => exact .inl rfl
  | x :: r, hx =>
    obtain ⟨b, o, cs, rfl, _, _, _, _⟩ := hx 0 x rfl
    refine .inr ⟨b, o, rfl, fun j y hy => ?_⟩
    obtain ⟨b', o', cs, hb, _, _, hr, hR⟩ := hx j y hy
    simp only [Option.some.injEq, Addr.mk.injEq] at hb
    obtain ⟨rfl, rfl, _⟩ := hb
    obtain rfl : cs = _ := hR
    exact ⟨hr 0 _ rfl, hr 1 _ rfl, hr 2 _ rfl⟩

/-- An instruction that is ok. -/
def okI (c op : Int) (xs : List Arg) : Bool :=
  if c < 1 ∨ 11 < c then false else if c ≤ 3 then decide (op ≤ 10) && rtk op xs else if c = 10 then decide (21 ≤ op) && rtk op xs else decide (op = 0) && xs.isEmpty

theorem len_zero {α : Type} {xs : List α} {len : Nat} (h : len = xs.length) : decide (len = 0) = xs.isEmpty := by
  subst h; cases xs <;> simp

theorem lwd_some {c : Int} (h1 : 1 ≤ c) (h2 : c ≤ 11) : (lwd c).toList ≠ [] := by
  obtain rfl | rfl | rfl | rfl | rfl | rfl | rfl | rfl | rfl | rfl | rfl : c = 1 ∨ c = 2 ∨ c = 3 ∨ c = 4 ∨ c = 5 ∨ c = 6 ∨ c = 7 ∨ c = 8 ∨ c = 9 ∨ c = 10 ∨ c = 11 := by omega
  all_goals (decide +kernel)

set_option maxHeartbeats 1000000 in
theorem nothing_i (op : Int) (a : Option Addr) (len cap : Nat) (w : World) :
    Calls Tryd.prog 40 #[.agg #[.int .i64 op, .slice a len cap]] w fun e w' => e = .returned (.bool (decide (op = 0) && decide (len = 0))) ∧ Below w.heap.size w w' := by
  have b1 : ∀ o, Below w.heap.size w (w.alloc o) := fun o => (Below.refl _ _).alloc (Nat.le_refl _) _
  by_cases h : op = 0
  · subst h
    by_cases hl : len = 0
    · subst hl
      go_enter Tryd.func40, Tryd.ntmps40
      go_wp2
      go_ret
      exact ⟨rfl, b1 _⟩
    · have h2 : ((len : Int) == 0) = false := by simp; omega
      rw [show decide (len = 0) = false by simp [hl]]
      clear hl
      go_enter Tryd.func40, Tryd.ntmps40
      go_wp2
      go_ret
      exact ⟨rfl, b1 _⟩
  · rw [show decide (op = 0) = false by simp [h]]
    have h2 : (op == 0) = false := by simp [h]
    go_enter Tryd.func40, Tryd.ntmps40
    go_wp2
    go_ret
    exact ⟨rfl, b1 _⟩

set_option maxRecDepth 10000 in
set_option maxHeartbeats 4000000 in
theorem ok_i (c op : Int) (a : Option Addr) (xs : List Arg) (len cap : Nat) (hlen : len = xs.length) (w : World) (hT : KT w) (hL : LT w) (hx : Sl w a xs) :
    Calls Tryd.prog 19 #[.agg #[.int .i64 c, .int .i64 op, .slice a len cap]] w fun e w' => e = .returned (.bool (okI c op xs)) ∧ Below w.heap.size w w' := by
  have HC : Hid (∀ W, Below w.heap.size w W → Calls Tryd.prog 37 #[.agg #[.int .i64 op, .slice a len cap]] W fun e w' => e = .returned (.bool (decide (op ≤ 10) && rtk op xs)) ∧ Below W.heap.size W w') := fun W g => impl_iscontact op a xs len cap hlen W (hT.later g) (hx.later g)
  have HO : Hid (∀ W, Below w.heap.size w W → Calls Tryd.prog 38 #[.agg #[.int .i64 op, .slice a len cap]] W fun e w' => e = .returned (.bool (decide (21 ≤ op) && rtk op xs)) ∧ Below W.heap.size W w') := fun W g => impl_iscoil op a xs len cap hlen W (hT.later g) (hx.later g)
  have HN : Hid (∀ W, Calls Tryd.prog 40 #[.agg #[.int .i64 op, .slice a len cap]] W fun e w' => e = .returned (.bool (decide (op = 0) && decide (len = 0))) ∧ Below W.heap.size W w') := fun W => nothing_i op a len cap W
  have HW : Hid (∀ W, Below w.heap.size w W → Calls Tryd.prog 39 #[.int .i64 c] W fun e w' => e = .returned (.string (lwd c)) ∧ Below W.heap.size W w') := fun W g => word_i c W (hL.later g)
  have b0 : Below w.heap.size w (w.alloc (.cells #[.int .i64 c, .int .i64 op, .slice a len cap] 46)) := (Below.refl _ _).alloc (Nat.le_refl _) _
  have HE : Hid (decide (len = 0) = xs.isEmpty) := len_zero hlen
  clear hlen hx hT hL
  by_cases h3 : 1 ≤ c ∧ c ≤ 3
  · have e0 : okI c op xs = (decide (op ≤ 10) && rtk op xs) := by unfold okI; rw [if_neg (by omega), if_pos h3.2]
    rw [e0]
    generalize (decide (op ≤ 10) && rtk op xs) = R at HC ⊢
    obtain rfl | rfl | rfl : c = 1 ∨ c = 2 ∨ c = 3 := by omega
    all_goals
      clear h3 e0
      go_enter Tryd.func19, Tryd.ntmps19
      go_wp2_with fail
      refine (HC.out _ b0).mono ?_
      rintro e w1 ⟨rfl, g1⟩
      have b1 := b0.trans (g1.mono b0.size)
      clear g1 b0
      go_wp2
      go_ret
      exact ⟨rfl, b1⟩
  · have n1 : (c == 1) = false := by simp; omega
    have n2 : (c == 2) = false := by simp; omega
    have n3 : (c == 3) = false := by simp; omega
    by_cases h10 : c = 10
    · subst h10
      have e0 : okI 10 op xs = (decide (21 ≤ op) && rtk op xs) := by unfold okI; rw [if_neg (by omega), if_neg (by omega), if_pos rfl]
      rw [e0]
      generalize (decide (21 ≤ op) && rtk op xs) = R at HO ⊢
      clear h3 e0
      go_enter Tryd.func19, Tryd.ntmps19
      go_wp2_with fail
      refine (HO.out _ b0).mono ?_
      rintro e w1 ⟨rfl, g1⟩
      have b1 := b0.trans (g1.mono b0.size)
      clear g1 b0
      go_wp2
      go_ret
      exact ⟨rfl, b1⟩
    · have n4 : (c == 10) = false := by simp [h10]
      by_cases hr : 1 ≤ c ∧ c ≤ 11
      · have e0 : okI c op xs = (decide (op = 0) && decide (len = 0)) := by unfold okI; rw [if_neg (by omega), if_neg (by omega), if_neg h10, HE.out]
        rw [e0]
        have hs : (lwd c).toList.isEmpty = false := by
          cases h : (lwd c).toList with
          | nil => exact absurd h (lwd_some hr.1 hr.2)
          | cons _ _ => rfl
        generalize (decide (op = 0) && decide (len = 0)) = R at HN ⊢
        generalize lwd c = L at HW hs
        clear h3 e0 h10 hr
        go_enter Tryd.func19, Tryd.ntmps19
        go_wp2_with fail
        refine (HW.out _ b0).mono ?_
        rintro e w1 ⟨rfl, g1⟩
        have b1 := b0.trans (g1.mono b0.size)
        have c1 : w1.cell? ⟨w.heap.size, 1, none⟩ = some (.int .i64 op) := (g1.cell (p := ⟨w.heap.size, 1, none⟩) (by simp)).trans (by simp)
        have c2 : w1.cell? ⟨w.heap.size, 2, none⟩ = some (.slice a len cap) := (g1.cell (p := ⟨w.heap.size, 2, none⟩) (by simp)).trans (by simp)
        clear g1 b0
        go_wp2_with fail
        refine (HN.out _).mono ?_
        rintro e w2 ⟨rfl, g2⟩
        have b2 := b1.trans (g2.mono b1.size)
        clear g2 b1 c1 c2
        go_wp2
        go_ret
        exact ⟨rfl, b2⟩
      · have e0 : okI c op xs = false := by unfold okI; rw [if_pos (by omega)]
        rw [e0]
        rw [lwd_out (by omega)] at HW
        clear h3 e0 h10 hr
        go_enter Tryd.func19, Tryd.ntmps19
        go_wp2_with fail
        refine (HW.out _ b0).mono ?_
        rintro e w1 ⟨rfl, g1⟩
        have b1 := b0.trans (g1.mono b0.size)
        clear g1 b0
        go_wp2
        go_ret
        exact ⟨rfl, b1⟩

set_option maxRecDepth 10000 in
set_option maxHeartbeats 4000000 in
theorem ok_s (c op : Int) (a : Option Addr) (xs : List Arg) (len cap : Nat) (hlen : len = xs.length) (w : World) (hx : Sl w a xs) :
    Calls Tryd.prog 14 #[.agg #[.int .i64 c, .int .i64 op, .slice a len cap]] w fun e w' => e = .returned (.bool (okI c op xs)) ∧ Below w.heap.size w w' := by
  have HC : Hid (∀ W, Below w.heap.size w W → Calls Tryd.prog 32 #[.agg #[.int .i64 op, .slice a len cap]] W fun e w' => e = .returned (.bool (decide (op ≤ 10) && rtk op xs)) ∧ Below W.heap.size W w') := fun W g => spec_iscontact op a xs len cap hlen W (hx.later g)
  have HO : Hid (∀ W, Below w.heap.size w W → Calls Tryd.prog 33 #[.agg #[.int .i64 op, .slice a len cap]] W fun e w' => e = .returned (.bool (decide (21 ≤ op) && rtk op xs)) ∧ Below W.heap.size W w') := fun W g => spec_iscoil op a xs len cap hlen W (hx.later g)
  have b0 : Below w.heap.size w (w.alloc (.cells #[.int .i64 c, .int .i64 op, .slice a len cap] 46)) := (Below.refl _ _).alloc (Nat.le_refl _) _
  have HE : Hid (decide (len = 0) = xs.isEmpty) := len_zero hlen
  clear hlen hx
  by_cases h1 : c < 1
  · have e0 : okI c op xs = false := by unfold okI; rw [if_pos (by omega)]
    rw [e0]
    go_enter Tryd.func14, Tryd.ntmps14
    go_wp2
    go_ret
    exact ⟨rfl, b0⟩
  by_cases h11 : 11 < c
  · have e0 : okI c op xs = false := by unfold okI; rw [if_pos (by omega)]
    rw [e0]
    go_enter Tryd.func14, Tryd.ntmps14
    go_wp2
    go_ret
    exact ⟨rfl, b0⟩
  by_cases h3 : c ≤ 3
  · have e0 : okI c op xs = (decide (op ≤ 10) && rtk op xs) := by unfold okI; rw [if_neg (by omega), if_pos h3]
    rw [e0]
    generalize (decide (op ≤ 10) && rtk op xs) = R at HC ⊢
    go_enter Tryd.func14, Tryd.ntmps14
    go_wp2_with fail
    refine (HC.out _ b0).mono ?_
    rintro e w1 ⟨rfl, g1⟩
    have b1 := b0.trans (g1.mono b0.size)
    clear g1 b0
    go_wp2
    go_ret
    exact ⟨rfl, b1⟩
  by_cases h10 : c = 10
  · subst h10
    have e0 : okI 10 op xs = (decide (21 ≤ op) && rtk op xs) := by unfold okI; rw [if_neg (by omega), if_neg (by omega), if_pos rfl]
    rw [e0]
    generalize (decide (21 ≤ op) && rtk op xs) = R at HO ⊢
    clear h1 h11 h3 e0
    go_enter Tryd.func14, Tryd.ntmps14
    go_wp2_with fail
    refine (HO.out _ b0).mono ?_
    rintro e w1 ⟨rfl, g1⟩
    have b1 := b0.trans (g1.mono b0.size)
    clear g1 b0
    go_wp2
    go_ret
    exact ⟨rfl, b1⟩
  have n4 : (c == 10) = false := by simp [h10]
  have e0 : okI c op xs = (decide (op = 0) && decide (len = 0)) := by unfold okI; rw [if_neg (by omega), if_neg (by omega), if_neg h10, HE.out]
  rw [e0]
  by_cases h : op = 0
  · subst h
    by_cases hl : len = 0
    · subst hl
      go_enter Tryd.func14, Tryd.ntmps14
      go_wp2
      go_ret
      exact ⟨rfl, b0⟩
    · have h2 : ((len : Int) == 0) = false := by simp; omega
      rw [show decide (len = 0) = false by simp [hl]]
      clear hl
      go_enter Tryd.func14, Tryd.ntmps14
      go_wp2
      go_ret
      exact ⟨rfl, b0⟩
  · rw [show decide (op = 0) = false by simp [h]]
    have h2 : (op == 0) = false := by simp [h]
    go_enter Tryd.func14, Tryd.ntmps14
    go_wp2
    go_ret
    exact ⟨rfl, b0⟩
end Go.Proofs.YtkppcmpdghnmgaaDoor
