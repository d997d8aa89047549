/- Ladders compared: the laws' eq.. functions. -/
import Derived.Test.YtndfmgbdfcggmaaGreatDoorGaM
import Derived.Test.YtndfmgbdfcggmaaGreatDoorMaM
import Derived.Deep.RegionWith
import Derived.Deep.Cut
import Derived.Deep.QuietTactic
import Derived.BigQuiet
import Derived.Lib.QuietBelow
import Derived.Handy
import Derived.WalkLawsBesides
import Derived.ChangeArms
import Derived.Deep.Slices
import Derived.Test.YtndfmgbdfcggmaaGreatDoorChecked
import Derived.Test.YtndfmgbdfcggmaaGreatDoorRows
import Derived.Lib.LaidU8
import Derived.OpenVars
import Derived.Below
import Derived.WalkKit
import Derived.Test.YtndfmgbdfcggmaaGreatDoorEiM
import Derived.Test.YtndfmgbdfcggmaaGreatDoorDaM
import Derived.Deep.Upon
namespace Go.Proofs.YtndfmgbdfcggmaaGreatDoor
open Go.RowKit
set_option linter.unusedVariables false

noncomputable def eqB {α : Type} (a b : α) : Bool := @decide (a = b) (Classical.propDecidable _)
theorem eqB_true {α : Type} {a b : α} : eqB a b = true ↔ a = b := by simp [eqB]
theorem eqB_refl {α : Type} (a : α) : eqB a a = true := eqB_true.2 rfl
theorem eqB_false {α : Type} {a b : α} (h : a ≠ b) : eqB a b = false := by
  cases hb : eqB a b with
  | false => rfl
  | true => exact absurd (eqB_true.1 hb) h
theorem eqB_iff {α : Type} {a b : α} {r : Bool} (h : r = true ↔ a = b) : eqB a b = r := by
  cases r with
  | true => exact eqB_true.2 (h.1 rfl)
  | false => exact eqB_false fun e => by have := h.2 e; cases this
theorem range_regrown {w : World} {b o : Nat} {cs : List Value} (h : w.rangeAt b o cs) {W : World} (hp : ∃ p : Regrown, W = Sort.grow (redrawn w p.d) p.os) : W.rangeAt b o cs := by
  obtain ⟨p, rfl⟩ := hp
  exact fun i c hi => (Keeps.of_below (below_regrown w p.d p.os) 0) _ _ _ (Nat.zero_le _) (h i c hi)

end Go.Proofs.YtndfmgbdfcggmaaGreatDoor
/- Ladders compared: eqElem, eqNet, eqArm. -/
namespace Go.Proofs.YtndfmgbdfcggmaaGreatDoor
open Go.RowKit
set_option linter.unusedVariables false

theorem elemT_eq (e e' : ElemT) : (decide (e.op = e'.op) && eqB e.args e'.args) = true ↔ e = e' := by
  rw [Bool.and_eq_true, decide_eq_true_iff, eqB_true]
  cases e; cases e'; simp
end Go.Proofs.YtndfmgbdfcggmaaGreatDoor
/- Ladders handed in: what is read is a tree. -/
namespace Go.Proofs.YtndfmgbdfcggmaaGreatDoor
open Go.RowKit
set_option linter.unusedVariables false

section
variable {H : Type} {enc : TypeId × Value → H} {w : World} {base : Nat} {sp : Nat → Bool} {held : Bool}

end
end Go.Proofs.YtndfmgbdfcggmaaGreatDoor
/- Instructions in the memory: sizes, copies, comparison. -/
namespace Go.Proofs.YtndfmgbdfcggmaaGreatDoor
open Go.RowKit
set_option linter.unusedVariables false

structure InstT where
  code : Int
  one : ElemT
def InstIs (W : World) (lo : Nat) (i : InstT) (cs : List Value) : Prop := ∃ v, cs = [.int .i64 i.code, .int .i64 i.one.op, v] ∧ RowIs W lo 3 ArgIs v i.one.args
theorem InstIs.move {W W' : World} {lo lo' : Nat} (k : Keeps lo W W') (hl : lo' ≤ lo) {e : InstT} {cs : List Value} (h : InstIs W lo e cs) : InstIs W' lo' e cs := by
  obtain ⟨v, hc, hr⟩ := h
  exact ⟨v, hc, hr.move k hl fun _ _ _ h => h⟩
abbrev InstsIs (W : World) (lo : Nat) (v : Value) (xs : List InstT) : Prop := RowIs W lo 3 (InstIs W lo) v xs
theorem instsIs_move {W W' : World} {lo lo' : Nat} (k : Keeps lo W W') (hl : lo' ≤ lo) {v : Value} {xs : List InstT} (h : InstsIs W lo v xs) : InstsIs W' lo' v xs := h.move k hl fun _ _ _ h => h.move k hl
theorem instT_eq (i j : InstT) : (decide (i.code = j.code) && eqB i.one j.one) = true ↔ i = j := by
  rw [Bool.and_eq_true, decide_eq_true_iff, eqB_true]
  cases i; cases j; simp

end Go.Proofs.YtndfmgbdfcggmaaGreatDoor/- Instructions handed in. -/
namespace Go.Proofs.YtndfmgbdfcggmaaGreatDoor
open Go.RowKit
set_option linter.unusedVariables false

section
variable {H : Type} {enc : TypeId × Value → H} {w : World} {base : Nat} {sp : Nat → Bool} {held : Bool}
end
end Go.Proofs.YtndfmgbdfcggmaaGreatDoor/- The words of instructions: ListWord, both sides; the law FnExactListWord. -/
namespace Go.Proofs.YtndfmgbdfcggmaaGreatDoor
open Go.RowKit
open Go.Lib (VarReads)
set_option linter.unusedVariables false

/-- The words. -/
def lwd (n : Int) : ByteArray := if n = 1 then ⟨#[108, 100]⟩ else if n = 2 then ⟨#[97, 110, 100]⟩ else if n = 3 then ⟨#[111, 114]⟩ else if n = 4 then ⟨#[97, 110, 98]⟩ else if n = 5 then ⟨#[111, 114, 98]⟩ else if n = 6 then ⟨#[105, 110, 118]⟩ else if n = 7 then ⟨#[109, 112, 115]⟩ else if n = 8 then ⟨#[109, 114, 100]⟩ else if n = 9 then ⟨#[109, 112, 112]⟩ else if n = 10 then ⟨#[99, 111, 105, 108]⟩ else if n = 11 then ⟨#[101, 110, 100]⟩ else ⟨#[]⟩
theorem lwd_out {n : Int} (h : n < 1 ∨ 11 < n) : lwd n = ⟨#[]⟩ := by
  unfold lwd
  rw [if_neg (by omega), if_neg (by omega), if_neg (by omega), if_neg (by omega), if_neg (by omega), if_neg (by omega), if_neg (by omega), if_neg (by omega), if_neg (by omega), if_neg (by omega), if_neg (by omega)]
theorem c12 (i : Nat) (h : i < 12) : i = 0 ∨ i = 1 ∨ i = 2 ∨ i = 3 ∨ i = 4 ∨ i = 5 ∨ i = 6 ∨ i = 7 ∨ i = 8 ∨ i = 9 ∨ i = 10 ∨ i = 11 := by omega

/-- The table of words stands in the memory. -/
def LT (w : World) : Prop := ∀ i : Nat, i < 12 → w.cell? ⟨1, i, none⟩ = some (.string (lwd i))
theorem LT.lt {w : World} (h : LT w) : 1 < w.heap.size := World.block_lt_of_cell? _ _ (h 0 (by omega))
theorem LT.later {w w' : World} (h : LT w) (g : Below w.heap.size w w') : LT w' := fun i hi => (g.cell (p := ⟨1, i, none⟩) h.lt).trans (h i hi)

theorem gl_named : Tryz.prog.globalNamed "loop.example/stile/impl.listWords" = some 1 := by kernel_rfl
theorem gl_type : (Tryz.prog.globals[1]?).map (·.type) = some 114 := by kernel_rfl
theorem cellsStr : Tryz.prog.cellsOf 9 = 1 := by kernel_rfl
theorem ba_listL {s : ByteArray} {l : List UInt8} (h : s.data.toList = l) : s = ⟨l.toArray⟩ := by rw [← h, Lib.mk_data]
theorem lt_of_reads {W : World} (h : VarReads Tryz.prog W "loop.example/stile/impl.listWords" Rows.laid_loop_example_stile_impl_listWords) : LT W := by
  obtain ⟨g, t, cs, fuel, p, hg, ht, hv, hd⟩ := h
  obtain rfl := Option.some.inj (gl_named.symm.trans hg)
  obtain rfl := Option.some.inj (gl_type.symm.trans ht)
  intro i hi
  unfold Rows.laid_loop_example_stile_impl_listWords at hd
  obtain ⟨f', d, q, hdi, hr⟩ := Lib.array_elem Tryz.underlying114 hd i hi
  rw [cellsStr] at hr
  obtain ⟨s, hc, hx, _⟩ := DataW.trod_string Tryz.underlying9 hr
  have hcell : W.cell? ⟨1, i, none⟩ = some (.string s) := by
    rw [World.var?_cell hg hv]
    have := congrArg (·[0]?) hc
    simpa [List.getElem?_take, List.getElem?_drop] using this
  rw [hcell]
  rcases c12 i hi with rfl | rfl | rfl | rfl | rfl | rfl | rfl | rfl | rfl | rfl | rfl | rfl
  all_goals
    obtain rfl := Option.some.inj hdi
    simp only [Prod.mk.injEq, DataW.lit.injEq, Lit.string.injEq] at hx
    rw [ba_listL hx.1.symm]
    rfl

set_option maxHeartbeats 1000000 in
theorem word_i (n : Int) (w : World) (hT : LT w) : Calls Tryz.prog 39 #[.int .i64 n] w fun e w' => e = .returned (.string (lwd n)) ∧ Below w.heap.size w w' := by
  by_cases h0 : n < 0
  · rw [lwd_out (by omega)]
    go_enter Tryz.func39, Tryz.ntmps39
    go_wp2
    go_ret
    exact ⟨rfl, Below.refl _ _⟩
  · by_cases h1 : 12 ≤ n
    · rw [lwd_out (by omega)]
      go_enter Tryz.func39, Tryz.ntmps39
      go_wp2
      go_ret
      exact ⟨rfl, Below.refl _ _⟩
    · obtain ⟨k, rfl⟩ : ∃ k : Nat, n = (k : Int) := ⟨n.toNat, by omega⟩
      have hc := hT k (by omega)
      generalize lwd (k : Int) = L at hc ⊢
      have i0 : ¬ ((k : Int) < 0) := by omega
      have i1 : ¬ ((12 : Int) ≤ (k : Int)) := by omega
      have i2 : (k : Int) < 12 := by omega
      have i3 : (0 : Int) ≤ (k : Int) := by omega
      clear h0 h1 hT
      go_enter Tryz.func39, Tryz.ntmps39
      go_wp2
      go_ret
      exact ⟨rfl, Below.refl _ _⟩

set_option maxRecDepth 100000 in
set_option maxHeartbeats 2000000 in
theorem word_s (n : Int) (w : World) : Calls Tryz.prog 44 #[.int .i64 n] w fun e w' => e = .returned (.string (lwd n)) ∧ Below w.heap.size w w' := by
  have b1 : ∀ o, Below w.heap.size w (w.alloc o) := fun o => (Below.refl _ _).alloc (Nat.le_refl _) _
  by_cases h0 : n < 1
  · rw [lwd_out (by omega)]
    go_enter Tryz.func44, Tryz.ntmps44
    go_wp2
    go_ret
    exact ⟨rfl, Below.refl _ _⟩
  · by_cases h1 : 11 < n
    · rw [lwd_out (by omega)]
      go_enter Tryz.func44, Tryz.ntmps44
      go_wp2
      go_ret
      exact ⟨rfl, Below.refl _ _⟩
    · obtain rfl | rfl | rfl | rfl | rfl | rfl | rfl | rfl | rfl | rfl | rfl : n = 1 ∨ n = 2 ∨ n = 3 ∨ n = 4 ∨ n = 5 ∨ n = 6 ∨ n = 7 ∨ n = 8 ∨ n = 9 ∨ n = 10 ∨ n = 11 := by omega
      all_goals
        clear h0 h1
        go_enter Tryz.func44, Tryz.ntmps44
        go_wp2
        go_ret
        exact ⟨rfl, b1 _⟩

end Go.Proofs.YtndfmgbdfcggmaaGreatDoor
/- ListOk, both sides; the law FnExactListOk. -/
namespace Go.Proofs.YtndfmgbdfcggmaaGreatDoor
open Go.RowKit Go.Shelf
set_option linter.unusedVariables false

theorem sl_of {W : World} {lo : Nat} {a : Option Addr} {len cap : Nat} {xs : List ArgT} (h : ArgsIs W lo (.slice a len cap) xs) : len = xs.length ∧ Sl W a xs := by
  obtain ⟨a', cap', hv, hl, hx⟩ := h
  simp only [Value.slice.injEq] at hv
  obtain ⟨rfl, rfl, rfl⟩ := hv
  refine ⟨rfl, ?_⟩
  match xs, hx with
  | [], hx => exact .inl rfl
  | x :: r, hx =>
    obtain ⟨b, o, cs, rfl, _, _, _, _⟩ := hx 0 x rfl
    refine .inr ⟨b, o, rfl, fun j y hy => ?_⟩
    obtain ⟨b', o', cs, hb, _, _, hr, hR⟩ := hx j y hy
    simp only [Option.some.injEq, Addr.mk.injEq] at hb
    obtain ⟨rfl, rfl, _⟩ := hb
    obtain rfl : cs = _ := hR
    exact ⟨hr 0 _ rfl, hr 1 _ rfl, hr 2 _ rfl⟩

/-- An instruction that is ok. -/
def okI (c op : Int) (xs : List Arg) : Bool :=
  if c < 1 ∨ 11 < c then false else if c ≤ 3 then decide (op ≤ 10) && rtk op xs else if c = 10 then decide (21 ≤ op) && rtk op xs else decide (op = 0) && xs.isEmpty

theorem len_zero {α : Type} {xs : List α} {len : Nat} (h : len = xs.length) : decide (len = 0) = xs.isEmpty := by
  subst h; cases xs <;> simp

theorem lwd_some {c : Int} (h1 : 1 ≤ c) (h2 : c ≤ 11) : (lwd c).toList ≠ [] := by
  obtain rfl | rfl | rfl | rfl | rfl | rfl | rfl | rfl | rfl | rfl | rfl : c = 1 ∨ c = 2 ∨ c = 3 ∨ c = 4 ∨ c = 5 ∨ c = 6 ∨ c = 7 ∨ c = 8 ∨ c = 9 ∨ c = 10 ∨ c = 11 := by omega
  all_goals (decide +kernel)

set_option maxHeartbeats 1000000 in
theorem nothing_i (op : Int) (a : Option Addr) (len cap : Nat) (w : World) :
    Calls Tryz.prog 40 #[.agg #[.int .i64 op, .slice a len cap]] w fun e w' => e = .returned (.bool (decide (op = 0) && decide (len = 0))) ∧ Below w.heap.size w w' := by
  have b1 : ∀ o, Below w.heap.size w (w.alloc o) := fun o => (Below.refl _ _).alloc (Nat.le_refl _) _
  by_cases h : op = 0
  · subst h
    by_cases hl : len = 0
    · subst hl
      go_enter Tryz.func40, Tryz.ntmps40
      go_wp2
      go_ret
      exact ⟨rfl, b1 _⟩
    · have h2 : ((len : Int) == 0) = false := by simp; omega
      rw [show decide (len = 0) = false by simp [hl]]
      clear hl
      go_enter Tryz.func40, Tryz.ntmps40
      go_wp2
      go_ret
      exact ⟨rfl, b1 _⟩
  · rw [show decide (op = 0) = false by simp [h]]
    have h2 : (op == 0) = false := by simp [h]
    go_enter Tryz.func40, Tryz.ntmps40
    go_wp2
    go_ret
    exact ⟨rfl, b1 _⟩

set_option maxRecDepth 10000 in
set_option maxHeartbeats 4000000 in
theorem ok_i (c op : Int) (a : Option Addr) (xs : List Arg) (len cap : Nat) (hlen : len = xs.length) (w : World) (hT : KT w) (hL : LT w) (hx : Sl w a xs) :
    Calls Tryz.prog 15 #[.agg #[.int .i64 c, .int .i64 op, .slice a len cap]] w fun e w' => e = .returned (.bool (okI c op xs)) ∧ Below w.heap.size w w' := by
  have HC : Hid (∀ W, Below w.heap.size w W → Calls Tryz.prog 37 #[.agg #[.int .i64 op, .slice a len cap]] W fun e w' => e = .returned (.bool (decide (op ≤ 10) && rtk op xs)) ∧ Below W.heap.size W w') := fun W g => impl_iscontact op a xs len cap hlen W (hT.later g) (hx.later g)
  have HO : Hid (∀ W, Below w.heap.size w W → Calls Tryz.prog 38 #[.agg #[.int .i64 op, .slice a len cap]] W fun e w' => e = .returned (.bool (decide (21 ≤ op) && rtk op xs)) ∧ Below W.heap.size W w') := fun W g => impl_iscoil op a xs len cap hlen W (hT.later g) (hx.later g)
  have HN : Hid (∀ W, Calls Tryz.prog 40 #[.agg #[.int .i64 op, .slice a len cap]] W fun e w' => e = .returned (.bool (decide (op = 0) && decide (len = 0))) ∧ Below W.heap.size W w') := fun W => nothing_i op a len cap W
  have HW : Hid (∀ W, Below w.heap.size w W → Calls Tryz.prog 39 #[.int .i64 c] W fun e w' => e = .returned (.string (lwd c)) ∧ Below W.heap.size W w') := fun W g => word_i c W (hL.later g)
  have b0 : Below w.heap.size w (w.alloc (.cells #[.int .i64 c, .int .i64 op, .slice a len cap] 31)) := (Below.refl _ _).alloc (Nat.le_refl _) _
  have HE : Hid (decide (len = 0) = xs.isEmpty) := len_zero hlen
  clear hlen hx hT hL
  by_cases h3 : 1 ≤ c ∧ c ≤ 3
  · have e0 : okI c op xs = (decide (op ≤ 10) && rtk op xs) := by unfold okI; rw [if_neg (by omega), if_pos h3.2]
    rw [e0]
    generalize (decide (op ≤ 10) && rtk op xs) = R at HC ⊢
    obtain rfl | rfl | rfl : c = 1 ∨ c = 2 ∨ c = 3 := by omega
    all_goals
      clear h3 e0
      go_enter Tryz.func15, Tryz.ntmps15
      go_wp2_with fail
      refine (HC.out _ b0).mono ?_
      rintro e w1 ⟨rfl, g1⟩
      have b1 := b0.trans (g1.mono b0.size)
      clear g1 b0
      go_wp2
      go_ret
      exact ⟨rfl, b1⟩
  · have n1 : (c == 1) = false := by simp; omega
    have n2 : (c == 2) = false := by simp; omega
    have n3 : (c == 3) = false := by simp; omega
    by_cases h10 : c = 10
    · subst h10
      have e0 : okI 10 op xs = (decide (21 ≤ op) && rtk op xs) := by unfold okI; rw [if_neg (by omega), if_neg (by omega), if_pos rfl]
      rw [e0]
      generalize (decide (21 ≤ op) && rtk op xs) = R at HO ⊢
      clear h3 e0
      go_enter Tryz.func15, Tryz.ntmps15
      go_wp2_with fail
      refine (HO.out _ b0).mono ?_
      rintro e w1 ⟨rfl, g1⟩
      have b1 := b0.trans (g1.mono b0.size)
      clear g1 b0
      go_wp2
      go_ret
      exact ⟨rfl, b1⟩
    · have n4 : (c == 10) = false := by simp [h10]
      by_cases hr : 1 ≤ c ∧ c ≤ 11
      · have e0 : okI c op xs = (decide (op = 0) && decide (len = 0)) := by unfold okI; rw [if_neg (by omega), if_neg (by omega), if_neg h10, HE.out]
        rw [e0]
        have hs : (lwd c).toList.isEmpty = false := by
          cases h : (lwd c).toList with
          | nil => exact absurd h (lwd_some hr.1 hr.2)
          | cons _ _ => rfl
        generalize (decide (op = 0) && decide (len = 0)) = R at HN ⊢
        generalize lwd c = L at HW hs
        clear h3 e0 h10 hr
        go_enter Tryz.func15, Tryz.ntmps15
        go_wp2_with fail
        refine (HW.out _ b0).mono ?_
        rintro e w1 ⟨rfl, g1⟩
        have b1 := b0.trans (g1.mono b0.size)
        have c1 : w1.cell? ⟨w.heap.size, 1, none⟩ = some (.int .i64 op) := (g1.cell (p := ⟨w.heap.size, 1, none⟩) (by simp)).trans (by simp)
        have c2 : w1.cell? ⟨w.heap.size, 2, none⟩ = some (.slice a len cap) := (g1.cell (p := ⟨w.heap.size, 2, none⟩) (by simp)).trans (by simp)
        clear g1 b0
        go_wp2_with fail
        refine (HN.out _).mono ?_
        rintro e w2 ⟨rfl, g2⟩
        have b2 := b1.trans (g2.mono b1.size)
        clear g2 b1 c1 c2
        go_wp2
        go_ret
        exact ⟨rfl, b2⟩
      · have e0 : okI c op xs = false := by unfold okI; rw [if_pos (by omega)]
        rw [e0]
        rw [lwd_out (by omega)] at HW
        clear h3 e0 h10 hr
        go_enter Tryz.func15, Tryz.ntmps15
        go_wp2_with fail
        refine (HW.out _ b0).mono ?_
        rintro e w1 ⟨rfl, g1⟩
        have b1 := b0.trans (g1.mono b0.size)
        clear g1 b0
        go_wp2
        go_ret
        exact ⟨rfl, b1⟩

set_option maxRecDepth 10000 in
set_option maxHeartbeats 4000000 in
theorem ok_s (c op : Int) (a : Option Addr) (xs : List Arg) (len cap : Nat) (hlen : len = xs.length) (w : World) (hx : Sl w a xs) :
    Calls Tryz.prog 9 #[.agg #[.int .i64 c, .int .i64 op, .slice a len cap]] w fun e w' => e = .returned (.bool (okI c op xs)) ∧ Below w.heap.size w w' := by
  have HC : Hid (∀ W, Below w.heap.size w W → Calls Tryz.prog 24 #[.agg #[.int .i64 op, .slice a len cap]] W fun e w' => e = .returned (.bool (decide (op ≤ 10) && rtk op xs)) ∧ Below W.heap.size W w') := fun W g => spec_iscontact op a xs len cap hlen W (hx.later g)
  have HO : Hid (∀ W, Below w.heap.size w W → Calls Tryz.prog 25 #[.agg #[.int .i64 op, .slice a len cap]] W fun e w' => e = .returned (.bool (decide (21 ≤ op) && rtk op xs)) ∧ Below W.heap.size W w') := fun W g => spec_iscoil op a xs len cap hlen W (hx.later g)
  have b0 : Below w.heap.size w (w.alloc (.cells #[.int .i64 c, .int .i64 op, .slice a len cap] 31)) := (Below.refl _ _).alloc (Nat.le_refl _) _
  have HE : Hid (decide (len = 0) = xs.isEmpty) := len_zero hlen
  clear hlen hx
  by_cases h1 : c < 1
  · have e0 : okI c op xs = false := by unfold okI; rw [if_pos (by omega)]
    rw [e0]
    go_enter Tryz.func9, Tryz.ntmps9
    go_wp2
    go_ret
    exact ⟨rfl, b0⟩
  by_cases h11 : 11 < c
  · have e0 : okI c op xs = false := by unfold okI; rw [if_pos (by omega)]
    rw [e0]
    go_enter Tryz.func9, Tryz.ntmps9
    go_wp2
    go_ret
    exact ⟨rfl, b0⟩
  by_cases h3 : c ≤ 3
  · have e0 : okI c op xs = (decide (op ≤ 10) && rtk op xs) := by unfold okI; rw [if_neg (by omega), if_pos h3]
    rw [e0]
    generalize (decide (op ≤ 10) && rtk op xs) = R at HC ⊢
    go_enter Tryz.func9, Tryz.ntmps9
    go_wp2_with fail
    refine (HC.out _ b0).mono ?_
    rintro e w1 ⟨rfl, g1⟩
    have b1 := b0.trans (g1.mono b0.size)
    clear g1 b0
    go_wp2
    go_ret
    exact ⟨rfl, b1⟩
  by_cases h10 : c = 10
  · subst h10
    have e0 : okI 10 op xs = (decide (21 ≤ op) && rtk op xs) := by unfold okI; rw [if_neg (by omega), if_neg (by omega), if_pos rfl]
    rw [e0]
    generalize (decide (21 ≤ op) && rtk op xs) = R at HO ⊢
    clear h1 h11 h3 e0
    go_enter Tryz.func9, Tryz.ntmps9
    go_wp2_with fail
    refine (HO.out _ b0).mono ?_
    rintro e w1 ⟨rfl, g1⟩
    have b1 := b0.trans (g1.mono b0.size)
    clear g1 b0
    go_wp2
    go_ret
    exact ⟨rfl, b1⟩
  have n4 : (c == 10) = false := by simp [h10]
  have e0 : okI c op xs = (decide (op = 0) && decide (len = 0)) := by unfold okI; rw [if_neg (by omega), if_neg (by omega), if_neg h10, HE.out]
  rw [e0]
  by_cases h : op = 0
  · subst h
    by_cases hl : len = 0
    · subst hl
      go_enter Tryz.func9, Tryz.ntmps9
      go_wp2
      go_ret
      exact ⟨rfl, b0⟩
    · have h2 : ((len : Int) == 0) = false := by simp; omega
      rw [show decide (len = 0) = false by simp [hl]]
      clear hl
      go_enter Tryz.func9, Tryz.ntmps9
      go_wp2
      go_ret
      exact ⟨rfl, b0⟩
  · rw [show decide (op = 0) = false by simp [h]]
    have h2 : (op == 0) = false := by simp [h]
    go_enter Tryz.func9, Tryz.ntmps9
    go_wp2
    go_ret
    exact ⟨rfl, b0⟩
end Go.Proofs.YtndfmgbdfcggmaaGreatDoor
/- What the draws of lists stand on, on a seat that reads lists too. -/
namespace Go.Proofs.YtndfmgbdfcggmaaGreatDoor
end Go.Proofs.YtndfmgbdfcggmaaGreatDoor
/- An append whose run is known, in a region that draws. -/
namespace Go.Proofs.YtndfmgbdfcggmaaGreatDoor
open Go.RowKit
set_option linter.unusedVariables false

section
variable {P : Program} {w : World}
/-- An append whose run is known, at a step of a region that draws. -/
theorem step_app_run {ops : Array Oper} {o : Oper} {a : Act} {K : Act → World → Prop} {Q : Exit → Act → World → Prop} {E : Prop} (hgd : o.guard = none) (s x : Operand) (t : TypeId)
    (ho : o.op = .call { callee := .builtin .append, args := #[s, x], argTypes := #[t, t] }) (v y : Value) (hs : a.eval s = v) (hx : a.eval x = y) (v' : Value) (w' : World)
    (hr : ∀ ty, (Builtin.append_ #[t, t] ty #[v, y]).run P w = .ok v' w') (h : K (a.put o.dst v') w') :
    if Region.wanted o (yielded ops a.tmps) = true then Oper.wp P o a w K Q else E := by
  have hw : Region.wanted o (yielded ops a.tmps) = true := by simp [Region.wanted, hgd]
  rw [if_pos hw]
  unfold Oper.wp execOp
  simp only [ho, resolve, invoke, builtin, Sem.run_bind, Sem.run_pure, Result.andThen_ok, List.map_toArray, List.map_cons, List.map_nil, hs, hx, hr]
  exact h
end
end Go.Proofs.YtndfmgbdfcggmaaGreatDoor
