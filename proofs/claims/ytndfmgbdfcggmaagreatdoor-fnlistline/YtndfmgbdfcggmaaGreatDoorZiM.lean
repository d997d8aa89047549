/- The code of a word; what a line of a list says, as mathematics. -/
import Derived.Test.YtndfmgbdfcggmaaGreatDoorZlM
import Derived.Test.YtndfmgbdfcggmaaGreatDoorZs
import Derived.Test.YtndfmgbdfcggmaaGreatDoorJlM
import Derived.Deep.RegionWith
import Derived.Deep.QuietTactic
import Derived.BigQuiet
import Derived.Lib.QuietBelow
namespace Go.Proofs.YtndfmgbdfcggmaaGreatDoor
open Go.RowKit
set_option linter.unusedVariables false

/-- The code with a word. -/
def codeW (s : ByteArray) : Int := if s = lwd 1 then 1 else if s = lwd 2 then 2 else if s = lwd 3 then 3 else if s = lwd 4 then 4 else if s = lwd 5 then 5 else if s = lwd 6 then 6 else if s = lwd 7 then 7 else if s = lwd 8 then 8 else if s = lwd 9 then 9 else if s = lwd 10 then 10 else if s = lwd 11 then 11 else 0
theorem codeW_at : ∀ k : Nat, k < 12 → codeW (lwd k) = k := by
  intro k hk
  rcases c12 k hk with rfl | rfl | rfl | rfl | rfl | rfl | rfl | rfl | rfl | rfl | rfl | rfl <;> decide +kernel
theorem codeW_no {s : ByteArray} (h : ∀ k : Nat, k < 12 → lwd k ≠ s) : codeW s = 0 := by
  unfold codeW
  rw [if_neg (fun e => h 1 (by omega) e.symm), if_neg (fun e => h 2 (by omega) e.symm), if_neg (fun e => h 3 (by omega) e.symm), if_neg (fun e => h 4 (by omega) e.symm), if_neg (fun e => h 5 (by omega) e.symm), if_neg (fun e => h 6 (by omega) e.symm), if_neg (fun e => h 7 (by omega) e.symm), if_neg (fun e => h 8 (by omega) e.symm), if_neg (fun e => h 9 (by omega) e.symm), if_neg (fun e => h 10 (by omega) e.symm), if_neg (fun e => h 11 (by omega) e.symm)]
theorem ba_eq {a b : ByteArray} (h : a.toList = b.toList) : a = b := by
  rw [Lib.toList_data, Lib.toList_data] at h
  exact ByteArray.ext (Array.toList_inj.1 h)

def lwA : List Value := (List.range 12).map fun k : Nat => .string (lwd (k : Int))
theorem lwA_at {W : World} (h : LT W) : W.rangeAt 1 0 lwA := by
  intro i c hi
  have hl : i < 12 := by have := (List.getElem?_eq_some_iff.1 hi).1; simpa [lwA] using this
  rw [Nat.zero_add, h i hl]
  unfold lwA at hi
  rw [List.getElem?_map, List.getElem?_range hl] at hi
  exact hi
theorem idxL (n : Nat) (hn : n < 12) (w : World) : (Instr.index 114 (.agg lwA.toArray) (.int .i64 n)).run Tryz.prog w = .ok (.string (lwd n)) w := by
  rcases c12 n hn with rfl | rfl | rfl | rfl | rfl | rfl | rfl | rfl | rfl | rfl | rfl | rfl <;> kernel_rfl

set_option maxRecDepth 10000 in
set_option maxHeartbeats 2000000 in
theorem code_i (s : ByteArray) (w : World) (hL : LT w) : Calls Tryz.prog 80 #[.string s] w fun e w' => e = .returned (.int .i64 (codeW s)) ∧ w' = w := by
  have HLD : Hid ((loadVar 114 ⟨1, 0, none⟩).run Tryz.prog w = .ok (.agg lwA.toArray) w) := run_loadVar_mid w 1 0 114 lwA _ (lwA_at hL) Tryz.underlying114 rfl (by kernel_rfl)
  have HIX : Hid (∀ n : Nat, n < 12 → ∀ w, (Instr.index 114 (.agg lwA.toArray) (.int .i64 n)).run Tryz.prog w = .ok (.string (lwd n)) w) := idxL
  generalize lwA.toArray = CS at HLD HIX
  obtain ⟨R, HR⟩ : ∃ R, Hid (R = codeW s) := ⟨_, rfl⟩
  rw [← HR.out]
  clear hL
  go_enter Tryz.func80, Tryz.ntmps80
  go_wp2_with (first | (refine wpL_load rfl 114 _ rfl _ _ rfl _ HLD.out ?_) | fail)
  go_loopg [6] 12 (fun g i wr => ∃ n : Nat, n + g = 12 ∧ i = .int .i64 n ∧ wr = w ∧ Hid (∀ k : Nat, k < n → lwd k ≠ s))
  case atStart => exact ⟨0, by omega, rfl, rfl, fun k hk => by omega⟩
  case round =>
    obtain ⟨n, hn, rfl, rfl, HS⟩ := hrel
    by_cases hlt : n < 12
    · have i1 : (n : Int) < 12 := by omega
      have i3 : (0 : Int) ≤ (n : Int) := by omega
      have hix := HIX.out n hlt
      by_cases he : lwd n = s
      · have e1 : ((lwd n).toList == s.toList) = true := by rw [he]; exact beq_self_eq_true _
        have HF : Hid (R = (n : Int)) := by show R = _; rw [HR.out, ← he]; exact codeW_at n hlt
        generalize lwd (n : Int) = L at hix e1
        clear he
        go_wp2
        go_ret
        exact ⟨by rw [HF.out]; rfl, rfl⟩
      · have e1 : ((lwd n).toList == s.toList) = false := by rw [beq_eq_false_iff_ne]; exact fun e => he (ba_eq e)
        have HS1 : Hid (∀ k : Nat, k < n + 1 → lwd k ≠ s) := fun k hk => by
          by_cases e : k = n
          · rw [e]; exact he
          · exact HS.out k (by omega)
        generalize lwd (n : Int) = L at hix e1
        clear he
        go_wp2
        go_roundg (gk - 1)
        case measure => omega
        case rel => exact ⟨n + 1, by omega, by simp, rfl, HS1⟩
    · have i1 : ¬ ((n : Int) < 12) := by omega
      have HF : Hid (R = 0) := by show R = 0; rw [HR.out]; exact codeW_no fun k hk => HS.out k (by omega)
      go_wp2
      go_ret
      exact ⟨by rw [HF.out]; rfl, rfl⟩

/-- A line, by its words, says this instruction. -/
def LineI (ws : List (List UInt8)) (i : InstT) : Prop := i.code = codeW (wdAt ws 0) ∧ okT i = true ∧ ((ws.length = 1 ∧ i.one = ⟨0, []⟩) ∨ (ws.length = 2 ∧ IsEl (wdAt ws 1) i.one.op i.one.args))
theorem LineI.one {ws : List (List UInt8)} {i j : InstT} (h : LineI ws i) (k : LineI ws j) : i = j := by
  obtain ⟨h1, _, h3⟩ := h
  obtain ⟨k1, _, k3⟩ := k
  have hc : i.code = j.code := h1.trans k1.symm
  have ho : i.one = j.one := by
    rcases h3 with ⟨a, b⟩ | ⟨a, b⟩ <;> rcases k3 with ⟨c, d⟩ | ⟨c, d⟩
    · rw [b, d]
    · omega
    · omega
    · have := etl_inj b.1 d.1 (b.2.trans d.2.symm)
      cases hi : i.one; cases hj : j.one
      rw [hi, hj] at this
      simp at this
      rw [this.1, this.2]
  cases i; cases j
  simp at hc ho
  rw [hc, ho]
noncomputable def lineOf (ws : List (List UInt8)) : Option InstT := open Classical in if h : ∃ i, LineI ws i then some h.choose else none
theorem lineOf_some {ws : List (List UInt8)} {i : InstT} (h : LineI ws i) : lineOf ws = some i := by
  unfold lineOf
  rw [dif_pos ⟨i, h⟩]
  exact congrArg some ((Exists.choose_spec (⟨i, h⟩ : ∃ i, LineI ws i)).one h)
theorem lineOf_none {ws : List (List UInt8)} (h : ∀ i, ¬ LineI ws i) : lineOf ws = none := by
  unfold lineOf
  rw [dif_neg (fun ⟨i, hi⟩ => h i hi)]

/-- Words that a line is parted into are not empty. -/
theorem lwords_full (l : List UInt8) : ∀ x ∈ lwords l, x ≠ [] := by
  intro x hx
  unfold lwords at hx
  have := (List.mem_filter.1 hx).2
  intro e
  rw [e] at this
  simp at this
theorem wdAt_none {ws : List (List UInt8)} (hf : ∀ x ∈ ws, x ≠ []) (j : Nat) : (wdAt ws j).toList = [] ↔ ws.length ≤ j := by
  rw [Lib.toList_data]
  unfold wdAt
  simp only [List.getD_eq_getElem?_getD]
  rcases Nat.lt_or_ge j ws.length with h | h
  · rw [List.getElem?_eq_getElem h]
    simp only [Option.getD_some]
    constructor
    · intro e; exact absurd e (hf _ (List.getElem_mem h))
    · intro e; omega
  · rw [List.getElem?_eq_none h]
    simp [h]
/-- What reading a line leaves behind. -/
def InstRes (ws : List (List UInt8)) (w : World) (e : Ending) (w' : World) : Prop :=
  (∃ (i : InstT) (g : List Nat) (a : Option Addr) (cap : Nat), lineOf ws = some i ∧ e = .returned (.tuple #[.agg #[.int .i64 i.code, .int .i64 i.one.op, .slice a i.one.args.length cap], .bool true]) ∧ ((i.one.args = [] ∧ g = [] ∧ a = none ∧ cap = 0) ∨ ∃ b, g = [b] ∧ a = some ⟨b, 0, none⟩ ∧ OpsOwn w' w.heap.size b cap i.one.args) ∧ Below w.heap.size w w') ∨
  (∃ (c op : Int) (a : Option Addr) (len cap : Nat), lineOf ws = none ∧ e = .returned (.tuple #[.agg #[.int .i64 c, .int .i64 op, .slice a len cap], .bool false]) ∧ Below w.heap.size w w')
end Go.Proofs.YtndfmgbdfcggmaaGreatDoor
/- The program's listInst. -/
namespace Go.Proofs.YtndfmgbdfcggmaaGreatDoor
open Go.RowKit
set_option linter.unusedVariables false

theorem below_three {w W : World} {B : Nat} (b : Below w.heap.size w W) (h : w.heap.size ≤ B) (x y z : Value) : Below w.heap.size w (((W.setCell ⟨B, 0, none⟩ x).setCell ⟨B, 1, none⟩ y).setCell ⟨B, 2, none⟩ z) :=
  ((b.setCell (p := ⟨B, 0, none⟩) h _).setCell (p := ⟨B, 1, none⟩) h _).setCell (p := ⟨B, 2, none⟩) h _
theorem own_drew {W : World} {base b cap : Nat} {xs : List Arg} (h : OpsOwn W base b cap xs) : OpsOwn W.drew base b cap xs := OpsOwn.later h (Below.refl _ _).drew
theorem own_three {W : World} {base b cap B : Nat} {xs : List Arg} (h : OpsOwn W base b cap xs) (hB : B ≠ b) (x y z : Value) : OpsOwn (((W.setCell ⟨B, 0, none⟩ x).setCell ⟨B, 1, none⟩ y).setCell ⟨B, 2, none⟩ z) base b cap xs :=
  World.ownsRow.kept h (gb_set (gb_set (gb_set (gb_refl W (some B)) 0 x) 1 y) 2 z) (.inr (by simp [Value.ownBlock]; omega))
theorem setRow_grown (W : World) (B : Nat) (D : Array Value) : W.grownBy (W.setRow B D) (some B) := ⟨rfl, rfl, rfl, Nat.le_of_eq (size_setRow W B D).symm, fun k hk hne => setRow_other _ _ _ _ (fun e => hne (by rw [e]))⟩
theorem inst_free {X : World} {B : Nat} {T : TypeId} {a b c : Value} {w3 : World} {W : World} (g3 : Below W.heap.size W w3) (kA : X.heap[B]? = some (.cells #[a, b, c] T (0, 0))) (hX : W.heap = X.heap := by rfl) :
    w3.cell? ⟨B, 0, none⟩ = some a ∧ w3.cell? ⟨B, 1, none⟩ = some b ∧ w3.cell? ⟨B, 2, none⟩ = some c ∧ w3.frozen? ⟨B, 0, none⟩ = false ∧ w3.frozen? ⟨B, 1, none⟩ = false ∧ w3.frozen? ⟨B, 2, none⟩ = false := by
  have k3 : w3.heap[B]? = some (.cells #[a, b, c] T (0, 0)) := by
    have h0 : W.heap[B]? = some (.cells #[a, b, c] T (0, 0)) := by rw [hX]; exact kA
    exact (g3.block _ (Array.getElem?_eq_some_iff.1 h0).1).trans h0
  exact ⟨(cell_of_row _ _ _ _ _ _ k3).trans rfl, (cell_of_row _ _ _ _ _ _ k3).trans rfl, (cell_of_row _ _ _ _ _ _ k3).trans rfl, by simp [World.frozen?, k3], by simp [World.frozen?, k3], by simp [World.frozen?, k3]⟩

set_option maxRecDepth 10000 in
set_option maxHeartbeats 4000000 in
theorem inst_a (y0 y1 y2 : ByteArray) (C : Int) (R : Bool) (w : World) (h1 : (y1.toList == []) = true) (h2 : (y2.toList == []) = true)
    (HCd : Hid (∀ W, Below w.heap.size w W → Calls Tryz.prog 80 #[.string y0] W fun e w' => e = .returned (.int .i64 C) ∧ w' = W))
    (HOk : Hid (∀ W, Below w.heap.size w W → Calls Tryz.prog 15 #[.agg #[.int .i64 C, .int .i64 0, .slice none 0 0]] W fun e w' => e = .returned (.bool R) ∧ Below W.heap.size W w')) :
    Calls Tryz.prog 58 #[.agg #[.string y0, .string y1, .string y2]] w fun e w' => e = .returned (.tuple #[.agg #[.int .i64 C, .int .i64 0, .slice none 0 0], .bool R]) ∧ Below w.heap.size w w' := by
  have h1n : (!y1.toList.isEmpty) = false := by
    cases h : y1.toList with
    | nil => rfl
    | cons a b => rw [h] at h1; exact absurd h1 (by simp)
  have b0 : Below w.heap.size w ((w.alloc (.cells #[.string y0, .string y1, .string y2] 88)).alloc (.cells #[.int .i64 0, .int .i64 0, .slice none 0 0] 31)) := ((Below.refl _ _).alloc (Nat.le_refl _) _).alloc (by simp) _
  have b1 : Below w.heap.size w (((w.alloc (.cells #[.string y0, .string y1, .string y2] 88)).alloc (.cells #[.int .i64 0, .int .i64 0, .slice none 0 0] 31)).alloc (.cells #[.int .i64 C, .int .i64 0, .slice none 0 0] 31)) := b0.alloc (by simp; omega) _
  have kA : (((w.alloc (.cells #[.string y0, .string y1, .string y2] 88)).alloc (.cells #[.int .i64 0, .int .i64 0, .slice none 0 0] 31)).alloc (.cells #[.int .i64 C, .int .i64 0, .slice none 0 0] 31)).heap[w.heap.size + 1]? = some (.cells #[.int .i64 0, .int .i64 0, .slice none 0 0] 31 (0, 0)) := by
    rw [heap_alloc_old _ _ (h := by simp)]
    have := heap_alloc_last (w.alloc (.cells #[.string y0, .string y1, .string y2] 88)) (.cells #[.int .i64 0, .int .i64 0, .slice none 0 0] 31)
    simpa using this
  have kB : (((w.alloc (.cells #[.string y0, .string y1, .string y2] 88)).alloc (.cells #[.int .i64 0, .int .i64 0, .slice none 0 0] 31)).alloc (.cells #[.int .i64 C, .int .i64 0, .slice none 0 0] 31)).heap[w.heap.size + 1 + 1]? = some (.cells #[.int .i64 C, .int .i64 0, .slice none 0 0] 31 (0, 0)) := by
    have := heap_alloc_last ((w.alloc (.cells #[.string y0, .string y1, .string y2] 88)).alloc (.cells #[.int .i64 0, .int .i64 0, .slice none 0 0] 31)) (.cells #[.int .i64 C, .int .i64 0, .slice none 0 0] 31)
    simpa using this
  go_enter Tryz.func58, Tryz.ntmps58
  go_wp2_with fail
  refine (HCd.out _ b0).mono ?_
  rintro e w1 ⟨rfl, rfl⟩
  go_upto_region 7 with fail
  go_region_with (first | (go_at_call 15; refine (HOk.out _ (by first | exact b1 | exact b1.drew)).mono ?_; rintro e w3 ⟨rfl, g3⟩; obtain ⟨c0, c1, c2, f0, f1, f2⟩ := inst_free g3 kA; obtain ⟨d0, d1, d2, _, _, _⟩ := inst_free g3 kB; have b3 : Below w.heap.size w w3 := (by first | exact b1.trans (g3.mono b1.size) | exact b1.drew.trans (g3.mono b1.drew.size))))
  all_goals go_wp2
  all_goals refine bodyPost_ret (v := .tuple #[.agg #[.int .i64 C, .int .i64 0, .slice none 0 0], .bool R]) (by simp [results, Tryz.results58, go_sem, c0, c1, c2]) rfl ⟨rfl, ?_⟩
  all_goals first | exact below_three b3 (by omega) _ _ _ | exact (below_three b3 (by omega) _ _ _).drew | exact below_three b3.drew (by omega) _ _ _

set_option maxRecDepth 10000 in
set_option maxHeartbeats 4000000 in
theorem inst_b (y0 y1 y2 : ByteArray) (C : Int) (w : World) (h1 : (y1.toList == []) = false)
    (HCd : Hid (∀ W, Below w.heap.size w W → Calls Tryz.prog 80 #[.string y0] W fun e w' => e = .returned (.int .i64 C) ∧ w' = W))
    (HEr : Hid (∀ W, Below w.heap.size w W → Calls Tryz.prog 81 #[.string y1] W fun e w' => e = .returned (.tuple #[.agg #[.int .i64 0, .slice none 0 0], .bool false]) ∧ Below W.heap.size W w')) :
    Calls Tryz.prog 58 #[.agg #[.string y0, .string y1, .string y2]] w fun e w' => e = .returned (.tuple #[.agg #[.int .i64 0, .int .i64 0, .slice none 0 0], .bool false]) ∧ Below w.heap.size w w' := by
  have h1n : (!y1.toList.isEmpty) = true := by
    cases h : y1.toList with
    | nil => rw [h] at h1; exact absurd h1 (by simp)
    | cons a b => rfl
  have b0 : Below w.heap.size w ((w.alloc (.cells #[.string y0, .string y1, .string y2] 88)).alloc (.cells #[.int .i64 0, .int .i64 0, .slice none 0 0] 31)) := ((Below.refl _ _).alloc (Nat.le_refl _) _).alloc (by simp) _
  have b1 : Below w.heap.size w (((w.alloc (.cells #[.string y0, .string y1, .string y2] 88)).alloc (.cells #[.int .i64 0, .int .i64 0, .slice none 0 0] 31)).alloc (.cells #[.int .i64 C, .int .i64 0, .slice none 0 0] 31)) := b0.alloc (by simp; omega) _
  have kA : (((w.alloc (.cells #[.string y0, .string y1, .string y2] 88)).alloc (.cells #[.int .i64 0, .int .i64 0, .slice none 0 0] 31)).alloc (.cells #[.int .i64 C, .int .i64 0, .slice none 0 0] 31)).heap[w.heap.size + 1]? = some (.cells #[.int .i64 0, .int .i64 0, .slice none 0 0] 31 (0, 0)) := by
    rw [heap_alloc_old _ _ (h := by simp)]
    have := heap_alloc_last (w.alloc (.cells #[.string y0, .string y1, .string y2] 88)) (.cells #[.int .i64 0, .int .i64 0, .slice none 0 0] 31)
    simpa using this
  go_enter Tryz.func58, Tryz.ntmps58
  go_wp2_with fail
  refine (HCd.out _ b0).mono ?_
  rintro e w1 ⟨rfl, rfl⟩
  go_wp2_with fail
  refine (HEr.out _ b1).mono ?_
  rintro e w2 ⟨rfl, g2⟩
  have hA2 := (g2.block _ (Array.getElem?_eq_some_iff.1 kA).1).trans kA
  have lA : w.heap.size + 1 < w2.heap.size := (Array.getElem?_eq_some_iff.1 hA2).1
  have b2 := b1.trans (g2.mono b1.size)
  have b3 : Below w.heap.size w (w2.alloc (.cells #[.int .i64 0, .slice none 0 0] 29)) := b2.alloc b2.size _
  have kA2 : (w2.alloc (.cells #[.int .i64 0, .slice none 0 0] 29)).heap[w.heap.size + 1]? = some (.cells #[.int .i64 0, .int .i64 0, .slice none 0 0] 31 (0, 0)) := (heap_alloc_old _ _ (h := lA)).trans hA2
  have HST : Hid ((storeVar 31 ⟨w.heap.size + 1, 0, none⟩ (.agg #[.int .i64 0, .int .i64 0, .slice none 0 0])).run Tryz.prog (w2.alloc (.cells #[.int .i64 0, .slice none 0 0] 29)) = .ok () ((w2.alloc (.cells #[.int .i64 0, .slice none 0 0] 29)).setRow (w.heap.size + 1) #[.int .i64 0, .int .i64 0, .slice none 0 0])) := store_all kA2 31 _ rfl (by kernel_rfl) (all_one [.int .i64 0, .int .i64 0, .slice none 0 0] (mem3x rfl rfl rfl))
  have rA := row_set kA2 #[.int .i64 0, .int .i64 0, .slice none 0 0]
  have q0 : ((w2.alloc (.cells #[.int .i64 0, .slice none 0 0] 29)).setRow (w.heap.size + 1) #[.int .i64 0, .int .i64 0, .slice none 0 0]).cell? ⟨w.heap.size + 1, 0, none⟩ = some (.int .i64 0) := (cell_of_row _ _ _ _ _ _ rA).trans rfl
  have q1 : ((w2.alloc (.cells #[.int .i64 0, .slice none 0 0] 29)).setRow (w.heap.size + 1) #[.int .i64 0, .int .i64 0, .slice none 0 0]).cell? ⟨w.heap.size + 1, 1, none⟩ = some (.int .i64 0) := (cell_of_row _ _ _ _ _ _ rA).trans rfl
  have q2 : ((w2.alloc (.cells #[.int .i64 0, .slice none 0 0] 29)).setRow (w.heap.size + 1) #[.int .i64 0, .int .i64 0, .slice none 0 0]).cell? ⟨w.heap.size + 1, 2, none⟩ = some (.slice none 0 0) := (cell_of_row _ _ _ _ _ _ rA).trans rfl
  have bF : Below w.heap.size w ((w2.alloc (.cells #[.int .i64 0, .slice none 0 0] 29)).setRow (w.heap.size + 1) #[.int .i64 0, .int .i64 0, .slice none 0 0]) := below_setRow b3 (by omega) _
  obtain ⟨WF, HWF⟩ : ∃ W, Hid (W = (w2.alloc (.cells #[.int .i64 0, .slice none 0 0] 29)).setRow (w.heap.size + 1) #[.int .i64 0, .int .i64 0, .slice none 0 0]) := ⟨_, rfl⟩
  rw [← HWF.out] at HST q0 q1 q2 bF
  clear g2 hA2 kA2 rA HWF
  go_wp2_with (first | (refine wpL_store rfl 31 _ _ rfl _ _ rfl _ rfl _ HST.out ?_) | fail)
  exact bodyPost_ret (v := .tuple #[.agg #[.int .i64 0, .int .i64 0, .slice none 0 0], .bool false]) (by simp [results, Tryz.results58, go_sem, q0, q1, q2]) rfl ⟨rfl, bF⟩

set_option maxRecDepth 10000 in
set_option maxHeartbeats 8000000 in
theorem inst_c (s1 y0 y1 y2 : ByteArray) (C op : Int) (xs : List Arg) (w : World) (h1 : (y1.toList == []) = false) (h2 : (y2.toList == []) = false)
    (HCd : Hid (∀ W, Below w.heap.size w W → Calls Tryz.prog 80 #[.string y0] W fun e w' => e = .returned (.int .i64 C) ∧ w' = W))
    (HEr : Hid (∀ W, Below w.heap.size w W → Calls Tryz.prog 81 #[.string y1] W fun e w' => ∃ b cap, e = .returned (.tuple #[.agg #[.int .i64 op, .slice (some ⟨b, 0, none⟩) xs.length cap], .bool true]) ∧ OpsOwn w' W.heap.size b cap xs ∧ Below W.heap.size W w'))
 :
    Calls Tryz.prog 58 #[.agg #[.string y0, .string y1, .string y2]] w fun e w' => ∃ b cap, e = .returned (.tuple #[.agg #[.int .i64 C, .int .i64 op, .slice (some ⟨b, 0, none⟩) xs.length cap], .bool false]) ∧ Below w.heap.size w w' := by
  have h1n : (!y1.toList.isEmpty) = true := by
    cases h : y1.toList with
    | nil => rw [h] at h1; exact absurd h1 (by simp)
    | cons a b => rfl
  have b0 : Below w.heap.size w ((w.alloc (.cells #[.string y0, .string y1, .string y2] 88)).alloc (.cells #[.int .i64 0, .int .i64 0, .slice none 0 0] 31)) := ((Below.refl _ _).alloc (Nat.le_refl _) _).alloc (by simp) _
  have b1 : Below w.heap.size w (((w.alloc (.cells #[.string y0, .string y1, .string y2] 88)).alloc (.cells #[.int .i64 0, .int .i64 0, .slice none 0 0] 31)).alloc (.cells #[.int .i64 C, .int .i64 0, .slice none 0 0] 31)) := b0.alloc (by simp; omega) _
  have kA : (((w.alloc (.cells #[.string y0, .string y1, .string y2] 88)).alloc (.cells #[.int .i64 0, .int .i64 0, .slice none 0 0] 31)).alloc (.cells #[.int .i64 C, .int .i64 0, .slice none 0 0] 31)).heap[w.heap.size + 1]? = some (.cells #[.int .i64 0, .int .i64 0, .slice none 0 0] 31 (0, 0)) := by
    rw [heap_alloc_old _ _ (h := by simp)]
    have := heap_alloc_last (w.alloc (.cells #[.string y0, .string y1, .string y2] 88)) (.cells #[.int .i64 0, .int .i64 0, .slice none 0 0] 31)
    simpa using this
  have kB : (((w.alloc (.cells #[.string y0, .string y1, .string y2] 88)).alloc (.cells #[.int .i64 0, .int .i64 0, .slice none 0 0] 31)).alloc (.cells #[.int .i64 C, .int .i64 0, .slice none 0 0] 31)).heap[w.heap.size + 1 + 1]? = some (.cells #[.int .i64 C, .int .i64 0, .slice none 0 0] 31 (0, 0)) := by
    have := heap_alloc_last ((w.alloc (.cells #[.string y0, .string y1, .string y2] 88)).alloc (.cells #[.int .i64 0, .int .i64 0, .slice none 0 0] 31)) (.cells #[.int .i64 C, .int .i64 0, .slice none 0 0] 31)
    simpa using this
  have kY : (((w.alloc (.cells #[.string y0, .string y1, .string y2] 88)).alloc (.cells #[.int .i64 0, .int .i64 0, .slice none 0 0] 31)).alloc (.cells #[.int .i64 C, .int .i64 0, .slice none 0 0] 31)).heap[w.heap.size]? = some (.cells #[.string y0, .string y1, .string y2] 88 (0, 0)) := by
    rw [heap_alloc_old _ _ (h := by simp; omega), heap_alloc_old _ _ (h := by simp)]
    exact heap_alloc_last w _
  have sz1 : (((w.alloc (.cells #[.string y0, .string y1, .string y2] 88)).alloc (.cells #[.int .i64 0, .int .i64 0, .slice none 0 0] 31)).alloc (.cells #[.int .i64 C, .int .i64 0, .slice none 0 0] 31)).heap.size = w.heap.size + 1 + 1 + 1 := by simp
  obtain ⟨len, HLn⟩ : ∃ l, Hid (l = xs.length) := ⟨_, rfl⟩
  rw [← HLn.out] at HEr
  go_enter Tryz.func58, Tryz.ntmps58
  go_wp2_with fail
  refine (HCd.out _ b0).mono ?_
  rintro e w1 ⟨rfl, rfl⟩
  go_wp2_with fail
  refine (HEr.out _ b1).mono ?_
  rintro e w2 ⟨b, cap, rfl, hO, g2⟩
  have hA2 := (g2.block _ (Array.getElem?_eq_some_iff.1 kA).1).trans kA
  have hB2 := (g2.block _ (Array.getElem?_eq_some_iff.1 kB).1).trans kB
  have hY2 := (g2.block _ (Array.getElem?_eq_some_iff.1 kY).1).trans kY
  have hbl : w.heap.size + 1 + 1 + 1 ≤ b ∧ b < w2.heap.size := by
    have := World.ownsRow.lt hO b rfl
    rw [sz1] at this; exact this
  have b2 := b1.trans (g2.mono b1.size)
  have b3 : Below w.heap.size w (w2.alloc (.cells #[.int .i64 op, .slice (some ⟨b, 0, none⟩) len cap] 29)) := b2.alloc b2.size _
  have lB : w.heap.size + 1 + 1 < w2.heap.size := by omega
  have kA2 : (w2.alloc (.cells #[.int .i64 op, .slice (some ⟨b, 0, none⟩) len cap] 29)).heap[w.heap.size + 1]? = some (.cells #[.int .i64 0, .int .i64 0, .slice none 0 0] 31 (0, 0)) := (heap_alloc_old _ _ (h := by omega)).trans hA2
  have kB2 : (w2.alloc (.cells #[.int .i64 op, .slice (some ⟨b, 0, none⟩) len cap] 29)).heap[w.heap.size + 1 + 1]? = some (.cells #[.int .i64 C, .int .i64 0, .slice none 0 0] 31 (0, 0)) := (heap_alloc_old _ _ (h := lB)).trans hB2
  have kY2 : (w2.alloc (.cells #[.int .i64 op, .slice (some ⟨b, 0, none⟩) len cap] 29)).heap[w.heap.size]? = some (.cells #[.string y0, .string y1, .string y2] 88 (0, 0)) := (heap_alloc_old _ _ (h := by omega)).trans hY2
  have HSB : Hid ((storeVar 29 ⟨w.heap.size + 1 + 1, 1, none⟩ (.agg #[.int .i64 op, .slice (some ⟨b, 0, none⟩) len cap])).run Tryz.prog (w2.alloc (.cells #[.int .i64 op, .slice (some ⟨b, 0, none⟩) len cap] 29)) = .ok () ((w2.alloc (.cells #[.int .i64 op, .slice (some ⟨b, 0, none⟩) len cap] 29)).setRow (w.heap.size + 1 + 1) #[.int .i64 C, .int .i64 op, .slice (some ⟨b, 0, none⟩) len cap])) := store_sub (P := Tryz.prog) kB2 29 1 #[.int .i64 op, .slice (some ⟨b, 0, none⟩) len cap] (by simp) (by kernel_rfl) (all_one [.int .i64 op, .slice (some ⟨b, 0, none⟩) len cap] (by intro d hd; simp at hd; rcases hd with rfl | rfl <;> rfl))
  obtain ⟨W3, HW3⟩ : ∃ W, Hid (W = (w2.alloc (.cells #[.int .i64 op, .slice (some ⟨b, 0, none⟩) len cap] 29)).setRow (w.heap.size + 1 + 1) #[.int .i64 C, .int .i64 op, .slice (some ⟨b, 0, none⟩) len cap]) := ⟨_, rfl⟩
  have kA3 : W3.heap[w.heap.size + 1]? = some (.cells #[.int .i64 0, .int .i64 0, .slice none 0 0] 31 (0, 0)) := by rw [HW3.out]; exact row_beside kA2 _ (by omega) _
  have kB3 : W3.heap[w.heap.size + 1 + 1]? = some (.cells #[.int .i64 C, .int .i64 op, .slice (some ⟨b, 0, none⟩) len cap] 31 (0, 0)) := by rw [HW3.out]; exact row_set kB2 _
  have kY3 : W3.heap[w.heap.size]? = some (.cells #[.string y0, .string y1, .string y2] 88 (0, 0)) := by rw [HW3.out]; exact row_beside kY2 _ (by omega) _
  have b4 : Below w.heap.size w W3 := by rw [HW3.out]; exact below_setRow b3 (by omega) _
  have G3 : w2.grownBy W3 (some (w.heap.size + 1 + 1)) := by
    rw [HW3.out]
    exact (World.grownBy_alloc w2 _ _).trans (setRow_grown _ _ _)
  have O3 : OpsOwn W3 (((w.alloc (.cells #[.string y0, .string y1, .string y2] 88)).alloc (.cells #[.int .i64 0, .int .i64 0, .slice none 0 0] 31)).alloc (.cells #[.int .i64 C, .int .i64 0, .slice none 0 0] 31)).heap.size b cap xs := World.ownsRow.kept hO G3 (.inr (by simp [Value.ownBlock]; omega))
  rw [← HW3.out] at HSB
  have HO3 : Hid (OpsOwn W3 w.heap.size b cap xs) := O3.base (by omega)
  obtain ⟨c0, c1, c2, f0, f1, f2⟩ := inst_free (X := W3) (Below.refl _ _) kA3
  obtain ⟨d0, d1, d2, _, _, _⟩ := inst_free (X := W3) (Below.refl _ _) kB3
  have e2 : W3.cell? ⟨w.heap.size, 2, none⟩ = some (.string y2) := (cell_of_row _ _ _ _ _ _ kY3).trans rfl
  have s3 : w.heap.size + 1 + 1 < W3.heap.size := (Array.getElem?_eq_some_iff.1 kB3).1
  clear g2 hA2 hB2 hY2 kA2 kB2 kY2 HW3 O3 G3 hO b3 b2 kA kB kY sz1
  go_wp2_with (first | (refine wpL_store rfl 29 _ _ rfl _ _ rfl _ rfl _ HSB.out ?_) | fail)
  go_region
  all_goals go_wp2
  all_goals refine bodyPost_ret (v := .tuple #[.agg #[.int .i64 C, .int .i64 op, .slice (some ⟨b, 0, none⟩) len cap], .bool false]) (by simp [results, Tryz.results58, go_sem, c0, c1, c2]) rfl ⟨b, cap, by rw [HLn.out], ?_⟩
  all_goals first | exact below_three b4 (by omega) _ _ _ | exact (below_three b4 (by omega) _ _ _).drew | exact below_three b4.drew (by omega) _ _ _

set_option maxRecDepth 10000 in
set_option maxHeartbeats 8000000 in
theorem inst_d (s1 y0 y1 y2 : ByteArray) (C op : Int) (xs : List Arg) (R : Bool) (w : World) (h1 : (y1.toList == []) = false) (h2 : (y2.toList == []) = true)
    (HCd : Hid (∀ W, Below w.heap.size w W → Calls Tryz.prog 80 #[.string y0] W fun e w' => e = .returned (.int .i64 C) ∧ w' = W))
    (HEr : Hid (∀ W, Below w.heap.size w W → Calls Tryz.prog 81 #[.string y1] W fun e w' => ∃ b cap, e = .returned (.tuple #[.agg #[.int .i64 op, .slice (some ⟨b, 0, none⟩) xs.length cap], .bool true]) ∧ OpsOwn w' W.heap.size b cap xs ∧ Below W.heap.size W w'))
    (HOk : Hid (∀ W b cap, Below w.heap.size w W → OpsOwn W w.heap.size b cap xs → Calls Tryz.prog 15 #[.agg #[.int .i64 C, .int .i64 op, .slice (some ⟨b, 0, none⟩) xs.length cap]] W fun e w' => e = .returned (.bool R) ∧ Below W.heap.size W w')) :
    Calls Tryz.prog 58 #[.agg #[.string y0, .string y1, .string y2]] w fun e w' => ∃ b cap, e = .returned (.tuple #[.agg #[.int .i64 C, .int .i64 op, .slice (some ⟨b, 0, none⟩) xs.length cap], .bool R]) ∧ OpsOwn w' w.heap.size b cap xs ∧ Below w.heap.size w w' := by
  have h1n : (!y1.toList.isEmpty) = true := by
    cases h : y1.toList with
    | nil => rw [h] at h1; exact absurd h1 (by simp)
    | cons a b => rfl
  have b0 : Below w.heap.size w ((w.alloc (.cells #[.string y0, .string y1, .string y2] 88)).alloc (.cells #[.int .i64 0, .int .i64 0, .slice none 0 0] 31)) := ((Below.refl _ _).alloc (Nat.le_refl _) _).alloc (by simp) _
  have b1 : Below w.heap.size w (((w.alloc (.cells #[.string y0, .string y1, .string y2] 88)).alloc (.cells #[.int .i64 0, .int .i64 0, .slice none 0 0] 31)).alloc (.cells #[.int .i64 C, .int .i64 0, .slice none 0 0] 31)) := b0.alloc (by simp; omega) _
  have kA : (((w.alloc (.cells #[.string y0, .string y1, .string y2] 88)).alloc (.cells #[.int .i64 0, .int .i64 0, .slice none 0 0] 31)).alloc (.cells #[.int .i64 C, .int .i64 0, .slice none 0 0] 31)).heap[w.heap.size + 1]? = some (.cells #[.int .i64 0, .int .i64 0, .slice none 0 0] 31 (0, 0)) := by
    rw [heap_alloc_old _ _ (h := by simp)]
    have := heap_alloc_last (w.alloc (.cells #[.string y0, .string y1, .string y2] 88)) (.cells #[.int .i64 0, .int .i64 0, .slice none 0 0] 31)
    simpa using this
  have kB : (((w.alloc (.cells #[.string y0, .string y1, .string y2] 88)).alloc (.cells #[.int .i64 0, .int .i64 0, .slice none 0 0] 31)).alloc (.cells #[.int .i64 C, .int .i64 0, .slice none 0 0] 31)).heap[w.heap.size + 1 + 1]? = some (.cells #[.int .i64 C, .int .i64 0, .slice none 0 0] 31 (0, 0)) := by
    have := heap_alloc_last ((w.alloc (.cells #[.string y0, .string y1, .string y2] 88)).alloc (.cells #[.int .i64 0, .int .i64 0, .slice none 0 0] 31)) (.cells #[.int .i64 C, .int .i64 0, .slice none 0 0] 31)
    simpa using this
  have kY : (((w.alloc (.cells #[.string y0, .string y1, .string y2] 88)).alloc (.cells #[.int .i64 0, .int .i64 0, .slice none 0 0] 31)).alloc (.cells #[.int .i64 C, .int .i64 0, .slice none 0 0] 31)).heap[w.heap.size]? = some (.cells #[.string y0, .string y1, .string y2] 88 (0, 0)) := by
    rw [heap_alloc_old _ _ (h := by simp; omega), heap_alloc_old _ _ (h := by simp)]
    exact heap_alloc_last w _
  have sz1 : (((w.alloc (.cells #[.string y0, .string y1, .string y2] 88)).alloc (.cells #[.int .i64 0, .int .i64 0, .slice none 0 0] 31)).alloc (.cells #[.int .i64 C, .int .i64 0, .slice none 0 0] 31)).heap.size = w.heap.size + 1 + 1 + 1 := by simp
  obtain ⟨len, HLn⟩ : ∃ l, Hid (l = xs.length) := ⟨_, rfl⟩
  rw [← HLn.out] at HEr HOk
  go_enter Tryz.func58, Tryz.ntmps58
  go_wp2_with fail
  refine (HCd.out _ b0).mono ?_
  rintro e w1 ⟨rfl, rfl⟩
  go_wp2_with fail
  refine (HEr.out _ b1).mono ?_
  rintro e w2 ⟨b, cap, rfl, hO, g2⟩
  have hA2 := (g2.block _ (Array.getElem?_eq_some_iff.1 kA).1).trans kA
  have hB2 := (g2.block _ (Array.getElem?_eq_some_iff.1 kB).1).trans kB
  have hY2 := (g2.block _ (Array.getElem?_eq_some_iff.1 kY).1).trans kY
  have hbl : w.heap.size + 1 + 1 + 1 ≤ b ∧ b < w2.heap.size := by
    have := World.ownsRow.lt hO b rfl
    rw [sz1] at this; exact this
  have b2 := b1.trans (g2.mono b1.size)
  have b3 : Below w.heap.size w (w2.alloc (.cells #[.int .i64 op, .slice (some ⟨b, 0, none⟩) len cap] 29)) := b2.alloc b2.size _
  have lB : w.heap.size + 1 + 1 < w2.heap.size := by omega
  have kA2 : (w2.alloc (.cells #[.int .i64 op, .slice (some ⟨b, 0, none⟩) len cap] 29)).heap[w.heap.size + 1]? = some (.cells #[.int .i64 0, .int .i64 0, .slice none 0 0] 31 (0, 0)) := (heap_alloc_old _ _ (h := by omega)).trans hA2
  have kB2 : (w2.alloc (.cells #[.int .i64 op, .slice (some ⟨b, 0, none⟩) len cap] 29)).heap[w.heap.size + 1 + 1]? = some (.cells #[.int .i64 C, .int .i64 0, .slice none 0 0] 31 (0, 0)) := (heap_alloc_old _ _ (h := lB)).trans hB2
  have kY2 : (w2.alloc (.cells #[.int .i64 op, .slice (some ⟨b, 0, none⟩) len cap] 29)).heap[w.heap.size]? = some (.cells #[.string y0, .string y1, .string y2] 88 (0, 0)) := (heap_alloc_old _ _ (h := by omega)).trans hY2
  have HSB : Hid ((storeVar 29 ⟨w.heap.size + 1 + 1, 1, none⟩ (.agg #[.int .i64 op, .slice (some ⟨b, 0, none⟩) len cap])).run Tryz.prog (w2.alloc (.cells #[.int .i64 op, .slice (some ⟨b, 0, none⟩) len cap] 29)) = .ok () ((w2.alloc (.cells #[.int .i64 op, .slice (some ⟨b, 0, none⟩) len cap] 29)).setRow (w.heap.size + 1 + 1) #[.int .i64 C, .int .i64 op, .slice (some ⟨b, 0, none⟩) len cap])) := store_sub (P := Tryz.prog) kB2 29 1 #[.int .i64 op, .slice (some ⟨b, 0, none⟩) len cap] (by simp) (by kernel_rfl) (all_one [.int .i64 op, .slice (some ⟨b, 0, none⟩) len cap] (by intro d hd; simp at hd; rcases hd with rfl | rfl <;> rfl))
  obtain ⟨W3, HW3⟩ : ∃ W, Hid (W = (w2.alloc (.cells #[.int .i64 op, .slice (some ⟨b, 0, none⟩) len cap] 29)).setRow (w.heap.size + 1 + 1) #[.int .i64 C, .int .i64 op, .slice (some ⟨b, 0, none⟩) len cap]) := ⟨_, rfl⟩
  have kA3 : W3.heap[w.heap.size + 1]? = some (.cells #[.int .i64 0, .int .i64 0, .slice none 0 0] 31 (0, 0)) := by rw [HW3.out]; exact row_beside kA2 _ (by omega) _
  have kB3 : W3.heap[w.heap.size + 1 + 1]? = some (.cells #[.int .i64 C, .int .i64 op, .slice (some ⟨b, 0, none⟩) len cap] 31 (0, 0)) := by rw [HW3.out]; exact row_set kB2 _
  have kY3 : W3.heap[w.heap.size]? = some (.cells #[.string y0, .string y1, .string y2] 88 (0, 0)) := by rw [HW3.out]; exact row_beside kY2 _ (by omega) _
  have b4 : Below w.heap.size w W3 := by rw [HW3.out]; exact below_setRow b3 (by omega) _
  have G3 : w2.grownBy W3 (some (w.heap.size + 1 + 1)) := by
    rw [HW3.out]
    exact (World.grownBy_alloc w2 _ _).trans (setRow_grown _ _ _)
  have O3 : OpsOwn W3 (((w.alloc (.cells #[.string y0, .string y1, .string y2] 88)).alloc (.cells #[.int .i64 0, .int .i64 0, .slice none 0 0] 31)).alloc (.cells #[.int .i64 C, .int .i64 0, .slice none 0 0] 31)).heap.size b cap xs := World.ownsRow.kept hO G3 (.inr (by simp [Value.ownBlock]; omega))
  rw [← HW3.out] at HSB
  have HO3 : Hid (OpsOwn W3 w.heap.size b cap xs) := O3.base (by omega)
  obtain ⟨c0, c1, c2, f0, f1, f2⟩ := inst_free (X := W3) (Below.refl _ _) kA3
  obtain ⟨d0, d1, d2, _, _, _⟩ := inst_free (X := W3) (Below.refl _ _) kB3
  have e2 : W3.cell? ⟨w.heap.size, 2, none⟩ = some (.string y2) := (cell_of_row _ _ _ _ _ _ kY3).trans rfl
  have s3 : w.heap.size + 1 + 1 < W3.heap.size := (Array.getElem?_eq_some_iff.1 kB3).1
  clear g2 hA2 hB2 hY2 kA2 kB2 kY2 HW3 O3 G3 hO b3 b2 kA kB kY sz1
  go_wp2_with (first | (refine wpL_store rfl 29 _ _ rfl _ _ rfl _ rfl _ HSB.out ?_) | fail)
  go_region_with (first | (go_at_call 15; refine (HOk.out _ b cap (by first | exact b4 | exact b4.drew) (by first | exact HO3.out | exact own_drew HO3.out)).mono ?_; rintro e w5 ⟨rfl, g5⟩; obtain ⟨c0, c1, c2, f0, f1, f2⟩ := inst_free g5 kA3; obtain ⟨d0, d1, d2, _, _, _⟩ := inst_free g5 kB3; have b5 : Below w.heap.size w w5 := (by first | exact b4.trans (g5.mono b4.size) | exact b4.drew.trans (g5.mono b4.drew.size)); have HO5 : Hid (OpsOwn w5 w.heap.size b cap xs) := (by first | exact OpsOwn.later HO3.out g5 | exact OpsOwn.later (own_drew HO3.out) g5)))
  all_goals go_wp2
  all_goals refine bodyPost_ret (v := .tuple #[.agg #[.int .i64 C, .int .i64 op, .slice (some ⟨b, 0, none⟩) len cap], .bool R]) (by simp [results, Tryz.results58, go_sem, c0, c1, c2]) rfl ⟨b, cap, by rw [HLn.out], ?_, ?_⟩
  all_goals first | exact below_three b5 (by omega) _ _ _ | exact (below_three b5 (by omega) _ _ _).drew | exact below_three b5.drew (by omega) _ _ _ | exact own_three HO5.out (by omega) _ _ _ | exact own_drew (own_three HO5.out (by omega) _ _ _) | exact own_three (own_drew HO5.out) (by omega) _ _ _
end Go.Proofs.YtndfmgbdfcggmaaGreatDoor
/- What a line of a list says: the program's and the specification's reading. -/
namespace Go.Proofs.YtndfmgbdfcggmaaGreatDoor
open Go.RowKit
set_option linter.unusedVariables false

theorem isel_one {s : ByteArray} {op op' : Int} {xs xs' : List Arg} (h : IsEl s op xs) (k : IsEl s op' xs') : op = op' ∧ xs = xs' := etl_inj h.1 k.1 (h.2.trans k.2.symm)
theorem line_two {ws : List (List UInt8)} (hl : ws.length = 2) {op : Int} {xs : List Arg} (he : IsEl (wdAt ws 1) op xs) : (okI (codeW (wdAt ws 0)) op xs = true → lineOf ws = some ⟨codeW (wdAt ws 0), op, xs⟩) ∧ (okI (codeW (wdAt ws 0)) op xs = false → lineOf ws = none) := by
  refine ⟨fun h => lineOf_some ⟨rfl, h, .inr ⟨hl, he⟩⟩, fun h => lineOf_none fun i hi => ?_⟩
  obtain ⟨h1, h2, ⟨h3, _⟩ | ⟨_, h3⟩⟩ := hi
  · omega
  · obtain ⟨e1, e2⟩ := isel_one h3 he
    have h2' : okI i.code i.one.op i.one.args = true := h2
    rw [h1, e1, e2, h] at h2'
    cases h2'
theorem line_oneW {ws : List (List UInt8)} (hl : ws.length = 1) : (okI (codeW (wdAt ws 0)) 0 [] = true → lineOf ws = some ⟨codeW (wdAt ws 0), 0, []⟩) ∧ (okI (codeW (wdAt ws 0)) 0 [] = false → lineOf ws = none) := by
  refine ⟨fun h => lineOf_some ⟨rfl, h, .inl ⟨hl, rfl⟩⟩, fun h => lineOf_none fun i hi => ?_⟩
  obtain ⟨h1, h2, ⟨_, h3⟩ | ⟨h3, _⟩⟩ := hi
  · have h2' : okI i.code i.one.op i.one.args = true := h2
    rw [h1, h3, h] at h2'
    cases h2'
  · omega
theorem line_no {ws : List (List UInt8)} (h : 2 < ws.length ∨ (1 < ws.length ∧ ∀ op xs, ¬ IsEl (wdAt ws 1) op xs)) : lineOf ws = none := lineOf_none fun i hi => by
  obtain ⟨_, _, ⟨h3, _⟩ | ⟨h3, h4⟩⟩ := hi
  · omega
  · rcases h with h | h
    · omega
    · exact h.2 _ _ h4

theorem linst_i (ws : List (List UInt8)) (hf : ∀ x ∈ ws, x ≠ []) (hl : 1 ≤ ws.length) (hs : (wdAt ws 1).size ≤ 1048576) (w : World) (hT : Tabs w) (hL : LT w) (hM : ML w) (hH : EH w) :
    Calls Tryz.prog 58 #[.agg #[.string (wdAt ws 0), .string (wdAt ws 1), .string (wdAt ws 2)]] w fun e w' => InstRes ws w e w' := by
  have HCd : Hid (∀ W, Below w.heap.size w W → Calls Tryz.prog 80 #[.string (wdAt ws 0)] W fun e w' => e = .returned (.int .i64 (codeW (wdAt ws 0))) ∧ w' = W) := fun W g => code_i _ W (hL.later g)
  by_cases h1 : (wdAt ws 1).toList = []
  · have hw := (wdAt_none hf 1).1 h1
    have h2 := (wdAt_none hf 2).2 (by omega)
    refine (inst_a (wdAt ws 0) (wdAt ws 1) (wdAt ws 2) (codeW (wdAt ws 0)) (okI (codeW (wdAt ws 0)) 0 []) w (by rw [h1]; rfl) (by rw [h2]; rfl) HCd (fun W g => ok_i _ 0 none [] 0 0 rfl W (hT.k.later g) (hL.later g) (.inl rfl))).mono ?_
    rintro e w' ⟨rfl, g⟩
    have hq := line_oneW (ws := ws) (by omega)
    cases ho : okI (codeW (wdAt ws 0)) 0 [] with
    | true => exact .inl ⟨_, [], none, 0, hq.1 ho, rfl, .inl ⟨rfl, rfl, rfl, rfl⟩, g⟩
    | false => exact .inr ⟨_, _, _, _, _, hq.2 ho, rfl, g⟩
  · have hw : 2 ≤ ws.length := by
      rcases Nat.lt_or_ge ws.length 2 with h | h
      · exact absurd ((wdAt_none hf 1).2 (by omega)) h1
      · exact h
    have f1 : ((wdAt ws 1).toList == []) = false := by rw [beq_eq_false_iff_ne]; exact h1
    have HR : ∀ W, Below w.heap.size w W → Calls Tryz.prog 81 #[.string (wdAt ws 1)] W fun e w' => IsERead (wdAt ws 1) W e w' := fun W g => eread_i _ W (hT.later g) (hM.later g) (hH.later g) hs
    by_cases he : ∃ op xs, IsEl (wdAt ws 1) op xs
    · obtain ⟨op, xs, he⟩ := he
      have HEr : Hid (∀ W, Below w.heap.size w W → Calls Tryz.prog 81 #[.string (wdAt ws 1)] W fun e w' => ∃ b cap, e = .returned (.tuple #[.agg #[.int .i64 op, .slice (some ⟨b, 0, none⟩) xs.length cap], .bool true]) ∧ OpsOwn w' W.heap.size b cap xs ∧ Below W.heap.size W w') := fun W g => (HR W g).mono fun e w' h => by
        rcases h with ⟨op', xs', b, cap, h1, h2, h3, h4⟩ | ⟨h1, _, _⟩
        · obtain ⟨e1, e2⟩ := isel_one h1 he
          subst e1 e2
          exact ⟨b, cap, h2, h3, h4⟩
        · exact absurd he (h1 op xs)
      by_cases h2 : (wdAt ws 2).toList = []
      · have hw2 := (wdAt_none hf 2).1 h2
        refine (inst_d ⟨#[]⟩ (wdAt ws 0) (wdAt ws 1) (wdAt ws 2) (codeW (wdAt ws 0)) op xs (okI (codeW (wdAt ws 0)) op xs) w f1 (by rw [h2]; rfl) HCd HEr (fun W b cap g hO => ok_i _ op (some ⟨b, 0, none⟩) xs xs.length cap rfl W (hT.k.later g) (hL.later g) (.inr ⟨b, 0, rfl, hO.ops⟩))).mono ?_
        rintro e w' ⟨b, cap, rfl, hO, g⟩
        have hq := line_two (ws := ws) (by omega) he
        cases ho : okI (codeW (wdAt ws 0)) op xs with
        | true => exact .inl ⟨_, [b], some ⟨b, 0, none⟩, cap, hq.1 ho, rfl, .inr ⟨b, rfl, rfl, hO⟩, g⟩
        | false => exact .inr ⟨_, _, _, _, _, hq.2 ho, rfl, g⟩
      · have hw2 : 2 < ws.length := by
          rcases Nat.lt_or_ge 2 ws.length with h | h
          · exact h
          · exact absurd ((wdAt_none hf 2).2 h) h2
        refine (inst_c ⟨#[]⟩ (wdAt ws 0) (wdAt ws 1) (wdAt ws 2) (codeW (wdAt ws 0)) op xs w f1 (by rw [beq_eq_false_iff_ne]; exact h2) HCd HEr).mono ?_
        rintro e w' ⟨b, cap, rfl, g⟩
        exact .inr ⟨_, _, _, _, _, line_no (.inl hw2), rfl, g⟩
    · have hno : ∀ op xs, ¬ IsEl (wdAt ws 1) op xs := fun op xs h => he ⟨op, xs, h⟩
      refine (inst_b (wdAt ws 0) (wdAt ws 1) (wdAt ws 2) (codeW (wdAt ws 0)) w f1 HCd (fun W g => (HR W g).mono fun e w' h => ?_)).mono ?_
      · rcases h with ⟨op', xs', b, cap, h1, h2, h3, h4⟩ | ⟨h1, h2, h3⟩
        · exact absurd h1 (hno _ _)
        · exact ⟨h2, h3⟩
      · rintro e w' ⟨rfl, g⟩
        exact .inr ⟨_, _, _, _, _, line_no (.inr ⟨by omega, hno⟩), rfl, g⟩

end Go.Proofs.YtndfmgbdfcggmaaGreatDoor
