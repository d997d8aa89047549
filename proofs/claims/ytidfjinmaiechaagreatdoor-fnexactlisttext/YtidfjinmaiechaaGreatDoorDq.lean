/- Walks of DevText, the program's and the specification's. -/
import Derived.Test.YtidfjinmaiechaaGreatDoorDo
import Derived.Test.YtidfjinmaiechaaGreatDoorDg
namespace Go.Proofs.YtidfjinmaiechaaGreatDoor
open Go.RowKit
open Go.Lib (decDigits itoa VarReads)
set_option linter.unusedVariables false

/-- The words. -/
def wd (n : Int) : ByteArray := if n = 0 then ⟨#[110, 97, 110]⟩ else if n = 1 then ⟨#[105, 110, 102]⟩ else if n = 2 then ⟨#[45, 105, 110, 102]⟩ else ⟨#[45, 48, 46, 48]⟩
/-- The table of words stands in the memory. -/
def WT (w : World) : Prop := ∀ i : Nat, i < 4 → w.cell? ⟨2, i, none⟩ = some (.string (wd i))
theorem WT.lt {w : World} (h : WT w) : 2 < w.heap.size := World.block_lt_of_cell? _ _ (h 0 (by omega))
theorem WT.later {w w' : World} (h : WT w) (g : Below w.heap.size w w') : WT w' := fun i hi => (g.cell (p := ⟨2, i, none⟩) h.lt).trans (h i hi)

theorem g0_named : Tryz.prog.globalNamed "loop.example/stile/impl.devWords" = some 2 := by kernel_rfl
theorem g0_type : (Tryz.prog.globals[2]?).map (·.type) = some 143 := by kernel_rfl
theorem c4 (i : Nat) (h : i < 4) : i = 0 ∨ i = 1 ∨ i = 2 ∨ i = 3 := by omega
theorem wt_of_reads {W : World} (h : VarReads Tryz.prog W "loop.example/stile/impl.devWords" Rows.laid_loop_example_stile_impl_devWords) : WT W := by
  obtain ⟨g, t, cs, fuel, p, hg, ht, hv, hd⟩ := h
  obtain rfl := Option.some.inj (g0_named.symm.trans hg)
  obtain rfl := Option.some.inj (g0_type.symm.trans ht)
  intro i hi
  unfold Rows.laid_loop_example_stile_impl_devWords at hd
  obtain ⟨f', d, q, hdi, hr⟩ := Lib.array_elem Tryz.underlying143 hd i hi
  rw [cells9] at hr
  obtain ⟨s, hc, hx, _⟩ := DataW.trod_string Tryz.underlying9 hr
  have hcell : W.cell? ⟨2, i, none⟩ = some (.string s) := by
    rw [World.var?_cell hg hv]
    have := congrArg (·[0]?) hc
    simpa [List.getElem?_take, List.getElem?_drop] using this
  rw [hcell]
  rcases c4 i hi with rfl | rfl | rfl | rfl
  all_goals
    obtain rfl := Option.some.inj hdi
    simp only [Prod.mk.injEq, DataW.lit.injEq, Lit.string.injEq] at hx
    rw [ba_list hx.1.symm]
    rfl

/-- The text of an operand. -/
def txt (k n p : Int) : ByteArray :=
  if okA k n p then (if k = 12 then tx (decL n p.toNat) else if k = 13 then wd n else kL k ++ tx (itoa n)) else ⟨#[]⟩

structure Tabs (w : World) : Prop where
  k : KT w
  p : PT w
  w : WT w
theorem Tabs.later {w w' : World} (h : Tabs w) (g : Below w.heap.size w w') : Tabs w' := ⟨h.k.later g, h.p.later g, h.w.later g⟩
theorem Tabs.alloc {w : World} (h : Tabs w) (o : Obj) : Tabs (w.alloc o) := h.later ((Below.refl _ _).alloc (Nat.le_refl _) _)

theorem okD_bd {n p : Int} (h : okD n p = true) : -999999999 ≤ n ∧ n ≤ 999999999 ∧ 1 ≤ p ∧ p ≤ 6 := by
  simp [okD] at h; omega
theorem ok_bd {k n p : Int} (h : okA k n p = true) (h12 : k ≠ 12) : -32768 ≤ n ∧ n ≤ 32767 ∧ p = 0 := by
  unfold okA at h
  rw [if_neg h12] at h
  by_cases h11 : k = 11
  · rw [if_pos h11] at h; simp at h; omega
  rw [if_neg h11] at h
  by_cases h13 : k = 13
  · rw [if_pos h13] at h; simp at h; omega
  rw [if_neg h13] at h
  simp at h
  by_cases hk : 1 ≤ k ∧ k ≤ 10
  · have hs : kS k ≤ 64 := by
      rcases k_cases k with h | rfl | rfl | rfl | rfl | rfl | rfl | rfl | rfl | rfl | rfl
      · omega
      all_goals decide
    omega
  · rw [kS_out k (by omega)] at h; omega
theorem ok_word {n p : Int} (h : okA 13 n p = true) : 0 ≤ n ∧ n ≤ 3 := by simp [okA] at h; omega
theorem itoa_size (n : Int) (h0 : -1000000000000 ≤ n) (h1 : n ≤ 1000000000000) : (tx (itoa n)).size ≤ 21 := by
  rw [tx_size]; exact Lib.itoa_length_le n (by omega) (by omega)
theorem kL_small (k : Int) : (kL k).size ≤ 1 := by
  rcases k_cases k with h | rfl | rfl | rfl | rfl | rfl | rfl | rfl | rfl | rfl | rfl
  · rw [kL_out k h]; decide
  all_goals decide

set_option maxHeartbeats 1000000 in
theorem text_no (k n p : Int) (w : World) (hT : Tabs w) (ho : okA k n p = false) :
    Calls Tryz.prog 66 #[.agg #[.int .i64 k, .int .i64 n, .int .i64 p]] w fun e w' => e = .returned (.string ⟨#[]⟩) ∧ Below w.heap.size w w' := by
  have HK : Hid (∀ W, KT W → Calls Tryz.prog 86 #[.agg #[.int .i64 k, .int .i64 n, .int .i64 p]] W fun e w' => e = .returned (.bool false) ∧ Below W.heap.size W w') := fun W hW => by have := impl_ok k n p W hW; rwa [ho] at this
  clear ho
  go_enter Tryz.func66, Tryz.ntmps66
  go_wp2_with fail
  refine (HK.out _ (hT.k.alloc _)).mono ?_
  rintro e w1 ⟨rfl, g1⟩
  have b1 : Below w.heap.size w w1 := ((Below.refl _ _).alloc (Nat.le_refl _) _).trans (g1.mono (by simp))
  clear g1
  go_wp2
  go_ret
  exact ⟨rfl, b1⟩

set_option maxHeartbeats 1000000 in
theorem text_dec (n : Int) (p : Nat) (w : World) (hT : Tabs w) (ho : okA 12 n p = true) :
    Calls Tryz.prog 66 #[.agg #[.int .i64 12, .int .i64 n, .int .i64 p]] w fun e w' => e = .returned (.string (tx (decL n p))) ∧ Below w.heap.size w w' := by
  have HK : Hid (∀ W, KT W → Calls Tryz.prog 86 #[.agg #[.int .i64 12, .int .i64 n, .int .i64 p]] W fun e w' => e = .returned (.bool true) ∧ Below W.heap.size W w') := fun W hW => by have := impl_ok 12 n p W hW; rwa [ho] at this
  rw [okA_dec] at ho
  have bd := okD_bd ho
  have HD : Hid (∀ W, PT W → Calls Tryz.prog 87 #[.agg #[.int .i64 12, .int .i64 n, .int .i64 p]] W fun e w' => e = .returned (.string (tx (decL n p))) ∧ Below W.heap.size W w') := fun W hW => dectext_any 12 n p (by omega) (by omega) (by omega) W hW
  obtain ⟨S, HS⟩ : ∃ S, Hid (S = tx (decL n p)) := ⟨_, Eq.refl (tx (decL n p))⟩
  rw [← HS.out] at HD ⊢
  clear HS ho
  go_enter Tryz.func66, Tryz.ntmps66
  go_wp2_with fail
  refine (HK.out _ (hT.k.alloc _)).mono ?_
  rintro e w1 ⟨rfl, g1⟩
  have c0 : w1.cell? ⟨w.heap.size, 0, none⟩ = some (.int .i64 12) := cell_later g1 (by simp)
  have c1 : w1.cell? ⟨w.heap.size, 1, none⟩ = some (.int .i64 n) := cell_later g1 (by simp)
  have c2 : w1.cell? ⟨w.heap.size, 2, none⟩ = some (.int .i64 p) := cell_later g1 (by simp)
  have b1 : Below w.heap.size w w1 := ((Below.refl _ _).alloc (Nat.le_refl _) _).trans (g1.mono (by simp))
  clear g1 HK
  go_wp2_with fail
  refine (HD.out _ (hT.p.later b1)).mono ?_
  rintro e w2 ⟨rfl, g2⟩
  have b2 : Below w.heap.size w w2 := b1.trans (g2.mono b1.size)
  clear g2
  go_wp2
  go_ret
  exact ⟨rfl, b2⟩

set_option maxHeartbeats 1000000 in
theorem text_word (i : Nat) (p : Int) (w : World) (hT : Tabs w) (ho : okA 13 i p = true) :
    Calls Tryz.prog 66 #[.agg #[.int .i64 13, .int .i64 i, .int .i64 p]] w fun e w' => e = .returned (.string (wd i)) ∧ Below w.heap.size w w' := by
  have HK : Hid (∀ W, KT W → Calls Tryz.prog 86 #[.agg #[.int .i64 13, .int .i64 i, .int .i64 p]] W fun e w' => e = .returned (.bool true) ∧ Below W.heap.size W w') := fun W hW => by have := impl_ok 13 i p W hW; rwa [ho] at this
  have bd := ok_word ho
  obtain ⟨S, HS⟩ : ∃ S, Hid (S = wd i) := ⟨_, Eq.refl (wd i)⟩
  have hw0 := hT.w i (by omega)
  rw [← HS.out] at hw0 ⊢
  clear HS ho
  have i4 : (i : Int) < 4 := by omega
  go_enter Tryz.func66, Tryz.ntmps66
  go_wp2_with fail
  refine (HK.out _ (hT.k.alloc _)).mono ?_
  rintro e w1 ⟨rfl, g1⟩
  have c0 : w1.cell? ⟨w.heap.size, 0, none⟩ = some (.int .i64 13) := cell_later g1 (by simp)
  have c1 : w1.cell? ⟨w.heap.size, 1, none⟩ = some (.int .i64 i) := cell_later g1 (by simp)
  have b1 : Below w.heap.size w w1 := ((Below.refl _ _).alloc (Nat.le_refl _) _).trans (g1.mono (by simp))
  have hw1 : w1.cell? ⟨2, i, none⟩ = some (.string S) := (b1.cell (p := ⟨2, i, none⟩) hT.w.lt).trans hw0
  clear g1 HK
  go_wp2
  go_ret
  exact ⟨rfl, b1⟩
end Go.Proofs.YtidfjinmaiechaaGreatDoor
