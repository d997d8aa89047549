/- What may stand in a place: elemIsOf and its kin. -/
import Derived.Test.YtidfjinmaiechaaGreatDoorEc
import Derived.Lib.QuietBelow
namespace Go.Proofs.YtidfjinmaiechaaGreatDoor
open Go.RowKit Go.Shelf
set_option linter.unusedVariables false

/-- What a place asks for. -/
def pp (c : Nat) (x : Int × Int × Int) : Bool :=
  if c = 1 then okA x.1 x.2.1 x.2.2 && kB x.1 else if c = 3 then okA x.1 x.2.1 x.2.2 && kW x.1 else if c = 4 then okA x.1 x.2.1 x.2.2 && kR x.1
  else if c = 10 then okA x.1 x.2.1 x.2.2 && [(11 : Int)].contains x.1 && decide (0 ≤ x.2.1) else if c = 2 then okA x.1 x.2.1 x.2.2 && ([5] : List Int).contains x.1 else if c = 5 then okA x.1 x.2.1 x.2.2 && ([2, 3] : List Int).contains x.1 else if c = 6 then okA x.1 x.2.1 x.2.2 && ([2, 3, 4] : List Int).contains x.1 else if c = 7 then okA x.1 x.2.1 x.2.2 && ([2, 3, 4, 7, 8] : List Int).contains x.1 else if c = 8 then okA x.1 x.2.1 x.2.2 && ([4] : List Int).contains x.1 else if c = 9 then okA x.1 x.2.1 x.2.2 && ([7] : List Int).contains x.1 else if c = 11 then okA x.1 x.2.1 x.2.2 && ([8] : List Int).contains x.1 else if c = 12 then okA x.1 x.2.1 x.2.2 && ([9] : List Int).contains x.1 else if c = 13 then okA x.1 x.2.1 x.2.2 && ([10] : List Int).contains x.1 else false

set_option maxHeartbeats 1000000 in
theorem isOf_r (k n p : Int) (b : Nat) (zs : List Int) (w : World) (hT : KT w) (hl : zs.length ≤ 10) (hz : ∀ j z, zs[j]? = some z → w.cell? ⟨b, j, none⟩ = some (.int .i64 z)) :
    Calls Tryz.prog 132 #[.agg #[.int .i64 k, .int .i64 n, .int .i64 p], .slice (some ⟨b, 0, none⟩) zs.length zs.length] w fun e w' => e = .returned (.bool (okA k n p && zs.contains k)) ∧ Below w.heap.size w w' := by
  have HK : Hid (∀ W, KT W → Calls Tryz.prog 86 #[.agg #[.int .i64 k, .int .i64 n, .int .i64 p]] W fun e w' => e = .returned (.bool (okA k n p)) ∧ Below W.heap.size W w') := fun W h => impl_ok k n p W h
  have HC : Hid (∀ W : World, Below w.heap.size w W → Calls Tryz.prog 148 #[.slice (some ⟨b, 0, none⟩) zs.length zs.length, .int .i64 k] W fun e w' => e = .returned (.bool (zs.contains k)) ∧ w' = W) := by
    intro W hW
    have := Any.slices_Contains_int Tryz.layC b 0 zs.length zs.length zs k W (Nat.le_refl _) (by omega) (fun j hj => by
      have hh := hz j zs[j] (List.getElem?_eq_getElem hj)
      rw [Nat.zero_add, hW.cell (p := ⟨b, j, none⟩) (World.block_lt_of_cell? _ _ hh), hh]
      simp [List.getD, List.getElem?_eq_getElem hj])
    rw [List.take_length] at this
    exact this
  generalize zs.contains k = C at HC ⊢
  generalize zs.length = m at HC ⊢ hl
  cases ho : okA k n p with
  | false =>
    rw [ho] at HK
    go_enter Tryz.func132, Tryz.ntmps132
    go_wp2_with fail
    refine (HK.out _ (hT.alloc _)).mono ?_
    rintro e w1 ⟨rfl, g1⟩
    have b1 : Below w.heap.size w w1 := ((Below.refl _ _).alloc (Nat.le_refl _) _).trans (g1.mono (by simp))
    clear g1
    go_wp2
    go_ret
    exact ⟨rfl, b1⟩
  | true =>
    rw [ho] at HK
    go_enter Tryz.func132, Tryz.ntmps132
    go_wp2_with fail
    refine (HK.out _ (hT.alloc _)).mono ?_
    rintro e w1 ⟨rfl, g1⟩
    have c0 : w1.cell? ⟨w.heap.size, 0, none⟩ = some (.int .i64 k) := cell_later g1 (by simp)
    have b1 : Below w.heap.size w w1 := ((Below.refl _ _).alloc (Nat.le_refl _) _).trans (g1.mono (by simp))
    clear g1
    go_wp2_with fail
    refine (HC.out _ b1).mono ?_
    rintro e w2 ⟨rfl, rfl⟩
    go_wp2
    go_ret
    exact ⟨by simp, b1⟩

theorem cells_k (w : World) (o : Obj) (xs : List Int) (t : TypeId) : ∀ j x, xs[j]? = some x → ((w.alloc o).alloc (.cells (xs.map (Value.int .i64)).toArray t)).cell? ⟨w.heap.size + 1, j, none⟩ = some (.int .i64 x) := by
  intro j x hx
  have h1 : (w.alloc o).heap.size = w.heap.size + 1 := by simp
  rw [← h1, cell_of_row _ _ j _ t (0, 0) (heap_alloc_last (w.alloc o) _)]
  simp [hx]

set_option maxHeartbeats 1000000 in
theorem isOut_r (k n p : Int) (w : World) (hT : KT w) :
    Calls Tryz.prog 105 #[.agg #[.int .i64 k, .int .i64 n, .int .i64 p]] w fun e w' => e = .returned (.bool (okA k n p && ([2, 3] : List Int).contains k)) ∧ Below w.heap.size w w' := by
  have HI : Hid (∀ W, KT W → (∀ j z, ([2, 3] : List Int)[j]? = some z → W.cell? ⟨w.heap.size + 1, j, none⟩ = some (.int .i64 z)) → Calls Tryz.prog 132 #[.agg #[.int .i64 k, .int .i64 n, .int .i64 p], .slice (some ⟨w.heap.size + 1, 0, none⟩) 2 2] W fun e w' => e = .returned (.bool (okA k n p && ([2, 3] : List Int).contains k)) ∧ Below W.heap.size W w') :=
    fun W h hz => isOf_r k n p (w.heap.size + 1) [2, 3] W h (by simp) hz
  generalize (okA k n p && ([2, 3] : List Int).contains k) = C at HI ⊢
  go_enter Tryz.func105, Tryz.ntmps105
  go_wp2_with fail
  refine (HI.out _ ((hT.alloc _).alloc _) (cells_k w _ [2, 3] _)).mono ?_
  rintro e w1 ⟨rfl, g1⟩
  have b1 : Below w.heap.size w w1 := (((Below.refl _ _).alloc (Nat.le_refl _) _).alloc (by simp) _).trans (g1.mono (by simp; omega))
  clear g1
  go_wp2
  go_ret
  exact ⟨rfl, b1⟩

set_option maxHeartbeats 1000000 in
theorem isSet_r (k n p : Int) (w : World) (hT : KT w) :
    Calls Tryz.prog 106 #[.agg #[.int .i64 k, .int .i64 n, .int .i64 p]] w fun e w' => e = .returned (.bool (okA k n p && ([2, 3, 4] : List Int).contains k)) ∧ Below w.heap.size w w' := by
  have HI : Hid (∀ W, KT W → (∀ j z, ([2, 3, 4] : List Int)[j]? = some z → W.cell? ⟨w.heap.size + 1, j, none⟩ = some (.int .i64 z)) → Calls Tryz.prog 132 #[.agg #[.int .i64 k, .int .i64 n, .int .i64 p], .slice (some ⟨w.heap.size + 1, 0, none⟩) 3 3] W fun e w' => e = .returned (.bool (okA k n p && ([2, 3, 4] : List Int).contains k)) ∧ Below W.heap.size W w') :=
    fun W h hz => isOf_r k n p (w.heap.size + 1) [2, 3, 4] W h (by simp) hz
  generalize (okA k n p && ([2, 3, 4] : List Int).contains k) = C at HI ⊢
  go_enter Tryz.func106, Tryz.ntmps106
  go_wp2_with fail
  refine (HI.out _ ((hT.alloc _).alloc _) (cells_k w _ [2, 3, 4] _)).mono ?_
  rintro e w1 ⟨rfl, g1⟩
  have b1 : Below w.heap.size w w1 := (((Below.refl _ _).alloc (Nat.le_refl _) _).alloc (by simp) _).trans (g1.mono (by simp; omega))
  clear g1
  go_wp2
  go_ret
  exact ⟨rfl, b1⟩

set_option maxHeartbeats 1000000 in
theorem isReset_r (k n p : Int) (w : World) (hT : KT w) :
    Calls Tryz.prog 107 #[.agg #[.int .i64 k, .int .i64 n, .int .i64 p]] w fun e w' => e = .returned (.bool (okA k n p && ([2, 3, 4, 7, 8] : List Int).contains k)) ∧ Below w.heap.size w w' := by
  have HI : Hid (∀ W, KT W → (∀ j z, ([2, 3, 4, 7, 8] : List Int)[j]? = some z → W.cell? ⟨w.heap.size + 1, j, none⟩ = some (.int .i64 z)) → Calls Tryz.prog 132 #[.agg #[.int .i64 k, .int .i64 n, .int .i64 p], .slice (some ⟨w.heap.size + 1, 0, none⟩) 5 5] W fun e w' => e = .returned (.bool (okA k n p && ([2, 3, 4, 7, 8] : List Int).contains k)) ∧ Below W.heap.size W w') :=
    fun W h hz => isOf_r k n p (w.heap.size + 1) [2, 3, 4, 7, 8] W h (by simp) hz
  generalize (okA k n p && ([2, 3, 4, 7, 8] : List Int).contains k) = C at HI ⊢
  go_enter Tryz.func107, Tryz.ntmps107
  go_wp2_with fail
  refine (HI.out _ ((hT.alloc _).alloc _) (cells_k w _ [2, 3, 4, 7, 8] _)).mono ?_
  rintro e w1 ⟨rfl, g1⟩
  have b1 : Below w.heap.size w w1 := (((Below.refl _ _).alloc (Nat.le_refl _) _).alloc (by simp) _).trans (g1.mono (by simp; omega))
  clear g1
  go_wp2
  go_ret
  exact ⟨rfl, b1⟩

set_option maxHeartbeats 1000000 in
theorem isStep_r (k n p : Int) (w : World) (hT : KT w) :
    Calls Tryz.prog 108 #[.agg #[.int .i64 k, .int .i64 n, .int .i64 p]] w fun e w' => e = .returned (.bool (okA k n p && ([4] : List Int).contains k)) ∧ Below w.heap.size w w' := by
  have HI : Hid (∀ W, KT W → (∀ j z, ([4] : List Int)[j]? = some z → W.cell? ⟨w.heap.size + 1, j, none⟩ = some (.int .i64 z)) → Calls Tryz.prog 132 #[.agg #[.int .i64 k, .int .i64 n, .int .i64 p], .slice (some ⟨w.heap.size + 1, 0, none⟩) 1 1] W fun e w' => e = .returned (.bool (okA k n p && ([4] : List Int).contains k)) ∧ Below W.heap.size W w') :=
    fun W h hz => isOf_r k n p (w.heap.size + 1) [4] W h (by simp) hz
  generalize (okA k n p && ([4] : List Int).contains k) = C at HI ⊢
  go_enter Tryz.func108, Tryz.ntmps108
  go_wp2_with fail
  refine (HI.out _ ((hT.alloc _).alloc _) (cells_k w _ [4] _)).mono ?_
  rintro e w1 ⟨rfl, g1⟩
  have b1 : Below w.heap.size w w1 := (((Below.refl _ _).alloc (Nat.le_refl _) _).alloc (by simp) _).trans (g1.mono (by simp; omega))
  clear g1
  go_wp2
  go_ret
  exact ⟨rfl, b1⟩

set_option maxHeartbeats 1000000 in
theorem isTimer_r (k n p : Int) (w : World) (hT : KT w) :
    Calls Tryz.prog 109 #[.agg #[.int .i64 k, .int .i64 n, .int .i64 p]] w fun e w' => e = .returned (.bool (okA k n p && ([7] : List Int).contains k)) ∧ Below w.heap.size w w' := by
  have HI : Hid (∀ W, KT W → (∀ j z, ([7] : List Int)[j]? = some z → W.cell? ⟨w.heap.size + 1, j, none⟩ = some (.int .i64 z)) → Calls Tryz.prog 132 #[.agg #[.int .i64 k, .int .i64 n, .int .i64 p], .slice (some ⟨w.heap.size + 1, 0, none⟩) 1 1] W fun e w' => e = .returned (.bool (okA k n p && ([7] : List Int).contains k)) ∧ Below W.heap.size W w') :=
    fun W h hz => isOf_r k n p (w.heap.size + 1) [7] W h (by simp) hz
  generalize (okA k n p && ([7] : List Int).contains k) = C at HI ⊢
  go_enter Tryz.func109, Tryz.ntmps109
  go_wp2_with fail
  refine (HI.out _ ((hT.alloc _).alloc _) (cells_k w _ [7] _)).mono ?_
  rintro e w1 ⟨rfl, g1⟩
  have b1 : Below w.heap.size w w1 := (((Below.refl _ _).alloc (Nat.le_refl _) _).alloc (by simp) _).trans (g1.mono (by simp; omega))
  clear g1
  go_wp2
  go_ret
  exact ⟨rfl, b1⟩

set_option maxHeartbeats 1000000 in
theorem isCounter_r (k n p : Int) (w : World) (hT : KT w) :
    Calls Tryz.prog 111 #[.agg #[.int .i64 k, .int .i64 n, .int .i64 p]] w fun e w' => e = .returned (.bool (okA k n p && ([8] : List Int).contains k)) ∧ Below w.heap.size w w' := by
  have HI : Hid (∀ W, KT W → (∀ j z, ([8] : List Int)[j]? = some z → W.cell? ⟨w.heap.size + 1, j, none⟩ = some (.int .i64 z)) → Calls Tryz.prog 132 #[.agg #[.int .i64 k, .int .i64 n, .int .i64 p], .slice (some ⟨w.heap.size + 1, 0, none⟩) 1 1] W fun e w' => e = .returned (.bool (okA k n p && ([8] : List Int).contains k)) ∧ Below W.heap.size W w') :=
    fun W h hz => isOf_r k n p (w.heap.size + 1) [8] W h (by simp) hz
  generalize (okA k n p && ([8] : List Int).contains k) = C at HI ⊢
  go_enter Tryz.func111, Tryz.ntmps111
  go_wp2_with fail
  refine (HI.out _ ((hT.alloc _).alloc _) (cells_k w _ [8] _)).mono ?_
  rintro e w1 ⟨rfl, g1⟩
  have b1 : Below w.heap.size w w1 := (((Below.refl _ _).alloc (Nat.le_refl _) _).alloc (by simp) _).trans (g1.mono (by simp; omega))
  clear g1
  go_wp2
  go_ret
  exact ⟨rfl, b1⟩

set_option maxHeartbeats 1000000 in
theorem isWholeReg_r (k n p : Int) (w : World) (hT : KT w) :
    Calls Tryz.prog 112 #[.agg #[.int .i64 k, .int .i64 n, .int .i64 p]] w fun e w' => e = .returned (.bool (okA k n p && ([9] : List Int).contains k)) ∧ Below w.heap.size w w' := by
  have HI : Hid (∀ W, KT W → (∀ j z, ([9] : List Int)[j]? = some z → W.cell? ⟨w.heap.size + 1, j, none⟩ = some (.int .i64 z)) → Calls Tryz.prog 132 #[.agg #[.int .i64 k, .int .i64 n, .int .i64 p], .slice (some ⟨w.heap.size + 1, 0, none⟩) 1 1] W fun e w' => e = .returned (.bool (okA k n p && ([9] : List Int).contains k)) ∧ Below W.heap.size W w') :=
    fun W h hz => isOf_r k n p (w.heap.size + 1) [9] W h (by simp) hz
  generalize (okA k n p && ([9] : List Int).contains k) = C at HI ⊢
  go_enter Tryz.func112, Tryz.ntmps112
  go_wp2_with fail
  refine (HI.out _ ((hT.alloc _).alloc _) (cells_k w _ [9] _)).mono ?_
  rintro e w1 ⟨rfl, g1⟩
  have b1 : Below w.heap.size w w1 := (((Below.refl _ _).alloc (Nat.le_refl _) _).alloc (by simp) _).trans (g1.mono (by simp; omega))
  clear g1
  go_wp2
  go_ret
  exact ⟨rfl, b1⟩

set_option maxHeartbeats 1000000 in
theorem isRealReg_r (k n p : Int) (w : World) (hT : KT w) :
    Calls Tryz.prog 113 #[.agg #[.int .i64 k, .int .i64 n, .int .i64 p]] w fun e w' => e = .returned (.bool (okA k n p && ([10] : List Int).contains k)) ∧ Below w.heap.size w w' := by
  have HI : Hid (∀ W, KT W → (∀ j z, ([10] : List Int)[j]? = some z → W.cell? ⟨w.heap.size + 1, j, none⟩ = some (.int .i64 z)) → Calls Tryz.prog 132 #[.agg #[.int .i64 k, .int .i64 n, .int .i64 p], .slice (some ⟨w.heap.size + 1, 0, none⟩) 1 1] W fun e w' => e = .returned (.bool (okA k n p && ([10] : List Int).contains k)) ∧ Below W.heap.size W w') :=
    fun W h hz => isOf_r k n p (w.heap.size + 1) [10] W h (by simp) hz
  generalize (okA k n p && ([10] : List Int).contains k) = C at HI ⊢
  go_enter Tryz.func113, Tryz.ntmps113
  go_wp2_with fail
  refine (HI.out _ ((hT.alloc _).alloc _) (cells_k w _ [10] _)).mono ?_
  rintro e w1 ⟨rfl, g1⟩
  have b1 : Below w.heap.size w w1 := (((Below.refl _ _).alloc (Nat.le_refl _) _).alloc (by simp) _).trans (g1.mono (by simp; omega))
  clear g1
  go_wp2
  go_ret
  exact ⟨rfl, b1⟩

set_option maxHeartbeats 1000000 in
theorem isPast_r (k n p : Int) (w : World) (hT : KT w) :
    Calls Tryz.prog 102 #[.agg #[.int .i64 k, .int .i64 n, .int .i64 p]] w fun e w' => e = .returned (.bool (okA k n p && ([5] : List Int).contains k)) ∧ Below w.heap.size w w' := by
  have HI : Hid (∀ W, KT W → (∀ j z, ([5] : List Int)[j]? = some z → W.cell? ⟨w.heap.size + 1, j, none⟩ = some (.int .i64 z)) → Calls Tryz.prog 132 #[.agg #[.int .i64 k, .int .i64 n, .int .i64 p], .slice (some ⟨w.heap.size + 1, 0, none⟩) 1 1] W fun e w' => e = .returned (.bool (okA k n p && ([5] : List Int).contains k)) ∧ Below W.heap.size W w') :=
    fun W h hz => isOf_r k n p (w.heap.size + 1) [5] W h (by simp) hz
  generalize (okA k n p && ([5] : List Int).contains k) = C at HI ⊢
  go_enter Tryz.func102, Tryz.ntmps102
  go_wp2_with fail
  refine (HI.out _ ((hT.alloc _).alloc _) (cells_k w _ [5] _)).mono ?_
  rintro e w1 ⟨rfl, g1⟩
  have b1 : Below w.heap.size w w1 := (((Below.refl _ _).alloc (Nat.le_refl _) _).alloc (by simp) _).trans (g1.mono (by simp; omega))
  clear g1
  go_wp2
  go_ret
  exact ⟨rfl, b1⟩

set_option maxHeartbeats 1000000 in
theorem isPreset_r (k n p : Int) (w : World) (hT : KT w) :
    Calls Tryz.prog 110 #[.agg #[.int .i64 k, .int .i64 n, .int .i64 p]] w fun e w' => e = .returned (.bool (okA k n p && ([11] : List Int).contains k && decide (0 ≤ n))) ∧ Below w.heap.size w w' := by
  have HI : Hid (∀ W, KT W → (∀ j z, ([11] : List Int)[j]? = some z → W.cell? ⟨w.heap.size + 1, j, none⟩ = some (.int .i64 z)) → Calls Tryz.prog 132 #[.agg #[.int .i64 k, .int .i64 n, .int .i64 p], .slice (some ⟨w.heap.size + 1, 0, none⟩) 1 1] W fun e w' => e = .returned (.bool (okA k n p && ([11] : List Int).contains k)) ∧ Below W.heap.size W w') :=
    fun W h hz => isOf_r k n p (w.heap.size + 1) [11] W h (by simp) hz
  generalize (okA k n p && ([11] : List Int).contains k) = C at HI ⊢
  cases C with
  | false =>
    go_enter Tryz.func110, Tryz.ntmps110
    go_wp2_with fail
    refine (HI.out _ ((hT.alloc _).alloc _) (cells_k w _ [11] _)).mono ?_
    rintro e w1 ⟨rfl, g1⟩
    have b1 : Below w.heap.size w w1 := (((Below.refl _ _).alloc (Nat.le_refl _) _).alloc (by simp) _).trans (g1.mono (by simp; omega))
    clear g1
    go_wp2
    go_ret
    exact ⟨by simp, b1⟩
  | true =>
    go_enter Tryz.func110, Tryz.ntmps110
    go_wp2_with fail
    refine (HI.out _ ((hT.alloc _).alloc _) (cells_k w _ [11] _)).mono ?_
    rintro e w1 ⟨rfl, g1⟩
    have c1 : w1.cell? ⟨w.heap.size, 1, none⟩ = some (.int .i64 n) := cell_later g1 (by simp)
    have b1 : Below w.heap.size w w1 := (((Below.refl _ _).alloc (Nat.le_refl _) _).alloc (by simp) _).trans (g1.mono (by simp; omega))
    clear g1
    go_wp2
    go_ret
    exact ⟨by simp, b1⟩

/-- A place's function, called. -/
theorem place_r (c : Nat) (h1 : 1 ≤ c) (h2 : c ≤ 13) : ∃ f, pv c = .func (.func f) #[] #[] ∧ (∀ args W, (callFunc f args).run Tryz.prog W = .ok (.enter f args) W) ∧ ∀ (k n p : Int) (w : World), KT w → Calls Tryz.prog f #[.agg #[.int .i64 k, .int .i64 n, .int .i64 p]] w fun e w' => e = .returned (.bool (pp c (k, n, p))) ∧ Below w.heap.size w w' := by
  rcases pc c with h | rfl | rfl | rfl | rfl | rfl | rfl | rfl | rfl | rfl | rfl | rfl | rfl | rfl
  · omega
  · exact ⟨_, rfl, enters_of Tryz.func101 (by kernel_rfl) rfl, fun k n p w hT => impl_isbit k n p w hT⟩
  · exact ⟨_, rfl, enters_of Tryz.func102 (by kernel_rfl) rfl, fun k n p w hT => isPast_r k n p w hT⟩
  · exact ⟨_, rfl, enters_of Tryz.func103 (by kernel_rfl) rfl, fun k n p w hT => impl_iswhole k n p w hT⟩
  · exact ⟨_, rfl, enters_of Tryz.func104 (by kernel_rfl) rfl, fun k n p w hT => impl_isreal k n p w hT⟩
  · exact ⟨_, rfl, enters_of Tryz.func105 (by kernel_rfl) rfl, fun k n p w hT => isOut_r k n p w hT⟩
  · exact ⟨_, rfl, enters_of Tryz.func106 (by kernel_rfl) rfl, fun k n p w hT => isSet_r k n p w hT⟩
  · exact ⟨_, rfl, enters_of Tryz.func107 (by kernel_rfl) rfl, fun k n p w hT => isReset_r k n p w hT⟩
  · exact ⟨_, rfl, enters_of Tryz.func108 (by kernel_rfl) rfl, fun k n p w hT => isStep_r k n p w hT⟩
  · exact ⟨_, rfl, enters_of Tryz.func109 (by kernel_rfl) rfl, fun k n p w hT => isTimer_r k n p w hT⟩
  · exact ⟨_, rfl, enters_of Tryz.func110 (by kernel_rfl) rfl, fun k n p w hT => isPreset_r k n p w hT⟩
  · exact ⟨_, rfl, enters_of Tryz.func111 (by kernel_rfl) rfl, fun k n p w hT => isCounter_r k n p w hT⟩
  · exact ⟨_, rfl, enters_of Tryz.func112 (by kernel_rfl) rfl, fun k n p w hT => isWholeReg_r k n p w hT⟩
  · exact ⟨_, rfl, enters_of Tryz.func113 (by kernel_rfl) rfl, fun k n p w hT => isRealReg_r k n p w hT⟩
end Go.Proofs.YtidfjinmaiechaaGreatDoor

