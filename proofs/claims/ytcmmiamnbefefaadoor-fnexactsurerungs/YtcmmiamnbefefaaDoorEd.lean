/- What may stand in a place: elemIsOf and its kin. -/
import Derived.Test.YtcmmiamnbefefaaDoorEc
import Derived.Lib.QuietBelow
namespace Go.Proofs.YtcmmiamnbefefaaDoor
open Go.RowKit Go.Shelf
set_option linter.unusedVariables false

/-- What a place asks for. -/
def pp (c : Nat) (x : Int × Int × Int) : Bool :=
  if c = 1 then okA x.1 x.2.1 x.2.2 && kB x.1 else if c = 3 then okA x.1 x.2.1 x.2.2 && kW x.1 else if c = 4 then okA x.1 x.2.1 x.2.2 && kR x.1
  else if c = 10 then okA x.1 x.2.1 x.2.2 && [(11 : Int)].contains x.1 && decide (0 ≤ x.2.1) else if c = 2 then okA x.1 x.2.1 x.2.2 && ([5] : List Int).contains x.1 else if c = 5 then okA x.1 x.2.1 x.2.2 && ([2, 3] : List Int).contains x.1 else if c = 6 then okA x.1 x.2.1 x.2.2 && ([2, 3, 4] : List Int).contains x.1 else if c = 7 then okA x.1 x.2.1 x.2.2 && ([2, 3, 4, 7, 8] : List Int).contains x.1 else if c = 8 then okA x.1 x.2.1 x.2.2 && ([4] : List Int).contains x.1 else if c = 9 then okA x.1 x.2.1 x.2.2 && ([7] : List Int).contains x.1 else if c = 11 then okA x.1 x.2.1 x.2.2 && ([8] : List Int).contains x.1 else if c = 12 then okA x.1 x.2.1 x.2.2 && ([9] : List Int).contains x.1 else if c = 13 then okA x.1 x.2.1 x.2.2 && ([10] : List Int).contains x.1 else false

set_option maxHeartbeats 1000000 in
theorem isOf_r (k n p : Int) (b : Nat) (zs : List Int) (w : World) (hT : KT w) (hl : zs.length ≤ 10) (hz : ∀ j z, zs[j]? = some z → w.cell? ⟨b, j, none⟩ = some (.int .i64 z)) :
    Calls Tryd.prog 116 #[.agg #[.int .i64 k, .int .i64 n, .int .i64 p], .slice (some ⟨b, 0, none⟩) zs.length zs.length] w fun e w' => e = .returned (.bool (okA k n p && zs.contains k)) ∧ Below w.heap.size w w' := by
  have HK : Hid (∀ W, KT W → Calls Tryd.prog 114 #[.agg #[.int .i64 k, .int .i64 n, .int .i64 p]] W fun e w' => e = .returned (.bool (okA k n p)) ∧ Below W.heap.size W w') := fun W h => impl_ok k n p W h
  have HC : Hid (∀ W : World, Below w.heap.size w W → Calls Tryd.prog 119 #[.slice (some ⟨b, 0, none⟩) zs.length zs.length, .int .i64 k] W fun e w' => e = .returned (.bool (zs.contains k)) ∧ w' = W) := by
    intro W hW
    have := Any.slices_Contains_int Tryd.layC b 0 zs.length zs.length zs k W (Nat.le_refl _) (by omega) (fun j hj => by
      have hh := hz j zs[j] (List.getElem?_eq_getElem hj)
      rw [Nat.zero_add, hW.cell (p := ⟨b, j, none⟩) (World.block_lt_of_cell? _ _ hh), hh]
      simp [List.getD, List.getElem?_eq_getElem hj])
    rw [List.take_length] at this
    exact this
  generalize zs.contains k = C at HC ⊢
  generalize zs.length = m at HC ⊢ hl
  cases ho : okA k n p with
  | false =>
    rw [ho] at HK
    go_enter Tryd.func116, Tryd.ntmps116
    go_wp2_with fail
    refine (HK.out _ (hT.alloc _)).mono ?_
    rintro e w1 ⟨rfl, g1⟩
    have b1 : Below w.heap.size w w1 := ((Below.refl _ _).alloc (Nat.le_refl _) _).trans (g1.mono (by simp))
    clear g1
    go_wp2
    go_ret
    exact ⟨rfl, b1⟩
  | true =>
    rw [ho] at HK
    go_enter Tryd.func116, Tryd.ntmps116
    go_wp2_with fail
    refine (HK.out _ (hT.alloc _)).mono ?_
    rintro e w1 ⟨rfl, g1⟩
    have c0 : w1.cell? ⟨w.heap.size, 0, none⟩ = some (.int .i64 k) := cell_later g1 (by simp)
    have b1 : Below w.heap.size w w1 := ((Below.refl _ _).alloc (Nat.le_refl _) _).trans (g1.mono (by simp))
    clear g1
    go_wp2_with fail
    refine (HC.out _ b1).mono ?_
    rintro e w2 ⟨rfl, rfl⟩
    go_wp2
    go_ret
    exact ⟨by simp, b1⟩

theorem cells_k (w : World) (o : Obj) (xs : List Int) (t : TypeId) : ∀ j x, xs[j]? = some x → ((w.alloc o).alloc (.cells (xs.map (Value.int .i64)).toArray t)).cell? ⟨w.heap.size + 1, j, none⟩ = some (.int .i64 x) := by
  intro j x hx
  have h1 : (w.alloc o).heap.size = w.heap.size + 1 := by simp
  rw [← h1, cell_of_row _ _ j _ t (0, 0) (heap_alloc_last (w.alloc o) _)]
  simp [hx]

set_option maxHeartbeats 1000000 in
theorem isOut_r (k n p : Int) (w : World) (hT : KT w) :
    Calls Tryd.prog 104 #[.agg #[.int .i64 k, .int .i64 n, .int .i64 p]] w fun e w' => e = .returned (.bool (okA k n p && ([2, 3] : List Int).contains k)) ∧ Below w.heap.size w w' := by
  have HI : Hid (∀ W, KT W → (∀ j z, ([2, 3] : List Int)[j]? = some z → W.cell? ⟨w.heap.size + 1, j, none⟩ = some (.int .i64 z)) → Calls Tryd.prog 116 #[.agg #[.int .i64 k, .int .i64 n, .int .i64 p], .slice (some ⟨w.heap.size + 1, 0, none⟩) 2 2] W fun e w' => e = .returned (.bool (okA k n p && ([2, 3] : List Int).contains k)) ∧ Below W.heap.size W w') :=
    fun W h hz => isOf_r k n p (w.heap.size + 1) [2, 3] W h (by simp) hz
  generalize (okA k n p && ([2, 3] : List Int).contains k) = C at HI ⊢
  go_enter Tryd.func104, Tryd.ntmps104
  go_wp2_with fail
  refine (HI.out _ ((hT.alloc _).alloc _) (cells_k w _ [2, 3] _)).mono ?_
  rintro e w1 ⟨rfl, g1⟩
  have b1 : Below w.heap.size w w1 := (((Below.refl _ _).alloc (Nat.le_refl _) _).alloc (by simp) _).trans (g1.mono (by simp; omega))
  clear g1
  go_wp2
  go_ret
  exact ⟨rfl, b1⟩

set_option maxHeartbeats 1000000 in
theorem isSet_r (k n p : Int) (w : World) (hT : KT w) :
    Calls Tryd.prog 105 #[.agg #[.int .i64 k, .int .i64 n, .int .i64 p]] w fun e w' => e = .returned (.bool (okA k n p && ([2, 3, 4] : List Int).contains k)) ∧ Below w.heap.size w w' := by
  have HI : Hid (∀ W, KT W → (∀ j z, ([2, 3, 4] : List Int)[j]? = some z → W.cell? ⟨w.heap.size + 1, j, none⟩ = some (.int .i64 z)) → Calls Tryd.prog 116 #[.agg #[.int .i64 k, .int .i64 n, .int .i64 p], .slice (some ⟨w.heap.size + 1, 0, none⟩) 3 3] W fun e w' => e = .returned (.bool (okA k n p && ([2, 3, 4] : List Int).contains k)) ∧ Below W.heap.size W w') :=
    fun W h hz => isOf_r k n p (w.heap.size + 1) [2, 3, 4] W h (by simp) hz
  generalize (okA k n p && ([2, 3, 4] : List Int).contains k) = C at HI ⊢
  go_enter Tryd.func105, Tryd.ntmps105
  go_wp2_with fail
  refine (HI.out _ ((hT.alloc _).alloc _) (cells_k w _ [2, 3, 4] _)).mono ?_
  rintro e w1 ⟨rfl, g1⟩
  have b1 : Below w.heap.size w w1 := (((Below.refl _ _).alloc (Nat.le_refl _) _).alloc (by simp) _).trans (g1.mono (by simp; omega))
  clear g1
  go_wp2
  go_ret
  exact ⟨rfl, b1⟩

set_option maxHeartbeats 1000000 in
theorem isReset_r (k n p : Int) (w : World) (hT : KT w) :
    Calls Tryd.prog 106 #[.agg #[.int .i64 k, .int .i64 n, .int .i64 p]] w fun e w' => e = .returned (.bool (okA k n p && ([2, 3, 4, 7, 8] : List Int).contains k)) ∧ Below w.heap.size w w' := by
  have HI : Hid (∀ W, KT W → (∀ j z, ([2, 3, 4, 7, 8] : List Int)[j]? = some z → W.cell? ⟨w.heap.size + 1, j, none⟩ = some (.int .i64 z)) → Calls Tryd.prog 116 #[.agg #[.int .i64 k, .int .i64 n, .int .i64 p], .slice (some ⟨w.heap.size + 1, 0, none⟩) 5 5] W fun e w' => e = .returned (.bool (okA k n p && ([2, 3, 4, 7, 8] : List Int).contains k)) ∧ Below W.heap.size W w') :=
    fun W h hz => isOf_r k n p (w.heap.size + 1) [2, 3, 4, 7, 8] W h (by simp) hz
  generalize (okA k n p && ([2, 3, 4, 7, 8] : List Int).contains k) = C at HI ⊢
  go_enter Tryd.func106, Tryd.ntmps106
  go_wp2_with fail
  refine (HI.out _ ((hT.alloc _).alloc _) (cells_k w _ [2, 3, 4, 7, 8] _)).mono ?_
  rintro e w1 ⟨rfl, g1⟩
  have b1 : Below w.heap.size w w1 := (((Below.refl _ _).alloc (Nat.le_refl _) _).alloc (by simp) _).trans (g1.mono (by simp; omega))
  clear g1
  go_wp2
  go_ret
  exact ⟨rfl, b1⟩

set_option maxHeartbeats 1000000 in
theorem isStep_r (k n p : Int) (w : World) (hT : KT w) :
    Calls Tryd.prog 107 #[.agg #[.int .i64 k, .int .i64 n, .int .i64 p]] w fun e w' => e = .returned (.bool (okA k n p && ([4] : List Int).contains k)) ∧ Below w.heap.size w w' := by
  have HI : Hid (∀ W, KT W → (∀ j z, ([4] : List Int)[j]? = some z → W.cell? ⟨w.heap.size + 1, j, none⟩ = some (.int .i64 z)) → Calls Tryd.prog 116 #[.agg #[.int .i64 k, .int .i64 n, .int .i64 p], .slice (some ⟨w.heap.size + 1, 0, none⟩) 1 1] W fun e w' => e = .returned (.bool (okA k n p && ([4] : List Int).contains k)) ∧ Below W.heap.size W w') :=
    fun W h hz => isOf_r k n p (w.heap.size + 1) [4] W h (by simp) hz
  generalize (okA k n p && ([4] : List Int).contains k) = C at HI ⊢
  go_enter Tryd.func107, Tryd.ntmps107
  go_wp2_with fail
  refine (HI.out _ ((hT.alloc _).alloc _) (cells_k w _ [4] _)).mono ?_
  rintro e w1 ⟨rfl, g1⟩
  have b1 : Below w.heap.size w w1 := (((Below.refl _ _).alloc (Nat.le_refl _) _).alloc (by simp) _).trans (g1.mono (by simp; omega))
  clear g1
  go_wp2
  go_ret
  exact ⟨rfl, b1⟩

set_option maxHeartbeats 1000000 in
theorem isTimer_r (k n p : Int) (w : World) (hT : KT w) :
    Calls Tryd.prog 108 #[.agg #[.int .i64 k, .int .i64 n, .int .i64 p]] w fun e w' => e = .returned (.bool (okA k n p && ([7] : List Int).contains k)) ∧ Below w.heap.size w w' := by
  have HI : Hid (∀ W, KT W → (∀ j z, ([7] : List Int)[j]? = some z → W.cell? ⟨w.heap.size + 1, j, none⟩ = some (.int .i64 z)) → Calls Tryd.prog 116 #[.agg #[.int .i64 k, .int .i64 n, .int .i64 p], .slice (some ⟨w.heap.size + 1, 0, none⟩) 1 1] W fun e w' => e = .returned (.bool (okA k n p && ([7] : List Int).contains k)) ∧ Below W.heap.size W w') :=
    fun W h hz => isOf_r k n p (w.heap.size + 1) [7] W h (by simp) hz
  generalize (okA k n p && ([7] : List Int).contains k) = C at HI ⊢
  go_enter Tryd.func108, Tryd.ntmps108
  go_wp2_with fail
  refine (HI.out _ ((hT.alloc _).alloc _) (cells_k w _ [7] _)).mono ?_
  rintro e w1 ⟨rfl, g1⟩
  have b1 : Below w.heap.size w w1 := (((Below.refl _ _).alloc (Nat.le_refl _) _).alloc (by simp) _).trans (g1.mono (by simp; omega))
  clear g1
  go_wp2
  go_ret
  exact ⟨rfl, b1⟩

set_option maxHeartbeats 1000000 in
theorem isCounter_r (k n p : Int) (w : World) (hT : KT w) :
    Calls Tryd.prog 110 #[.agg #[.int .i64 k, .int .i64 n, .int .i64 p]] w fun e w' => e = .returned (.bool (okA k n p && ([8] : List Int).contains k)) ∧ Below w.heap.size w w' := by
  have HI : Hid (∀ W, KT W → (∀ j z, ([8] : List Int)[j]? = some z → W.cell? ⟨w.heap.size + 1, j, none⟩ = some (.int .i64 z)) → Calls Tryd.prog 116 #[.agg #[.int .i64 k, .int .i64 n, .int .i64 p], .slice (some ⟨w.heap.size + 1, 0, none⟩) 1 1] W fun e w' => e = .returned (.bool (okA k n p && ([8] : List Int).contains k)) ∧ Below W.heap.size W w') :=
    fun W h hz => isOf_r k n p (w.heap.size + 1) [8] W h (by simp) hz
  generalize (okA k n p && ([8] : List Int).contains k) = C at HI ⊢
  go_enter Tryd.func110, Tryd.ntmps110
  go_wp2_with fail
  refine (HI.out _ ((hT.alloc _).alloc _) (cells_k w _ [8] _)).mono ?_
  rintro e w1 ⟨rfl, g1⟩
  have b1 : Below w.heap.size w w1 := (((Below.refl _ _).alloc (Nat.le_refl _) _).alloc (by simp) _).trans (g1.mono (by simp; omega))
  clear g1
  go_wp2
  go_ret
  exact ⟨rfl, b1⟩

set_option maxHeartbeats 1000000 in
theorem isWholeReg_r (k n p : Int) (w : World) (hT : KT w) :
    Calls Tryd.prog 111 #[.agg #[.int .i64 k, .int .i64 n, .int .i64 p]] w fun e w' => e = .returned (.bool (okA k n p && ([9] : List Int).contains k)) ∧ Below w.heap.size w w' := by
  have HI : Hid (∀ W, KT W → (∀ j z, ([9] : List Int)[j]? = some z → W.cell? ⟨w.heap.size + 1, j, none⟩ = some (.int .i64 z)) → Calls Tryd.prog 116 #[.agg #[.int .i64 k, .int .i64 n, .int .i64 p], .slice (some ⟨w.heap.size + 1, 0, none⟩) 1 1] W fun e w' => e = .returned (.bool (okA k n p && ([9] : List Int).contains k)) ∧ Below W.heap.size W w') :=
    fun W h hz => isOf_r k n p (w.heap.size + 1) [9] W h (by simp) hz
  generalize (okA k n p && ([9] : List Int).contains k) = C at HI ⊢
  go_enter Tryd.func111, Tryd.ntmps111
  go_wp2_with fail
  refine (HI.out _ ((hT.alloc _).alloc _) (cells_k w _ [9] _)).mono ?_
  rintro e w1 ⟨rfl, g1⟩
  have b1 : Below w.heap.size w w1 := (((Below.refl _ _).alloc (Nat.le_refl _) _).alloc (by simp) _).trans (g1.mono (by simp; omega))
  clear g1
  go_wp2
  go_ret
  exact ⟨rfl, b1⟩

set_option maxHeartbeats 1000000 in
theorem isRealReg_r (k n p : Int) (w : World) (hT : KT w) :
    Calls Tryd.prog 112 #[.agg #[.int .i64 k, .int .i64 n, .int .i64 p]] w fun e w' => e = .returned (.bool (okA k n p && ([10] : List Int).contains k)) ∧ Below w.heap.size w w' := by
  have HI : Hid (∀ W, KT W → (∀ j z, ([10] : List Int)[j]? = some z → W.cell? ⟨w.heap.size + 1, j, none⟩ = some (.int .i64 z)) → Calls Tryd.prog 116 #[.agg #[.int .i64 k, .int .i64 n, .int .i64 p], .slice (some ⟨w.heap.size + 1, 0, none⟩) 1 1] W fun e w' => e = .returned (.bool (okA k n p && ([10] : List Int).contains k)) ∧ Below W.heap.size W w') :=
    fun W h hz => isOf_r k n p (w.heap.size + 1) [10] W h (by simp) hz
  generalize (okA k n p && ([10] : List Int).contains k) = C at HI ⊢
  go_enter Tryd.func112, Tryd.ntmps112
  go_wp2_with fail
  refine (HI.out _ ((hT.alloc _).alloc _) (cells_k w _ [10] _)).mono ?_
  rintro e w1 ⟨rfl, g1⟩
  have b1 : Below w.heap.size w w1 := (((Below.refl _ _).alloc (Nat.le_refl _) _).alloc (by simp) _).trans (g1.mono (by simp; omega))
  clear g1
  go_wp2
  go_ret
  exact ⟨rfl, b1⟩

set_option maxHeartbeats 1000000 in
theorem isPast_r (k n p : Int) (w : World) (hT : KT w) :
    Calls Tryd.prog 101 #[.agg #[.int .i64 k, .int .i64 n, .int .i64 p]] w fun e w' => e = .returned (.bool (okA k n p && ([5] : List Int).contains k)) ∧ Below w.heap.size w w' := by
  have HI : Hid (∀ W, KT W → (∀ j z, ([5] : List Int)[j]? = some z → W.cell? ⟨w.heap.size + 1, j, none⟩ = some (.int .i64 z)) → Calls Tryd.prog 116 #[.agg #[.int .i64 k, .int .i64 n, .int .i64 p], .slice (some ⟨w.heap.size + 1, 0, none⟩) 1 1] W fun e w' => e = .returned (.bool (okA k n p && ([5] : List Int).contains k)) ∧ Below W.heap.size W w') :=
    fun W h hz => isOf_r k n p (w.heap.size + 1) [5] W h (by simp) hz
  generalize (okA k n p && ([5] : List Int).contains k) = C at HI ⊢
  go_enter Tryd.func101, Tryd.ntmps101
  go_wp2_with fail
  refine (HI.out _ ((hT.alloc _).alloc _) (cells_k w _ [5] _)).mono ?_
  rintro e w1 ⟨rfl, g1⟩
  have b1 : Below w.heap.size w w1 := (((Below.refl _ _).alloc (Nat.le_refl _) _).alloc (by simp) _).trans (g1.mono (by simp; omega))
  clear g1
  go_wp2
  go_ret
  exact ⟨rfl, b1⟩

set_option maxHeartbeats 1000000 in
theorem isPreset_r (k n p : Int) (w : World) (hT : KT w) :
    Calls Tryd.prog 109 #[.agg #[.int .i64 k, .int .i64 n, .int .i64 p]] w fun e w' => e = .returned (.bool (okA k n p && ([11] : List Int).contains k && decide (0 ≤ n))) ∧ Below w.heap.size w w' := by
  have HI : Hid (∀ W, KT W → (∀ j z, ([11] : List Int)[j]? = some z → W.cell? ⟨w.heap.size + 1, j, none⟩ = some (.int .i64 z)) → Calls Tryd.prog 116 #[.agg #[.int .i64 k, .int .i64 n, .int .i64 p], .slice (some ⟨w.heap.size + 1, 0, none⟩) 1 1] W fun e w' => e = .returned (.bool (okA k n p && ([11] : List Int).contains k)) ∧ Below W.heap.size W w') :=
    fun W h hz => isOf_r k n p (w.heap.size + 1) [11] W h (by simp) hz
  generalize (okA k n p && ([11] : List Int).contains k) = C at HI ⊢
  cases C with
  | false =>
    go_enter Tryd.func109, Tryd.ntmps109
    go_wp2_with fail
    refine (HI.out _ ((hT.alloc _).alloc _) (cells_k w _ [11] _)).mono ?_
    rintro e w1 ⟨rfl, g1⟩
    have b1 : Below w.heap.size w w1 := (((Below.refl _ _).alloc (Nat.le_refl _) _).alloc (by simp) _).trans (g1.mono (by simp; omega))
    clear g1
    go_wp2
    go_ret
    exact ⟨by simp, b1⟩
  | true =>
    go_enter Tryd.func109, Tryd.ntmps109
    go_wp2_with fail
    refine (HI.out _ ((hT.alloc _).alloc _) (cells_k w _ [11] _)).mono ?_
    rintro e w1 ⟨rfl, g1⟩
    have c1 : w1.cell? ⟨w.heap.size, 1, none⟩ = some (.int .i64 n) := cell_later g1 (by simp)
    have b1 : Below w.heap.size w w1 := (((Below.refl _ _).alloc (Nat.le_refl _) _).alloc (by simp) _).trans (g1.mono (by simp; omega))
    clear g1
    go_wp2
    go_ret
    exact ⟨by simp, b1⟩

/-- A place's function, called. -/
theorem place_r (c : Nat) (h1 : 1 ≤ c) (h2 : c ≤ 13) : ∃ f, pv c = .func (.func f) #[] #[] ∧ (∀ args W, (callFunc f args).run Tryd.prog W = .ok (.enter f args) W) ∧ ∀ (k n p : Int) (w : World), KT w → Calls Tryd.prog f #[.agg #[.int .i64 k, .int .i64 n, .int .i64 p]] w fun e w' => e = .returned (.bool (pp c (k, n, p))) ∧ Below w.heap.size w w' := by
  rcases pc c with h | rfl | rfl | rfl | rfl | rfl | rfl | rfl | rfl | rfl | rfl | rfl | rfl | rfl
  · omega
  · exact ⟨_, rfl, enters_of Tryd.func100 (by kernel_rfl) rfl, fun k n p w hT => impl_isbit k n p w hT⟩
  · exact ⟨_, rfl, enters_of Tryd.func101 (by kernel_rfl) rfl, fun k n p w hT => isPast_r k n p w hT⟩
  · exact ⟨_, rfl, enters_of Tryd.func102 (by kernel_rfl) rfl, fun k n p w hT => impl_iswhole k n p w hT⟩
  · exact ⟨_, rfl, enters_of Tryd.func103 (by kernel_rfl) rfl, fun k n p w hT => impl_isreal k n p w hT⟩
  · exact ⟨_, rfl, enters_of Tryd.func104 (by kernel_rfl) rfl, fun k n p w hT => isOut_r k n p w hT⟩
  · exact ⟨_, rfl, enters_of Tryd.func105 (by kernel_rfl) rfl, fun k n p w hT => isSet_r k n p w hT⟩
  · exact ⟨_, rfl, enters_of Tryd.func106 (by kernel_rfl) rfl, fun k n p w hT => isReset_r k n p w hT⟩
  · exact ⟨_, rfl, enters_of Tryd.func107 (by kernel_rfl) rfl, fun k n p w hT => isStep_r k n p w hT⟩
  · exact ⟨_, rfl, enters_of Tryd.func108 (by kernel_rfl) rfl, fun k n p w hT => isTimer_r k n p w hT⟩
  · exact ⟨_, rfl, enters_of Tryd.func109 (by kernel_rfl) rfl, fun k n p w hT => isPreset_r k n p w hT⟩
  · exact ⟨_, rfl, enters_of Tryd.func110 (by kernel_rfl) rfl, fun k n p w hT => isCounter_r k n p w hT⟩
  · exact ⟨_, rfl, enters_of Tryd.func111 (by kernel_rfl) rfl, fun k n p w hT => isWholeReg_r k n p w hT⟩
  · exact ⟨_, rfl, enters_of Tryd.func112 (by kernel_rfl) rfl, fun k n p w hT => isRealReg_r k n p w hT⟩
end Go.Proofs.YtcmmiamnbefefaaDoor

